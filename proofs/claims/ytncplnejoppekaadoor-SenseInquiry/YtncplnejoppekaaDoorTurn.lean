/- What turns, and what stays. -/
import Derived.Test.YtncplnejoppekaaDoorAid
namespace Go.Proofs.YtncplnejoppekaaDoor
open Go.RowKit

/-- nothing turns but blocks of R, and new ones -/
structure Turned (R : Nat → Prop) (w w' : World) : Prop where
  os : w'.os = w.os
  tape : w'.tape = w.tape
  output : w'.output = w.output
  size : w.heap.size ≤ w'.heap.size
  block : ∀ k, k < w.heap.size → ¬ R k → w'.heap[k]? = w.heap[k]?
theorem turned_grown {w w' : World} {row : Option Nat} {R : Nat → Prop} (h : w.grownBy w' row) (hr : ∀ k, row = some k → R k) : Turned R w w' :=
  ⟨h.os, h.tape, h.output, h.size, fun k hk hn => h.block k hk (fun e => hn (hr k e.symm))⟩
theorem Turned.trans {R : Nat → Prop} {a b c : World} (h : Turned R a b) (k : Turned (fun i => R i ∨ a.heap.size ≤ i) b c) : Turned R a c :=
  ⟨k.os.trans h.os, k.tape.trans h.tape, k.output.trans h.output, Nat.le_trans h.size k.size, fun i hi hn => (k.block i (Nat.lt_of_lt_of_le hi h.size) (fun e => by rcases e with e | e; exact hn e; omega)).trans (h.block i hi hn)⟩
theorem Turned.mono {R R' : Nat → Prop} {a b : World} (h : Turned R a b) (hr : ∀ k, R k → R' k) : Turned R' a b := ⟨h.os, h.tape, h.output, h.size, fun i hi hn => h.block i hi (fun e => hn (hr i e))⟩
theorem Turned.below {R : Nat → Prop} {a b : World} (h : Turned R a b) (B : Nat) (hB : B ≤ a.heap.size) (hr : ∀ k, R k → B ≤ k) : Below B a b :=
  ⟨h.os, h.tape, h.output, h.size, fun i hi => h.block i (by omega) (fun e => by have := hr i e; omega)⟩
theorem Blk.turned {w w' : World} {g : Nat} {t : TypeId} {xs : List Value} {R : Nat → Prop} (h : Blk w g t xs) (ht : Turned R w w') (hr : ¬ R g) : Blk w' g t xs := by
  have hl := h.lt
  unfold Blk at *; rw [ht.block g hl hr]; exact h
theorem Own.turned {w w' : World} {base : Nat} {v : Value} {l : List (BitVec 8)} {R : Nat → Prop} (h : Own w base v l) (ht : Turned R w w') (hn : ∀ k, v.ownBlock = some k → ¬ R k) : Own w' base v l := by
  obtain ⟨h1, h2 | ⟨g, cap, cur, rfl, hb, hh, r⟩⟩ := h
  · exact ⟨h1, .inl h2⟩
  · refine ⟨h1, .inr ⟨g, cap, cur, rfl, hb, ?_, r⟩⟩
    have hlt : g < w.heap.size := by
      rcases Nat.lt_or_ge g w.heap.size with h | h
      · exact h
      · rw [Array.getElem?_eq_none h] at hh; cases hh
    rw [ht.block g hlt (hn g rfl)]; exact hh

theorem Blk.new' (w : World) (T : Nat) (xs : List Value) : Blk (w.alloc (.cells xs.toArray T)) w.heap.size T xs := by
  unfold Blk World.alloc
  simp
end Go.Proofs.YtncplnejoppekaaDoor
