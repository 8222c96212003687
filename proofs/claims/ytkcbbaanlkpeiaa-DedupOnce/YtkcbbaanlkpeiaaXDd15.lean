/- Where an answer with the greatest number goes. -/
import Derived.Test.YtkcbbaanlkpeiaaXDd10
namespace Go.Proofs.Ytkcbbaanlkpeiaa
open Go.RowKit
set_option linter.unusedVariables false
set_option linter.unusedSimpArgs false
set_option maxRecDepth 4000

theorem slot_end {l : List An} {n : Int} {i : Nat} (h : SlotIs l n i) (hlt : ∀ z ∈ l, z.2.1 < n) : i = l.length := by
  rcases Nat.lt_or_ge i l.length with k | k
  · have h1 := h.hi i k (Nat.le_refl _)
    have h2 := hlt _ (List.getElem_mem k)
    omega
  · have := h.le
    omega
/-- what the drawn statement of put keeps: the list's cell, the answer's three -/
structure PutS (w0 W : World) (g o k : Nat) (v : Value) (a b : Int) (s : ByteArray) : Prop where
  below : Below w0.heap.size w0 W
  list : W.cell? ⟨g, o, none⟩ = some v
  c0 : W.cell? ⟨k, 0, none⟩ = some (.int .i64 a)
  c1 : W.cell? ⟨k, 1, none⟩ = some (.int .i64 b)
  c2 : W.cell? ⟨k, 2, none⟩ = some (.string s)
theorem PutS.later {w0 W W' : World} {g o k : Nat} {v : Value} {a b : Int} {s : ByteArray} (h : PutS w0 W g o k v a b s) (hb : Below W.heap.size W W') : PutS w0 W' g o k v a b s :=
  ⟨below_then h.below hb, cell_later hb h.list, cell_later hb h.c0, cell_later hb h.c1, cell_later hb h.c2⟩
/-- slot, within put -/
theorem put_slot {w0 W : World} {g o k : Nat} {v : Value} {a b : Int} {s : ByteArray} {l : List An} (h : PutS w0 W g o k v a b s) (ho : AOwn w0 v l) (hr : Rise l) (hl : l.length ≤ 1000) (hlt : ∀ z ∈ l, z.2.1 < b) :
    Calls Try.prog 70 #[.pointer (some ⟨g, o, none⟩), .int .i64 b] W fun e w' => e = .returned (.int .i64 l.length) ∧ Below W.heap.size W w' := by
  refine (ddslot_any g o v l b W h.list (ho.later h.below) hr hl).mono ?_
  rintro e w' ⟨⟨i, rfl, hi⟩, hb⟩
  rw [slot_end hi hlt]
  exact ⟨rfl, hb⟩
end Go.Proofs.Ytkcbbaanlkpeiaa

