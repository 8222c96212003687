/- Readers: what they hold, and what a read does. -/
import Derived.Test.YtfiidcfpkodlpaaXFieldP3
import Derived.Test.YtfiidcfpkodlpaaXFieldK
namespace Go.Proofs.Ytfiidcfpkodlpaa
open Go.RowKit

/-- a row stays where another block turns -/
theorem Row.keep {w w' : World} {a : Option Addr} {l : List (BitVec 8)} {row : Option Nat} (h : Row w a l) (hg : w.grownBy w' row) (hn : ∀ x, a = some x → some x.block ≠ row) : Row w' a l := by
  rcases h with rfl | ⟨b, off, rfl, hc⟩
  · exact .inl rfl
  · refine .inr ⟨b, off, rfl, fun i hi => ?_⟩
    have h0 := hc i hi
    have hb : b < w.heap.size := by
      rcases Nat.lt_or_ge b w.heap.size with h | h
      · exact h
      · unfold World.cell? at h0
        rw [Array.getElem?_eq_none h] at h0
        simp at h0
    rw [World.cell?_of_block (w := w) (hg.block b hb (hn _ rfl))]
    exact h0

/-- a reader at block g: l is what is left, E its error; its bytes lie in no block of F -/
structure RdAt (w : World) (F : List Nat) (g T : Nat) (L : List (BitVec 8)) (E : Int) (a : Option Addr) (len cap : Nat) (l : List (BitVec 8)) : Prop where
  blk : Blk w g T [.slice a len cap, .int .i64 E]
  len_eq : l.length = len
  le : len ≤ cap
  bound : len ≤ 140737488351232
  row : Row w a l
  isNil : a = none → cap = 0
  lt : ∀ x, a = some x → x.block < w.heap.size
  off : ∀ x, a = some x → x.block ≠ g ∧ x.block ∉ F
  ok : E = 0 → l = L
def Rd (w : World) (F : List Nat) (g T : Nat) (L : List (BitVec 8)) (E : Int) : Prop := ∃ a len cap l, RdAt w F g T L E a len cap l

theorem RdAt.keep {w w' : World} {F : List Nat} {g T : Nat} {L : List (BitVec 8)} {E : Int} {a : Option Addr} {len cap : Nat} {l : List (BitVec 8)} {row : Option Nat} (h : RdAt w F g T L E a len cap l) (hg : w.grownBy w' row)
    (hr : ∀ k, row = some k → k ≠ g ∧ (k ∈ F ∨ w.heap.size ≤ k)) : RdAt w' F g T L E a len cap l :=
  ⟨h.blk.grown hg (fun e => (hr g e.symm).1 rfl), h.len_eq, h.le, h.bound, h.row.keep hg (fun x hx e => by
    rcases (hr x.block e.symm).2 with h1 | h1
    · exact (h.off x hx).2 h1
    · have := h.lt x hx; omega), h.isNil, fun x hx => Nat.lt_of_lt_of_le (h.lt x hx) hg.size, h.off, h.ok⟩
theorem Rd.keep {w w' : World} {F : List Nat} {g T : Nat} {L : List (BitVec 8)} {E : Int} {row : Option Nat} (h : Rd w F g T L E) (hg : w.grownBy w' row) (hr : ∀ k, row = some k → k ≠ g ∧ (k ∈ F ∨ w.heap.size ≤ k)) : Rd w' F g T L E := by
  obtain ⟨a, len, cap, l, h⟩ := h
  exact ⟨a, len, cap, l, h.keep hg hr⟩
theorem Rd.later {w w' : World} {F : List Nat} {g T : Nat} {L : List (BitVec 8)} {E : Int} (h : Rd w F g T L E) (hb : Below w.heap.size w w') : Rd w' F g T L E :=
  h.keep (row := none) ⟨hb.os, hb.tape, hb.output, hb.size, fun k hk _ => hb.block k hk⟩ (fun k hk => by cases hk)
/-- a new block is none of the reader's -/
theorem Rd.more {w : World} {F : List Nat} {g T : Nat} {L : List (BitVec 8)} {E : Int} (h : Rd w F g T L E) (k : Nat) (hk : w.heap.size ≤ k) : Rd w (k :: F) g T L E := by
  obtain ⟨a, len, cap, l, h⟩ := h
  exact ⟨a, len, cap, l, h.blk, h.len_eq, h.le, h.bound, h.row, h.isNil, h.lt, fun x hx => ⟨(h.off x hx).1, by
    intro hm
    rcases List.mem_cons.1 hm with e | hm
    · have := h.lt x hx; omega
    · exact (h.off x hx).2 hm⟩, h.ok⟩
theorem Rd.less {w : World} {F F' : List Nat} {g T : Nat} {L : List (BitVec 8)} {E : Int} (h : Rd w F g T L E) (hF : ∀ k ∈ F', k ∈ F) : Rd w F' g T L E := by
  obtain ⟨a, len, cap, l, h⟩ := h
  exact ⟨a, len, cap, l, h.blk, h.len_eq, h.le, h.bound, h.row, h.isNil, h.lt, fun x hx => ⟨(h.off x hx).1, fun hm => (h.off x hx).2 (hF _ hm)⟩, h.ok⟩
theorem Rd.blt {w : World} {F : List Nat} {g T : Nat} {L : List (BitVec 8)} {E : Int} (h : Rd w F g T L E) : g < w.heap.size := by
  obtain ⟨a, len, cap, l, h⟩ := h
  exact h.blk.lt
/-- a reader that failed -/
theorem Rd.failed {w : World} {F : List Nat} {g T : Nat} {E : Int} (L : List (BitVec 8)) (h : Blk w g T [.slice none 0 0, .int .i64 E]) (hE : E ≠ 0) : Rd w F g T L E :=
  ⟨none, 0, 0, [], h, rfl, Nat.le_refl _, by omega, .inl rfl, fun _ => rfl, (fun x hx => by cases hx), (fun x hx => by cases hx), fun e => absurd e hE⟩

theorem Rd.forget {w : World} {F : List Nat} {g T : Nat} {L : List (BitVec 8)} {E : Int} (h : Rd w F g T L E) (hE : E ≠ 0) {L' : List (BitVec 8)} : Rd w F g T L' E := by
  obtain ⟨a, len, cap, l, h⟩ := h
  exact ⟨a, len, cap, l, h.blk, h.len_eq, h.le, h.bound, h.row, h.isNil, h.lt, h.off, fun e => absurd e hE⟩

/-- a reader whose own cells turn -/
theorem RdAt.turn {w w' : World} {F : List Nat} {g T : Nat} {L L' : List (BitVec 8)} {E E' : Int} {a : Option Addr} {len cap : Nat} {l : List (BitVec 8)} (h : RdAt w F g T L E a len cap l) (hB : Blk w' g T [.slice a len cap, .int .i64 E']) (hg : w.grownBy w' (some g)) (hE : E' = 0 → l = L') : RdAt w' F g T L' E' a len cap l :=
  ⟨hB, h.len_eq, h.le, h.bound, h.row.keep hg (fun x hx e => (h.off x hx).1 (by simpa using e)), h.isNil, fun x hx => Nat.lt_of_lt_of_le (h.lt x hx) hg.size, h.off, hE⟩
/-- a reader that let go of k bytes -/
theorem RdAt.cut {w w' : World} {F : List Nat} {g T : Nat} {L : List (BitVec 8)} {E : Int} {b off : Nat} {a' : Option Addr} {len cap : Nat} {l : List (BitVec 8)} (h : RdAt w F g T L E (some ⟨b, off, none⟩) len cap l) (k : Nat) (hk : k ≤ len) (ha : a' = some ⟨b, off + k, none⟩ ∨ (a' = some ⟨b, off, none⟩ ∧ cap = k))
    (hB : Blk w' g T [.slice a' (len - k) (cap - k), .int .i64 0]) (hg : w.grownBy w' (some g)) : Rd w' F g T (l.drop k) 0 := by
  have hlen := h.len_eq
  have hle := h.le
  have hb := h.bound
  have hr := h.row.keep hg (fun x hx e => (h.off x hx).1 (by simpa using e))
  have hdl : (l.drop k).length = len - k := by simp; omega
  have hlt := Nat.lt_of_lt_of_le (h.lt _ rfl) hg.size
  have hof := h.off _ rfl
  rcases ha with rfl | ⟨rfl, hc⟩
  · exact ⟨_, _, _, l.drop k, hB, hdl, by omega, by omega, hr.drop k, (fun e => by cases e), (fun x hx => by cases hx; exact hlt), (fun x hx => by cases hx; exact hof), fun _ => rfl⟩
  · exact ⟨_, _, _, l.drop k, hB, hdl, by omega, by omega, .inl (List.eq_nil_of_length_eq_zero (by omega)), (fun e => by cases e), (fun x hx => by cases hx; exact hlt), (fun x hx => by cases hx; exact hof), fun _ => rfl⟩

/-- the error of a number that is read -/
def numE (len : Nat) (size : Int) : Int := if widthB size = false then 1 else if (len : Int) < size then 10 else 0
/-- what a read of a number does: what is left, the error, the number -/
def rdNum (L : List (BitVec 8)) (E : Int) (size : Int) : List (BitVec 8) × Int × Int :=
  if E = 0 then (if numE L.length size = 0 then (L.drop size.toNat, 0, wrap64 ((numTo L 0 size.toNat).toNat : Int)) else ([], numE L.length size, 0)) else ([], E, 0)



theorem numE_0 {len : Nat} {size : Int} (h : numE len size = 0) : ∃ s : Nat, size = s ∧ 1 ≤ s ∧ s ≤ 8 ∧ s ≤ len := by
  unfold numE at h
  cases hw : widthB size with
  | false => rw [hw] at h; simp at h
  | true =>
    rw [hw] at h
    simp only [Bool.true_eq_false, if_false] at h
    unfold widthB at hw
    rw [decide_eq_true_eq] at hw
    refine ⟨size.toNat, by omega, by omega, by omega, ?_⟩
    split at h
    · omega
    · omega





end Go.Proofs.Ytfiidcfpkodlpaa

