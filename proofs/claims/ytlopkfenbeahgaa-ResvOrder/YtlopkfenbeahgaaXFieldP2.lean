/- Walks of Cut, and of the document's Add and Cut. -/
import Derived.Test.YtlopkfenbeahgaaXFieldRef
import Derived.Deep.RegionHeldLaw
import Derived.Test.YtlopkfenbeahgaaXFieldK
namespace Go.Proofs.Ytlopkfenbeahgaa
open Go.RowKit

theorem cutE_0 {l : List (BitVec 8)} {size : Int} (h : cutE l size = 0) : ∃ s n : Nat, size = s ∧ (s = 1 ∨ s = 2 ∨ s = 4) ∧ n = (numTo l 0 s).toNat ∧ n ≤ 65536 ∧ s + n ≤ l.length ∧ cutN l size = s + n := by
  have h' := h
  unfold cutE at h
  cases hb : lwB size with
  | false => rw [hb] at h; simp at h
  | true =>
    obtain ⟨s, rfl, hs⟩ := lwB_ex hb
    rw [hb] at h
    simp only [Bool.true_eq_false, if_false, Int.toNat_natCast] at h
    by_cases h2 : l.length < s
    · rw [if_pos h2] at h; cases h
    rw [if_neg h2] at h
    by_cases h3 : 65536 < (numTo l 0 s).toNat
    · rw [if_pos h3] at h; cases h
    rw [if_neg h3] at h
    by_cases h4 : l.length < s + (numTo l 0 s).toNat
    · rw [if_pos h4] at h; cases h
    exact ⟨s, _, rfl, hs, rfl, by omega, by omega, by unfold cutN; rw [if_pos h']; simp⟩

theorem Row.takes {w : World} {a : Option Addr} {l : List (BitVec 8)} (h : Row w a l) (k : Nat) : Row w a (l.take k) := by
  rcases h with rfl | ⟨b, off, rfl, hc⟩
  · exact .inl (by simp)
  · refine .inr ⟨b, off, rfl, fun i hi => ?_⟩
    simp at hi
    rw [hc i (by omega)]; unfold bt; rw [List.getD, List.getD, List.getElem?_take, if_pos (by omega)]



theorem Own.lower {w : World} {base base' : Nat} {v : Value} {l : List (BitVec 8)} (h : Own w base v l) (hb : base' ≤ base) : Own w base' v l := by
  obtain ⟨h1, h2 | ⟨g, cap, cur, hv, hg, r⟩⟩ := h
  · exact ⟨h1, .inl h2⟩
  · exact ⟨h1, .inr ⟨g, cap, cur, hv, Nat.le_trans hb hg, r⟩⟩

theorem make_1 (w : World) : (Instr.makeSlice 25 (.int .i64 1) (.int .i64 1)).run Try.prog w = .ok (.slice (some ⟨w.heap.size, 0, none⟩) 1 1) (w.alloc (.cells (Array.replicate 1 (.int .u8 0)) 5)) := by kernel_rfl

theorem make_2 (w : World) : (Instr.makeSlice 25 (.int .i64 2) (.int .i64 2)).run Try.prog w = .ok (.slice (some ⟨w.heap.size, 0, none⟩) 2 2) (w.alloc (.cells (Array.replicate 2 (.int .u8 0)) 5)) := by kernel_rfl

theorem make_4 (w : World) : (Instr.makeSlice 25 (.int .i64 4) (.int .i64 4)).run Try.prog w = .ok (.slice (some ⟨w.heap.size, 0, none⟩) 4 4) (w.alloc (.cells (Array.replicate 4 (.int .u8 0)) 5)) := by kernel_rfl


end Go.Proofs.Ytlopkfenbeahgaa

/- Walks of the document's Cut. -/
namespace Go.Proofs.Ytlopkfenbeahgaa
open Go.RowKit








end Go.Proofs.Ytlopkfenbeahgaa

/- Readers: what they hold, and what a read does. -/
namespace Go.Proofs.Ytlopkfenbeahgaa
open Go.RowKit

/-- a row stays where another block turns -/
theorem Row.keep {w w' : World} {a : Option Addr} {l : List (BitVec 8)} {row : Option Nat} (h : Row w a l) (hg : w.grownBy w' row) (hn : ∀ x, a = some x → some x.block ≠ row) : Row w' a l := by
  rcases h with rfl | ⟨b, off, rfl, hc⟩
  · exact .inl rfl
  · refine .inr ⟨b, off, rfl, fun i hi => ?_⟩
    have h0 := hc i hi
    have hb : b < w.heap.size := by
      rcases Nat.lt_or_ge b w.heap.size with h | h
      · exact h
      · unfold World.cell? at h0
        rw [Array.getElem?_eq_none h] at h0
        simp at h0
    rw [World.cell?_of_block (w := w) (hg.block b hb (hn _ rfl))]
    exact h0

/-- a reader at block g: l is what is left, E its error; its bytes lie in no block of F -/
structure RdAt (w : World) (F : List Nat) (g T : Nat) (L : List (BitVec 8)) (E : Int) (a : Option Addr) (len cap : Nat) (l : List (BitVec 8)) : Prop where
  blk : Blk w g T [.slice a len cap, .int .i64 E]
  len_eq : l.length = len
  le : len ≤ cap
  bound : len ≤ 140737488351232
  row : Row w a l
  isNil : a = none → cap = 0
  lt : ∀ x, a = some x → x.block < w.heap.size
  off : ∀ x, a = some x → x.block ≠ g ∧ x.block ∉ F
  ok : E = 0 → l = L
def Rd (w : World) (F : List Nat) (g T : Nat) (L : List (BitVec 8)) (E : Int) : Prop := ∃ a len cap l, RdAt w F g T L E a len cap l

theorem RdAt.keep {w w' : World} {F : List Nat} {g T : Nat} {L : List (BitVec 8)} {E : Int} {a : Option Addr} {len cap : Nat} {l : List (BitVec 8)} {row : Option Nat} (h : RdAt w F g T L E a len cap l) (hg : w.grownBy w' row)
    (hr : ∀ k, row = some k → k ≠ g ∧ (k ∈ F ∨ w.heap.size ≤ k)) : RdAt w' F g T L E a len cap l :=
  ⟨h.blk.grown hg (fun e => (hr g e.symm).1 rfl), h.len_eq, h.le, h.bound, h.row.keep hg (fun x hx e => by
    rcases (hr x.block e.symm).2 with h1 | h1
    · exact (h.off x hx).2 h1
    · have := h.lt x hx; omega), h.isNil, fun x hx => Nat.lt_of_lt_of_le (h.lt x hx) hg.size, h.off, h.ok⟩
theorem Rd.keep {w w' : World} {F : List Nat} {g T : Nat} {L : List (BitVec 8)} {E : Int} {row : Option Nat} (h : Rd w F g T L E) (hg : w.grownBy w' row) (hr : ∀ k, row = some k → k ≠ g ∧ (k ∈ F ∨ w.heap.size ≤ k)) : Rd w' F g T L E := by
  obtain ⟨a, len, cap, l, h⟩ := h
  exact ⟨a, len, cap, l, h.keep hg hr⟩
theorem Rd.later {w w' : World} {F : List Nat} {g T : Nat} {L : List (BitVec 8)} {E : Int} (h : Rd w F g T L E) (hb : Below w.heap.size w w') : Rd w' F g T L E :=
  h.keep (row := none) ⟨hb.os, hb.tape, hb.output, hb.size, fun k hk _ => hb.block k hk⟩ (fun k hk => by cases hk)
/-- a new block is none of the reader's -/
theorem Rd.more {w : World} {F : List Nat} {g T : Nat} {L : List (BitVec 8)} {E : Int} (h : Rd w F g T L E) (k : Nat) (hk : w.heap.size ≤ k) : Rd w (k :: F) g T L E := by
  obtain ⟨a, len, cap, l, h⟩ := h
  exact ⟨a, len, cap, l, h.blk, h.len_eq, h.le, h.bound, h.row, h.isNil, h.lt, fun x hx => ⟨(h.off x hx).1, by
    intro hm
    rcases List.mem_cons.1 hm with e | hm
    · have := h.lt x hx; omega
    · exact (h.off x hx).2 hm⟩, h.ok⟩
theorem Rd.less {w : World} {F F' : List Nat} {g T : Nat} {L : List (BitVec 8)} {E : Int} (h : Rd w F g T L E) (hF : ∀ k ∈ F', k ∈ F) : Rd w F' g T L E := by
  obtain ⟨a, len, cap, l, h⟩ := h
  exact ⟨a, len, cap, l, h.blk, h.len_eq, h.le, h.bound, h.row, h.isNil, h.lt, fun x hx => ⟨(h.off x hx).1, fun hm => (h.off x hx).2 (hF _ hm)⟩, h.ok⟩
theorem Rd.blt {w : World} {F : List Nat} {g T : Nat} {L : List (BitVec 8)} {E : Int} (h : Rd w F g T L E) : g < w.heap.size := by
  obtain ⟨a, len, cap, l, h⟩ := h
  exact h.blk.lt
/-- a reader that failed -/
theorem Rd.failed {w : World} {F : List Nat} {g T : Nat} {E : Int} (L : List (BitVec 8)) (h : Blk w g T [.slice none 0 0, .int .i64 E]) (hE : E ≠ 0) : Rd w F g T L E :=
  ⟨none, 0, 0, [], h, rfl, Nat.le_refl _, by omega, .inl rfl, fun _ => rfl, (fun x hx => by cases hx), (fun x hx => by cases hx), fun e => absurd e hE⟩

theorem Rd.forget {w : World} {F : List Nat} {g T : Nat} {L : List (BitVec 8)} {E : Int} (h : Rd w F g T L E) (hE : E ≠ 0) {L' : List (BitVec 8)} : Rd w F g T L' E := by
  obtain ⟨a, len, cap, l, h⟩ := h
  exact ⟨a, len, cap, l, h.blk, h.len_eq, h.le, h.bound, h.row, h.isNil, h.lt, h.off, fun e => absurd e hE⟩

/-- a reader whose own cells turn -/
theorem RdAt.turn {w w' : World} {F : List Nat} {g T : Nat} {L L' : List (BitVec 8)} {E E' : Int} {a : Option Addr} {len cap : Nat} {l : List (BitVec 8)} (h : RdAt w F g T L E a len cap l) (hB : Blk w' g T [.slice a len cap, .int .i64 E']) (hg : w.grownBy w' (some g)) (hE : E' = 0 → l = L') : RdAt w' F g T L' E' a len cap l :=
  ⟨hB, h.len_eq, h.le, h.bound, h.row.keep hg (fun x hx e => (h.off x hx).1 (by simpa using e)), h.isNil, fun x hx => Nat.lt_of_lt_of_le (h.lt x hx) hg.size, h.off, hE⟩
/-- a reader that let go of k bytes -/
theorem RdAt.cut {w w' : World} {F : List Nat} {g T : Nat} {L : List (BitVec 8)} {E : Int} {b off : Nat} {a' : Option Addr} {len cap : Nat} {l : List (BitVec 8)} (h : RdAt w F g T L E (some ⟨b, off, none⟩) len cap l) (k : Nat) (hk : k ≤ len) (ha : a' = some ⟨b, off + k, none⟩ ∨ (a' = some ⟨b, off, none⟩ ∧ cap = k))
    (hB : Blk w' g T [.slice a' (len - k) (cap - k), .int .i64 0]) (hg : w.grownBy w' (some g)) : Rd w' F g T (l.drop k) 0 := by
  have hlen := h.len_eq
  have hle := h.le
  have hb := h.bound
  have hr := h.row.keep hg (fun x hx e => (h.off x hx).1 (by simpa using e))
  have hdl : (l.drop k).length = len - k := by simp; omega
  have hlt := Nat.lt_of_lt_of_le (h.lt _ rfl) hg.size
  have hof := h.off _ rfl
  rcases ha with rfl | ⟨rfl, hc⟩
  · exact ⟨_, _, _, l.drop k, hB, hdl, by omega, by omega, hr.drop k, (fun e => by cases e), (fun x hx => by cases hx; exact hlt), (fun x hx => by cases hx; exact hof), fun _ => rfl⟩
  · exact ⟨_, _, _, l.drop k, hB, hdl, by omega, by omega, .inl (List.eq_nil_of_length_eq_zero (by omega)), (fun e => by cases e), (fun x hx => by cases hx; exact hlt), (fun x hx => by cases hx; exact hof), fun _ => rfl⟩

/-- the error of a number that is read -/
def numE (len : Nat) (size : Int) : Int := if widthB size = false then 1 else if (len : Int) < size then 10 else 0
/-- what a read of a number does: what is left, the error, the number -/
def rdNum (L : List (BitVec 8)) (E : Int) (size : Int) : List (BitVec 8) × Int × Int :=
  if E = 0 then (if numE L.length size = 0 then (L.drop size.toNat, 0, wrap64 ((numTo L 0 size.toNat).toNat : Int)) else ([], numE L.length size, 0)) else ([], E, 0)



theorem numE_0 {len : Nat} {size : Int} (h : numE len size = 0) : ∃ s : Nat, size = s ∧ 1 ≤ s ∧ s ≤ 8 ∧ s ≤ len := by
  unfold numE at h
  cases hw : widthB size with
  | false => rw [hw] at h; simp at h
  | true =>
    rw [hw] at h
    simp only [Bool.true_eq_false, if_false] at h
    unfold widthB at hw
    rw [decide_eq_true_eq] at hw
    refine ⟨size.toNat, by omega, by omega, by omega, ?_⟩
    split at h
    · omega
    · omega





end Go.Proofs.Ytlopkfenbeahgaa

/- A reader's Bytes, Count and End; a new reader; none at all. -/
namespace Go.Proofs.Ytlopkfenbeahgaa
open Go.RowKit

theorem below_grown {w w' : World} (hb : Below w.heap.size w w') : w.grownBy w' none := ⟨hb.os, hb.tape, hb.output, hb.size, fun k hk _ => hb.block k hk⟩
/-- new blocks are none of the reader's -/
theorem RdAt.mores {w : World} {F : List Nat} {g T : Nat} {L : List (BitVec 8)} {E : Int} {a : Option Addr} {len cap : Nat} {l : List (BitVec 8)} (h : RdAt w F g T L E a len cap l) (F' : List Nat) (hF : ∀ k ∈ F', w.heap.size ≤ k) : RdAt w (F' ++ F) g T L E a len cap l :=
  ⟨h.blk, h.len_eq, h.le, h.bound, h.row, h.isNil, h.lt, fun x hx => ⟨(h.off x hx).1, fun hm => by
    rcases List.mem_append.1 hm with h1 | h1
    · have := hF _ h1; have := h.lt x hx; omega
    · exact (h.off x hx).2 h1⟩, h.ok⟩
/-- bytes that a call owns stay where another block turns -/
theorem Own.keep {w w' : World} {base : Nat} {v : Value} {l : List (BitVec 8)} {row : Option Nat} (h : Own w base v l) (hg : w.grownBy w' row) (hn : ∀ k, v.ownBlock = some k → some k ≠ row) : Own w' base v l := by
  obtain ⟨h1, h2 | ⟨g, cap, cur, rfl, hb, hh, r⟩⟩ := h
  · exact ⟨h1, .inl h2⟩
  · refine ⟨h1, .inr ⟨g, cap, cur, rfl, hb, ?_, r⟩⟩
    have hlt : g < w.heap.size := by
      rcases Nat.lt_or_ge g w.heap.size with h | h
      · exact h
      · rw [Array.getElem?_eq_none h] at hh; cases hh
    rw [hg.block g hlt (hn g rfl)]; exact hh

/-- what a read of bytes does: what is left, the error, the bytes -/
def rdBytes (L : List (BitVec 8)) (E : Int) (size : Int) : List (BitVec 8) × Int × List (BitVec 8) :=
  if E = 0 then (if cutE L size = 0 then (L.drop (cutN L size), 0, (L.drop size.toNat).take (cutN L size - size.toNat)) else ([], cutE L size, [])) else ([], E, [])
/-- what a read of a count does -/
def rdCount (L : List (BitVec 8)) (E : Int) (size most : Int) : List (BitVec 8) × Int × Int :=
  if (rdNum L E size).2.1 = 0 then (if (rdNum L E size).2.2 < 0 ∨ most < (rdNum L E size).2.2 then ([], 3, 0) else if ((rdNum L E size).1.length : Int) < (rdNum L E size).2.2 then ([], 10, 0) else rdNum L E size) else ([], (rdNum L E size).2.1, 0)
/-- what a reader's end tells -/
def rdEnd (L : List (BitVec 8)) (E : Int) : Int := if E = 0 then (if 0 < L.length then 11 else 0) else E






theorem Rd.any_blk {w : World} {F : List Nat} {g T : Nat} {L : List (BitVec 8)} {E : Int} (h : Rd w F g T L E) : ∃ a len cap, Blk w g T [.slice a len cap, .int .i64 E] ∧ (E = 0 → L.length = len) := by
  obtain ⟨a, len, cap, l, h⟩ := h
  exact ⟨a, len, cap, h.blk, fun e => by rw [← h.ok e]; exact h.len_eq⟩


end Go.Proofs.Ytlopkfenbeahgaa
