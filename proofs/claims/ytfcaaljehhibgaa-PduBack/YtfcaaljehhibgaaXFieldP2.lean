/- Walks of Cut, and of the document's Add and Cut. -/
import Derived.Test.YtfcaaljehhibgaaXFieldRef
import Derived.Deep.RegionHeldLaw
import Derived.Test.YtfcaaljehhibgaaXFieldK
namespace Go.Proofs.Ytfcaaljehhibgaa
open Go.RowKit

theorem cutE_0 {l : List (BitVec 8)} {size : Int} (h : cutE l size = 0) : ∃ s n : Nat, size = s ∧ (s = 1 ∨ s = 2 ∨ s = 4) ∧ n = (numTo l 0 s).toNat ∧ n ≤ 65536 ∧ s + n ≤ l.length ∧ cutN l size = s + n := by
  have h' := h
  unfold cutE at h
  cases hb : lwB size with
  | false => rw [hb] at h; simp at h
  | true =>
    obtain ⟨s, rfl, hs⟩ := lwB_ex hb
    rw [hb] at h
    simp only [Bool.true_eq_false, if_false, Int.toNat_natCast] at h
    by_cases h2 : l.length < s
    · rw [if_pos h2] at h; cases h
    rw [if_neg h2] at h
    by_cases h3 : 65536 < (numTo l 0 s).toNat
    · rw [if_pos h3] at h; cases h
    rw [if_neg h3] at h
    by_cases h4 : l.length < s + (numTo l 0 s).toNat
    · rw [if_pos h4] at h; cases h
    exact ⟨s, _, rfl, hs, rfl, by omega, by omega, by unfold cutN; rw [if_pos h']; simp⟩

theorem Row.takes {w : World} {a : Option Addr} {l : List (BitVec 8)} (h : Row w a l) (k : Nat) : Row w a (l.take k) := by
  rcases h with rfl | ⟨b, off, rfl, hc⟩
  · exact .inl (by simp)
  · refine .inr ⟨b, off, rfl, fun i hi => ?_⟩
    simp at hi
    rw [hc i (by omega)]; unfold bt; rw [List.getD, List.getD, List.getElem?_take, if_pos (by omega)]



theorem Own.lower {w : World} {base base' : Nat} {v : Value} {l : List (BitVec 8)} (h : Own w base v l) (hb : base' ≤ base) : Own w base' v l := by
  obtain ⟨h1, h2 | ⟨g, cap, cur, hv, hg, r⟩⟩ := h
  · exact ⟨h1, .inl h2⟩
  · exact ⟨h1, .inr ⟨g, cap, cur, hv, Nat.le_trans hb hg, r⟩⟩

theorem make_1 (w : World) : (Instr.makeSlice 34 (.int .i64 1) (.int .i64 1)).run Try.prog w = .ok (.slice (some ⟨w.heap.size, 0, none⟩) 1 1) (w.alloc (.cells (Array.replicate 1 (.int .u8 0)) 5)) := by kernel_rfl

theorem make_2 (w : World) : (Instr.makeSlice 34 (.int .i64 2) (.int .i64 2)).run Try.prog w = .ok (.slice (some ⟨w.heap.size, 0, none⟩) 2 2) (w.alloc (.cells (Array.replicate 2 (.int .u8 0)) 5)) := by kernel_rfl

theorem make_4 (w : World) : (Instr.makeSlice 34 (.int .i64 4) (.int .i64 4)).run Try.prog w = .ok (.slice (some ⟨w.heap.size, 0, none⟩) 4 4) (w.alloc (.cells (Array.replicate 4 (.int .u8 0)) 5)) := by kernel_rfl


end Go.Proofs.Ytfcaaljehhibgaa

/- Walks of the document's Cut. -/
namespace Go.Proofs.Ytfcaaljehhibgaa
open Go.RowKit








end Go.Proofs.Ytfcaaljehhibgaa

/- Readers: what they hold, and what a read does. -/
namespace Go.Proofs.Ytfcaaljehhibgaa
open Go.RowKit

/-- a row stays where another block turns -/
theorem Row.keep {w w' : World} {a : Option Addr} {l : List (BitVec 8)} {row : Option Nat} (h : Row w a l) (hg : w.grownBy w' row) (hn : ∀ x, a = some x → some x.block ≠ row) : Row w' a l := by
  rcases h with rfl | ⟨b, off, rfl, hc⟩
  · exact .inl rfl
  · refine .inr ⟨b, off, rfl, fun i hi => ?_⟩
    have h0 := hc i hi
    have hb : b < w.heap.size := by
      rcases Nat.lt_or_ge b w.heap.size with h | h
      · exact h
      · unfold World.cell? at h0
        rw [Array.getElem?_eq_none h] at h0
        simp at h0
    rw [World.cell?_of_block (w := w) (hg.block b hb (hn _ rfl))]
    exact h0

/-- a reader at block g: l is what is left, E its error; its bytes lie in no block of F -/
structure RdAt (w : World) (F : List Nat) (g T : Nat) (L : List (BitVec 8)) (E : Int) (a : Option Addr) (len cap : Nat) (l : List (BitVec 8)) : Prop where
  blk : Blk w g T [.slice a len cap, .int .i64 E]
  len_eq : l.length = len
  le : len ≤ cap
  bound : len ≤ 140737488351232
  row : Row w a l
  isNil : a = none → cap = 0
  lt : ∀ x, a = some x → x.block < w.heap.size
  off : ∀ x, a = some x → x.block ≠ g ∧ x.block ∉ F
  ok : E = 0 → l = L
def Rd (w : World) (F : List Nat) (g T : Nat) (L : List (BitVec 8)) (E : Int) : Prop := ∃ a len cap l, RdAt w F g T L E a len cap l

theorem RdAt.keep {w w' : World} {F : List Nat} {g T : Nat} {L : List (BitVec 8)} {E : Int} {a : Option Addr} {len cap : Nat} {l : List (BitVec 8)} {row : Option Nat} (h : RdAt w F g T L E a len cap l) (hg : w.grownBy w' row)
    (hr : ∀ k, row = some k → k ≠ g ∧ (k ∈ F ∨ w.heap.size ≤ k)) : RdAt w' F g T L E a len cap l :=
  ⟨h.blk.grown hg (fun e => (hr g e.symm).1 rfl), h.len_eq, h.le, h.bound, h.row.keep hg (fun x hx e => by
    rcases (hr x.block e.symm).2 with h1 | h1
    · exact (h.off x hx).2 h1
    · have := h.lt x hx; omega), h.isNil, fun x hx => Nat.lt_of_lt_of_le (h.lt x hx) hg.size, h.off, h.ok⟩
theorem Rd.keep {w w' : World} {F : List Nat} {g T : Nat} {L : List (BitVec 8)} {E : Int} {row : Option Nat} (h : Rd w F g T L E) (hg : w.grownBy w' row) (hr : ∀ k, row = some k → k ≠ g ∧ (k ∈ F ∨ w.heap.size ≤ k)) : Rd w' F g T L E := by
  obtain ⟨a, len, cap, l, h⟩ := h
  exact ⟨a, len, cap, l, h.keep hg hr⟩
theorem Rd.later {w w' : World} {F : List Nat} {g T : Nat} {L : List (BitVec 8)} {E : Int} (h : Rd w F g T L E) (hb : Below w.heap.size w w') : Rd w' F g T L E :=
  h.keep (row := none) ⟨hb.os, hb.tape, hb.output, hb.size, fun k hk _ => hb.block k hk⟩ (fun k hk => by cases hk)
/-- a new block is none of the reader's -/
theorem Rd.more {w : World} {F : List Nat} {g T : Nat} {L : List (BitVec 8)} {E : Int} (h : Rd w F g T L E) (k : Nat) (hk : w.heap.size ≤ k) : Rd w (k :: F) g T L E := by
  obtain ⟨a, len, cap, l, h⟩ := h
  exact ⟨a, len, cap, l, h.blk, h.len_eq, h.le, h.bound, h.row, h.isNil, h.lt, fun x hx => ⟨(h.off x hx).1, by
    intro hm
    rcases List.mem_cons.1 hm with e | hm
    · have := h.lt x hx; omega
    · exact (h.off x hx).2 hm⟩, h.ok⟩
theorem Rd.less {w : World} {F F' : List Nat} {g T : Nat} {L : List (BitVec 8)} {E : Int} (h : Rd w F g T L E) (hF : ∀ k ∈ F', k ∈ F) : Rd w F' g T L E := by
  obtain ⟨a, len, cap, l, h⟩ := h
  exact ⟨a, len, cap, l, h.blk, h.len_eq, h.le, h.bound, h.row, h.isNil, h.lt, fun x hx => ⟨(h.off x hx).1, fun hm => (h.off x hx).2 (hF _ hm)⟩, h.ok⟩
theorem Rd.blt {w : World} {F : List Nat} {g T : Nat} {L : List (BitVec 8)} {E : Int} (h : Rd w F g T L E) : g < w.heap.size := by
  obtain ⟨a, len, cap, l, h⟩ := h
  exact h.blk.lt
/-- a reader that failed -/
theorem Rd.failed {w : World} {F : List Nat} {g T : Nat} {E : Int} (L : List (BitVec 8)) (h : Blk w g T [.slice none 0 0, .int .i64 E]) (hE : E ≠ 0) : Rd w F g T L E :=
  ⟨none, 0, 0, [], h, rfl, Nat.le_refl _, by omega, .inl rfl, fun _ => rfl, (fun x hx => by cases hx), (fun x hx => by cases hx), fun e => absurd e hE⟩

theorem Rd.forget {w : World} {F : List Nat} {g T : Nat} {L : List (BitVec 8)} {E : Int} (h : Rd w F g T L E) (hE : E ≠ 0) {L' : List (BitVec 8)} : Rd w F g T L' E := by
  obtain ⟨a, len, cap, l, h⟩ := h
  exact ⟨a, len, cap, l, h.blk, h.len_eq, h.le, h.bound, h.row, h.isNil, h.lt, h.off, fun e => absurd e hE⟩

/-- a reader whose own cells turn -/
theorem RdAt.turn {w w' : World} {F : List Nat} {g T : Nat} {L L' : List (BitVec 8)} {E E' : Int} {a : Option Addr} {len cap : Nat} {l : List (BitVec 8)} (h : RdAt w F g T L E a len cap l) (hB : Blk w' g T [.slice a len cap, .int .i64 E']) (hg : w.grownBy w' (some g)) (hE : E' = 0 → l = L') : RdAt w' F g T L' E' a len cap l :=
  ⟨hB, h.len_eq, h.le, h.bound, h.row.keep hg (fun x hx e => (h.off x hx).1 (by simpa using e)), h.isNil, fun x hx => Nat.lt_of_lt_of_le (h.lt x hx) hg.size, h.off, hE⟩
/-- a reader that let go of k bytes -/
theorem RdAt.cut {w w' : World} {F : List Nat} {g T : Nat} {L : List (BitVec 8)} {E : Int} {b off : Nat} {a' : Option Addr} {len cap : Nat} {l : List (BitVec 8)} (h : RdAt w F g T L E (some ⟨b, off, none⟩) len cap l) (k : Nat) (hk : k ≤ len) (ha : a' = some ⟨b, off + k, none⟩ ∨ (a' = some ⟨b, off, none⟩ ∧ cap = k))
    (hB : Blk w' g T [.slice a' (len - k) (cap - k), .int .i64 0]) (hg : w.grownBy w' (some g)) : Rd w' F g T (l.drop k) 0 := by
  have hlen := h.len_eq
  have hle := h.le
  have hb := h.bound
  have hr := h.row.keep hg (fun x hx e => (h.off x hx).1 (by simpa using e))
  have hdl : (l.drop k).length = len - k := by simp; omega
  have hlt := Nat.lt_of_lt_of_le (h.lt _ rfl) hg.size
  have hof := h.off _ rfl
  rcases ha with rfl | ⟨rfl, hc⟩
  · exact ⟨_, _, _, l.drop k, hB, hdl, by omega, by omega, hr.drop k, (fun e => by cases e), (fun x hx => by cases hx; exact hlt), (fun x hx => by cases hx; exact hof), fun _ => rfl⟩
  · exact ⟨_, _, _, l.drop k, hB, hdl, by omega, by omega, .inl (List.eq_nil_of_length_eq_zero (by omega)), (fun e => by cases e), (fun x hx => by cases hx; exact hlt), (fun x hx => by cases hx; exact hof), fun _ => rfl⟩

/-- the error of a number that is read -/
def numE (len : Nat) (size : Int) : Int := if widthB size = false then 1 else if (len : Int) < size then 10 else 0
/-- what a read of a number does: what is left, the error, the number -/
def rdNum (L : List (BitVec 8)) (E : Int) (size : Int) : List (BitVec 8) × Int × Int :=
  if E = 0 then (if numE L.length size = 0 then (L.drop size.toNat, 0, wrap64 ((numTo L 0 size.toNat).toNat : Int)) else ([], numE L.length size, 0)) else ([], E, 0)

set_option maxHeartbeats 400000 in
theorem numError_any (g len cap : Nat) (a : Option Addr) (E size : Int) (w : World) (hB : Blk w g 106 [.slice a len cap, .int .i64 E]) (_hlen : len ≤ 140737488351232) :
    Calls Try.prog 62 #[.pointer (some ⟨g, 0, none⟩), .int .i64 size] w fun e w' => e = .returned (.int .i64 (numE len size)) ∧ w = w' := by
  have c0 := hB.cell (by simp [maxLen]) 0 (by simp)
  simp only [List.getElem?_cons_zero] at c0
  clear hB
  cases hw : widthB size with
  | false =>
    have H : Hid (1 = numE len size) := by unfold numE; rw [hw]; rfl
    go_enter Try.func62, Try.ntmps62
    go_wp2_with (go_at_call 72; refine (isWidth_any size _).mono ?_; rw [hw]; rintro e w' ⟨rfl, hw⟩; obtain rfl := hw.symm)
    go_ret
    exact ⟨ret_int H.out, rfl⟩
  | true =>
    by_cases hs : (len : Int) < size
    · have H : Hid (10 = numE len size) := by show 10 = numE len size; unfold numE; rw [hw, if_neg (by simp), if_pos hs]
      go_enter Try.func62, Try.ntmps62
      go_wp2_with (go_at_call 72; refine (isWidth_any size _).mono ?_; rw [hw]; rintro e w' ⟨rfl, hw⟩; obtain rfl := hw.symm)
      go_ret
      exact ⟨ret_int H.out, rfl⟩
    · have H : Hid (0 = numE len size) := by show 0 = numE len size; unfold numE; rw [hw, if_neg (by simp), if_neg hs]
      go_enter Try.func62, Try.ntmps62
      go_wp2_with (go_at_call 72; refine (isWidth_any size _).mono ?_; rw [hw]; rintro e w' ⟨rfl, hw⟩; obtain rfl := hw.symm)
      go_ret
      exact ⟨ret_int H.out, rfl⟩

set_option maxHeartbeats 400000 in
theorem fail_any (g : Nat) (x y : Value) (E : Int) (w : World) (hB : Blk w g 106 [x, y]) :
    Calls Try.prog 63 #[.pointer (some ⟨g, 0, none⟩), .int .i64 E] w fun e w' => e = .returned (.tuple #[]) ∧ Blk w' g 106 [.slice none 0 0, .int .i64 E] ∧ w.grownBy w' (some g) := by
  have f0 := hB.frozen (by simp [maxLen]) 0
  have f1 := hB.frozen (by simp [maxLen]) 1
  have c0 := hB.cell (by simp [maxLen]) 0 (by simp)
  have c1 := hB.cell (by simp [maxLen]) 1 (by simp)
  simp only [List.getElem?_cons_zero, List.getElem?_cons_succ] at c0 c1
  have B1 := hB.set 0 (.slice none 0 0)
  have B2 := B1.set 1 (.int .i64 E)
  have G1 := grown_trans (grown_set w g 0 (.slice none 0 0)) (grown_set (w.setCell ⟨g, 0, none⟩ (.slice none 0 0)) g 1 (.int .i64 E))
  have R : Hid _ := And.intro B2 G1
  clear hB B1 B2 G1
  go_enter Try.func63, Try.ntmps63
  go_wp2
  go_end0
  exact ⟨rfl, R.out.1, R.out.2⟩

theorem numE_0 {len : Nat} {size : Int} (h : numE len size = 0) : ∃ s : Nat, size = s ∧ 1 ≤ s ∧ s ≤ 8 ∧ s ≤ len := by
  unfold numE at h
  cases hw : widthB size with
  | false => rw [hw] at h; simp at h
  | true =>
    rw [hw] at h
    simp only [Bool.true_eq_false, if_false] at h
    unfold widthB at hw
    rw [decide_eq_true_eq] at hw
    refine ⟨size.toNat, by omega, by omega, by omega, ?_⟩
    split at h
    · omega
    · omega

set_option maxHeartbeats 400000 in
theorem rdNum_err (F : List Nat) (g : Nat) (L : List (BitVec 8)) (E size : Int) (w : World) (hR : Rd w F g 106 L E) (hE : E ≠ 0) :
    Calls Try.prog 48 #[.pointer (some ⟨g, 0, none⟩), .int .i64 size] w fun e w' => e = .returned (.int .i64 0) ∧ w = w' := by
  obtain ⟨a, len, cap, l, hR⟩ := hR
  have c1 := hR.blk.cell (by simp [maxLen]) 1 (by simp)
  simp only [List.getElem?_cons_zero, List.getElem?_cons_succ] at c1
  clear hR
  go_enter Try.func48, Try.ntmps48
  go_wp2
  go_ret
  exact ⟨rfl, rfl⟩

set_option maxHeartbeats 400000 in
theorem rdNum_no (F : List Nat) (g : Nat) (L : List (BitVec 8)) (size : Int) (w : World) (hR : Rd w F g 106 L 0) (hE : numE L.length size ≠ 0) :
    Calls Try.prog 48 #[.pointer (some ⟨g, 0, none⟩), .int .i64 size] w fun e w' => e = .returned (.int .i64 0) ∧ Blk w' g 106 [.slice none 0 0, .int .i64 (numE L.length size)] ∧ w.grownBy w' (some g) := by
  obtain ⟨a, len, cap, l, hR⟩ := hR
  have hl := hR.ok rfl
  subst hl
  have c1 := hR.blk.cell (by simp [maxLen]) 1 (by simp)
  simp only [List.getElem?_cons_zero, List.getElem?_cons_succ] at c1
  have hB := hR.blk
  have hb := hR.bound
  have hle := hR.len_eq
  rw [hle] at hE ⊢
  have hE' : (numE len size == 0) = false := by simpa using hE
  clear hR
  go_enter Try.func48, Try.ntmps48
  go_wp2_with fail
  refine (numError_any g len cap a 0 size w hB hb).mono ?_
  rintro e w' ⟨rfl, rfl⟩
  go_wp2_with fail
  refine (fail_any g _ _ _ w hB).mono ?_
  rintro e w' ⟨rfl, hB', hg⟩
  clear hB
  go_wp2
  go_ret
  exact ⟨rfl, hB', hg⟩

set_option maxHeartbeats 1000000 in
theorem rdNum_yes (F : List Nat) (g : Nat) (L : List (BitVec 8)) (s : Nat) (w : World) (hR : Rd w F g 106 L 0) (hE : numE L.length s = 0) :
    Calls Try.prog 48 #[.pointer (some ⟨g, 0, none⟩), .int .i64 s] w fun e w' => e = .returned (.int .i64 (wrap64 ((numTo L 0 s).toNat : Int))) ∧ Rd w' F g 106 (L.drop s) 0 ∧ w.grownBy w' (some g) := by
  obtain ⟨a, len, cap, l, hR⟩ := hR
  have hl := hR.ok rfl
  subst hl
  obtain ⟨s', hs', h1, h2, h3⟩ := numE_0 hE
  obtain rfl : s = s' := by omega
  clear hs'
  have c1 := hR.blk.cell (by simp [maxLen]) 1 (by simp)
  have c0 := hR.blk.cell (by simp [maxLen]) 0 (by simp)
  have f0 := hR.blk.frozen (by simp [maxLen]) 0
  simp only [List.getElem?_cons_zero, List.getElem?_cons_succ] at c0 c1
  have hB := hR.blk
  have hb := hR.bound
  have hle := hR.len_eq
  have hcap := hR.le
  rw [hle] at hE h3
  rcases id hR.row with h0 | ⟨b, off, rfl, hc⟩
  · subst h0; simp at hle; omega
  have q1 : (s : Int) ≤ (len : Int) := by omega
  have q2 : (0 : Int) ≤ (s : Int) := by omega
  have hdl : (l.drop s).length = len - s := by simp; omega
  by_cases hcs : cap = s
  · subst hcs
    have B1 := hB.set 0 (.slice (some ⟨b, off, none⟩) 0 0)
    have R : Hid _ := And.intro hR B1
    clear B1 hR
    go_enter Try.func48, Try.ntmps48
    go_wp2_with fail
    refine (numError_any g len cap (some ⟨b, off, none⟩) 0 cap w hB hb).mono ?_
    rw [hE]
    rintro e w' ⟨rfl, rfl⟩
    go_wp2_with fail
    refine (numberAt_any b off len cap l 0 cap w hle (by omega) hc h2 (by omega)).mono ?_
    rintro e w' ⟨rfl, hw⟩
    obtain rfl := hw.symm
    clear hw hc
    go_wp2
    go_ret
    exact ⟨rfl, R.out.1.cut cap (by omega) (.inr ⟨rfl, rfl⟩) (by rw [show len - cap = 0 by omega, Nat.sub_self]; exact R.out.2) (grown_set _ _ _ _), grown_set _ _ _ _⟩
  · have B1 := hB.set 0 (.slice (some ⟨b, off + s, none⟩) (len - s) (cap - s))
    have R : Hid _ := And.intro hR B1
    clear B1 hR
    go_enter Try.func48, Try.ntmps48
    go_wp2_with fail
    refine (numError_any g len cap (some ⟨b, off, none⟩) 0 s w hB hb).mono ?_
    rw [hE]
    rintro e w' ⟨rfl, rfl⟩
    go_wp2_with fail
    refine (numberAt_any b off len cap l 0 s w hle (by omega) hc h2 (by omega)).mono ?_
    rintro e w' ⟨rfl, hw⟩
    obtain rfl := hw.symm
    clear hw hc
    go_wp2
    go_ret
    exact ⟨rfl, R.out.1.cut s (by omega) (.inl rfl) R.out.2 (grown_set _ _ _ _), grown_set _ _ _ _⟩

theorem Num_any (F : List Nat) (g : Nat) (L : List (BitVec 8)) (E size : Int) (w : World) (hR : Rd w F g 106 L E) :
    Calls Try.prog 48 #[.pointer (some ⟨g, 0, none⟩), .int .i64 size] w fun e w' => e = .returned (.int .i64 (rdNum L E size).2.2) ∧ Rd w' F g 106 (rdNum L E size).1 (rdNum L E size).2.1 ∧ w.grownBy w' (some g) := by
  by_cases hE : E = 0
  · subst hE
    by_cases hn : numE L.length size = 0
    · have e : rdNum L 0 size = (L.drop size.toNat, 0, wrap64 ((numTo L 0 size.toNat).toNat : Int)) := by unfold rdNum; rw [if_pos rfl, if_pos hn]
      rw [e]
      obtain ⟨s, rfl, _, _, _⟩ := numE_0 hn
      exact rdNum_yes F g L s w hR hn
    · have e : rdNum L 0 size = ([], numE L.length size, 0) := by unfold rdNum; rw [if_pos rfl, if_neg hn]
      rw [e]
      refine (rdNum_no F g L size w hR hn).mono ?_
      rintro e w' ⟨rfl, hB, hg⟩
      exact ⟨rfl, Rd.failed _ hB hn, hg⟩
  · have e : rdNum L E size = ([], E, 0) := by unfold rdNum; rw [if_neg hE]
    rw [e]
    refine (rdNum_err F g L E size w hR hE).mono ?_
    rintro e w' ⟨rfl, rfl⟩
    exact ⟨rfl, hR.forget hE, ⟨rfl, rfl, rfl, Nat.le_refl _, fun _ _ _ => rfl⟩⟩
end Go.Proofs.Ytfcaaljehhibgaa

/- A reader's Bytes, Count and End; a new reader; none at all. -/
namespace Go.Proofs.Ytfcaaljehhibgaa
open Go.RowKit

theorem below_grown {w w' : World} (hb : Below w.heap.size w w') : w.grownBy w' none := ⟨hb.os, hb.tape, hb.output, hb.size, fun k hk _ => hb.block k hk⟩
/-- new blocks are none of the reader's -/
theorem RdAt.mores {w : World} {F : List Nat} {g T : Nat} {L : List (BitVec 8)} {E : Int} {a : Option Addr} {len cap : Nat} {l : List (BitVec 8)} (h : RdAt w F g T L E a len cap l) (F' : List Nat) (hF : ∀ k ∈ F', w.heap.size ≤ k) : RdAt w (F' ++ F) g T L E a len cap l :=
  ⟨h.blk, h.len_eq, h.le, h.bound, h.row, h.isNil, h.lt, fun x hx => ⟨(h.off x hx).1, fun hm => by
    rcases List.mem_append.1 hm with h1 | h1
    · have := hF _ h1; have := h.lt x hx; omega
    · exact (h.off x hx).2 h1⟩, h.ok⟩
/-- bytes that a call owns stay where another block turns -/
theorem Own.keep {w w' : World} {base : Nat} {v : Value} {l : List (BitVec 8)} {row : Option Nat} (h : Own w base v l) (hg : w.grownBy w' row) (hn : ∀ k, v.ownBlock = some k → some k ≠ row) : Own w' base v l := by
  obtain ⟨h1, h2 | ⟨g, cap, cur, rfl, hb, hh, r⟩⟩ := h
  · exact ⟨h1, .inl h2⟩
  · refine ⟨h1, .inr ⟨g, cap, cur, rfl, hb, ?_, r⟩⟩
    have hlt : g < w.heap.size := by
      rcases Nat.lt_or_ge g w.heap.size with h | h
      · exact h
      · rw [Array.getElem?_eq_none h] at hh; cases hh
    rw [hg.block g hlt (hn g rfl)]; exact hh

/-- what a read of bytes does: what is left, the error, the bytes -/
def rdBytes (L : List (BitVec 8)) (E : Int) (size : Int) : List (BitVec 8) × Int × List (BitVec 8) :=
  if E = 0 then (if cutE L size = 0 then (L.drop (cutN L size), 0, (L.drop size.toNat).take (cutN L size - size.toNat)) else ([], cutE L size, [])) else ([], E, [])
/-- what a read of a count does -/
def rdCount (L : List (BitVec 8)) (E : Int) (size most : Int) : List (BitVec 8) × Int × Int :=
  if (rdNum L E size).2.1 = 0 then (if (rdNum L E size).2.2 < 0 ∨ most < (rdNum L E size).2.2 then ([], 3, 0) else if ((rdNum L E size).1.length : Int) < (rdNum L E size).2.2 then ([], 10, 0) else rdNum L E size) else ([], (rdNum L E size).2.1, 0)
/-- what a reader's end tells -/
def rdEnd (L : List (BitVec 8)) (E : Int) : Int := if E = 0 then (if 0 < L.length then 11 else 0) else E






theorem Rd.any_blk {w : World} {F : List Nat} {g T : Nat} {L : List (BitVec 8)} {E : Int} (h : Rd w F g T L E) : ∃ a len cap, Blk w g T [.slice a len cap, .int .i64 E] ∧ (E = 0 → L.length = len) := by
  obtain ⟨a, len, cap, l, h⟩ := h
  exact ⟨a, len, cap, h.blk, fun e => by rw [← h.ok e]; exact h.len_eq⟩


end Go.Proofs.Ytfcaaljehhibgaa

/- The document's reader. -/
namespace Go.Proofs.Ytfcaaljehhibgaa
open Go.RowKit

theorem grown_refl (w : World) (row : Option Nat) : w.grownBy w row := ⟨rfl, rfl, rfl, Nat.le_refl _, fun _ _ _ => rfl⟩

theorem numE_ne {len : Nat} {size : Int} (h : numE len size ≠ 0) : numE len size = (if size < 1 ∨ 8 < size then 1 else 10) ∧ (¬ (size < 1 ∨ 8 < size) → (len : Int) < size) := by
  unfold numE widthB at *
  by_cases h1 : size < 1 ∨ 8 < size
  · have : decide (1 ≤ size ∧ size ≤ 8) = false := by rw [decide_eq_false_iff_not]; omega
    rw [this, if_pos rfl, if_pos h1]
    exact ⟨rfl, fun h => absurd h1 h⟩
  · have : decide (1 ≤ size ∧ size ≤ 8) = true := by rw [decide_eq_true_eq]; omega
    rw [this, if_neg (by decide)] at h ⊢
    rw [if_neg h1]
    by_cases h2 : (len : Int) < size
    · rw [if_pos h2]; exact ⟨rfl, fun _ => h2⟩
    · rw [if_neg h2] at h; exact absurd rfl h

set_option maxHeartbeats 400000 in
theorem rNum_err (g : Nat) (a : Option Addr) (len cap : Nat) (E size : Int) (w : World) (hB : Blk w g 94 [.slice a len cap, .int .i64 E]) (hE : E ≠ 0) :
    Calls Try.prog 35 #[.pointer (some ⟨g, 0, none⟩), .int .i64 size] w fun e w' => e = .returned (.int .i64 0) ∧ w = w' := by
  have c1 := hB.cell (by simp [maxLen]) 1 (by simp)
  simp only [List.getElem?_cons_zero, List.getElem?_cons_succ] at c1
  clear hB
  go_enter Try.func35, Try.ntmps35
  go_wp2
  go_ret
  exact ⟨rfl, rfl⟩

set_option maxHeartbeats 400000 in
theorem rNum_no (g : Nat) (a : Option Addr) (len cap : Nat) (size : Int) (w : World) (hB : Blk w g 94 [.slice a len cap, .int .i64 0]) (hE : numE len size ≠ 0) :
    Calls Try.prog 35 #[.pointer (some ⟨g, 0, none⟩), .int .i64 size] w fun e w' => e = .returned (.int .i64 0) ∧ Blk w' g 94 [.slice a len cap, .int .i64 (numE len size)] ∧ w.grownBy w' (some g) := by
  have c1 := hB.cell (by simp [maxLen]) 1 (by simp)
  have c0 := hB.cell (by simp [maxLen]) 0 (by simp)
  have f1 := hB.frozen (by simp [maxLen]) 1
  simp only [List.getElem?_cons_zero, List.getElem?_cons_succ] at c1 c0
  have B1 := hB.set 1 (.int .i64 (numE len size))
  have G1 := grown_set w g 1 (.int .i64 (numE len size))
  obtain ⟨H, H2⟩ := numE_ne hE
  rw [H] at B1 G1 ⊢
  clear hB hE H
  by_cases h1 : size < 1
  · rw [if_pos (Or.inl h1)] at *
    have R : Hid _ := And.intro B1 G1
    clear B1 G1 H2
    go_enter Try.func35, Try.ntmps35
    go_wp2
    go_ret
    exact ⟨rfl, R.out.1, R.out.2⟩
  by_cases h2 : 8 < size
  · rw [if_pos (Or.inr h2)] at *
    have R : Hid _ := And.intro B1 G1
    clear B1 G1 H2
    go_enter Try.func35, Try.ntmps35
    go_wp2
    go_ret
    exact ⟨rfl, R.out.1, R.out.2⟩
  have h3 := H2 (by omega)
  rw [if_neg (by omega)] at *
  have R : Hid _ := And.intro B1 G1
  clear B1 G1 H2
  go_enter Try.func35, Try.ntmps35
  go_wp2
  go_ret
  exact ⟨rfl, R.out.1, R.out.2⟩

set_option maxHeartbeats 400000 in
theorem rNum_yes (F : List Nat) (g : Nat) (L : List (BitVec 8)) (s : Nat) (w : World) (hR : Rd w F g 94 L 0) (hE : numE L.length s = 0) :
    Calls Try.prog 35 #[.pointer (some ⟨g, 0, none⟩), .int .i64 s] w fun e w' => e = .returned (.int .i64 (wrap64 ((numTo L 0 s).toNat : Int))) ∧ Rd w' F g 94 (L.drop s) 0 ∧ w.grownBy w' (some g) := by
  obtain ⟨a, len, cap, l, hR⟩ := hR
  have hl := hR.ok rfl
  subst hl
  obtain ⟨s', hs', h1, h2, h3⟩ := numE_0 hE
  obtain rfl : s = s' := by omega
  clear hs' hE
  have c1 := hR.blk.cell (by simp [maxLen]) 1 (by simp)
  have c0 := hR.blk.cell (by simp [maxLen]) 0 (by simp)
  have f0 := hR.blk.frozen (by simp [maxLen]) 0
  simp only [List.getElem?_cons_zero, List.getElem?_cons_succ] at c0 c1
  have hB := hR.blk
  have hb := hR.bound
  have hle := hR.len_eq
  have hcap := hR.le
  rw [hle] at h3
  rcases id hR.row with h0 | ⟨b, off, rfl, hc⟩
  · subst h0; simp at hle; omega
  have q1 : (s : Int) ≤ (len : Int) := by omega
  have q2 : (0 : Int) ≤ (s : Int) := by omega
  have q3 : ¬ (s : Int) < 1 := by omega
  have q4 : ¬ (8 : Int) < (s : Int) := by omega
  have q5 : ¬ (len : Int) < (s : Int) := by omega
  by_cases hcs : cap = s
  · subst hcs
    have G := rGet_yes b off len cap l 0 cap w hle (by omega) hc h1 h2 (by omega)
    have R : Hid _ := And.intro hR (hB.set 0 (.slice (some ⟨b, off, none⟩) 0 0))
    clear hR hB hc
    go_enter Try.func35, Try.ntmps35
    go_wp2_with fail
    refine Calls.mono G ?_
    rintro e w' ⟨rfl, rfl⟩
    clear G
    go_wp2
    go_ret
    exact ⟨rfl, R.out.1.cut cap (by omega) (.inr ⟨rfl, rfl⟩) (by rw [show len - cap = 0 by omega, Nat.sub_self]; exact R.out.2) (grown_set _ _ _ _), grown_set _ _ _ _⟩
  · have G := rGet_yes b off len cap l 0 s w hle (by omega) hc h1 h2 (by omega)
    have R : Hid _ := And.intro hR (hB.set 0 (.slice (some ⟨b, off + s, none⟩) (len - s) (cap - s)))
    clear hR hB hc
    go_enter Try.func35, Try.ntmps35
    go_wp2_with fail
    refine Calls.mono G ?_
    rintro e w' ⟨rfl, rfl⟩
    clear G
    go_wp2
    go_ret
    exact ⟨rfl, R.out.1.cut s (by omega) (.inl rfl) R.out.2 (grown_set _ _ _ _), grown_set _ _ _ _⟩

theorem rNum_any (F : List Nat) (g : Nat) (L : List (BitVec 8)) (E size : Int) (w : World) (hR : Rd w F g 94 L E) :
    Calls Try.prog 35 #[.pointer (some ⟨g, 0, none⟩), .int .i64 size] w fun e w' => e = .returned (.int .i64 (rdNum L E size).2.2) ∧ Rd w' F g 94 (rdNum L E size).1 (rdNum L E size).2.1 ∧ w.grownBy w' (some g) := by
  by_cases hE : E = 0
  · subst hE
    by_cases hn : numE L.length size = 0
    · have e : rdNum L 0 size = (L.drop size.toNat, 0, wrap64 ((numTo L 0 size.toNat).toNat : Int)) := by unfold rdNum; rw [if_pos rfl, if_pos hn]
      rw [e]
      obtain ⟨s, rfl, _, _, _⟩ := numE_0 hn
      exact rNum_yes F g L s w hR hn
    · have e : rdNum L 0 size = ([], numE L.length size, 0) := by unfold rdNum; rw [if_pos rfl, if_neg hn]
      rw [e]
      obtain ⟨a, len, cap, l, hR⟩ := hR
      have hl := hR.ok rfl
      subst hl
      rw [hR.len_eq] at hn ⊢
      refine (rNum_no g a len cap size w hR.blk hn).mono ?_
      rintro e w' ⟨rfl, hB, hg⟩
      exact ⟨rfl, ⟨a, len, cap, l, hR.turn hB hg (fun h => absurd h hn)⟩, hg⟩
  · have e : rdNum L E size = ([], E, 0) := by unfold rdNum; rw [if_neg hE]
    rw [e]
    obtain ⟨a, len, cap, l, hR⟩ := hR
    refine (rNum_err g a len cap E size w hR.blk hE).mono ?_
    rintro e w' ⟨rfl, rfl⟩
    exact ⟨rfl, ⟨a, len, cap, l, hR.turn hR.blk (grown_refl _ _) (fun h => absurd h hE)⟩, grown_refl _ _⟩






/-- a count that fails: the bytes are put back -/
theorem count_back {w w1 : World} {F : List Nat} {g T : Nat} {L : List (BitVec 8)} {E E' : Int} {a a1 : Option Addr} {len cap len1 cap1 : Nat} {l : List (BitVec 8)} (h : RdAt w F g T L E a len cap l) (hB : Blk w1 g T [.slice a1 len1 cap1, .int .i64 E']) (hg : w.grownBy w1 (some g)) (hE : E' ≠ 0) :
    Rd (w1.setCell ⟨g, 0, none⟩ (.slice a len cap)) F g T [] E' ∧ w.grownBy (w1.setCell ⟨g, 0, none⟩ (.slice a len cap)) (some g) :=
  ⟨⟨a, len, cap, l, h.turn (hB.set 0 (.slice a len cap)) (grown_trans hg (grown_set _ _ _ _)) (fun e => absurd e hE)⟩, grown_trans hg (grown_set _ _ _ _)⟩


/-- a reader that was made of bytes that the call owns -/
theorem Rd.made {w1 w2 : World} {base g T : Nat} {a : Option Addr} {cap : Nat} {l : List (BitVec 8)} {row : Option Nat} (ho : Own w1 base (.slice a l.length cap) l) (hB : Blk w2 g T [.slice a l.length cap, .int .i64 0]) (hg : w1.grownBy w2 row) (hrow : ∀ x, a = some x → some x.block ≠ row)
    (hne : ∀ x, a = some x → x.block ≠ g) (hl : l.length ≤ 140737488351232) (F : List Nat) (hF : ∀ k ∈ F, k < base) : Rd w2 F g T l 0 := by
  obtain ⟨a2, cap2, hv, hle2, hm2, hr2, hn2, hg2⟩ := ho.open
  simp only [Value.slice.injEq] at hv
  obtain ⟨rfl, _, rfl⟩ := hv
  have hlt2 : ∀ x, a = some x → x.block < w1.heap.size := fun x hx => by subst hx; exact (World.ownsRow.lt ho x.block rfl).2
  have hge2 : ∀ x, a = some x → base ≤ x.block := fun x hx => by subst hx; exact (World.ownsRow.lt ho x.block rfl).1
  exact ⟨a, l.length, cap, l, hB, rfl, hle2, hl, hr2.keep hg hrow, hn2, fun x hx => Nat.lt_of_lt_of_le (hlt2 x hx) hg.size, fun x hx => ⟨hne x hx, fun hm => by have := hge2 x hx; have := hF _ hm; omega⟩, fun _ => rfl⟩

theorem Blk.new (w : World) (T : Nat) (xs : List Value) : Blk (w.alloc (.cells xs.toArray T)) w.heap.size T xs := by
  unfold Blk World.alloc
  simp

set_option maxHeartbeats 400000 in
theorem NewReader_any (a : Option Addr) (len cap : Nat) (l : List (BitVec 8)) (w : World) (hl : l.length = len) (hle : len ≤ cap) (hr : Row w a l) (hn : a = none → cap = 0) (hlen : len ≤ 140737488351232) :
    Calls Try.prog 47 #[.slice a len cap] w fun e w' => ∃ g, e = .returned (.pointer (some ⟨g, 0, none⟩)) ∧ w.heap.size ≤ g ∧ (∀ F : List Nat, (∀ k ∈ F, k < w.heap.size) → Rd w' F g 106 l 0) ∧ Below w.heap.size w w' := by
  subst hl
  go_enter Try.func47, Try.ntmps47
  go_wp2_with fail
  refine (clone_any a l.length cap l w rfl hle hr hn (by omega)).mono ?_
  rintro e w1 ⟨v, rfl, ho, hb1⟩
  obtain ⟨a2, cap2, rfl, hle2, hm2, hr2, hn2, hg2⟩ := ho.open
  have hlt2 : ∀ x, a2 = some x → x.block < w1.heap.size := fun x hx => by subst hx; exact (World.ownsRow.lt ho x.block rfl).2
  have K : Hid _ := And.intro (fun F hF => Rd.made ho (Blk.new w1 106 [.slice a2 l.length cap2, .int .i64 0]) (World.grownBy_alloc _ _ none) (fun x _ => by simp) (fun x hx => by have := hlt2 x hx; omega) (by omega) F hF) (And.intro hb1.size (hb1.alloc hb1.size (.cells #[.slice a2 l.length cap2, .int .i64 0] 106)))
  clear ho hr2 hr hb1 hlt2 hg2
  go_wp2
  go_ret
  exact ⟨w1.heap.size, rfl, K.out.2.1, K.out.1, K.out.2.2⟩

set_option maxHeartbeats 400000 in
theorem Of_any (a : Option Addr) (len cap : Nat) (l : List (BitVec 8)) (w : World) (hl : l.length = len) (hle : len ≤ cap) (hr : Row w a l) (hn : a = none → cap = 0) (hlen : len ≤ 140737488351232) :
    Calls Try.prog 34 #[.slice a len cap] w fun e w' => ∃ g, e = .returned (.pointer (some ⟨g, 0, none⟩)) ∧ w.heap.size ≤ g ∧ (∀ F : List Nat, (∀ k ∈ F, k < w.heap.size) → Rd w' F g 94 l 0) ∧ Below w.heap.size w w' := by
  subst hl
  have b0 : Below w.heap.size w (w.alloc (.cells #[.slice none 0 0, .int .i64 0] 94)) := (Below.refl _ _).alloc (Nat.le_refl _) _
  have hr' := hr.later b0
  go_enter Try.func34, Try.ntmps34
  go_wp2_with (at_builtin; refine wpList_append_bytes _ rfl _ _ rfl (w.heap.size + 1) _ [] rfl (Own.nil _ _) a l.length cap l rfl rfl hr' hn hle (by simp; omega) (by simp) ?_)
  intro v2 w2 ho2 hg2
  obtain ⟨a2, cap2, hv2, hle2, hm2, hr2, hn2, hg2'⟩ := ho2.open
  subst hv2
  have hge2 : ∀ x, a2 = some x → w.heap.size + 1 ≤ x.block := fun x hx => by subst hx; exact (World.ownsRow.lt ho2 x.block rfl).1
  have hB2 := (Blk.new w 94 [.slice none 0 0, .int .i64 0]).grown hg2 (by simp [Value.ownBlock])
  have c0 := hB2.cell (by simp [maxLen]) 0 (by simp)
  have f0 := hB2.frozen (by simp [maxLen]) 0
  simp only [List.getElem?_cons_zero] at c0
  have B3 := hB2.set 0 (.slice a2 l.length cap2)
  have G3 := grown_set w2 w.heap.size 0 (.slice a2 l.length cap2)
  have b2 : Below w.heap.size w w2 := b0.grown hg2 b0.size (by simp [Value.ownBlock])
  have K : Hid _ := And.intro (fun F (hF : ∀ k ∈ F, k < w.heap.size) => Rd.made ho2 B3 G3 (fun x hx e => by have := hge2 x hx; have e' : x.block = w.heap.size := (by simpa using e); omega) (fun x hx => by have := hge2 x hx; omega) (by omega) F (fun k hk => by have := hF k hk; omega)) (b2.trans (grown_below G3 _ (Nat.le_refl _) b2.size))
  clear ho2 hr2 hr hr' hge2 hg2 hg2' b0 b2 B3 G3 hB2
  go_wp2
  go_ret
  exact ⟨w.heap.size, rfl, Nat.le_refl _, K.out.1, K.out.2⟩
end Go.Proofs.Ytfcaaljehhibgaa
