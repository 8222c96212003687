/- A state of reservations in memory; the calls that only read it. -/
import Derived.Test.YtjokohjdpickoaaXLs1
import Derived.Test.YtjokohjdpickoaaXDraw
import Derived.Deep.CutRange
import Derived.Deep.QuietTactic
import Derived.BigQuiet
namespace Go.Proofs.Ytjokohjdpickoaa
open Go.RowKit Go.Shelf
set_option linter.unusedVariables false
set_option linter.unusedSimpArgs false
set_option maxRecDepth 4000

/-- a state: how often keys changed, who holds, which type, who is fenced off, the keys -/
structure Rs where
  gen : Int
  h : Int
  k : Int
  f : List Bool
  ks : List Int
structure Rs.Wf (m : Rs) : Prop where
  fl : m.f.length = 16
  kl : m.ks.length = 16
  hh : 0 ≤ m.h ∧ m.h < 16
  kk : 0 ≤ m.k ∧ m.k ≤ 8
  gg : 0 ≤ m.gen ∧ m.gen < 4294967296
  each : ∀ i : Nat, 0 ≤ m.ks.getD i 0 ∧ m.ks.getD i 0 < 18446744073709551616
def rsC (m : Rs) : List Value := .int .u32 m.gen :: .int .i64 m.h :: .int .i64 m.k :: (m.f.map .bool ++ m.ks.map (.int .u64 ·))
def rv (g : Nat) (m : Rs) : Ob := ⟨[g], [], fun w => Blk w g 63 (rsC m) ∧ m.Wf⟩
theorem rv_ok {w : World} {g : Nat} {m : Rs} (h : Blk w g 63 (rsC m)) (hw : m.Wf) : (rv g m).Ok w :=
  ⟨⟨h, hw⟩, (fun k hk => by rcases hk with hk | hk; simp only [rv, List.mem_singleton] at hk; subst hk; exact h.lt; cases hk), (fun k _ hv => by cases hv), fun w1 w2 hs h => by
    have e := hs g (.inl (by simp [rv]))
    refine ⟨?_, h.2⟩
    have h' : Blk w1 g _ _ := h.1
    unfold Blk at *; rw [e]; exact h'⟩
theorem Rs.Wf.flag {m : Rs} (h : m.Wf) {w : World} {g : Nat} (hB : Blk w g 63 (rsC m)) (i : Nat) (hi : i < 16) : w.cell? ⟨g, 3 + i, none⟩ = some (.bool (m.f.getD i false)) := by
  have e := blk_at hB (3 + i)
  rw [e]
  unfold rsC
  rw [show 3 + i = i + 1 + 1 + 1 by omega]
  simp only [List.getElem?_cons_succ]
  rw [List.getElem?_append_left (by rw [List.length_map, h.fl]; exact hi), List.getElem?_map, List.getD, List.getElem?_eq_getElem (by rw [h.fl]; exact hi)]
  rfl
theorem Rs.Wf.key {m : Rs} (h : m.Wf) {w : World} {g : Nat} (hB : Blk w g 63 (rsC m)) (i : Nat) (hi : i < 16) : w.cell? ⟨g, 19 + i, none⟩ = some (.int .u64 (m.ks.getD i 0)) := by
  have e := blk_at hB (19 + i)
  rw [e]
  unfold rsC
  rw [show 19 + i = (16 + i) + 1 + 1 + 1 by omega]
  simp only [List.getElem?_cons_succ]
  rw [List.getElem?_append_right (by rw [List.length_map, h.fl]; omega), List.length_map, h.fl, Nat.add_sub_cancel_left, List.getElem?_map, List.getD, List.getElem?_eq_getElem (by rw [h.kl]; exact hi)]
  rfl
theorem dnr (B : Nat) (w : World) (n : Nat) : Below B w (w.drewN n) := ⟨rfl, rfl, rfl, Nat.le_refl _, fun _ _ => rfl⟩
def nxB (n : Int) : Bool := decide (0 ≤ n ∧ n < 16)
theorem isNx_any (n : Int) (w : World) : Calls Try.prog 22 #[.int .i64 n] w fun e w' => e = .returned (.bool (nxB n)) ∧ w = w' := by
  by_cases h : n ≥ 0
  · by_cases h2 : n < 16
    · have H : Hid (nxB n = true) := decide_eq_true (p := 0 ≤ n ∧ n < 16) ⟨h, h2⟩
      go_enter Try.func22, Try.ntmps22
      go_wp2
      go_ret
      exact ⟨by rw [H.out]; rfl, rfl⟩
    · have H : Hid (nxB n = false) := decide_eq_false (p := 0 ≤ n ∧ n < 16) (fun k => h2 k.2)
      go_enter Try.func22, Try.ntmps22
      go_wp2
      go_ret
      exact ⟨by rw [H.out]; rfl, rfl⟩
  · have H : Hid (nxB n = false) := decide_eq_false (p := 0 ≤ n ∧ n < 16) (fun k => h k.1)
    go_enter Try.func22, Try.ntmps22
    go_wp2
    go_ret
    exact ⟨by rw [H.out]; rfl, rfl⟩
def rg (m : Rs) (i : Nat) : Bool := m.ks.getD i 0 != 0
theorem isReg_any (g : Nat) (m : Rs) (i : Nat) (w : World) (h : (rv g m).Ok w) (hi : i < 16) : Calls Try.prog 25 #[.pointer (some ⟨g, 0, none⟩), .int .i64 i] w fun e w' => e = .returned (.bool (rg m i)) ∧ w = w' := by
  obtain ⟨hB, hW⟩ := h.holds
  have c := hW.key hB i hi
  have q : (i : Int) < 16 := by omega
  have H : Hid (rg m i = (m.ks.getD i 0 != 0)) := rfl
  clear hB hW
  clear h
  generalize m.ks.getD i 0 = x at *
  go_enter Try.func25, Try.ntmps25
  go_wp2
  go_ret
  exact ⟨by rw [H.out]; rfl, rfl⟩
def eaB (n : Int) : Bool := n == 7 || n == 8
theorem isEach_any (n : Int) (w : World) : Calls Try.prog 41 #[.int .i64 n] w fun e w' => e = .returned (.bool (eaB n)) ∧ w = w' := by
  by_cases h7 : n = 7
  · subst h7
    go_enter Try.func41, Try.ntmps41
    go_wp2
    go_ret
    exact ⟨rfl, rfl⟩
  go_enter Try.func41, Try.ntmps41
  go_wp2
  go_ret
  exact ⟨rfl, rfl⟩
def tyB (n : Int) : Bool := n == 1 || n == 3 || n == 5 || n == 6 || n == 7 || n == 8
theorem isType_any (n : Int) (w : World) : Calls Try.prog 46 #[.int .i64 n] w fun e w' => e = .returned (.bool (tyB n)) ∧ w = w' := by
  by_cases h1 : n = 1
  · subst h1
    go_enter Try.func46, Try.ntmps46
    go_wp2
    go_ret
    exact ⟨rfl, rfl⟩
  by_cases h3 : n = 3
  · subst h3
    go_enter Try.func46, Try.ntmps46
    go_wp2
    go_ret
    exact ⟨rfl, rfl⟩
  by_cases h5 : n = 5
  · subst h5
    go_enter Try.func46, Try.ntmps46
    go_wp2
    go_ret
    exact ⟨rfl, rfl⟩
  by_cases h6 : n = 6
  · subst h6
    go_enter Try.func46, Try.ntmps46
    go_wp2
    go_ret
    exact ⟨rfl, rfl⟩
  by_cases h7 : n = 7
  · subst h7
    go_enter Try.func46, Try.ntmps46
    go_wp2
    go_ret
    exact ⟨rfl, rfl⟩
  by_cases h8 : n = 8
  · subst h8
    go_enter Try.func46, Try.ntmps46
    go_wp2
    go_ret
    exact ⟨rfl, rfl⟩
  have H0 : tyB n = false := by unfold tyB; simp [h1, h3, h5, h6, h7, h8]
  have H : Hid (tyB n = false) := H0
  clear H0
  go_enter Try.func46, Try.ntmps46
  go_wp2
  go_ret
  exact ⟨by rw [H.out]; rfl, rfl⟩
def hoB (m : Rs) (i : Nat) : Bool := if m.k = 0 then false else if eaB m.k = true then rg m i else m.h == (i : Int)
theorem holds_any (g : Nat) (m : Rs) (i : Nat) (w : World) (h : (rv g m).Ok w) (hi : i < 16) : Calls Try.prog 27 #[.pointer (some ⟨g, 0, none⟩), .int .i64 i] w fun e w' => e = .returned (.bool (hoB m i)) ∧ w = w' := by
  obtain ⟨hB, hW⟩ := h.holds
  have y0 := blk_at hB 0
  have y1 := blk_at hB 1
  have y2 := blk_at hB 2
  simp only [rsC, List.getElem?_cons_zero, List.getElem?_cons_succ] at y0 y1 y2
  have HR : Hid _ := isReg_any g m i w h hi
  have HE : Hid _ := isEach_any m.k w
  have H : Hid (hoB m i = if m.k = 0 then false else if eaB m.k = true then rg m i else m.h == (i : Int)) := rfl
  clear h y0
  clear hB hW
  generalize hoB m i = res at *
  generalize m.k = k at *
  generalize m.h = hh at *
  generalize rg m i = r at *
  by_cases h0 : k = 0
  · rw [if_pos h0] at H
    subst h0
    go_enter Try.func27, Try.ntmps27
    go_wp2
    go_ret
    exact ⟨by rw [H.out]; rfl, rfl⟩
  · rw [if_neg h0] at H
    cases he : eaB k with
    | true =>
      rw [he, if_pos rfl] at H
      rw [he] at HE
      go_enter Try.func27, Try.ntmps27
      go_wp2_with fail
      refine (Calls.mono HE.out) ?_
      rintro e _ ⟨rfl, rfl⟩
      go_wp2_with fail
      refine (Calls.mono HR.out) ?_
      rintro e _ ⟨rfl, rfl⟩
      go_wp2
      go_ret
      exact ⟨by rw [H.out]; rfl, rfl⟩
    | false =>
      rw [he, if_neg (by decide)] at H
      rw [he] at HE
      go_enter Try.func27, Try.ntmps27
      go_wp2_with fail
      refine (Calls.mono HE.out) ?_
      rintro e _ ⟨rfl, rfl⟩
      go_wp2
      go_ret
      exact ⟨by rw [H.out]; rfl, rfl⟩
def leB (n : Int) : Bool := n == 1 || n == 5 || n == 7
theorem letsRead_any (g : Nat) (m : Rs) (w : World) (h : (rv g m).Ok w) : Calls Try.prog 28 #[.pointer (some ⟨g, 0, none⟩)] w fun e w' => e = .returned (.bool (leB m.k)) ∧ w = w' := by
  obtain ⟨hB, hW⟩ := h.holds
  have y0 := blk_at hB 0
  have y1 := blk_at hB 1
  have y2 := blk_at hB 2
  simp only [rsC, List.getElem?_cons_zero, List.getElem?_cons_succ] at y0 y1 y2
  clear h y0 y1
  clear hB hW
  generalize m.k = k at *
  by_cases h1 : k = 1
  · subst h1
    go_enter Try.func28, Try.ntmps28
    go_wp2
    go_ret
    exact ⟨rfl, rfl⟩
  by_cases h5 : k = 5
  · subst h5
    go_enter Try.func28, Try.ntmps28
    go_wp2
    go_ret
    exact ⟨rfl, rfl⟩
  go_enter Try.func28, Try.ntmps28
  go_wp2
  go_ret
  exact ⟨rfl, rfl⟩
def hwB (m : Rs) (key : Int) : Bool := if m.k = 0 then false else if eaB m.k = true then key == 0 else key == m.ks.getD m.h.toNat 0
theorem isHeldWith_any (g : Nat) (m : Rs) (key : Int) (w : World) (h : (rv g m).Ok w) : Calls Try.prog 53 #[.pointer (some ⟨g, 0, none⟩), .int .u64 key] w fun e w' => e = .returned (.bool (hwB m key)) ∧ Below w.heap.size w w' := by
  obtain ⟨hB, hW⟩ := h.holds
  have y0 := blk_at hB 0
  have y1 := blk_at hB 1
  have y2 := blk_at hB 2
  simp only [rsC, List.getElem?_cons_zero, List.getElem?_cons_succ] at y0 y1 y2
  have HE : Hid _ := isEach_any m.k w
  obtain ⟨n, hn⟩ : ∃ n : Nat, m.h = n := ⟨m.h.toNat, by have := hW.hh; omega⟩
  have hn16 : n < 16 := by have := hW.hh; omega
  have ck := hW.key hB n hn16
  have q : (n : Int) < 16 := by omega
  have H : Hid (hwB m key = if m.k = 0 then false else if eaB m.k = true then key == 0 else key == m.ks.getD n 0) := by unfold hwB; rw [hn, Int.toNat_natCast]; exact rfl
  rw [hn] at y1
  clear h y0
  clear hB hW
  generalize hwB m key = res at *
  generalize m.k = k at *
  generalize m.ks.getD n 0 = x at *
  by_cases h0 : k = 0
  · rw [if_pos h0] at H
    subst h0
    go_enter Try.func53, Try.ntmps53
    go_wp2
    go_ret
    exact ⟨by rw [H.out]; rfl, by first | exact Below.refl _ _ | exact dnr _ _ _⟩
  · rw [if_neg h0] at H
    cases he : eaB k with
    | true =>
      rw [he, if_pos rfl] at H
      rw [he] at HE
      go_enter Try.func53, Try.ntmps53
      go_wp2_with fail
      refine (Calls.mono HE.out) ?_
      rintro e _ ⟨rfl, rfl⟩
      go_wp2
      go_ret
      exact ⟨by rw [H.out]; rfl, by first | exact Below.refl _ _ | exact dnr _ _ _⟩
    | false =>
      rw [he, if_neg (by decide)] at H
      rw [he] at HE
      go_enter Try.func53, Try.ntmps53
      go_wp2_with fail
      refine (Calls.mono HE.out) ?_
      rintro e _ ⟨rfl, rfl⟩
      go_wp2_with fail
      go_quiet (fail)
      go_wp2
      go_ret
      exact ⟨by rw [H.out]; rfl, by first | exact Below.refl _ _ | exact dnr _ _ _⟩
theorem good_any (w : World) : Calls Try.prog 47 #[] w fun e w' => e = .returned (.agg #[.int .i64 0, .int .i64 0, .int .i64 0, .int .i64 0, .slice none 0 0]) ∧ Below w.heap.size w w' := by
  have b1 : Below w.heap.size w (w.alloc (.cells #[.int .i64 0, .int .i64 0, .int .i64 0, .int .i64 0, .slice none 0 0] 28)) := (Below.refl _ _).alloc (Nat.le_refl _) _
  have A1 := Blk.new' w 28 [.int .i64 0, .int .i64 0, .int .i64 0, .int .i64 0, .slice none 0 0]
  have y0 := blk_at A1 0
  have y1 := blk_at A1 1
  have y2 := blk_at A1 2
  have y3 := blk_at A1 3
  have y4 := blk_at A1 4
  simp only [List.getElem?_cons_zero, List.getElem?_cons_succ] at y0 y1 y2 y3 y4
  have F : Hid _ := And.intro b1 trivial
  clear b1 A1
  go_enter Try.func47, Try.ntmps47
  go_wp2
  generalize w.alloc (.cells #[.int .i64 0, .int .i64 0, .int .i64 0, .int .i64 0, .slice none 0 0] 28) = w1 at *
  refine bodyPost_ret (v := .agg #[.int .i64 0, .int .i64 0, .int .i64 0, .int .i64 0, .slice none 0 0]) (by simp [results, Try.results47, go_sem, y0, y1, y2, y3, y4]) rfl ?_
  exact ⟨rfl, F.out.1⟩
theorem conflict_any (w : World) : Calls Try.prog 26 #[] w fun e w' => e = .returned (.agg #[.int .i64 24, .int .i64 0, .int .i64 0, .int .i64 0, .slice none 0 0]) ∧ Below w.heap.size w w' := by
  have b1 : Below w.heap.size w (w.alloc (.cells #[.int .i64 24, .int .i64 0, .int .i64 0, .int .i64 0, .slice none 0 0] 28)) := (Below.refl _ _).alloc (Nat.le_refl _) _
  have A1 := Blk.new' w 28 [.int .i64 24, .int .i64 0, .int .i64 0, .int .i64 0, .slice none 0 0]
  have y0 := blk_at A1 0
  have y1 := blk_at A1 1
  have y2 := blk_at A1 2
  have y3 := blk_at A1 3
  have y4 := blk_at A1 4
  simp only [List.getElem?_cons_zero, List.getElem?_cons_succ] at y0 y1 y2 y3 y4
  have F : Hid _ := And.intro b1 trivial
  clear b1 A1
  go_enter Try.func26, Try.ntmps26
  go_wp2
  generalize w.alloc (.cells #[.int .i64 24, .int .i64 0, .int .i64 0, .int .i64 0, .slice none 0 0] 28) = w1 at *
  refine bodyPost_ret (v := .agg #[.int .i64 24, .int .i64 0, .int .i64 0, .int .i64 0, .slice none 0 0]) (by simp [results, Try.results26, go_sem, y0, y1, y2, y3, y4]) rfl ?_
  exact ⟨rfl, F.out.1⟩
theorem wrong_any (w : World) : Calls Try.prog 23 #[] w fun e w' => e = .returned (.agg #[.int .i64 2, .int .i64 5, .int .i64 36, .int .i64 0, .slice none 0 0]) ∧ Below w.heap.size w w' := by
  have b1 : Below w.heap.size w (w.alloc (.cells #[.int .i64 2, .int .i64 5, .int .i64 36, .int .i64 0, .slice none 0 0] 28)) := (Below.refl _ _).alloc (Nat.le_refl _) _
  have A1 := Blk.new' w 28 [.int .i64 2, .int .i64 5, .int .i64 36, .int .i64 0, .slice none 0 0]
  have y0 := blk_at A1 0
  have y1 := blk_at A1 1
  have y2 := blk_at A1 2
  have y3 := blk_at A1 3
  have y4 := blk_at A1 4
  simp only [List.getElem?_cons_zero, List.getElem?_cons_succ] at y0 y1 y2 y3 y4
  have F : Hid _ := And.intro b1 trivial
  clear b1 A1
  go_enter Try.func23, Try.ntmps23
  go_wp2
  generalize w.alloc (.cells #[.int .i64 2, .int .i64 5, .int .i64 36, .int .i64 0, .slice none 0 0] 28) = w1 at *
  refine bodyPost_ret (v := .agg #[.int .i64 2, .int .i64 5, .int .i64 36, .int .i64 0, .slice none 0 0]) (by simp [results, Try.results23, go_sem, y0, y1, y2, y3, y4]) rfl ?_
  exact ⟨rfl, F.out.1⟩
theorem wrongRel_any (w : World) : Calls Try.prog 48 #[] w fun e w' => e = .returned (.agg #[.int .i64 2, .int .i64 5, .int .i64 38, .int .i64 4, .slice none 0 0]) ∧ Below w.heap.size w w' := by
  have b1 : Below w.heap.size w (w.alloc (.cells #[.int .i64 2, .int .i64 5, .int .i64 38, .int .i64 4, .slice none 0 0] 28)) := (Below.refl _ _).alloc (Nat.le_refl _) _
  have A1 := Blk.new' w 28 [.int .i64 2, .int .i64 5, .int .i64 38, .int .i64 4, .slice none 0 0]
  have y0 := blk_at A1 0
  have y1 := blk_at A1 1
  have y2 := blk_at A1 2
  have y3 := blk_at A1 3
  have y4 := blk_at A1 4
  simp only [List.getElem?_cons_zero, List.getElem?_cons_succ] at y0 y1 y2 y3 y4
  have F : Hid _ := And.intro b1 trivial
  clear b1 A1
  go_enter Try.func48, Try.ntmps48
  go_wp2
  generalize w.alloc (.cells #[.int .i64 2, .int .i64 5, .int .i64 38, .int .i64 4, .slice none 0 0] 28) = w1 at *
  refine bodyPost_ret (v := .agg #[.int .i64 2, .int .i64 5, .int .i64 38, .int .i64 4, .slice none 0 0]) (by simp [results, Try.results48, go_sem, y0, y1, y2, y3, y4]) rfl ?_
  exact ⟨rfl, F.out.1⟩
end Go.Proofs.Ytjokohjdpickoaa

