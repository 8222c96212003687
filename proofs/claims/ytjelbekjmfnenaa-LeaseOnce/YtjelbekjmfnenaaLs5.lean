/- Until, Holds, Len, Reset, New, add. -/
import Derived.Test.YtjelbekjmfnenaaLs4
namespace Go.Proofs.Ytjelbekjmfnenaa
open Go.RowKit Go.Shelf
set_option linter.unusedVariables false
set_option maxRecDepth 4000

def untilOf (s : Int) (l : List (Int × Int)) (r : Int) : Int := endOf s (lastOf l r)
def holdsOf (s : Int) (l : List (Int × Int)) (r now : Int) : Bool := decide ((lastOf l r).2 ≤ now) && decide (now < untilOf s l r)
theorem lsUntil_any (g : Nat) (q : Option Nat) (s : Int) (l : List (Int × Int)) (r : Int) (w : World) (h : (lsOb g q s l).Ok w) (hw : LsWf s l) :
    Calls Try.prog 15 #[.pointer (some ⟨g, 0, none⟩), .int .i64 r] w fun e w' => e = .returned (.int .i64 (untilOf s l r)) ∧ Below w.heap.size w w' := by
  have hlast := hw.last r
  have hs : -2000 ≤ s ∧ s ≤ 1000 := ⟨hw.lo, hw.hi⟩
  have HU : Hid _ := lsupTo_any g q s l r w h (by have := hw.full; omega)
  have HE : Hid _ := fun (W : World) (b : Below w.heap.size w W) => lsend_any g q s l (lastOf l r) W (h.later b) hs ⟨hlast.2.2.1, hlast.2.2.2⟩
  clear h hw hlast hs
  go_enter Try.func15, Try.ntmps15
  go_wp2_with fail
  refine (Calls.mono HU.out) ?_
  rintro e w1 ⟨rfl, b1⟩
  have H1 : Hid _ := HE.out w1 b1
  have B1 : Hid _ := b1
  clear b1 HE HU
  go_wp2_with fail
  refine (Calls.mono H1.out) ?_
  rintro e w2 ⟨rfl, b2⟩
  have B2 : Hid _ := below_then B1.out b2
  clear b2 B1 H1
  go_wp2
  go_ret
  exact ⟨rfl, B2.out⟩
theorem lsUntil_nil (r : Int) (w : World) : Calls Try.prog 15 #[.pointer none, .int .i64 r] w fun e w' => e = .returned (.int .i64 0) ∧ w = w' := by
  go_enter Try.func15, Try.ntmps15
  go_wp2
  go_ret
  exact ⟨rfl, rfl⟩
set_option maxHeartbeats 1000000 in
theorem lsHolds_any (g : Nat) (q : Option Nat) (s : Int) (l : List (Int × Int)) (r now : Int) (w : World) (h : (lsOb g q s l).Ok w) (hw : LsWf s l) :
    Calls Try.prog 17 #[.pointer (some ⟨g, 0, none⟩), .int .i64 r, .int .i64 now] w fun e w' => e = .returned (.bool (holdsOf s l r now)) ∧ Below w.heap.size w w' := by
  have hlast := hw.last r
  have hs : -2000 ≤ s ∧ s ≤ 1000 := ⟨hw.lo, hw.hi⟩
  have HU : Hid _ := lsupTo_any g q s l r w h (by have := hw.full; omega)
  have HE : Hid _ := fun (W : World) (b : Below w.heap.size w W) => lsend_any g q s l (lastOf l r) W (h.later b) hs ⟨hlast.2.2.1, hlast.2.2.2⟩
  clear h hw hlast hs
  go_enter Try.func17, Try.ntmps17
  go_wp2_with fail
  refine (Calls.mono HU.out) ?_
  rintro e w1 ⟨rfl, b1⟩
  generalize hx : lastOf l r = x at *
  obtain ⟨x0, x1⟩ := x
  dsimp only at HE ⊢
  have bn : Below w1.heap.size w1 (w1.alloc (.cells #[.int .i64 x0, .int .i64 x1] 72)) := (Below.refl _ _).alloc (Nat.le_refl _) _
  have N := Blk.new' w1 72 [.int .i64 x0, .int .i64 x1]
  have k0 := blk_at N 0
  have k1 := blk_at N 1
  simp only [List.getElem?_cons_zero, List.getElem?_cons_succ] at k0 k1
  have H1 : Hid _ := HE.out _ (below_then b1 bn)
  have B1 : Hid _ := below_then b1 bn
  clear b1 bn N HE HU
  by_cases h1 : x1 ≤ now
  · go_wp2_with fail
    refine (Calls.mono H1.out) ?_
    rintro e w2 ⟨rfl, b2⟩
    have B2 : Hid _ := below_then B1.out b2
    clear b2 B1 H1 k0 k1
    by_cases h2 : now < endOf s (x0, x1)
    · go_wp2
      go_ret
      exact ⟨by unfold holdsOf untilOf; rw [hx, decide_eq_true h1, decide_eq_true h2]; rfl, B2.out⟩
    · go_wp2
      go_ret
      exact ⟨by unfold holdsOf untilOf; rw [hx, decide_eq_false (show ¬ now < endOf s (x0, x1) by omega)]; simp, B2.out⟩
  · go_wp2
    go_ret
    exact ⟨by unfold holdsOf untilOf; rw [hx, decide_eq_false (show ¬ (x0, x1).2 ≤ now by simp only; omega)]; rfl, B1.out⟩
theorem lsHolds_nil (r n : Int) (w : World) : Calls Try.prog 17 #[.pointer none, .int .i64 r, .int .i64 n] w fun e w' => e = .returned (.bool false) ∧ w = w' := by
  go_enter Try.func17, Try.ntmps17
  go_wp2
  go_ret
  exact ⟨rfl, rfl⟩
theorem lssize_any (T : TypeId) (g : Nat) (q : Option Nat) (hd : List Value) (l : List (Int × Int)) (w : World) (h : (qu T 72 g q hd l).Ok w) :
    Calls Try.prog 37 #[.pointer (some ⟨g, hd.length, none⟩)] w fun e w' => e = .returned (.int .i64 l.length) ∧ w = w' := by
  obtain ⟨hn, v, hq, hG, ho⟩ := h.holds
  have c0 := blk_at hG hd.length
  simp at c0
  obtain ⟨va, vc, rfl, -, -⟩ := ho.open
  clear hG ho h
  generalize hd.length = o at *
  go_enter Try.func37, Try.ntmps37
  go_wp2
  go_ret
  exact ⟨rfl, rfl⟩
theorem lsLen_any (g : Nat) (q : Option Nat) (s : Int) (l : List (Int × Int)) (w : World) (h : (lsOb g q s l).Ok w) :
    Calls Try.prog 14 #[.pointer (some ⟨g, 0, none⟩)] w fun e w' => e = .returned (.int .i64 l.length) ∧ w = w' := by
  have HS : Hid _ := lssize_any _ g q [.int .i64 s] l w h
  clear h
  go_enter Try.func14, Try.ntmps14
  go_wp2_with fail
  refine (Calls.mono HS.out) ?_
  rintro e w1 ⟨rfl, rfl⟩
  go_wp2
  go_ret
  exact ⟨rfl, rfl⟩
theorem lsLen_nil (w : World) : Calls Try.prog 14 #[.pointer none] w fun e w' => e = .returned (.int .i64 0) ∧ w = w' := by
  go_enter Try.func14, Try.ntmps14
  go_wp2
  go_ret
  exact ⟨rfl, rfl⟩
theorem lsReset_nil (w : World) : Calls Try.prog 11 #[.pointer none] w fun e w' => e = .returned (.tuple #[]) ∧ w = w' := by
  go_enter Try.func11, Try.ntmps11
  go_wp2
  go_end0
  exact ⟨rfl, rfl⟩
theorem lsSent_nil (a b : Int) (w : World) : Calls Try.prog 12 #[.pointer none, .int .i64 a, .int .i64 b] w fun e w' => e = .returned (.int .i64 2) ∧ w = w' := by
  go_enter Try.func12, Try.ntmps12
  go_wp2
  go_ret
  exact ⟨rfl, rfl⟩
theorem lsReset_any (g : Nat) (q : Option Nat) (s : Int) (l : List (Int × Int)) (w : World) (h : (lsOb g q s l).Ok w) :
    Calls Try.prog 11 #[.pointer (some ⟨g, 0, none⟩)] w fun e w' => ∃ q', e = .returned (.tuple #[]) ∧ Step w w' (lsOb g q s l) (lsOb g q' s []) := by
  obtain ⟨hn, v, hq, hG, ho⟩ := id h.holds
  have P : Put2 _ _ g q [.int .i64 s] l w w v (.slice none 0 0) [] := ⟨h, hq, hG, ⟨rfl, rfl, rfl, Nat.le_refl _, fun _ _ _ => rfl⟩, PrOwn.nil _ _, (fun k hk => by cases hk)⟩
  obtain ⟨c0, f0⟩ := P.cell
  simp only [List.length_singleton] at c0 f0
  have F : Hid _ := P.done
  clear P hG ho h
  go_enter Try.func11, Try.ntmps11
  go_wp2
  go_end0
  exact ⟨_, rfl, F.out⟩
theorem isTicks_any (n : Int) (w : World) : Calls Try.prog 34 #[.int .i64 n] w fun e w' => e = .returned (.bool (decide (1 ≤ n ∧ n ≤ 1000))) ∧ w = w' := by
  by_cases h1 : 1 ≤ n
  · by_cases h2 : n ≤ 1000
    · rw [decide_eq_true ⟨h1, h2⟩]
      go_enter Try.func34, Try.ntmps34
      go_wp2
      go_ret
      exact ⟨rfl, rfl⟩
    · rw [decide_eq_false (fun e => h2 e.2)]
      go_enter Try.func34, Try.ntmps34
      go_wp2
      go_ret
      exact ⟨rfl, rfl⟩
  · rw [decide_eq_false (fun e => h1 e.1)]
    go_enter Try.func34, Try.ntmps34
    go_wp2
    go_ret
    exact ⟨rfl, rfl⟩
theorem lsNew_no (a b : Int) (w : World) (h : ¬ (1 ≤ a ∧ a ≤ 1000 ∧ 1 ≤ b ∧ b ≤ 1000)) : Calls Try.prog 8 #[.int .i64 a, .int .i64 b] w fun e w' => e = .returned (.tuple #[.pointer none, .int .i64 1]) ∧ w = w' := by
  have HA : Hid _ := isTicks_any a w
  have HB : Hid _ := isTicks_any b w
  by_cases h1 : 1 ≤ a ∧ a ≤ 1000
  · have h2 : ¬ (1 ≤ b ∧ b ≤ 1000) := fun e => h ⟨h1.1, h1.2, e.1, e.2⟩
    rw [decide_eq_true h1] at HA
    rw [decide_eq_false h2] at HB
    clear h h1 h2
    go_enter Try.func8, Try.ntmps8
    go_wp2_with fail
    refine (Calls.mono HA.out) ?_
    rintro e w1 ⟨rfl, rfl⟩
    go_wp2_with fail
    refine (Calls.mono HB.out) ?_
    rintro e w1 ⟨rfl, rfl⟩
    go_wp2
    go_ret2
    exact ⟨rfl, rfl⟩
  · rw [decide_eq_false h1] at HA
    clear h h1 HB
    go_enter Try.func8, Try.ntmps8
    go_wp2_with fail
    refine (Calls.mono HA.out) ?_
    rintro e w1 ⟨rfl, rfl⟩
    go_wp2
    go_ret2
    exact ⟨rfl, rfl⟩
theorem lsNew_yes (a b : Int) (w : World) (h : 1 ≤ a ∧ a ≤ 1000 ∧ 1 ≤ b ∧ b ≤ 1000) : Calls Try.prog 8 #[.int .i64 a, .int .i64 b] w fun e w' => ∃ g, e = .returned (.tuple #[.pointer (some ⟨g, 0, none⟩), .int .i64 0]) ∧ w.heap.size ≤ g ∧ (lsOb g none (a - 2 * b) []).Ok w' ∧ Below w.heap.size w w' := by
  have HA : Hid _ := isTicks_any a w
  have HB : Hid _ := isTicks_any b w
  rw [decide_eq_true ⟨h.1, h.2.1⟩] at HA
  rw [decide_eq_true ⟨h.2.2.1, h.2.2.2⟩] at HB
  have N := Blk.new' w 70 [.int .i64 (a - 2 * b), .slice none 0 0]
  have bn : Below w.heap.size w (w.alloc (.cells #[.int .i64 (a - 2 * b), .slice none 0 0] 70)) := (Below.refl _ _).alloc (Nat.le_refl _) _
  have F : Hid _ := And.intro (qu_ok (T := 70) (E := 72) (g := w.heap.size) (q := none) (hd := [.int .i64 (a - 2 * b)]) (l := []) ⟨by simp, _, rfl, N, PrOwn.nil _ _⟩) bn
  clear N bn
  obtain ⟨h1, h2, h3, h4⟩ := h
  go_enter Try.func8, Try.ntmps8
  go_wp2_with fail
  refine (Calls.mono HA.out) ?_
  rintro e w1 ⟨rfl, rfl⟩
  go_wp2_with fail
  refine (Calls.mono HB.out) ?_
  rintro e w1 ⟨rfl, rfl⟩
  go_wp2
  go_ret2
  exact ⟨_, rfl, Nat.le_refl _, F.out.1, F.out.2⟩
end Go.Proofs.Ytjelbekjmfnenaa
