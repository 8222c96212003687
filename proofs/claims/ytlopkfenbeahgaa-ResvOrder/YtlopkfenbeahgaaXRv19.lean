/- May. -/
import Derived.Test.YtlopkfenbeahgaaXRv3
namespace Go.Proofs.Ytlopkfenbeahgaa
open Go.RowKit Go.Shelf
set_option linter.unusedVariables false
set_option linter.unusedSimpArgs false
set_option maxRecDepth 4000

def mayM (m : Rs) (n wh : Int) : Bool :=
  if nxB n = false ∨ wh < 0 ∨ wh > 2 then false else if wh = 0 then true else if wh = 2 ∧ fenM m n = true then false else if m.k = 0 ∨ hoB m n.toNat = true then true else if wh = 1 ∧ leB m.k = true then true else decide (m.k ≥ 5) && rg m n.toNat
set_option maxHeartbeats 4000000 in
theorem may_any (g : Nat) (m : Rs) (n wh : Int) (w : World) (h : (rv g m).Ok w) : Calls Try.prog 13 #[.pointer (some ⟨g, 0, none⟩), .int .i64 n, .int .i64 wh] w fun e w' => e = .returned (.bool (mayM m n wh)) ∧ w = w' := by
  have HN : Hid _ := isNx_any n w
  cases hn : nxB n with
  | false =>
    rw [hn] at HN
    have H0 : mayM m n wh = false := by unfold mayM; rw [if_pos (.inl hn)]
    have H : Hid _ := H0
    clear H0 h
    go_enter Try.func13, Try.ntmps13
    go_wp2_with fail
    refine (Calls.mono HN.out) ?_
    rintro e _ ⟨rfl, rfl⟩
    go_wp2
    go_ret
    exact ⟨by rw [H.out]; rfl, rfl⟩
  | true =>
    rw [hn] at HN
    by_cases h0 : wh < 0
    · have H0 : mayM m n wh = false := by unfold mayM; rw [if_pos (.inr (.inl h0))]
      have H : Hid _ := H0
      clear H0 h
      go_enter Try.func13, Try.ntmps13
      go_wp2_with fail
      refine (Calls.mono HN.out) ?_
      rintro e _ ⟨rfl, rfl⟩
      go_wp2
      go_ret
      exact ⟨by rw [H.out]; rfl, rfl⟩
    by_cases h2 : wh > 2
    · have H0 : mayM m n wh = false := by unfold mayM; rw [if_pos (.inr (.inr h2))]
      have H : Hid _ := H0
      clear H0 h
      go_enter Try.func13, Try.ntmps13
      go_wp2_with fail
      refine (Calls.mono HN.out) ?_
      rintro e _ ⟨rfl, rfl⟩
      go_wp2
      go_ret
      exact ⟨by rw [H.out]; rfl, rfl⟩
    have hn' : 0 ≤ n ∧ n < 16 := of_decide_eq_true hn
    obtain ⟨i, rfl⟩ : ∃ i : Nat, n = i := ⟨n.toNat, by omega⟩
    have hi : i < 16 := by omega
    have q : (i : Int) < 16 := by omega
    obtain ⟨hB, hW⟩ := h.holds
    have cf := hW.flag hB i hi
    have y2 := blk_at hB 2
    simp only [rsC, List.getElem?_cons_zero, List.getElem?_cons_succ] at y2
    have HH : Hid _ := holds_any g m i w h hi
    have HLe : Hid _ := letsRead_any g m w h
    have HR : Hid _ := isReg_any g m i w h hi
    have hfm : fenM m (i : Int) = m.f.getD i false := by unfold fenM; rw [hn, Int.toNat_natCast]; rfl
    rw [← hfm] at cf
    have hM : mayM m (i : Int) wh = if wh = 0 then true else if wh = 2 ∧ fenM m i = true then false else if m.k = 0 ∨ hoB m i = true then true else if wh = 1 ∧ leB m.k = true then true else decide (m.k ≥ 5) && rg m i := by unfold mayM; rw [if_neg (by rw [hn]; simp; omega), Int.toNat_natCast]
    have HM : Hid _ := hM
    clear hM hfm h hB hW hn
    generalize mayM m (i : Int) wh = res at *
    generalize fenM m (i : Int) = fe at *
    generalize m.k = k at *
    generalize hoB m i = ho at *
    generalize rg m i = rr at *
    obtain ⟨le, hle⟩ : ∃ le, leB k = le := ⟨_, rfl⟩
    rw [hle] at HLe HM
    have hw : wh = 0 ∨ wh = 1 ∨ wh = 2 := by omega
    clear h0 h2
    rcases hw with rfl | rfl | rfl
    · have H0 : res = _ := HM.out
      simp [] at H0
      have H : Hid _ := H0
      clear H0 HM
      go_enter Try.func13, Try.ntmps13
      go_wp2_with fail
      refine (Calls.mono HN.out) ?_
      rintro e _ ⟨rfl, rfl⟩
      go_wp2
      go_ret
      exact ⟨by rw [H.out]; rfl, rfl⟩
    · by_cases hk : k = 0
      · subst hk
        have H0 : res = _ := HM.out
        simp [*] at H0
        have H : Hid _ := H0
        clear H0 HM
        go_enter Try.func13, Try.ntmps13
        go_wp2_with fail
        refine (Calls.mono HN.out) ?_
        rintro e _ ⟨rfl, rfl⟩
        go_wp2
        go_ret
        exact ⟨by rw [H.out]; rfl, rfl⟩
      · have hk' : (k == 0) = false := by rw [beq_eq_false_iff_ne]; exact hk
        cases ho with
        | true =>
          have H0 : res = _ := HM.out
          simp [*] at H0
          have H : Hid _ := H0
          clear H0 HM
          go_enter Try.func13, Try.ntmps13
          go_wp2_with fail
          refine (Calls.mono HN.out) ?_
          rintro e _ ⟨rfl, rfl⟩
          go_wp2_with fail
          refine (Calls.mono HH.out) ?_
          rintro e _ ⟨rfl, rfl⟩
          go_wp2
          go_ret
          exact ⟨by rw [H.out]; rfl, rfl⟩
        | false =>
          cases le with
          | true =>
            have H0 : res = _ := HM.out
            simp [*] at H0
            have H : Hid _ := H0
            clear H0 HM
            go_enter Try.func13, Try.ntmps13
            go_wp2_with fail
            refine (Calls.mono HN.out) ?_
            rintro e _ ⟨rfl, rfl⟩
            go_wp2_with fail
            refine (Calls.mono HH.out) ?_
            rintro e _ ⟨rfl, rfl⟩
            go_wp2_with fail
            refine (Calls.mono HLe.out) ?_
            rintro e _ ⟨rfl, rfl⟩
            go_wp2
            go_ret
            exact ⟨by rw [H.out]; rfl, rfl⟩
          | false =>
            by_cases h5 : k ≥ 5
            · have H0 : res = _ := HM.out
              simp [*] at H0
              have H : Hid _ := H0
              clear H0 HM
              go_enter Try.func13, Try.ntmps13
              go_wp2_with fail
              refine (Calls.mono HN.out) ?_
              rintro e _ ⟨rfl, rfl⟩
              go_wp2_with fail
              refine (Calls.mono HH.out) ?_
              rintro e _ ⟨rfl, rfl⟩
              go_wp2_with fail
              refine (Calls.mono HLe.out) ?_
              rintro e _ ⟨rfl, rfl⟩
              go_wp2_with fail
              refine (Calls.mono HR.out) ?_
              rintro e _ ⟨rfl, rfl⟩
              go_wp2
              go_ret
              exact ⟨by rw [H.out]; rfl, rfl⟩
            · have H0 : res = _ := HM.out
              simp [*] at H0
              have H : Hid _ := H0
              clear H0 HM
              go_enter Try.func13, Try.ntmps13
              go_wp2_with fail
              refine (Calls.mono HN.out) ?_
              rintro e _ ⟨rfl, rfl⟩
              go_wp2_with fail
              refine (Calls.mono HH.out) ?_
              rintro e _ ⟨rfl, rfl⟩
              go_wp2_with fail
              refine (Calls.mono HLe.out) ?_
              rintro e _ ⟨rfl, rfl⟩
              go_wp2
              go_ret
              exact ⟨by rw [H.out]; rfl, rfl⟩
    · cases fe with
      | true =>
        have H0 : res = _ := HM.out
        simp [*] at H0
        have H : Hid _ := H0
        clear H0 HM
        go_enter Try.func13, Try.ntmps13
        go_wp2_with fail
        refine (Calls.mono HN.out) ?_
        rintro e _ ⟨rfl, rfl⟩
        go_wp2
        go_ret
        exact ⟨by rw [H.out]; rfl, rfl⟩
      | false =>
        by_cases hk : k = 0
        · subst hk
          have H0 : res = _ := HM.out
          simp [*] at H0
          have H : Hid _ := H0
          clear H0 HM
          go_enter Try.func13, Try.ntmps13
          go_wp2_with fail
          refine (Calls.mono HN.out) ?_
          rintro e _ ⟨rfl, rfl⟩
          go_wp2
          go_ret
          exact ⟨by rw [H.out]; rfl, rfl⟩
        · have hk' : (k == 0) = false := by rw [beq_eq_false_iff_ne]; exact hk
          cases ho with
          | true =>
            have H0 : res = _ := HM.out
            simp [*] at H0
            have H : Hid _ := H0
            clear H0 HM
            go_enter Try.func13, Try.ntmps13
            go_wp2_with fail
            refine (Calls.mono HN.out) ?_
            rintro e _ ⟨rfl, rfl⟩
            go_wp2_with fail
            refine (Calls.mono HH.out) ?_
            rintro e _ ⟨rfl, rfl⟩
            go_wp2
            go_ret
            exact ⟨by rw [H.out]; rfl, rfl⟩
          | false =>
            by_cases h5 : k ≥ 5
            · have H0 : res = _ := HM.out
              simp [*] at H0
              have H : Hid _ := H0
              clear H0 HM
              go_enter Try.func13, Try.ntmps13
              go_wp2_with fail
              refine (Calls.mono HN.out) ?_
              rintro e _ ⟨rfl, rfl⟩
              go_wp2_with fail
              refine (Calls.mono HH.out) ?_
              rintro e _ ⟨rfl, rfl⟩
              go_wp2_with fail
              refine (Calls.mono HR.out) ?_
              rintro e _ ⟨rfl, rfl⟩
              go_wp2
              go_ret
              exact ⟨by rw [H.out]; rfl, rfl⟩
            · have H0 : res = _ := HM.out
              simp [*] at H0
              have H : Hid _ := H0
              clear H0 HM
              go_enter Try.func13, Try.ntmps13
              go_wp2_with fail
              refine (Calls.mono HN.out) ?_
              rintro e _ ⟨rfl, rfl⟩
              go_wp2_with fail
              refine (Calls.mono HH.out) ?_
              rintro e _ ⟨rfl, rfl⟩
              go_wp2
              go_ret
              exact ⟨by rw [H.out]; rfl, rfl⟩
end Go.Proofs.Ytlopkfenbeahgaa

