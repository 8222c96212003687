/- The walk of CdbRanges. -/
import Derived.Test.YtclpedjjboblpaaDoorXCr3c
import Derived.Test.YtclpedjjboblpaaDoorXCrA
import Derived.Test.YtclpedjjboblpaaDoorXCdL1
namespace Go.Proofs.YtclpedjjboblpaaDoor
open Go.RowKit
set_option linter.unusedVariables false
set_option linter.unusedSimpArgs false
set_option maxRecDepth 8000

theorem rgR_few (l : List (BitVec 8)) : (rgR l).1.length ≤ 4096 := by
  unfold rgR
  split
  · simp
  · split
    · split
      · rw [rgL_len]; exact rgN_few l
      · simp
    · simp
theorem prR_few (l : List Rg) : (prR l).1.length ≤ 520 := by
  unfold prR
  split
  · rename_i h
    rw [List.length_append, head_len, flat_len]; omega
  · simp
theorem pr_bad {l : List Rg} (h : (prR l).2 ≠ 0) : (prR l).2 = 3 := by
  unfold prR at *
  split at h
  · exact absurd rfl h
  · rename_i hh; rw [if_neg hh]
set_option maxHeartbeats 8000000 in
theorem cdbRanges_walk (a0 : Option Addr) (len0 cap0 : Nat) (l0 : List Rg) (a1 : Option Addr) (len1 cap1 : Nat) (l1 : List (BitVec 8)) (w : World) (hT : TblAt w) (B0 : RgArg w a0 len0 cap0 l0) (B1 : Arg 140737488351232 w a1 len1 cap1 l1) :
    Calls Tryd.prog 8 #[.slice a0 len0 cap0, .slice a1 len1 cap1] w fun e w' => e = .returned (.bool true) ∧ Below w.heap.size w w' := by
  obtain ⟨hlen0, hA0, hf0⟩ := B0
  subst hlen0
  have hlen1 := B1.len_eq
  subst hlen1
  have hq1 : l1.length ≤ 140737488351232 := Nat.le_trans B1.le B1.bound
  have HL : Hid _ := Lent_any a1 l1.length cap1 l1 w B1
  have H0 : Hid _ := And.intro B1.row (And.intro hq1 (And.intro B1.le B1.isNil))
  have HA : Hid _ := And.intro hA0 hf0
  have HT : Hid _ := hT
  clear B1 hq1 hT hA0 hf0
  go_enter Tryd.func8, Tryd.ntmps8
  go_wp2_with fail
  refine (Calls.mono HL.out) ?_
  rintro e w1 ⟨g, c, rfl, oL, -, hc1, -, b1⟩
  obtain ⟨aL, cL, eL, -, -, rL, -, -⟩ := oL.open
  simp only [Value.slice.injEq] at eL
  obtain ⟨rfl, -, -⟩ := eL
  have H1 : Hid _ := And.intro (And.intro rL hc1) b1
  clear oL rL b1 HL
  have HK : Hid _ := given2_any a0 cap0 l0 w1 (gat_later H1.out.2 HA.out.1) HA.out.2
  go_wp2_with fail
  refine (Calls.mono HK.out) ?_
  rintro e w2 ⟨v2, rfl, I2⟩
  clear HK
  obtain ⟨a2, c2, ez, hA2⟩ := I2.at kRg_ok
  subst ez
  have H2 : Hid _ := And.intro I2.bel (below_then H1.out.2 I2.bel)
  have HK : Hid _ := putRg_any a2 c2 l0 w2 hA2 (by have := HA.out.2; omega)
  clear I2 hA2
  go_wp2_with fail
  refine (Calls.mono HK.out) ?_
  rintro e w3 ⟨z3, rfl, o3, b3⟩
  have H3 : Hid _ := And.intro (below_then H2.out.1 b3) (And.intro (below_then H2.out.2 b3) o3)
  clear b3 o3 HK
  have HK : Hid _ := rputRg_any a0 cap0 l0 w3 (gat_later H3.out.2.1 HA.out.1) (by have := HA.out.2; omega)
  go_wp2_with fail
  refine (Calls.mono HK.out) ?_
  rintro e w4 ⟨z4, rfl, o4, b4⟩
  have H4 : Hid _ := And.intro (below_then H3.out.1 b4) (And.intro (below_then H3.out.2.1 b4) (And.intro (Own.later H3.out.2.2 b4) o4))
  clear b4 o4 HK H3
  have HK : Hid _ := prange_any (some ⟨g, 0, none⟩) c l1 w4 (by omega) (row_frC (H1.out.1.1.later H4.out.1)) (fun h => by cases h) H0.out.2.1
  go_wp2_with fail
  refine (Calls.mono HK.out) ?_
  rintro e w5 ⟨v5, rfl, I5⟩
  clear HK
  have b5 := I5.bel
  obtain ⟨a5, c5, ez, hA5⟩ := I5.at kRg_ok
  subst ez
  have H5 : Hid _ := And.intro (below_then H4.out.1 b5) (And.intro (below_then H4.out.2.1 b5) (And.intro (Own.later H4.out.2.2.1 b5) (And.intro (Own.later H4.out.2.2.2 b5) hA5)))
  clear I5 b5 hA5 H4
  have HK : Hid _ := rrange_any a1 cap1 l1 w5 H0.out.2.2.1 (H0.out.1.later H5.out.2.1) H0.out.2.2.2 H0.out.2.1
  go_wp2_with fail
  refine (Calls.mono HK.out) ?_
  rintro e w6 ⟨v6, rfl, I6⟩
  clear HK
  have b6 := I6.bel
  obtain ⟨a6, c6, ez, hA6⟩ := I6.at kRr_ok
  subst ez
  have H6 : Hid _ := And.intro (below_then H5.out.1 b6) (And.intro (below_then H5.out.2.1 b6) (And.intro (Own.later H5.out.2.2.1 b6) (And.intro (Own.later H5.out.2.2.2.1 b6) (And.intro (gat_later b6 H5.out.2.2.2.2) hA6))))
  clear I6 b6 hA6 H5
  obtain ⟨a7, n7, c7, ez, hs7⟩ := strsC H6.out.2.2.1
  obtain ⟨a8, n8, c8, ez8, hs8⟩ := strsC H6.out.2.2.2.1
  subst ez ez8
  have hRF := rgR_few l1
  have hPF := prR_few l0
  have HB : Hid _ := And.intro (fun p (h : rgR l1 = (p, 0)) => pr_rg h) (fun x (h : prR l0 = (x, 0)) => rg_pr h)
  obtain ⟨P, hP⟩ : ∃ P, rgR l1 = P := ⟨_, rfl⟩
  obtain ⟨Q, hQ⟩ : ∃ Q, prR l0 = Q := ⟨_, rfl⟩
  obtain ⟨p, EP⟩ := P
  obtain ⟨x, EX⟩ := Q
  rw [hP] at H6 hRF
  rw [hQ] at H6 hs7 hs8 hPF
  rw [hP, hQ]
  simp only at H6 hRF hPF hs7 hs8 ⊢
  rw [hP, hQ] at HB
  have HE : Hid _ := And.intro (hP) (hQ)
  clear hP hQ
  have hsb : ∀ X, Below w6.heap.size w6 X → (convert 23 9 (.slice a1 l1.length cap1)).run Tryd.prog X = .ok (.string (str l1)) X := fun X hX => (H0.out.1.later (below_then H6.out.2.1 hX)).str _ _ rfl
  have HKp : Hid (∀ X, Below w6.heap.size w6 X → _) := fun X (bX : Below w6.heap.size w6 X) => Kept_yes g l1.length c a1 cap1 l1 X rfl H1.out.1.2 H0.out.2.1 (H1.out.1.1.later (below_then H6.out.1 bX)) (H0.out.1.later (below_then H6.out.2.1 bX))
  have hc7 := hs7 w6 (Below.refl _ _)
  have hc8 := hs8 w6 (Below.refl _ _)
  clear hs7 hs8
  have HK : Hid _ := taken2_any a5 c5 p w6 H6.out.2.2.2.2.1 (by omega)
  go_wp2_with fail
  refine (Calls.mono HK.out) ?_
  rintro e x1 ⟨v1, rfl, I1⟩
  clear HK hc7 hc8
  have B1 := I1.bel
  obtain ⟨aT, cT, ezT, hAT⟩ := I1.at kRr_ok
  subst ezT
  clear I1
  have HK : Hid _ := sameRg_yes aT a6 cT c6 p x1 hAT (gat_later B1 H6.out.2.2.2.2.2) (by omega)
  go_wp2_with fail
  refine (Calls.mono HK.out) ?_
  rintro e x2 ⟨rfl, hb2⟩
  have B2 := below_then B1 hb2
  clear HK hAT hb2 B1
  have HK : Hid _ := HKp.out x2 B2
  go_wp2_with fail
  refine (Calls.mono HK.out) ?_
  rintro e x9 ⟨rfl, hx9⟩
  rw [hx9]
  clear hx9 x9 HK
  have H7 : Hid _ := And.intro (below_then H6.out.1 B2) (And.intro (below_then H6.out.2.1 B2) (And.intro (Own.later H6.out.2.2.1 B2) (And.intro (gat_later B2 H6.out.2.2.2.2.1) (fun X (hX : Below x2.heap.size x2 X) => hsb X (below_then B2 hX)))))
  clear H6 hsb HKp B2
  by_cases hPz : EP = 0
  · subst hPz
    have hb1 := HB.out.1 p rfl
    have HK0 := putRg_any a5 c5 p x2 H7.out.2.2.2.1 (by omega)
    rw [hb1] at HK0
    have HK : Hid _ := HK0
    clear HK0 hb1
    go_wp2_with fail
    refine (Calls.mono HK.out) ?_
    rintro e wq ⟨zq, rfl, oq, bq⟩
    clear HK
    obtain ⟨aq, nq, cq, ezq, hsq⟩ := strsC oq
    subst ezq
    have hsb := fun X (hX : Below wq.heap.size wq X) => H7.out.2.2.2.2 X (below_then bq hX)
    have HQ : Hid _ := And.intro (below_then H7.out.2.1 bq) (Own.later H7.out.2.2.1 bq)
    clear oq bq H7
    have hcq := hsq wq (Below.refl _ _)
    have hcb := hsb wq (Below.refl _ _)
    clear hsq hsb
    generalize str l1 = T1 at *
    by_cases hX : EX = 0
    · subst hX
      have hb2 := HB.out.2 x rfl
      obtain ⟨_, cX, eX, hleX, -, hrX, hnX, -⟩ := Own.open (HQ.out.2)
      simp only [Value.slice.injEq] at eX
      obtain ⟨rfl, rfl, rfl⟩ := eX
      have HK0 := prange_any a7 c7 x wq hleX hrX hnX (by omega)
      rw [hb2] at HK0
      have HK : Hid _ := HK0
      have FB : Hid _ := HQ.out.1
      clear HK0 hleX hrX hnX hb2 HQ
      generalize x.length = XL at *
      go_wp2_with fail
      refine (Calls.mono HK.out) ?_
      rintro e w8 ⟨v8, rfl, I8⟩
      clear HK
      have b8 := I8.bel
      obtain ⟨aZ, cZ, eZ, hAZ⟩ := I8.at kRg_ok
      subst eZ
      have H8 : Hid _ := And.intro (below_then FB.out b8) hAZ
      clear I8 b8 hAZ FB
      have HK : Hid _ := taken2_any aZ cZ l0 w8 H8.out.2 HA.out.2
      go_wp2_with fail
      refine (Calls.mono HK.out) ?_
      rintro e y1 ⟨v1, rfl, I1⟩
      clear HK
      have B1 := I1.bel
      obtain ⟨aT, cT, ezT, hAT⟩ := I1.at kRr_ok
      subst ezT
      clear I1
      have HK : Hid _ := sameRg_yes aT a0 cT cap0 l0 y1 hAT (gat_later (below_then H8.out.1 B1) HA.out.1) (by have := HA.out.2; omega)
      go_wp2_with fail
      refine (Calls.mono HK.out) ?_
      rintro e y2 ⟨rfl, hb2⟩
      have B2 : Hid _ := below_then H8.out.1 (below_then B1 hb2)
      clear HK hAT hb2 B1 H8
      have HK : Hid _ := known15_any y2 (TblAt.later HT.out B2.out)
      go_wp2_with fail
      refine (Calls.mono HK.out) ?_
      rintro e y3 ⟨rfl, hb3⟩
      have F : Hid _ := below_then B2.out hb3
      clear HK hb3 B2
      go_wp2
      go_ret
      exact ⟨rfl, F.out⟩
    · have dX : (EX != 0) = true := by simpa using hX
      clear hX
      go_wp2_with fail
      refine (Calls.mono (known15_any wq (TblAt.later HT.out (HQ.out.1)))) ?_
      rintro e w9 ⟨rfl, b9⟩
      have F : Hid _ := below_then (HQ.out.1) b9
      clear b9 HQ
      go_wp2
      go_ret
      exact ⟨rfl, F.out⟩
  · have dP : (EP == 0) = false := by simpa using hPz
    clear hPz
    by_cases hX : EX = 0
    · subst hX
      have hb2 := HB.out.2 x rfl
      obtain ⟨_, cX, eX, hleX, -, hrX, hnX, -⟩ := Own.open (H7.out.2.2.1)
      simp only [Value.slice.injEq] at eX
      obtain ⟨rfl, rfl, rfl⟩ := eX
      have HK0 := prange_any a7 c7 x x2 hleX hrX hnX (by omega)
      rw [hb2] at HK0
      have HK : Hid _ := HK0
      have FB : Hid _ := H7.out.2.1
      clear HK0 hleX hrX hnX hb2 H7
      generalize x.length = XL at *
      go_wp2_with fail
      refine (Calls.mono HK.out) ?_
      rintro e w8 ⟨v8, rfl, I8⟩
      clear HK
      have b8 := I8.bel
      obtain ⟨aZ, cZ, eZ, hAZ⟩ := I8.at kRg_ok
      subst eZ
      have H8 : Hid _ := And.intro (below_then FB.out b8) hAZ
      clear I8 b8 hAZ FB
      have HK : Hid _ := taken2_any aZ cZ l0 w8 H8.out.2 HA.out.2
      go_wp2_with fail
      refine (Calls.mono HK.out) ?_
      rintro e y1 ⟨v1, rfl, I1⟩
      clear HK
      have B1 := I1.bel
      obtain ⟨aT, cT, ezT, hAT⟩ := I1.at kRr_ok
      subst ezT
      clear I1
      have HK : Hid _ := sameRg_yes aT a0 cT cap0 l0 y1 hAT (gat_later (below_then H8.out.1 B1) HA.out.1) (by have := HA.out.2; omega)
      go_wp2_with fail
      refine (Calls.mono HK.out) ?_
      rintro e y2 ⟨rfl, hb2⟩
      have B2 : Hid _ := below_then H8.out.1 (below_then B1 hb2)
      clear HK hAT hb2 B1 H8
      have HK : Hid _ := known15_any y2 (TblAt.later HT.out B2.out)
      go_wp2_with fail
      refine (Calls.mono HK.out) ?_
      rintro e y3 ⟨rfl, hb3⟩
      have F : Hid _ := below_then B2.out hb3
      clear HK hb3 B2
      go_wp2
      go_ret
      exact ⟨rfl, F.out⟩
    · have dX : (EX != 0) = true := by simpa using hX
      clear hX
      go_wp2_with fail
      refine (Calls.mono (known15_any x2 (TblAt.later HT.out (H7.out.2.1)))) ?_
      rintro e w9 ⟨rfl, b9⟩
      have F : Hid _ := below_then (H7.out.2.1) b9
      clear b9 H7
      go_wp2
      go_ret
      exact ⟨rfl, F.out⟩
end Go.Proofs.YtclpedjjboblpaaDoor

