/- The walk of TextCuts. -/
import Derived.Test.YtligmiajlbjecaaDoorXTx22
import Derived.Test.YtligmiajlbjecaaDoorXTx14
import Derived.Test.YtligmiajlbjecaaDoorXTx9
import Derived.Test.YtligmiajlbjecaaDoorXSumC
namespace Go.Proofs.YtligmiajlbjecaaDoor
open Go.RowKit
set_option linter.unusedVariables false
set_option linter.unusedSimpArgs false
set_option maxRecDepth 8000

/-- x[:k] of bytes -/
theorem slice_upto18 {w : World} {a : Option Addr} {n c : Nat} {l : List (BitVec 8)} (hr : Row w a l) (hl : l.length = n) (hc : n ≤ c) (hn : a = none → c = 0) (k : Nat) (hk : k ≤ n) :
    ∃ y, Row w y (l.take k) ∧ (∀ W : World, (Instr.sliceAt 23 (.slice a n c) none (some (.int .i64 (k : Int))) none).run Tryd.prog W = .ok (.slice y k c) W) ∧ (y = none → c = 0) := by
  have hrun : ∀ W : World, (Instr.sliceAt 23 (.slice a n c) none (some (.int .i64 (k : Int))) none).run Tryd.prog W = .ok (sliced a 0 k c 1) W := fun W => by
    rw [run_sliceAt_slice W _ _ _ _ _ elem_u8s18, run_slice_h W _ _ _ _ elem_u8s18 .i64 (k : Int) (by omega) (by omega), sz_u8_18]
    rfl
  unfold sliced at hrun
  refine ⟨_, ?_, hrun, ?_⟩
  · have hr2 : Row w a (l.take k) := by
      rcases hr with rfl | ⟨b, off, rfl, hcl⟩
      · exact .inl (by simp)
      · refine .inr ⟨b, off, rfl, fun i hi => ?_⟩
        rw [List.length_take] at hi
        rw [hcl i (by omega)]
        unfold bt
        simp [List.getD, List.getElem?_take, show i < k by omega]
    split
    · exact hr2
    · rcases hr2 with e | ⟨b, off, rfl, hcl⟩
      · exact .inl e
      · exact .inr ⟨b, off, by simp [Addr.add], hcl⟩
  · split
    · exact hn
    · intro h
      exact hn (by cases a <;> simp_all)
theorem puB_none {l : List Pr} (h : (puB l).length = 0) : l.length = 0 := by
  cases l with
  | nil => rfl
  | cons x l =>
    unfold puB at h
    rw [List.flatMap_cons, List.length_append, prB_len] at h
    omega
theorem puR18_facts {l : List Pr} {x : List (BitVec 8)} (h : puR18 l = (x, 0)) : x.length ≤ 20480 ∧ (x.length = 0 → l.length = 0) := by
  unfold puR18 at h
  split at h
  · cases h
  · rename_i h64
    split at h
    · rename_i ha
      cases h
      exact ⟨by have := puB_len ha; omega, puB_none⟩
    · cases h
theorem cut_last {x : List (BitVec 8)} {m : Nat} (h0 : ¬ m = 0) (hm : m ≤ x.length) : bt (x.take m) ((x.take m).length - 1) = bt x (m - 1) := by
  rw [List.length_take, Nat.min_eq_left hm]
  unfold bt
  simp [List.getD, List.getElem?_take, show m - 1 < m by omega]
set_option maxHeartbeats 16000000 in
theorem textCuts_walk (a0 : Option Addr) (len0 cap0 : Nat) (l : List Pr) (n : Int) (w : World) (hP : PowT w) (B0 : PrArg w a0 len0 cap0 l) (hn : -9223372036854775808 ≤ n ∧ n ≤ 9223372036854775807) :
    Calls Tryd.prog 7 #[.slice a0 len0 cap0, .int .i64 n] w fun e w' => e = .returned (.bool true) ∧ Below w.heap.size w w' := by
  obtain ⟨hlen0, hA0, hf0, hs0⟩ := B0
  subst hlen0
  have HA : Hid _ := And.intro hA0 (And.intro hf0 hs0)
  have HP : Hid _ := hP
  clear hA0 hf0 hs0 hP
  have HG : Hid _ := given18_any a0 cap0 l w HA.out.1 HA.out.2.1
  obtain ⟨nl, hnl⟩ : ∃ nl, nl = l.length := ⟨_, rfl⟩
  rw [← hnl] at HG ⊢
  have HNL : Hid _ := hnl
  clear hnl
  have hnlb : nl ≤ 140737488355328 := by have := HA.out.2.1; have := HNL.out; omega
  go_enter Tryd.func7, Tryd.ntmps7
  go_wp2_with fail
  refine (Calls.mono (HG.out)) ?_
  rintro e w1 ⟨v1, rfl, I1⟩
  clear HG
  obtain ⟨a1, c1, ez, hA1⟩ := I1.at kPr_ok
  subst ez
  have H1 : Hid _ := I1.bel
  have HK0 := tPut_any a1 c1 l w1 hA1 (by have := HNL.out; omega)
  rw [← HNL.out] at HK0 ⊢
  have HK : Hid _ := HK0
  clear I1 hA1 HK0
  go_wp2_with fail
  refine (Calls.mono (HK.out)) ?_
  rintro e w2 ⟨z, rfl, o2, b2⟩
  clear HK
  obtain ⟨P, hPu⟩ : ∃ P, puR18 l = P := ⟨_, rfl⟩
  obtain ⟨x, E⟩ := P
  rw [hPu] at o2 ⊢
  simp only at o2 ⊢
  have HPu : Hid _ := hPu
  clear hPu
  obtain ⟨az, cz, rfl, hzc, hzm, hrz, hzn, hzg⟩ := o2.open
  have H2 : Hid _ := And.intro (below_then H1.out b2) (And.intro hrz (And.intro hzn hzc))
  clear o2 hrz hzn hzc hzg b2 H1
  by_cases hE : E = 0
  · subst hE
    obtain ⟨hx1, hx0⟩ := puR18_facts HPu.out
    obtain ⟨nx, hnx⟩ : ∃ nx, nx = x.length := ⟨_, rfl⟩
    rw [← hnx] at hx1 hx0 ⊢
    rw [← HNL.out] at hx0
    have HNX : Hid _ := hnx
    have HX0 : Hid _ := hx0
    clear hnx hx0
    by_cases hz : nx = 0
    · have hl0 := HX0.out hz
      subst hz
      subst hl0
      have FK : Hid _ := H2.out.1
      clear HX0 hx1 HPu H2 HNL HNX
      go_wp2_with fail
      refine (Calls.mono (known18_any w2 (PowT.later HP.out FK.out))) ?_
      rintro e w9 ⟨rfl, b9⟩
      have F : Hid _ := below_then FK.out b9
      clear b9 FK
      go_wp2
      go_ret
      exact ⟨rfl, F.out⟩
    · have hzf : ((nx : Int) == 0) = false := by simp; omega
      have w1' : IntKind.i64.wrap ((nx : Int) + 1) = ((nx + 1 : Nat) : Int) := by rw [IntKind.wrap_i64]; omega
      have HC : Hid (∀ W, _) := fun W => ct_any n (nx + 1) W hn (by omega) (by omega)
      go_wp2_with fail
      refine (Calls.mono (HC.out _)) ?_
      rintro e _ ⟨m, rfl, hm, rfl⟩
      clear HC
      have hnc : nx ≤ cz := by have := H2.out.2.2.2; have := HNX.out; omega
      obtain ⟨y, hy1, hy2, hy3⟩ := slice_upto18 H2.out.2.1 HNX.out.symm hnc H2.out.2.2.1 m (by omega)
      have HLT : Hid ((x.take m).length = m) := (by have := HNX.out; rw [List.length_take]; omega : (x.take m).length = m)
      have hcz : m ≤ cz := by omega
      have HT : Hid _ := tGet_any y cz (x.take m) w2 (by rw [HLT.out]; exact hcz) hy1 hy3 (by have := HLT.out; omega)
      have HY : Hid _ := And.intro hy1 (And.intro hy2 hy3)
      rw [HLT.out] at HT
      go_wp2_with (refine wpList_value rfl (exec_slice18 rfl rfl (HY.out.2.1 _)) ?_)
      refine (Calls.mono HT.out) ?_
      rintro e w3 ⟨v3, rfl, I3⟩
      clear HT
      have HR0 := rGet_any y cz (x.take m) w3 (by rw [HLT.out]; exact hcz) (HY.out.1.later I3.bel) HY.out.2.2 (by have := HLT.out; omega)
      rw [HLT.out] at HR0
      have HT : Hid _ := HR0
      obtain ⟨a3, c3, ez, hA3⟩ := I3.at kPr_ok
      subst ez
      have H3 : Hid _ := And.intro I3.bel hA3
      clear I3 hA3 HR0
      go_wp2_with (refine wpList_value rfl (exec_slice18 rfl rfl (HY.out.2.1 _)) ?_)
      refine (Calls.mono HT.out) ?_
      rintro e w4 ⟨v4, rfl, I4⟩
      clear HT
      obtain ⟨a4, c4, ez, hA4⟩ := I4.at kRp_ok
      subst ez
      have hq := gtR_few (us (x.take m))
      have H4 : Hid _ := And.intro (below_then H3.out.1 I4.bel) (And.intro (gat_later I4.bel H3.out.2) hA4)
      clear I4 hA4 H3
      have hwh : m = 0 ∨ (¬ m = 0 ∧ bt x (m - 1) = 0) ∨ (¬ m = 0 ∧ ¬ bt x (m - 1) = 0 ∧ gtR (us (x.take m)) = ([], 10)) := by
        by_cases h0 : m = 0
        · exact .inl h0
        · by_cases hb : bt x (m - 1) = 0
          · exact .inr (.inl ⟨h0, hb⟩)
          · exact .inr (.inr ⟨h0, hb, gtR_short (by have := HLT.out; omega) (by have := HNX.out; rw [cut_last h0 (by omega)]; exact hb)⟩)
      have HWH : Hid _ := hwh
      clear hwh
      obtain ⟨Q, hQ⟩ : ∃ Q, gtR (us (x.take m)) = Q := ⟨_, rfl⟩
      rw [hQ] at H4 hq HWH ⊢
      clear hQ
      obtain ⟨p, EP⟩ := Q
      simp only at H4 hq ⊢
      have HK0 := taken18_any a3 c3 p w4 H4.out.2.1 (by omega)
      obtain ⟨np, hnp⟩ : ∃ np, np = p.length := ⟨_, rfl⟩
      rw [← hnp] at HK0 hq ⊢
      have HNP : Hid _ := hnp
      have HK : Hid _ := HK0
      clear HK0 hnp
      go_wp2_with fail
      refine (Calls.mono (HK.out)) ?_
      rintro e w5 ⟨v5, rfl, I5⟩
      clear HK
      obtain ⟨a5, c5, ez, hA5⟩ := I5.at kRp_ok
      subst ez
      have HK0 := samePr_yes a5 a4 c5 c4 p w5 hA5 (gat_later I5.bel H4.out.2.2) (by have := HNP.out; omega)
      rw [← HNP.out] at HK0 ⊢
      have HK : Hid _ := HK0
      have H5 : Hid _ := below_then H4.out.1 I5.bel
      clear HK0 I5 hA5
      go_wp2_with fail
      refine (Calls.mono (HK.out)) ?_
      rintro e w6 ⟨rfl, b6⟩
      clear HK
      have H6 : Hid _ := below_then H2.out.1 (below_then H5.out b6)
      skip
      have hby : ¬ m = 0 → ∃ b off, az = some ⟨b, off, none⟩ ∧ w6.cell? ⟨b, off + (m - 1), none⟩ = some (.int .u8 (bt x (m - 1))) := by
        intro h0
        rcases H2.out.2.1 with e | ⟨b, off, e1, hcc⟩
        · have e2 := HNX.out; rw [e] at e2; simp at e2; omega
        · exact ⟨b, off, e1, rcell (below_then H5.out b6) (hcc (m - 1) (by have := HNX.out; omega))⟩
      clear b6 H5 HNX HX0 HPu HNL HLT HNP
      have HBY : Hid _ := hby
      clear hby
      rcases HWH.out with rfl | ⟨h0, hb⟩ | ⟨h0, hb, hg⟩
      · have FK : Hid _ := H6.out
        clear H2 H4 HY HBY H6 HWH
        go_wp2_with fail
        refine (Calls.mono (known18_any w6 (PowT.later HP.out FK.out))) ?_
        rintro e w9 ⟨rfl, b9⟩
        have F : Hid _ := below_then FK.out b9
        clear b9 FK
        go_wp2
        go_ret
        exact ⟨rfl, F.out⟩
      · have w2' : IntKind.i64.wrap ((m : Int) - 1) = ((m - 1 : Nat) : Int) := by rw [IntKind.wrap_i64]; omega
        have zm : ((m : Int) == 0) = false := by simp; omega
        have r1 : m - 1 < nx := by omega
        obtain ⟨b, off, rfl, hcc⟩ := HBY.out h0
        rw [hb] at hcc
        have FK : Hid _ := H6.out
        clear H2 H4 HY HBY H6 HWH
        go_wp2_with fail
        refine (Calls.mono (known18_any w6 (PowT.later HP.out FK.out))) ?_
        rintro e w9 ⟨rfl, b9⟩
        have F : Hid _ := below_then FK.out b9
        clear b9 FK
        go_wp2
        go_ret
        exact ⟨rfl, F.out⟩
      · have w2' : IntKind.i64.wrap ((m : Int) - 1) = ((m - 1 : Nat) : Int) := by rw [IntKind.wrap_i64]; omega
        have zm : ((m : Int) == 0) = false := by simp; omega
        have r1 : m - 1 < nx := by omega
        obtain ⟨b, off, rfl, hcc⟩ := HBY.out h0
        cases hg
        have zb : (bt x (m - 1) == 0) = false := by simpa using hb
        generalize bt x (m - 1) = B at *
        have FK : Hid _ := H6.out
        clear H2 H4 HY HBY H6 HWH
        go_wp2_with fail
        refine (Calls.mono (known18_any w6 (PowT.later HP.out FK.out))) ?_
        rintro e w9 ⟨rfl, b9⟩
        have F : Hid _ := below_then FK.out b9
        clear b9 FK
        go_wp2
        go_ret
        exact ⟨rfl, F.out⟩
  · have dE : (E != 0) = true := by simpa using hE
    have FK : Hid _ := H2.out.1
    clear H2 hE HPu HNL
    go_wp2_with fail
    refine (Calls.mono (known18_any w2 (PowT.later HP.out FK.out))) ?_
    rintro e w9 ⟨rfl, b9⟩
    have F : Hid _ := below_then FK.out b9
    clear b9 FK
    go_wp2
    go_ret
    exact ⟨rfl, F.out⟩
end Go.Proofs.YtligmiajlbjecaaDoor

