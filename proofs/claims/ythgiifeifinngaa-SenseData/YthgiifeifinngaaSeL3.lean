/- The walk of SenseData. -/
import Derived.Test.YthgiifeifinngaaSe8
import Derived.Test.YthgiifeifinngaaDdA
namespace Go.Proofs.Ythgiifeifinngaa
open Go.RowKit
set_option linter.unusedVariables false
set_option linter.unusedSimpArgs false
set_option maxRecDepth 4000

theorem row_pre {w : World} {a : Option Addr} {l m : List (BitVec 8)} (h : Row w a (l ++ m)) : Row w a l := by
  rcases h with h | ⟨b, off, rfl, hc⟩
  · exact .inl (List.append_eq_nil_iff.1 h).1
  · refine .inr ⟨b, off, rfl, fun i hi => ?_⟩
    rw [hc i (by rw [List.length_append]; omega)]
    unfold bt
    rw [List.getD_eq_getElem?_getD, List.getD_eq_getElem?_getD, List.getElem?_append_left hi]
theorem sen_read {k a q : Int} (h : dtE k a q = 0) : rsE (senB k a q) = 0 ∧ rsV (senB k a q) 2 = k ∧ rsV (senB k a q) 12 = a ∧ rsV (senB k a q) 13 = q := by
  have hb : fromB 0 k 15 = true ∧ fromB 0 a 255 = true ∧ fromB 0 q 255 = true := by
    rcases Decidable.em (fromB 0 k 15 = true ∧ fromB 0 a 255 = true ∧ fromB 0 q 255 = true) with h1 | h1
    · exact h1
    · unfold dtE at h; rw [if_neg h1] at h; cases h
  have hk : 0 ≤ k ∧ k ≤ 15 := of_decide_eq_true hb.1
  have ha : 0 ≤ a ∧ a ≤ 255 := of_decide_eq_true hb.2.1
  have hq : 0 ≤ q ∧ q ≤ 255 := of_decide_eq_true hb.2.2
  have e2 : bt (senB k a q) 2 = k := by show ((b8 k).toNat : Int) = k; rw [b8_val]; omega
  have e12 : bt (senB k a q) 12 = a := by show ((b8 a).toNat : Int) = a; rw [b8_val]; omega
  have e13 : bt (senB k a q) 13 = q := by show ((b8 q).toNat : Int) = q; rw [b8_val]; omega
  have e : rsE (senB k a q) = 0 := by
    unfold rsE rsOk
    rw [if_neg (by simp [senB]), e2, e12, e13, decide_eq_true h, decide_eq_true rfl]
    rfl
  exact ⟨e, by unfold rsV; rw [if_pos e, e2], by unfold rsV; rw [if_pos e, e12], by unfold rsV; rw [if_pos e, e13]⟩
set_option maxHeartbeats 2000000 in
theorem senseData_walk (s k a q : Int) (l : List (BitVec 8)) (x : Option Addr) (cp : Nat) (a1 : Option Addr) (len1 cap1 : Nat) (l1 : List (BitVec 8)) (w : World) (B0 : I64 s ∧ I64 k ∧ I64 a ∧ I64 q ∧ DatOk w x l cp) (B1 : Arg 140737488351232 w a1 len1 cap1 l1) :
    Calls Try.prog 3 #[.agg #[.int .i64 s, .int .i64 k, .int .i64 a, .int .i64 q, .slice x l.length cp], .slice a1 len1 cap1] w fun e w' => e = .returned (.bool true) ∧ Below w.heap.size w w' := by
  clear B0
  generalize Value.slice x l.length cp = d
  have hlen1 := B1.len_eq
  subst hlen1
  have b0 : Below w.heap.size w (w.alloc (.cells #[.int .i64 s, .int .i64 k, .int .i64 a, .int .i64 q, d] 24)) := (Below.refl _ _).alloc (Nat.le_refl _) _
  have M0 := Blk.new' w 24 [.int .i64 s, .int .i64 k, .int .i64 a, .int .i64 q, d]
  obtain ⟨w0, hw0⟩ : ∃ w0, w0 = w.alloc (.cells #[.int .i64 s, .int .i64 k, .int .i64 a, .int .i64 q, d] 24) := ⟨_, rfl⟩
  rw [← hw0] at b0 M0
  have hq0 : l1.length ≤ 140737488351232 := Nat.le_trans B1.le B1.bound
  have HL : Hid _ := Lent_any a1 l1.length cap1 l1 w0 ⟨rfl, B1.le, B1.bound, B1.row.later b0, B1.isNil⟩
  have H0 : Hid _ := And.intro b0 (And.intro M0 (And.intro B1.row hq0))
  clear b0 M0 B1 hq0
  go_enter Try.func3, Try.ntmps3
  go_upto_region 1 with fail
  rw [← hw0]
  clear hw0
  go_wp2_with fail
  refine (Calls.mono HL.out) ?_
  rintro e w1 ⟨g, c, rfl, oL, -, hc1, -, b1⟩
  obtain ⟨aL, cL, eL, -, -, rL, -, -⟩ := oL.open
  simp only [Value.slice.injEq] at eL
  obtain ⟨rfl, -, -⟩ := eL
  have H1 : Hid _ := And.intro (And.intro rL hc1) (And.intro (H0.out.2.1.laterB b1) (below_then H0.out.1 b1))
  clear oL rL b1 HL
  have k0 := bk_at H1.out.2.1 0
  have k1 := bk_at H1.out.2.1 1
  have k2 := bk_at H1.out.2.1 2
  have k3 := bk_at H1.out.2.1 3
  have k4 := bk_at H1.out.2.1 4
  simp only [List.getElem?_cons_zero, List.getElem?_cons_succ] at k0 k1 k2 k3 k4
  have HD : Hid _ := data_any s k a q d w1
  go_wp2_with fail
  clear k0 k1 k2 k3 k4
  refine (Calls.mono HD.out) ?_
  rintro e w2 ⟨z2, rfl, o2, b2⟩
  have H2 : Hid _ := And.intro o2 (And.intro b2 (And.intro (H1.out.2.1.laterB b2) (below_then H1.out.2.2 b2)))
  clear o2 b2 HD
  have k0 := bk_at H2.out.2.2.1 0
  have k1 := bk_at H2.out.2.2.1 1
  have k2 := bk_at H2.out.2.2.1 2
  have k3 := bk_at H2.out.2.2.1 3
  have k4 := bk_at H2.out.2.2.1 4
  simp only [List.getElem?_cons_zero, List.getElem?_cons_succ] at k0 k1 k2 k3 k4
  have HD : Hid _ := rdata_any s k a q d w2
  go_wp2_with fail
  clear k0 k1 k2 k3 k4
  refine (Calls.mono HD.out) ?_
  rintro e w3 ⟨z3, rfl, o3, b3⟩
  have H3 : Hid _ := And.intro o3 (And.intro b3 (And.intro (H2.out.2.2.1.laterB b3) (below_then H2.out.2.2.2 b3)))
  clear o3 b3 HD
  have HR : Hid _ := read_any (some ⟨g, 0, none⟩) c l1 w3 (row_pre (H1.out.1.1.later (below_then H2.out.2.1 H3.out.2.1))) (by have := H0.out.2.2.2; omega)
  go_wp2_with fail
  refine (Calls.mono HR.out) ?_
  rintro e w4 ⟨rfl, b4⟩
  have H4 : Hid _ := And.intro b4 (below_then H3.out.2.2.2 b4)
  clear b4 HR
  have HR : Hid _ := rread_any a1 cap1 l1 w4 (H0.out.2.2.1.later H4.out.2) (by have := H0.out.2.2.2; omega)
  go_wp2_with fail
  refine (Calls.mono HR.out) ?_
  rintro e w5 ⟨rfl, b5⟩
  have P25 : Hid (Below w2.heap.size w2 w5) := below_then H3.out.2.1 (below_then H4.out.1 b5)
  have P35 : Hid (Below w3.heap.size w3 w5) := below_then H4.out.1 b5
  have P15 : Hid (Below w1.heap.size w1 w5) := below_then H2.out.2.1 P25.out
  have H5 : Hid _ := And.intro (H3.out.2.2.1.laterB P35.out) (below_then H4.out.2 b5)
  clear b5 HR
  obtain ⟨a2, n2, c2, rfl, hs2⟩ := ow_strs H2.out.1
  obtain ⟨a3, n3, c3, rfl, hs3⟩ := ow_strs H3.out.1
  have t2 := hs2 w5 P25.out
  have t3 := hs3 w5 P35.out
  clear hs2 hs3
  have HK : Hid _ := Kept_yes g l1.length c a1 cap1 l1 w5 rfl H1.out.1.2 H0.out.2.2.2 (H1.out.1.1.later P15.out) (H0.out.2.2.1.later H5.out.2)
  have HO2 : Hid _ := And.intro H2.out.1 P25.out
  clear H0 H1 H2 H3 H4 P25 P35 P15
  generalize rsV l1 2 = r2
  generalize rsV l1 12 = r12
  generalize rsV l1 13 = r13
  generalize rsE l1 = rE
  generalize hT : str (dtB k a q) = T at *
  clear hT
  go_wp2_with fail
  refine (Calls.mono HK.out) ?_
  rintro e x9 ⟨rfl, hx9⟩
  rw [hx9]
  clear hx9
  clear t2 t3 HK
  rcases dtE_cases k a q with h0 | h0
  · rw [h0]
    have O2 := HO2.out.1
    unfold dtB at O2
    rw [if_pos h0] at O2
    obtain ⟨_, c2', e2', -, -, r2', -, -⟩ := O2.open
    cases e2'
    have HR : Hid _ := read_any a2 c2 (senB k a q) w5 (r2'.later HO2.out.2) (by simp [senB])
    rw [(sen_read h0).1, (sen_read h0).2.1, (sen_read h0).2.2.1, (sen_read h0).2.2.2] at HR
    clear O2 r2' HO2
    go_wp2_with fail
    refine (Calls.mono HR.out) ?_
    rintro e w6 ⟨rfl, b6⟩
    have H6 : Hid _ := And.intro (H5.out.1.laterB b6) (below_then H5.out.2 b6)
    clear b6 HR H5
    have k1 := bk_at H6.out.1 1
    have k2 := bk_at H6.out.1 2
    have k3 := bk_at H6.out.1 3
    simp only [List.getElem?_cons_zero, List.getElem?_cons_succ] at k1 k2 k3
    go_wp2_with fail
    refine (Calls.mono (known16_any w6)) ?_
    rintro e w7 ⟨rfl, b7⟩
    have F : Hid _ := below_then H6.out.2 b7
    clear H6 b7 k1 k2 k3
    go_wp2
    go_ret
    exact ⟨rfl, F.out⟩
  · rw [h0]
    go_wp2_with fail
    refine (Calls.mono (known16_any w5)) ?_
    rintro e w7 ⟨rfl, b7⟩
    have F : Hid _ := below_then H5.out.2 b7
    clear H5 b7
    go_wp2
    go_ret
    exact ⟨rfl, F.out⟩
end Go.Proofs.Ythgiifeifinngaa
