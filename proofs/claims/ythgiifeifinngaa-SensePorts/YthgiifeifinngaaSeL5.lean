/- The walk of SensePorts. -/
import Derived.Test.YthgiifeifinngaaSe13
import Derived.Test.YthgiifeifinngaaWrap
namespace Go.Proofs.Ythgiifeifinngaa
open Go.RowKit
set_option linter.unusedVariables false
set_option linter.unusedSimpArgs false
set_option maxRecDepth 4000

theorem row_fore {w : World} {a : Option Addr} {l m : List (BitVec 8)} (h : Row w a (l ++ m)) : Row w a l := by
  rcases h with h | ⟨b, off, rfl, hc⟩
  · exact .inl (List.append_eq_nil_iff.1 h).1
  · refine .inr ⟨b, off, rfl, fun i hi => ?_⟩
    rw [hc i (by rw [List.length_append]; omega)]
    unfold bt
    rw [List.getD_eq_getElem?_getD, List.getD_eq_getElem?_getD, List.getElem?_append_left hi]
theorem ptbs_at (l : List Int) : ∀ (k j : Nat), j < k → (ptbs l k)[12 * j]? = some (b8 (l.getD j 0))
  | 0, j, h => by omega
  | k + 1, j, h => by
    have hl := ptbs_len l k
    rw [ptbs]
    by_cases hj : j < k
    · rw [List.getElem?_append_left (by omega)]
      exact ptbs_at l k j hj
    · obtain rfl : j = k := by omega
      rw [List.getElem?_append_right (by omega), hl, Nat.sub_self]
      rfl
theorem st_back {l : List Int} (h : ptE l = 0) : ssE (ptB l) (stK (ptB l).length) = 0 ∧ ssL (ptB l) (stK (ptB l).length) = l := by
  have hb := ptB_len h
  have hB : ptB l = be 4 (BitVec.ofInt 64 ((l.length : Int) * 12)) ++ ptbs l l.length := if_pos h
  have hal : l.all stOk = true := by
    rcases hx : l.all stOk with _ | _
    · have := (pt_1 (l := l) (by omega) hx).out.1; rw [h] at this; cases this
    · rfl
  have hK : stK (ptB l).length = l.length := by rw [hb.1]; unfold stK; omega
  have hs : sts (ptB l) l.length = l := by
    apply List.ext_getElem
    · rw [sts_len]
    · intro j h1 h2
      simp only [sts, List.getElem_map, List.getElem_range]
      unfold bt
      rw [List.getD_eq_getElem?_getD, hB, List.getElem?_append_right (by rw [be4_len]; omega), be4_len, show 4 + 12 * j - 4 = 12 * j by omega, ptbs_at l l.length j h2, getD_at h2]
      show ((b8 l[j]).toNat : Int) = l[j]
      rw [b8_val]
      have h3 : stOk l[j] = true := List.all_eq_true.1 hal _ (List.getElem_mem h2)
      have h4 : l[j] = 0 ∨ l[j] = 2 ∨ l[j] = 14 ∨ l[j] = 15 := of_decide_eq_true h3
      omega
  have hS : stS (ptB l) = false := by
    unfold stS
    apply decide_eq_false
    rw [hb.1]
    have e : numTo (ptB l) 0 4 = BitVec.ofInt 64 ((l.length : Int) * 12) := by
      unfold numTo
      rw [hB, List.drop_zero, List.take_left' (be4_len _)]
      exact num_be 4 (by omega) _ (fits_4 (by omega))
    rw [e, BitVec.toNat_ofInt]
    simp
    omega
  have hG : stG (ptB l) l.length = true := by
    unfold stG
    rw [hs, decide_eq_true h, decide_eq_true rfl]; rfl
  rw [hK]
  have r := ss_0 hS hG
  exact ⟨r.out.1, by rw [r.out.2, hs]⟩
theorem VArg.lat {k : IntKind} {w w' : World} {a : Option Addr} {len cap : Nat} {l : List Int} (h : VArg k w a len cap l) (hb : Below w.heap.size w w') : VArg k w' a len cap l :=
  ⟨h.num, h.le, h.most, fun h0 => by obtain ⟨b, off, e, hc⟩ := h.each h0; exact ⟨b, off, e, fun i hi => cl_later (hc i hi) hb⟩, h.wf⟩
theorem ssL_wf (l : List (BitVec 8)) (k : Nat) : ∀ n ∈ ssL l k, (Lit.int .i64 n).wf = true := by
  unfold ssL
  split
  · exact sts_wf l k
  · intro n hn; cases hn
set_option maxHeartbeats 2000000 in
theorem sensePorts_walk (a0 : Option Addr) (len0 cap0 : Nat) (l0 : List Int) (a1 : Option Addr) (len1 cap1 : Nat) (l1 : List (BitVec 8)) (w : World) (V : VArg .i64 w a0 len0 cap0 l0) (B1 : Arg 140737488351232 w a1 len1 cap1 l1) :
    Calls Try.prog 7 #[.slice a0 len0 cap0, .slice a1 len1 cap1] w fun e w' => e = .returned (.bool true) ∧ Below w.heap.size w w' := by
  have hlen1 := B1.len_eq
  subst hlen1
  obtain rfl := V.num
  have hq0 : l1.length ≤ 140737488351232 := Nat.le_trans B1.le B1.bound
  have HL : Hid _ := Lent_any a1 l1.length cap1 l1 w B1
  have H0 : Hid _ := And.intro V (And.intro B1.row hq0)
  clear B1 hq0 V
  go_enter Try.func7, Try.ntmps7
  go_wp2_with fail
  refine (Calls.mono HL.out) ?_
  rintro e w1 ⟨g, c, rfl, oL, -, hc1, -, b1⟩
  obtain ⟨aL, cL, eL, -, -, rL, -, -⟩ := oL.open
  simp only [Value.slice.injEq] at eL
  obtain ⟨rfl, -, -⟩ := eL
  have H1 : Hid _ := And.intro (And.intro rL hc1) b1
  clear oL rL b1 HL
  have HP : Hid _ := ports_any a0 cap0 l0 w1 (H0.out.1.lat H1.out.2)
  go_wp2_with fail
  refine (Calls.mono HP.out) ?_
  rintro e w2 ⟨z2, rfl, o2, b2⟩
  have H2 : Hid _ := And.intro o2 (And.intro b2 (below_then H1.out.2 b2))
  clear o2 b2 HP
  have HP : Hid _ := rports_any a0 cap0 l0 w2 (H0.out.1.lat H2.out.2.2)
  go_wp2_with fail
  refine (Calls.mono HP.out) ?_
  rintro e w3 ⟨z3, rfl, o3, b3⟩
  have H3 : Hid _ := And.intro o3 (And.intro b3 (below_then H2.out.2.2 b3))
  clear o3 b3 HP
  have HS : Hid _ := states_any (some ⟨g, 0, none⟩) c l1 w3 (row_fore (H1.out.1.1.later (below_then H2.out.2.1 H3.out.2.1))) H0.out.2.2
  go_wp2_with fail
  refine (Calls.mono HS.out) ?_
  rintro e w4 ⟨z4, rfl, o4, b4⟩
  have H4 : Hid _ := And.intro o4 (And.intro b4 (below_then H3.out.2.2 b4))
  clear o4 b4 HS
  have HS0 := rstates_any a1 cap1 l1 w4 (H0.out.2.1.later H4.out.2.2) H0.out.2.2
  rw [(ss_both l1).1, (ss_both l1).2] at HS0
  have HS : Hid _ := HS0
  clear HS0
  go_wp2_with fail
  refine (Calls.mono HS.out) ?_
  rintro e w5 ⟨z5, rfl, o5, b5⟩
  have H5 : Hid _ := And.intro o5 (And.intro b5 (below_then H4.out.2.2 b5))
  clear o5 b5 HS
  have hwf := ssL_wf l1 (stK l1.length)
  generalize ssL l1 (stK l1.length) = SL at *
  generalize ssE l1 (stK l1.length) = SE at *
  obtain ⟨a4, c4, rfl, V4⟩ := INum.arg H4.out.1 hwf
  obtain ⟨a5, c5, rfl, V5⟩ := INum.arg H5.out.1 hwf
  have P35 : Hid (Below w3.heap.size w3 w5) := below_then H4.out.2.1 H5.out.2.1
  have P25 : Hid (Below w2.heap.size w2 w5) := below_then H3.out.2.1 P35.out
  have P15 : Hid (Below w1.heap.size w1 w5) := below_then H2.out.2.1 P25.out
  obtain ⟨a2, n2, c2, rfl, hs2⟩ := ow_strs H2.out.1
  obtain ⟨a3, n3, c3, rfl, hs3⟩ := ow_strs H3.out.1
  have t2 := hs2 w5 P25.out
  have t3 := hs3 w5 P35.out
  clear hs2 hs3
  have HM : Hid _ := same16_yes a4 a5 c4 c5 SL w5 (V4.lat H5.out.2.1) V5
  clear V4 V5 hwf
  have HO2 : Hid _ := And.intro H2.out.1 P25.out
  generalize str (ptB l0) = T at *
  have HKK : Hid (∀ x, Below w5.heap.size w5 x → _) := fun x (bx : Below w5.heap.size w5 x) => Kept_yes g l1.length c a1 cap1 l1 x rfl H1.out.1.2 H0.out.2.2 (H1.out.1.1.later (below_then P15.out bx)) (H0.out.2.1.later (below_then H5.out.2.2 bx))
  have HB5 : Hid _ := H5.out.2.2
  have HV : Hid _ := H0.out.1
  clear H0 H1 H2 H3 H4 H5 P15 P25 P35
  go_wp2_with fail
  refine (Calls.mono HM.out) ?_
  rintro e w6 ⟨rfl, b6⟩
  have HK : Hid _ := HKK.out w6 b6
  have H6 : Hid _ := And.intro b6 (below_then HB5.out b6)
  clear HM b6 HB5 HKK
  go_wp2_with fail
  refine (Calls.mono HK.out) ?_
  rintro e x9 ⟨rfl, hx9⟩
  rw [hx9]
  clear hx9 x9 t2 t3 HK
  rcases Decidable.em (ptE l0 = 0) with hE | hE
  · obtain ⟨_, c2', e2', -, -, r2', -, -⟩ := Own.open HO2.out.1
    simp only [Value.slice.injEq] at e2'
    obtain ⟨rfl, rfl, rfl⟩ := e2'
    have hlb := ptB_len hE
    have HS0 := states_any a2 c2 (ptB l0) w6 (r2'.later (below_then HO2.out.2 H6.out.1)) (by omega)
    rw [(st_back hE).1, (st_back hE).2] at HS0
    have HS : Hid _ := HS0
    rw [hE]
    clear HS0 r2' HO2 hlb
    generalize (ptB l0).length = PL at *
    go_wp2_with fail
    refine (Calls.mono HS.out) ?_
    rintro e w7 ⟨z7, rfl, o7, b7⟩
    obtain ⟨a7, c7, rfl, V7⟩ := INum.arg o7 HV.out.wf
    have HM : Hid _ := same16_yes a7 a0 c7 cap0 l0 w7 V7 (HV.out.lat (below_then H6.out.2 b7))
    have H7 : Hid _ := below_then H6.out.2 b7
    clear V7 o7 b7 HS
    go_wp2_with fail
    refine (Calls.mono HM.out) ?_
    rintro e w8 ⟨rfl, b8⟩
    have H8 : Hid _ := below_then H7.out b8
    clear b8 HM H7
    go_wp2_with fail
    refine (Calls.mono (known16_any w8)) ?_
    rintro e w9 ⟨rfl, b9⟩
    have F : Hid _ := below_then H8.out b9
    clear H8 b9
    go_wp2
    go_ret
    exact ⟨rfl, F.out⟩
  · have d2 : (ptE l0 != 0) = true := by simpa using hE
    generalize ptE l0 = PE at *
    go_wp2_with fail
    refine (Calls.mono (known16_any w6)) ?_
    rintro e w9 ⟨rfl, b9⟩
    have F : Hid _ := below_then H6.out.2 b9
    clear H6 b9
    go_wp2
    go_ret
    exact ⟨rfl, F.out⟩
end Go.Proofs.Ythgiifeifinngaa
