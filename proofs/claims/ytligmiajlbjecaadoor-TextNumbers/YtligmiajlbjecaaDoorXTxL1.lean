/- The walk of TextNumbers. -/
import Derived.Test.YtligmiajlbjecaaDoorXTx3
import Derived.Test.YtligmiajlbjecaaDoorXTx5
import Derived.Test.YtligmiajlbjecaaDoorXTx9
namespace Go.Proofs.YtligmiajlbjecaaDoor
open Go.RowKit
set_option linter.unusedVariables false
set_option linter.unusedSimpArgs false
set_option maxRecDepth 8000

theorem str_back (s : ByteArray) : (⟨s.data.toList.toArray⟩ : ByteArray) = s := by
  cases s with
  | mk d => simp
theorem dg_back {l : List UInt8} (h : numOk l = true) : dgT ((vl l : Nat) : Int) = l := by
  obtain ⟨hg, hv⟩ := (numOk_iff l).1 h
  unfold dgT
  rw [if_pos (by omega), Int.toNat_natCast]
  exact good_back _ l rfl hg
theorem nu_back {n : Int} (h : 0 ≤ n ∧ n ≤ 16777215) : nuR (dgT n) = (n, 0) := by
  unfold dgT
  rw [if_pos h]
  have hk : numOk (Lib.decDigits n.toNat) = true := (numOk_iff _).2 ⟨dd_good _, by rw [dd_vl]; omega⟩
  rw [nuR_ok hk, dd_vl]
  congr 1
  omega
theorem dg_ne {n : Int} (h : 0 ≤ n ∧ n ≤ 16777215) : (⟨(dgT n).toArray⟩ : ByteArray).toList.isEmpty = false := by
  unfold dgT
  rw [if_pos h, ByteArray.toList_eq]
  cases hh : Lib.decDigits n.toNat with
  | nil => exact absurd hh (dd_ne _)
  | cons a b => rfl
set_option maxHeartbeats 8000000 in
theorem textNumbers_walk (s : ByteArray) (n : Int) (w : World) (hP : PowT w) (ws : s.size ≤ maxLen) (hn : -9223372036854775808 ≤ n ∧ n ≤ 9223372036854775807) : Calls Tryd.prog 4 #[.string s, .int .i64 n] w fun e w' => e = .returned (.bool true) ∧ Below w.heap.size w w' := by
  have HP : Hid (∀ X, Below w.heap.size w X → PowT X) := fun X bX => hP.later bX
  have hsb : s.size ≤ 9223372036854775807 := by unfold maxLen at ws; omega
  have HN : Hid _ := tNumber_any s w
  have HR : Hid (∀ X, _) := fun X => rNumber_any s X hsb
  have HD : Hid (∀ X, PowT X → _) := fun X hX => tDigits_any n X hX
  have HE : Hid (∀ X, _) := fun X => rDigits_any n X
  have HV : Hid (∀ X, PowT X → _) := fun X hX => tDigits_any ((vl s.data.toList : Nat) : Int) X hX
  have HB : Hid (∀ X, _) := fun X => tNumber_any ⟨(dgT n).toArray⟩ X
  clear hP ws hsb
  by_cases hok : numOk s.data.toList = true
  · by_cases hrg : 0 ≤ n ∧ n ≤ 16777215
    · have e1 := nuR_ok hok
      have e2 : (⟨(dgT ((vl s.data.toList : Nat) : Int)).toArray⟩ : ByteArray) = s := by rw [dg_back hok]; first | done | exact str_back s
      simp only [e1] at HN HR
      simp only [e2] at HV
      clear e1 e2 hok
      have e3 : nuR (⟨(dgT n).toArray⟩ : ByteArray).data.toList = (n, 0) := nu_back hrg
      simp only [e3] at HB
      have d0 := dg_ne hrg
      clear e3 hrg
      generalize (⟨(dgT n).toArray⟩ : ByteArray) = S at *
      generalize ((vl s.data.toList : Nat) : Int) = V at *
      go_enter Tryd.func4, Tryd.ntmps4
      go_wp2_with fail
      refine (Calls.mono HN.out) ?_
      rintro e w1 ⟨rfl, b1⟩
      clear HN
      go_wp2_with fail
      refine (Calls.mono (HR.out w1)) ?_
      rintro e _ ⟨rfl, rfl⟩
      clear HR
      go_wp2_with fail
      refine (Calls.mono (HD.out w1 (HP.out w1 b1))) ?_
      rintro e w2 ⟨rfl, b2⟩
      have F2 : Hid _ := below_then b1 b2
      clear b1 b2 HD
      go_wp2_with fail
      refine (Calls.mono (HE.out w2)) ?_
      rintro e w3 ⟨rfl, b3⟩
      have F3 : Hid _ := below_then F2.out b3
      clear b3 HE F2
      go_wp2_with fail
      refine (Calls.mono (HV.out w3 (HP.out w3 F3.out))) ?_
      rintro e w4 ⟨rfl, b4⟩
      have F4 : Hid _ := below_then F3.out b4
      clear b4 HV F3
      go_wp2_with fail
      refine (Calls.mono (HB.out w4)) ?_
      rintro e w5 ⟨rfl, b5⟩
      have F5 : Hid _ := below_then F4.out b5
      clear b5 HB F4
      go_wp2_with fail
      refine (Calls.mono (known18_any w5 (HP.out w5 F5.out))) ?_
      rintro e w9 ⟨rfl, b9⟩
      have F9 : Hid _ := below_then F5.out b9
      clear b9 F5
      go_wp2
      go_ret
      exact ⟨rfl, F9.out⟩
    · have e1 := nuR_ok hok
      have e2 : (⟨(dgT ((vl s.data.toList : Nat) : Int)).toArray⟩ : ByteArray) = s := by rw [dg_back hok]; first | done | exact str_back s
      simp only [e1] at HN HR
      simp only [e2] at HV
      clear e1 e2 hok
      have e3 : (⟨(dgT n).toArray⟩ : ByteArray) = ⟨#[]⟩ := by unfold dgT; rw [if_neg hrg]
      simp only [e3] at HD HE
      clear e3 HB
      have hr2 : n < 0 ∨ (¬ n < 0 ∧ 16777215 < n) := by omega
      clear hrg
      generalize ((vl s.data.toList : Nat) : Int) = V at *
      go_enter Tryd.func4, Tryd.ntmps4
      go_wp2_with fail
      refine (Calls.mono HN.out) ?_
      rintro e w1 ⟨rfl, b1⟩
      clear HN
      go_wp2_with fail
      refine (Calls.mono (HR.out w1)) ?_
      rintro e _ ⟨rfl, rfl⟩
      clear HR
      go_wp2_with fail
      refine (Calls.mono (HD.out w1 (HP.out w1 b1))) ?_
      rintro e w2 ⟨rfl, b2⟩
      have F2 : Hid _ := below_then b1 b2
      clear b1 b2 HD
      go_wp2_with fail
      refine (Calls.mono (HE.out w2)) ?_
      rintro e w3 ⟨rfl, b3⟩
      have F3 : Hid _ := below_then F2.out b3
      clear b3 HE F2
      go_wp2_with fail
      refine (Calls.mono (HV.out w3 (HP.out w3 F3.out))) ?_
      rintro e w4 ⟨rfl, b4⟩
      have F4 : Hid _ := below_then F3.out b4
      clear b4 HV F3
      rcases hr2 with hr2 | ⟨hr2, hr3⟩
      · go_wp2_with fail
        refine (Calls.mono (known18_any w4 (HP.out w4 F4.out))) ?_
        rintro e w9 ⟨rfl, b9⟩
        have F9 : Hid _ := below_then F4.out b9
        clear b9 F4
        go_wp2
        go_ret
        exact ⟨rfl, F9.out⟩
      · go_wp2_with fail
        refine (Calls.mono (known18_any w4 (HP.out w4 F4.out))) ?_
        rintro e w9 ⟨rfl, b9⟩
        have F9 : Hid _ := below_then F4.out b9
        clear b9 F4
        go_wp2
        go_ret
        exact ⟨rfl, F9.out⟩
  · by_cases hrg : 0 ≤ n ∧ n ≤ 16777215
    · have e1 := nuR_no (by simpa using hok)
      simp only [e1] at HN HR
      clear e1 hok HV
      have e3 : nuR (⟨(dgT n).toArray⟩ : ByteArray).data.toList = (n, 0) := nu_back hrg
      simp only [e3] at HB
      have d0 := dg_ne hrg
      clear e3 hrg
      generalize (⟨(dgT n).toArray⟩ : ByteArray) = S at *
      go_enter Tryd.func4, Tryd.ntmps4
      go_wp2_with fail
      refine (Calls.mono HN.out) ?_
      rintro e w1 ⟨rfl, b1⟩
      clear HN
      go_wp2_with fail
      refine (Calls.mono (HR.out w1)) ?_
      rintro e _ ⟨rfl, rfl⟩
      clear HR
      go_wp2_with fail
      refine (Calls.mono (HD.out w1 (HP.out w1 b1))) ?_
      rintro e w2 ⟨rfl, b2⟩
      have F2 : Hid _ := below_then b1 b2
      clear b1 b2 HD
      go_wp2_with fail
      refine (Calls.mono (HE.out w2)) ?_
      rintro e w3 ⟨rfl, b3⟩
      have F3 : Hid _ := below_then F2.out b3
      clear b3 HE F2
      go_wp2_with fail
      refine (Calls.mono (HB.out w3)) ?_
      rintro e w5 ⟨rfl, b5⟩
      have F5 : Hid _ := below_then F3.out b5
      clear b5 HB F3
      go_wp2_with fail
      refine (Calls.mono (known18_any w5 (HP.out w5 F5.out))) ?_
      rintro e w9 ⟨rfl, b9⟩
      have F9 : Hid _ := below_then F5.out b9
      clear b9 F5
      go_wp2
      go_ret
      exact ⟨rfl, F9.out⟩
    · have e1 := nuR_no (by simpa using hok)
      simp only [e1] at HN HR
      clear e1 hok HV
      have e3 : (⟨(dgT n).toArray⟩ : ByteArray) = ⟨#[]⟩ := by unfold dgT; rw [if_neg hrg]
      simp only [e3] at HD HE
      clear e3 HB
      have hr2 : n < 0 ∨ (¬ n < 0 ∧ 16777215 < n) := by omega
      clear hrg
      go_enter Tryd.func4, Tryd.ntmps4
      go_wp2_with fail
      refine (Calls.mono HN.out) ?_
      rintro e w1 ⟨rfl, b1⟩
      clear HN
      go_wp2_with fail
      refine (Calls.mono (HR.out w1)) ?_
      rintro e _ ⟨rfl, rfl⟩
      clear HR
      go_wp2_with fail
      refine (Calls.mono (HD.out w1 (HP.out w1 b1))) ?_
      rintro e w2 ⟨rfl, b2⟩
      have F2 : Hid _ := below_then b1 b2
      clear b1 b2 HD
      go_wp2_with fail
      refine (Calls.mono (HE.out w2)) ?_
      rintro e w3 ⟨rfl, b3⟩
      have F3 : Hid _ := below_then F2.out b3
      clear b3 HE F2
      rcases hr2 with hr2 | ⟨hr2, hr3⟩
      · go_wp2_with fail
        refine (Calls.mono (known18_any w3 (HP.out w3 F3.out))) ?_
        rintro e w9 ⟨rfl, b9⟩
        have F9 : Hid _ := below_then F3.out b9
        clear b9 F3
        go_wp2
        go_ret
        exact ⟨rfl, F9.out⟩
      · go_wp2_with fail
        refine (Calls.mono (known18_any w3 (HP.out w3 F3.out))) ?_
        rintro e w9 ⟨rfl, b9⟩
        have F9 : Hid _ := below_then F3.out b9
        clear b9 F3
        go_wp2
        go_ret
        exact ⟨rfl, F9.out⟩
end Go.Proofs.YtligmiajlbjecaaDoor

