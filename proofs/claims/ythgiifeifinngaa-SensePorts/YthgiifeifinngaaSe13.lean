/- sense: States, the document's; the two are one. -/
import Derived.Test.YthgiifeifinngaaSe12
namespace Go.Proofs.Ythgiifeifinngaa
open Go.RowKit
set_option linter.unusedVariables false
set_option linter.unusedSimpArgs false
set_option maxRecDepth 4000

def stR (n : Nat) : Nat := min 6 ((n - 4) / 12)
theorem ptB_len {m : List Int} (h : ptE m = 0) : (ptB m).length = 4 + 12 * m.length ∧ m.length ≤ 5 := by
  unfold ptB
  rw [if_pos h, List.length_append, be4_len, ptbs_len]
  refine ⟨rfl, ?_⟩
  rcases Nat.lt_or_ge 5 m.length with h5 | h5
  · unfold ptE at h; rw [if_pos h5] at h; cases h
  · exact h5
theorem stG_len {l : List (BitVec 8)} {k : Nat} (h : stG l k = true) : l.length = 4 + 12 * k ∧ k ≤ 5 := by
  unfold stG at h
  rw [Bool.and_eq_true, decide_eq_true_eq, decide_eq_true_eq] at h
  have := ptB_len h.1
  rw [h.2, sts_len] at this
  exact this
theorem stG_both (l : List (BitVec 8)) : stG l (stK l.length) = stG l (stR l.length) := by
  cases h1 : stG l (stK l.length) with
  | true =>
    have := stG_len h1
    have e : stR l.length = stK l.length := by unfold stR stK at *; omega
    rw [e, h1]
  | false =>
    cases h2 : stG l (stR l.length) with
    | false => rfl
    | true =>
      have := stG_len h2
      have e : stR l.length = stK l.length := by unfold stR stK at *; omega
      rw [e, h1] at h2; cases h2
theorem ss_both (l : List (BitVec 8)) : ssE l (stR l.length) = ssE l (stK l.length) ∧ ssL l (stR l.length) = ssL l (stK l.length) := by
  have h := stG_both l
  have e : ssE l (stR l.length) = ssE l (stK l.length) := by unfold ssE; rw [h]
  refine ⟨e, ?_⟩
  unfold ssL
  rw [e]
  split
  · rename_i h0
    have hg : stG l (stK l.length) = true := by
      rcases hx : stG l (stK l.length) with _ | _
      · unfold ssE at h0
        rw [hx] at h0
        split at h0
        · cases h0
        · simp at h0
      · rfl
    have := stG_len hg
    have e2 : stR l.length = stK l.length := by unfold stR stK at *; omega
    rw [e2]
  · rfl
set_option maxHeartbeats 2000000 in
theorem rstates_any (a : Option Addr) (c : Nat) (l : List (BitVec 8)) (w : World) (hr : Row w a l) (hlen : l.length ≤ 140737488351232) :
    Calls Try.prog 29 #[.slice a l.length c] w fun e w' => ∃ z, e = .returned (.tuple #[z, .int .i64 (ssE l (stR l.length))]) ∧ INum w' w.heap.size z (ssL l (stR l.length)) ∧ Below w.heap.size w w' := by
  by_cases h4 : l.length < 4
  · have e1 := ss_10 (l := l) (k := stR l.length) (decide_eq_true (.inl h4))
    have d0 : (l.length : Int) < 4 := by omega
    clear hr h4
    go_enter Try.func29, Try.ntmps29
    go_wp2
    go_ret2
    refine ⟨.slice none 0 0, by rw [e1.out.1]; try rfl, ?_, Below.refl _ _⟩
    rw [e1.out.2]; exact INum.nil _ _
  have HR : Hid _ := hr
  rcases hr with e0 | ⟨b, off, rfl, hc⟩
  · subst e0; simp at h4
  have HG : Hid _ := rGet_yes b off l.length c l 0 4 w rfl (by omega) hc (by omega) (by omega) (by omega)
  have hS0 : stS l = decide (l.length < 4 ∨ l.length - 4 < (numTo l 0 4).toNat) := rfl
  generalize (numTo l 0 4).toNat = F at *
  have v1 : IntKind.i64.wrap ((l.length : Int) - 4) = (l.length : Int) - 4 := by rw [IntKind.wrap_i64]; omega
  have v2 : IntKind.u64.wrap ((l.length : Int) - 4) = (l.length : Int) - 4 := by simp [IntKind.wrap, IntKind.signed, IntKind.bits]; omega
  have d0 : decide ((l.length : Int) < 4) = false := decide_eq_false (by omega)
  have HC : Hid _ := hc
  clear hc
  by_cases hF : l.length - 4 < F
  · have e1 := ss_10 (l := l) (k := stR l.length) (hS0.trans (decide_eq_true (.inr hF)))
    have d1 : (l.length : Int) - 4 < (F : Int) := by omega
    clear hF hS0
    go_enter Try.func29, Try.ntmps29
    go_wp2_with fail
    refine (Calls.mono HG.out) ?_
    rintro e _ ⟨rfl, rfl⟩
    clear HG
    go_wp2
    go_ret2
    refine ⟨.slice none 0 0, by rw [e1.out.1]; try rfl, ?_, Below.refl _ _⟩
    rw [e1.out.2]; exact INum.nil _ _
  have hS : Hid (stS l = false) := hS0.trans (decide_eq_false (by omega))
  have d1 : decide ((l.length : Int) - 4 < (F : Int)) = false := decide_eq_false (by omega)
  clear hF hS0
  have hK : Hid (stR l.length = min 6 ((l.length - 4) / 12)) := rfl
  generalize stR l.length = K at *
  go_enter Try.func29, Try.ntmps29
  go_wp2_with fail
  refine (Calls.mono HG.out) ?_
  rintro e x9 ⟨rfl, hx9⟩
  rw [← hx9]
  clear hx9 x9 HG
  go_wp2_with fail
  go_loopw [6, 7] (fun sv iv wr => ∃ k : Nat, k ≤ K ∧ iv = .int .i64 ((4 + 12 * k : Nat) : Int) ∧ INum wr w.heap.size sv (sts l k) ∧ Below w.heap.size w wr) (fun _ iv _ => K + 4 - ((intOf iv).toNat / 12))
  case atStart => exact ⟨0, by omega, rfl, INum.nil _ _, Below.refl _ _⟩
  case round =>
    obtain ⟨k, hk, rfl, ho, hb⟩ := hrel
    have hkk := hK.out
    obtain ⟨a7, c7, rfl, VA⟩ := ho.arg (sts_wf l k)
    have hsl := sts_len l k
    obtain ⟨P, hP⟩ : ∃ P, P = 4 + 12 * k := ⟨_, rfl⟩
    rw [← hP]
    have HPd : Hid (P = 4 + 12 * k) := hP
    have v3 : IntKind.i64.wrap ((P : Int) + 12) = (P : Int) + 12 := by rw [IntKind.wrap_i64]; omega
    by_cases hlt : k < K
    · have q1 : (P : Int) + 12 ≤ (l.length : Int) := by omega
      have q2 : ((sts l k).length : Int) ≤ 5 := by rw [hsl]; omega
      have q5 : (P : Int) < (l.length : Int) := by omega
      have q3 : (P : Int).toNat = P := by omega
      have q0 : (0 : Int) ≤ (P : Int) := by omega
      have hc1 := cl_later (HC.out P (by omega)) hb
      have hbd := bt_bd l P
      have hmo := sts_more l k
      rw [← hP] at hmo
      have hsl' : Hid _ := hsl
      generalize hX : bt l P = X at *
      have v5 : IntKind.i64.wrap X = X := by rw [IntKind.wrap_i64]; omega
      have B1 := Blk.new' wr 3 [.int .i64 X]
      have b2 : Below wr.heap.size wr (wr.alloc (.cells #[.int .i64 X] 3)) := (Below.refl _ _).alloc (Nat.le_refl _) _
      have HF : Hid _ := And.intro (ho.later b2) (And.intro B1 (And.intro (below_then hb b2) hmo))
      have hk2 : k ≤ 6 := by omega
      clear ho hb b2 B1 hmo hX hbd hkk VA hP hsl
      go_wp2_with (at_builtin; refine wpList_append_inum _ rfl _ _ rfl w.heap.size _ _ rfl HF.out.1 wr.heap.size X rfl HF.out.2.1 (by rw [hsl'.out]; omega) (Below.size HF.out.2.2.1) ?_)
      intro v' w' ho' hg'
      have hb' : Below w.heap.size w w' := (HF.out.2.2.1).grown hg' (Below.size HF.out.2.2.1) (io_block HF.out.1)
      have F1 : Hid (INum w' w.heap.size v' (sts l (k + 1)) ∧ Below w.heap.size w w') := ⟨by rw [HF.out.2.2.2]; exact ho', hb'⟩
      clear ho' hg' hb' HF hc1 v5
      go_wp2
      go_roundw
      case rel => exact ⟨k + 1, by omega, by rw [show ((4 + 12 * (k + 1) : Nat) : Int) = (P : Int) + 12 by have := HPd.out; omega], F1.out.1, F1.out.2⟩
      case measure => simp [intOf]; have := HPd.out; omega
    · obtain rfl : k = K := by omega
      have HP : Hid _ := rports_any a7 c7 (sts l k) wr (by rw [sts_len] at VA ⊢; exact VA)
      have HO : Hid _ := And.intro ho hb
      have hG0 : Hid (stG l k = (decide (ptE (sts l k) = 0) && decide (ptB (sts l k) = l))) := rfl
      clear ho hb VA
      have q1 : (P : Int) + 12 ≤ (l.length : Int) ∧ ¬ ((sts l k).length : Int) ≤ 5 ∨ ¬ (P : Int) + 12 ≤ (l.length : Int) := by rw [hsl]; omega
      clear hkk hsl hP
      rcases q1 with ⟨q1, q2⟩ | q1
      · go_wp2_with fail
        refine (Calls.mono HP.out) ?_
        rintro e w5 ⟨z5, rfl, o5, b5⟩
        have BB : Hid _ := below_then HO.out.2 b5
        have OI : Hid _ := HO.out.1.later b5
        rcases Decidable.em (ptE (sts l k) = 0) with hE | hE
        · obtain ⟨az, cz, rfl, -, -, hrz, -, -⟩ := o5.open
          have t1 := hrz.str (ptB (sts l k)).length cz rfl
          have t2 := (Row.later HR.out BB.out).str l.length c rfl
          have hj : ((str (ptB (sts l k))).toList == (str l).toList) = decide (ptB (sts l k) = l) := str_inj _ _
          rw [hE]
          clear hrz o5 b5 HP HO
          by_cases hq : ptB (sts l k) = l
          · rw [decide_eq_true hq] at hj
            have e1 := ss_0 hS.out (hG0.out.trans (by rw [hE, decide_eq_true hq]; rfl))
            clear hq hE
            generalize (ptB (sts l k)).length = BL at *
            generalize str (ptB (sts l k)) = T1 at *
            go_wp2
            go_ret2
            refine ⟨_, by rw [e1.out.1]; try rfl, ?_, BB.out⟩
            rw [e1.out.2]; exact OI.out
          · rw [decide_eq_false hq] at hj
            have e1 := ss_11 hS.out (hG0.out.trans (by rw [decide_eq_false hq, Bool.and_false]))
            clear hq hE
            generalize (ptB (sts l k)).length = BL at *
            generalize str (ptB (sts l k)) = T1 at *
            go_wp2
            go_ret2
            refine ⟨.slice none 0 0, by rw [e1.out.1]; try rfl, ?_, BB.out⟩
            rw [e1.out.2]; exact INum.nil _ _
        · have e1 := ss_11 hS.out (hG0.out.trans (by rw [decide_eq_false hE]; rfl))
          have d2 : (ptE (sts l k) != 0) = true := by simpa using hE
          generalize ptE (sts l k) = PE at *
          clear o5 b5 HP HO
          go_wp2
          go_ret2
          refine ⟨.slice none 0 0, by rw [e1.out.1]; try rfl, ?_, BB.out⟩
          rw [e1.out.2]; exact INum.nil _ _
      · go_wp2_with fail
        refine (Calls.mono HP.out) ?_
        rintro e w5 ⟨z5, rfl, o5, b5⟩
        have BB : Hid _ := below_then HO.out.2 b5
        have OI : Hid _ := HO.out.1.later b5
        rcases Decidable.em (ptE (sts l k) = 0) with hE | hE
        · obtain ⟨az, cz, rfl, -, -, hrz, -, -⟩ := o5.open
          have t1 := hrz.str (ptB (sts l k)).length cz rfl
          have t2 := (Row.later HR.out BB.out).str l.length c rfl
          have hj : ((str (ptB (sts l k))).toList == (str l).toList) = decide (ptB (sts l k) = l) := str_inj _ _
          rw [hE]
          clear hrz o5 b5 HP HO
          by_cases hq : ptB (sts l k) = l
          · rw [decide_eq_true hq] at hj
            have e1 := ss_0 hS.out (hG0.out.trans (by rw [hE, decide_eq_true hq]; rfl))
            clear hq hE
            generalize (ptB (sts l k)).length = BL at *
            generalize str (ptB (sts l k)) = T1 at *
            go_wp2
            go_ret2
            refine ⟨_, by rw [e1.out.1]; try rfl, ?_, BB.out⟩
            rw [e1.out.2]; exact OI.out
          · rw [decide_eq_false hq] at hj
            have e1 := ss_11 hS.out (hG0.out.trans (by rw [decide_eq_false hq, Bool.and_false]))
            clear hq hE
            generalize (ptB (sts l k)).length = BL at *
            generalize str (ptB (sts l k)) = T1 at *
            go_wp2
            go_ret2
            refine ⟨.slice none 0 0, by rw [e1.out.1]; try rfl, ?_, BB.out⟩
            rw [e1.out.2]; exact INum.nil _ _
        · have e1 := ss_11 hS.out (hG0.out.trans (by rw [decide_eq_false hE]; rfl))
          have d2 : (ptE (sts l k) != 0) = true := by simpa using hE
          generalize ptE (sts l k) = PE at *
          clear o5 b5 HP HO
          go_wp2
          go_ret2
          refine ⟨.slice none 0 0, by rw [e1.out.1]; try rfl, ?_, BB.out⟩
          rw [e1.out.2]; exact INum.nil _ _
end Go.Proofs.Ythgiifeifinngaa
