/- Going back again and again one comes to where two logs join: EntriesBack's walk. -/
import Derived.Test.YtehbolkjgiedbaaEn22
namespace Go.Proofs.Ytehbolkjgiedbaa
open Go.RowKit Go.Shelf
set_option linter.unusedVariables false
set_option maxRecDepth 4000

theorem lawruns9_count (g : Nat) (m : Lm) (w : World) (h : Lg w g m) (hw : m.Wf) :
    Calls Try.prog 16 #[.pointer (some ⟨g, 0, none⟩)] w fun e w' => ∃ a c, e = .returned (.slice a (m.runK m.l.length).length c) ∧ Below w.heap.size w w' := by
  refine (lawruns9_log g m w h hw).mono ?_
  rintro e w' ⟨v, rfl, ho, hb⟩
  obtain ⟨a, c, rfl, -, -⟩ := RnOwn.open ho
  exact ⟨a, c, rfl, hb⟩
/-- how far one has come -/
def BackI (m : Lm) (n i : Nat) : Prop := (m.l.length < n ∧ i = 0) ∨ (n ≤ m.l.length ∧ i + (m.runK n).length ≤ (m.runK m.l.length).length + 1)
set_option maxHeartbeats 4000000 in
theorem entriesBack_walk (a0 : Option Addr) (len0 cap0 : Nat) (l0 : List Ent) (a1 : Option Addr) (len1 cap1 : Nat) (l1 : List Ent) (a2 : Option Addr) (len2 cap2 : Nat) (l2 : List Ent) (w : World) (A0 : l0.length = len0 ∧ len0 ≤ cap0 ∧ len0 ≤ 140737488355328 ∧ EArgs w a0 l0) (A1 : l1.length = len1 ∧ len1 ≤ cap1 ∧ len1 ≤ 140737488355328 ∧ EArgs w a1 l1) (A2 : l2.length = len2 ∧ len2 ≤ cap2 ∧ len2 ≤ 140737488355328 ∧ EArgs w a2 l2) :
    Calls Try.prog 4 #[.slice a0 len0 cap0, .slice a1 len1 cap1, .slice a2 len2 cap2] w fun e w' => e = .returned (.bool true) ∧ Below w.heap.size w w' := by
  obtain ⟨hl0, hc0, hn0, hA0⟩ := A0
  obtain ⟨hl1, hc1, hn1, hA1⟩ := A1
  obtain ⟨hl2, hc2, hn2, hA2⟩ := A2
  subst hl0; subst hl1; subst hl2
  have HA : Hid (EArgs w a0 l0 ∧ EArgs w a1 l1 ∧ EArgs w a2 l2) := ⟨hA0, hA1, hA2⟩
  have i0 : (l0.length : Int) ≤ 140737488355328 := by omega
  have i1 : (l1.length : Int) ≤ 140737488355328 := by omega
  have i2 : (l2.length : Int) ≤ 140737488355328 := by omega
  have F0 : Hid _ := Below.refl w.heap.size w
  clear hA0 hA1 hA2
  by_cases c0 : 40 < l0.length
  · have q0 : (40 : Int) < (l0.length : Int) := by omega
    go_enter Try.func4, Try.ntmps4
    go_wp2_with fail
    refine (known9_any w).mono ?_
    rintro e wz ⟨rfl, bz⟩
    have G : Hid _ := below_then F0.out bz
    clear bz
    go_wp2
    go_ret
    exact ⟨rfl, G.out⟩
  have q0 : ¬ (40 : Int) < (l0.length : Int) := by omega
  by_cases c1 : 40 < l1.length
  · have q1 : (40 : Int) < (l1.length : Int) := by omega
    go_enter Try.func4, Try.ntmps4
    go_wp2_with fail
    refine (known9_any w).mono ?_
    rintro e wz ⟨rfl, bz⟩
    have G : Hid _ := below_then F0.out bz
    clear bz
    go_wp2
    go_ret
    exact ⟨rfl, G.out⟩
  have q1 : ¬ (40 : Int) < (l1.length : Int) := by omega
  by_cases c2 : 40 < l2.length
  · have q2 : (40 : Int) < (l2.length : Int) := by omega
    go_enter Try.func4, Try.ntmps4
    go_wp2_with fail
    refine (known9_any w).mono ?_
    rintro e wz ⟨rfl, bz⟩
    have G : Hid _ := below_then F0.out bz
    clear bz
    go_wp2
    go_ret
    exact ⟨rfl, G.out⟩
  have q2 : ¬ (40 : Int) < (l2.length : Int) := by omega
  have HL := log9_any 0 0 7 a0 l0.length cap0 l0 w rfl hc0 hn0 HA.out.1
  go_enter Try.func4, Try.ntmps4
  go_wp2_with fail
  refine HL.mono ?_
  rintro e w1 ⟨(⟨h1, h2, h3, gs, rfl, hgs, L1⟩ | ⟨hno, rfl⟩), b1⟩
  rotate_left
  · have F : Hid _ := b1
    clear b1 HL hno
    go_wp2_with fail
    refine (known9_any w1).mono ?_
    rintro e wz ⟨rfl, bz⟩
    have G : Hid _ := below_then F.out bz
    clear bz
    go_wp2
    go_ret
    exact ⟨rfl, G.out⟩
  have hwf := logm_wf h1 h2 h3
  obtain ⟨S, hS⟩ : ∃ S : Lm, S = ⟨(0 : Int).toNat, (0 : Int).toNat, (7 : Int).toNat, l0⟩ := ⟨_, rfl⟩
  have hSl : S.l = l0 := by rw [hS]
  have hSf : S.fl = 0 := by rw [hS]; rfl
  have hSt : S.ft = 0 := by rw [hS]; rfl
  rw [← hS] at hwf L1
  have HS : Hid (S.Wf ∧ S.l = l0 ∧ S.fl = 0 ∧ S.ft = 0) := ⟨hwf, hSl, hSf, hSt⟩
  have H1 : Hid (Lg w1 gs S ∧ Below w.heap.size w w1) := ⟨L1, b1⟩
  clear hS hwf hSl hSf hSt L1 b1 HL h1 h2 h3 hgs
  go_wp2_with fail
  refine (enWith_any gs S a1 l1.length cap1 l1 w1 H1.out.1 HS.out.1 rfl hc1 (by rw [HS.out.2.1]; omega) (HA.out.2.1.later H1.out.2)).mono ?_
  rintro e w2 ⟨hr2, b2⟩
  have H2 : Hid (Lg w2 gs S ∧ Below w.heap.size w w2) := ⟨Lg.later H1.out.1 b2, below_then H1.out.2 b2⟩
  rcases hr2 with ⟨hg1, rfl⟩ | ⟨hg1, g, rfl, hgg, Lg2⟩
  · clear b2 H1 hg1
    go_wp2_with fail
    refine (enWith_any gs S a2 l2.length cap2 l2 w2 H2.out.1 HS.out.1 rfl hc2 (by rw [HS.out.2.1]; omega) (HA.out.2.2.later H2.out.2)).mono ?_
    rintro e w3 ⟨hr3, b3⟩
    have F : Hid _ := below_then H2.out.2 b3
    rcases hr3 with ⟨-, rfl⟩ | ⟨-, h, rfl, -, -⟩
    · clear b3 H2
      go_wp2_with fail
      refine (known9_any w3).mono ?_
      rintro e wz ⟨rfl, bz⟩
      have G : Hid _ := below_then F.out bz
      clear bz
      go_wp2
      go_ret
      exact ⟨rfl, G.out⟩
    · clear b3 H2
      go_wp2_with fail
      refine (known9_any w3).mono ?_
      rintro e wz ⟨rfl, bz⟩
      have G : Hid _ := below_then F.out bz
      clear bz
      go_wp2
      go_ret
      exact ⟨rfl, G.out⟩
  have HG : Hid (Lg w2 g (S.with l1) ∧ goodB S.tt l1 = true) := ⟨Lg2, hg1⟩
  clear b2 H1 hg1 Lg2 hgg
  go_wp2_with fail
  refine (enWith_any gs S a2 l2.length cap2 l2 w2 H2.out.1 HS.out.1 rfl hc2 (by rw [HS.out.2.1]; omega) (HA.out.2.2.later H2.out.2)).mono ?_
  rintro e w3 ⟨hr3, b3⟩
  rcases hr3 with ⟨-, rfl⟩ | ⟨hg2, h, rfl, -, Lh⟩
  · have F : Hid _ := below_then H2.out.2 b3
    clear b3 H2
    go_wp2_with fail
    refine (known9_any w3).mono ?_
    rintro e wz ⟨rfl, bz⟩
    have G : Hid _ := below_then F.out bz
    clear bz
    go_wp2
    go_ret
    exact ⟨rfl, G.out⟩
  have hwm := Lm.with_wf HS.out.1 (l := l1) (by rw [HS.out.2.1]; omega) HG.out.2
  have hwh := Lm.with_wf HS.out.1 (l := l2) (by rw [HS.out.2.1]; omega) hg2
  obtain ⟨m, hm⟩ : ∃ m, m = S.with l1 := ⟨_, rfl⟩
  obtain ⟨hh, hhe⟩ : ∃ hh, hh = S.with l2 := ⟨_, rfl⟩
  have hml : m.l = l0 ++ l1 := by rw [hm, ← HS.out.2.1]; rfl
  have hhl : hh.l = l0 ++ l2 := by rw [hhe, ← HS.out.2.1]; rfl
  have hmf : m.fl = 0 ∧ m.ft = 0 := by rw [hm]; exact HS.out.2.2
  have hhf : hh.fl = 0 ∧ hh.ft = 0 := by rw [hhe]; exact HS.out.2.2
  have Lm3 := Lg.later HG.out.1 b3
  rw [← hm] at hwm Lm3
  rw [← hhe] at hwh Lh
  have HM : Hid (m.Wf ∧ hh.Wf ∧ m.l = l0 ++ l1 ∧ hh.l = l0 ++ l2 ∧ (m.fl = 0 ∧ m.ft = 0) ∧ (hh.fl = 0 ∧ hh.ft = 0)) := ⟨hwm, hwh, hml, hhl, hmf, hhf⟩
  have H3 : Hid (Below w.heap.size w w3 ∧ Lg w3 g m ∧ Lg w3 h hh) := ⟨below_then H2.out.2 b3, Lm3, Lh⟩
  have m80 : m.l.length ≤ 80 := by rw [hml, List.length_append]; omega
  have h80 : hh.l.length ≤ 80 := by rw [hhl, List.length_append]; omega
  have hkL : l0.length ≤ hh.l.length ∧ l0.length ≤ m.l.length := by rw [hhl, hml, List.length_append, List.length_append]; omega
  clear hwm hwh hm hhe hml hhl hmf hhf Lm3 Lh b3 H2 HG hg2 HS F0 HA
  go_wp2_with fail
  refine (enTop_any h hh w3 H3.out.2.2 HM.out.2.1).mono ?_
  rintro e w4 ⟨rfl, b4⟩
  have H4 : Hid (Below w.heap.size w w4 ∧ Lg w4 g m ∧ Lg w4 h hh) := ⟨below_then H3.out.1 b4, Lg.later H3.out.2.1 b4, Lg.later H3.out.2.2 b4⟩
  clear H3 b4
  go_wp2_with fail
  refine (lawruns9_count g m w4 H4.out.2.1 HM.out.1).mono ?_
  rintro e w5 ⟨ra, rc, rfl, b5⟩
  have H5 : Hid (Below w.heap.size w w5 ∧ Lg w5 g m ∧ Lg w5 h hh) := ⟨below_then H4.out.1 b5, Lg.later H4.out.2.1 b5, Lg.later H4.out.2.2 b5⟩
  have hRl := m.runK_len m.l.length
  obtain ⟨R, hR⟩ : ∃ R, R = (m.runK m.l.length).length := ⟨_, rfl⟩
  rw [← hR] at hRl ⊢
  have HR : Hid (R = (m.runK m.l.length).length) := hR
  have htop : hh.top = hh.l.length := by unfold Lm.top; rw [HM.out.2.2.2.2.2.1]; omega
  have hR80 : (R : Int) ≤ 80 := by omega
  rw [htop]
  clear H4 b5 hR htop
  go_wp2_with fail
  go_loopw [12, 15] (fun av iv wr => ∃ n i : Nat, av = .int .i64 n ∧ iv = .int .i64 i ∧ n ≤ hh.l.length ∧ i ≤ R + 2 ∧ BackI m n i ∧ Below w.heap.size w wr ∧ Lg wr g m ∧ Lg wr h hh) (fun _ iv _ => R + 2 - (intOf iv).toNat)
  case atStart =>
    refine ⟨hh.l.length, 0, rfl, rfl, Nat.le_refl _, by omega, ?_, H5.out.1, H5.out.2.1, H5.out.2.2⟩
    by_cases hc : m.l.length < hh.l.length
    · exact .inl ⟨hc, rfl⟩
    · refine .inr ⟨by omega, ?_⟩
      have := m.runK_mono (show hh.l.length ≤ m.l.length by omega)
      omega
  case round =>
    obtain ⟨n, i, rfl, rfl, hn, hi, hI, hbw, Lr, Lr2⟩ := hrel
    have hlt : i < R + 2 := by
      rcases hI with ⟨_, h⟩ | ⟨_, h⟩
      · omega
      · rw [← HR.out] at h; omega
    have q3 : (i : Int) < (R : Int) + 2 := by omega
    have hhf := HM.out.2.2.2.2.2.1
    have hmf := HM.out.2.2.2.2.1.1
    have hn80 : (n : Int) ≤ 80 := by omega
    have hn64 : I64 (n : Int) := by unfold I64; omega
    have H6 : Hid (Below w.heap.size w wr ∧ Lg wr g m ∧ Lg wr h hh ∧ BackI m n i ∧ I64 (n : Int)) := ⟨hbw, Lr, Lr2, hI, hn64⟩
    have HT := enTerm_any h hh n wr Lr2 HM.out.2.1 hn64
    have HSl : Hid (∀ W, Lg W h hh → Calls Try.prog 11 #[.pointer (some ⟨h, 0, none⟩), .int .i64 ((n : Int) + 1), .int .i64 4096] W fun r w' => ∃ a cap, r = .returned (.slice a ((hh.l.drop n).take 4096).length cap) ∧ ((hh.l.drop n).take 4096).length ≤ cap ∧ (a = none → cap = 0) ∧ EArgs w' a ((hh.l.drop n).take 4096) ∧ Below W.heap.size W w') := fun W hW => enSlice_in h hh ((n : Int) + 1) 4096 n W hW HM.out.2.1 hn (by rw [hhf]; omega) (by unfold I64; omega)
    obtain ⟨D, hD⟩ : ∃ D, D = (hh.l.drop n).take 4096 := ⟨_, rfl⟩
    rw [← hD] at HSl
    have hD80 : D.length ≤ 80 := by rw [hD, List.length_take, List.length_drop]; omega
    have HD : Hid (D = (hh.l.drop n).take 4096) := hD
    clear hbw Lr Lr2 hI hn64 hhf hmf hD
    go_wp2_with fail
    refine HT.mono ?_
    rintro e x1 ⟨rfl, c1⟩
    have H7 : Hid (Below w.heap.size w x1 ∧ Lg x1 g m ∧ Lg x1 h hh) := ⟨below_then H6.out.1 c1, Lg.later H6.out.2.1 c1, Lg.later H6.out.2.2.1 c1⟩
    clear c1 HT
    go_wp2_with fail
    refine (HSl.out x1 H7.out.2.2).mono ?_
    rintro e x2 ⟨sa, sc, rfl, hsc, -, hsA, c2⟩
    have H8 : Hid (Below w.heap.size w x2 ∧ Lg x2 g m ∧ Lg x2 h hh ∧ EArgs x2 sa D) := ⟨below_then H7.out.1 c2, Lg.later H7.out.2.1 c2, Lg.later H7.out.2.2 c2, hsA⟩
    clear c2 H7 hsA
    go_wp2_with fail
    refine (enJoin_any g m n (hh.term n) sa sc D x2 H8.out.2.1 HM.out.1 H6.out.2.2.2.2 (by omega) hsc H8.out.2.2.2).mono ?_
    rintro e x3 ⟨hr, c3⟩
    have H9 : Hid (Below w.heap.size w x3 ∧ Lg x3 g m ∧ Lg x3 h hh) := ⟨below_then H8.out.1 c3, Lg.later H8.out.2.1 c3, Lg.later H8.out.2.2.1 c3⟩
    clear c3 H8 HSl
    rcases hr with ⟨hno, rfl⟩ | ⟨_, _, rfl⟩ | ⟨hme, hlt', hnf, rfl⟩ | ⟨_, _, _, g', rfl, _, _⟩
    · -- it does not join
      have hback : ∃ n' : Nat, m.back n = n' ∧ n' < n ∧ n' ≤ hh.l.length ∧ BackI m n' (i + 1) := by
        have hmf := HM.out.2.2.2.2.1
        have hhf := HM.out.2.2.2.2.2
        have hmt : m.top = m.l.length := by unfold Lm.top; rw [hmf.1]; omega
        by_cases hc : m.l.length < n
        · refine ⟨m.l.length, ?_, hc, by omega, .inr ⟨Nat.le_refl _, ?_⟩⟩
          · have : m.back n = m.top := if_pos (by rw [hmt]; omega)
            rw [this, hmt]
          · have hI := H6.out.2.2.2.1
            rcases hI with ⟨_, h⟩ | ⟨h, _⟩ <;> omega
        · have hpos : 1 ≤ n := by
            rcases Nat.eq_zero_or_pos n with e | e
            · exfalso
              subst e
              have h1 : m.meetsB ((0 : Nat) : Int) (hh.term ((0 : Nat) : Int)) D.length = m.holdsB ((0 : Nat) : Int) (hh.term ((0 : Nat) : Int)) := if_neg (by rw [hmf.1]; omega)
              rw [h1] at hno
              unfold Lm.holdsB Lm.hasB at hno
              rw [(Lm.part_fl (m := m) (n := ((0 : Nat) : Int)) (by rw [hmf.1])).2, (Lm.part_fl (m := hh) (n := ((0 : Nat) : Int)) (by rw [hhf.1])).2, hmf.2, hhf.2, decide_eq_true (p := (m.fl : Int) ≤ ((0 : Nat) : Int) ∧ ((0 : Nat) : Int) ≤ (m.fl : Int) + m.l.length) (by rw [hmf.1]; omega)] at hno
              cases hno
            · exact e
          obtain ⟨k', h1, h2, h3⟩ := backK_run m n hpos
          refine ⟨k', ?_, h1, by omega, .inr ⟨by omega, ?_⟩⟩
          · have e1 : m.back n = if (n : Int) ≤ m.fl then (m.fl : Int) else m.backK ((n : Int) - m.fl).toNat := if_neg (by rw [hmt]; omega)
            have e2 : ((n : Int) - m.fl).toNat = n := by rw [hmf.1]; omega
            rw [e2] at e1
            rw [e1, if_neg (by rw [hmf.1]; omega), h2, hmf.1]; omega
          · rcases H6.out.2.2.2.1 with ⟨h, _⟩ | ⟨_, h⟩
            · omega
            · omega
      obtain ⟨n', hb1, hb2, hb3, hb4⟩ := hback
      simp only [joV, Option.map_none]
      rw [hb1]
      have q4 : (n' : Int) < (n : Int) := by omega
      have c4 := box5_below x3 (.pointer none) (.bool false) (.int .i64 0) (.int .i64 0) (.int .i64 n') 31
      have F : Hid (Below w.heap.size w _ ∧ Lg _ g m ∧ Lg _ h hh ∧ BackI m n' (i + 1)) := ⟨below_then H9.out.1 c4, Lg.later H9.out.2.1 c4, Lg.later H9.out.2.2 c4, hb4⟩
      clear c4 H9 H6 hno hb1 hb4 HD hD80
      go_wp2
      go_roundw
      case rel => exact ⟨n', i + 1, by go_num, by go_num, hb3, by omega, F.out.2.2.2, F.out.1, F.out.2.1, F.out.2.2.1⟩
      case measure => simp [intOf]; omega
    · simp only [joV, Option.map_some]
      have c4 := box5_below x3 (.pointer (some ⟨g, 0, none⟩)) (.bool true) (.int .i64 ((n : Int) + D.length)) (.int .i64 0) (.int .i64 0) 31
      have F : Hid _ := below_then H9.out.1 c4
      clear c4 H9 H6 HD
      go_wp2_with fail
      generalize x3.alloc (.cells #[.pointer (some ⟨g, 0, none⟩), .bool true, .int .i64 ((n : Int) + D.length), .int .i64 0, .int .i64 0] 31) = x4 at *
      refine (known9_any x4).mono ?_
      rintro e wz ⟨rfl, bz⟩
      have G : Hid _ := below_then F.out bz
      clear bz
      go_wp2
      go_ret
      exact ⟨rfl, G.out⟩
    · exfalso
      have hhf := HM.out.2.2.2.2.2.1
      have hmf := HM.out.2.2.2.2.1.1
      have e1 : m.meetsB (n : Int) (hh.term n) D.length = m.holdsB (n : Int) (hh.term n) := if_neg (by rw [hmf]; omega)
      rw [e1] at hme
      have e2 : (m.fl : Int) + n = n := by rw [hmf]; omega
      have := (joins_ok HM.out.1 HM.out.2.1 (by rw [hmf, hhf]) (k := n) (q := 4096) hn (by rw [e2]; exact hme)).2
      rw [e2, ← HD.out] at this
      exact hnf (this hlt')
    · simp only [joV, Option.map_some]
      have c4 := box5_below x3 (.pointer (some ⟨g', 0, none⟩)) (.bool true) (.int .i64 ((n : Int) + D.length)) (.int .i64 ((n : Int) + m.pass n D + 1)) (.int .i64 0) 31
      have F : Hid _ := below_then H9.out.1 c4
      clear c4 H9 H6 HD
      go_wp2_with fail
      generalize x3.alloc (.cells #[.pointer (some ⟨g', 0, none⟩), .bool true, .int .i64 ((n : Int) + D.length), .int .i64 ((n : Int) + m.pass n D + 1), .int .i64 0] 31) = x4 at *
      refine (known9_any x4).mono ?_
      rintro e wz ⟨rfl, bz⟩
      have G : Hid _ := below_then F.out bz
      clear bz
      go_wp2
      go_ret
      exact ⟨rfl, G.out⟩
end Go.Proofs.Ytehbolkjgiedbaa
