/- Joined with what another log has: EntriesJoin's walk. -/
import Derived.Test.YtehbolkjgiedbaaEn23
import Derived.Deep.CutRange
namespace Go.Proofs.Ytehbolkjgiedbaa
open Go.RowKit Go.Shelf
set_option linter.unusedVariables false
set_option maxRecDepth 4000

/-- two may come up -/
theorem any_two {P : Program} {Q : Exit → Act → World → Prop} {md : Region.Mode} {S : World → Prop} {L : List Oper} {i j : Nat} {oi oj : Oper} {ri rj : List Oper} (hi : L.drop i = oi :: ri) (hj : L.drop j = oj :: rj) {fuel : Nat} {listed : Array Bool} {a : Act} {w : World} (hr : Region.ready md L.toArray listed = [i, j])
    (h1 : ∀ K' : Act → World → Prop, Shut (∀ a w, S w → (S w → wpAnyH P md L.toArray Q S fuel (listed.setIfInBounds i true) a w) → K' a w) → if Region.wanted oi (yielded L.toArray a.tmps) = true then Oper.wp P oi a w K' Q else K' (a.put oi.dst undef) w)
    (h2 : ∀ K' : Act → World → Prop, Shut (∀ a w, S w → (S w → wpAnyH P md L.toArray Q S fuel (listed.setIfInBounds j true) a w) → K' a w) → if Region.wanted oj (yielded L.toArray a.tmps) = true then Oper.wp P oj a w K' Q else K' (a.put oj.dst undef) w) :
    wpAnyH P md L.toArray Q S (fuel + 1) listed a w :=
  wpAnyH_ready hr (by simp) (AllReadyH.cons (drop_at hi) h1 (AllReadyH.cons (drop_at hj) h2 AllReadyH.nil))

/-- what stands while the law looks -/
structure JW (w W : World) (q gx h : Nat) (X hh : Lm) (E f' : Int) (sa : Option Addr) (D : List Ent) : Prop where
  b : Below w.heap.size w W
  lx : Lg W gx X
  lh : Lg W h hh
  blk : Blk W q 31 [.pointer (some ⟨gx, 0, none⟩), .bool true, .int .i64 E, .int .i64 f', .int .i64 0]
  args : EArgs W sa D
theorem JW.later {w W W' : World} {q gx h : Nat} {X hh : Lm} {E f' : Int} {sa : Option Addr} {D : List Ent} (j : JW w W q gx h X hh E f' sa D) (hb : Below W.heap.size W W') : JW w W' q gx h X hh E f' sa D :=
  ⟨below_then j.b hb, j.lx.later hb, j.lh.later hb, j.blk.laterB hb, j.args.later hb⟩
theorem JW.cells {w W : World} {q gx h : Nat} {X hh : Lm} {E f' : Int} {sa : Option Addr} {D : List Ent} (j : JW w W q gx h X hh E f' sa D) : W.cell? ⟨q, 0, none⟩ = some (.pointer (some ⟨gx, 0, none⟩)) ∧ W.cell? ⟨q, 1, none⟩ = some (.bool true) ∧ W.cell? ⟨q, 2, none⟩ = some (.int .i64 E) ∧ W.cell? ⟨q, 3, none⟩ = some (.int .i64 f') ∧ W.cell? ⟨q, 4, none⟩ = some (.int .i64 0) := (eblk5 j.blk).1
theorem common_alike {m h : Lm} {l0 l1 l2 : List Ent} (hm : m.l = l0 ++ l1) (hh : h.l = l0 ++ l2) (f1 : m.fl = 0 ∧ m.ft = 0) (f2 : h.fl = 0 ∧ h.ft = 0) : Alike m h l0.length := by
  refine alike_mk (by rw [hm, List.length_append]; omega) (by rw [hh, List.length_append]; omega) ⟨f1.1, f2.1⟩ (by rw [f1.2, f2.2]) (fun i h1 h2 hi => ?_)
  simp only [hm, hh]
  rw [List.getElem_append_left hi, List.getElem_append_left hi]
theorem alike_holds {X h : Lm} {n : Nat} (a : Alike X h n) {k : Nat} (hk : k ≤ n) : X.holdsB k (h.term k) = true := by
  unfold Lm.holdsB Lm.hasB
  have := a.lx
  rw [alike_term a hk, decide_eq_true (p := (X.fl : Int) ≤ (k : Int) ∧ (k : Int) ≤ (X.fl : Int) + X.l.length) (by rw [a.fl.1]; omega), decide_eq_true rfl]; rfl
set_option maxHeartbeats 4000000 in
theorem entriesJoin_walk (a0 : Option Addr) (len0 cap0 : Nat) (l0 : List Ent) (a1 : Option Addr) (len1 cap1 : Nat) (l1 : List Ent) (a2 : Option Addr) (len2 cap2 : Nat) (l2 : List Ent) (most : Int) (w : World) (A0 : l0.length = len0 ∧ len0 ≤ cap0 ∧ len0 ≤ 140737488355328 ∧ EArgs w a0 l0) (A1 : l1.length = len1 ∧ len1 ≤ cap1 ∧ len1 ≤ 140737488355328 ∧ EArgs w a1 l1) (A2 : l2.length = len2 ∧ len2 ≤ cap2 ∧ len2 ≤ 140737488355328 ∧ EArgs w a2 l2) (hmost : -9223372036854775808 ≤ most ∧ most ≤ 9223372036854775807) :
    Calls Try.prog 3 #[.slice a0 len0 cap0, .slice a1 len1 cap1, .slice a2 len2 cap2, .int .i64 most] w fun e w' => e = .returned (.bool true) ∧ Below w.heap.size w w' := by
  obtain ⟨hl0, hc0, hn0, hA0⟩ := A0
  obtain ⟨hl1, hc1, hn1, hA1⟩ := A1
  obtain ⟨hl2, hc2, hn2, hA2⟩ := A2
  subst hl0; subst hl1; subst hl2
  have HA : Hid (EArgs w a0 l0 ∧ EArgs w a1 l1 ∧ EArgs w a2 l2) := ⟨hA0, hA1, hA2⟩
  have i0 : (l0.length : Int) ≤ 140737488355328 := by omega
  have i1 : (l1.length : Int) ≤ 140737488355328 := by omega
  have i2 : (l2.length : Int) ≤ 140737488355328 := by omega
  have F0 : Hid _ := Below.refl w.heap.size w
  clear hA0 hA1 hA2
  by_cases c0 : 40 < l0.length
  · have q0 : (40 : Int) < (l0.length : Int) := by omega
    go_enter Try.func3, Try.ntmps3
    go_wp2_with fail
    refine (known9_any w).mono ?_
    rintro e wz ⟨rfl, bz⟩
    have G : Hid _ := below_then F0.out bz
    clear bz
    go_wp2
    go_ret
    exact ⟨rfl, G.out⟩
  have q0 : ¬ (40 : Int) < (l0.length : Int) := by omega
  by_cases c1 : 40 < l1.length
  · have q1 : (40 : Int) < (l1.length : Int) := by omega
    go_enter Try.func3, Try.ntmps3
    go_wp2_with fail
    refine (known9_any w).mono ?_
    rintro e wz ⟨rfl, bz⟩
    have G : Hid _ := below_then F0.out bz
    clear bz
    go_wp2
    go_ret
    exact ⟨rfl, G.out⟩
  have q1 : ¬ (40 : Int) < (l1.length : Int) := by omega
  by_cases c2 : 40 < l2.length
  · have q2 : (40 : Int) < (l2.length : Int) := by omega
    go_enter Try.func3, Try.ntmps3
    go_wp2_with fail
    refine (known9_any w).mono ?_
    rintro e wz ⟨rfl, bz⟩
    have G : Hid _ := below_then F0.out bz
    clear bz
    go_wp2
    go_ret
    exact ⟨rfl, G.out⟩
  have q2 : ¬ (40 : Int) < (l2.length : Int) := by omega
  have HL := log9_any 0 0 7 a0 l0.length cap0 l0 w rfl hc0 hn0 HA.out.1
  go_enter Try.func3, Try.ntmps3
  go_wp2_with fail
  refine HL.mono ?_
  rintro e w1 ⟨(⟨h1, h2, h3, gs, rfl, hgs, L1⟩ | ⟨hno, rfl⟩), b1⟩
  rotate_left
  · have F : Hid _ := b1
    clear b1 HL hno
    go_wp2_with fail
    refine (known9_any w1).mono ?_
    rintro e wz ⟨rfl, bz⟩
    have G : Hid _ := below_then F.out bz
    clear bz
    go_wp2
    go_ret
    exact ⟨rfl, G.out⟩
  have hwf := logm_wf h1 h2 h3
  obtain ⟨S, hS⟩ : ∃ S : Lm, S = ⟨(0 : Int).toNat, (0 : Int).toNat, (7 : Int).toNat, l0⟩ := ⟨_, rfl⟩
  have hSl : S.l = l0 := by rw [hS]
  have hSf : S.fl = 0 := by rw [hS]; rfl
  have hSt : S.ft = 0 := by rw [hS]; rfl
  rw [← hS] at hwf L1
  have HS : Hid (S.Wf ∧ S.l = l0 ∧ S.fl = 0 ∧ S.ft = 0) := ⟨hwf, hSl, hSf, hSt⟩
  have H1 : Hid (Lg w1 gs S ∧ Below w.heap.size w w1) := ⟨L1, b1⟩
  clear hS hwf hSl hSf hSt L1 b1 HL h1 h2 h3 hgs
  go_wp2_with fail
  refine (enWith_any gs S a1 l1.length cap1 l1 w1 H1.out.1 HS.out.1 rfl hc1 (by rw [HS.out.2.1]; omega) (HA.out.2.1.later H1.out.2)).mono ?_
  rintro e w2 ⟨hr2, b2⟩
  have H2 : Hid (Lg w2 gs S ∧ Below w.heap.size w w2) := ⟨Lg.later H1.out.1 b2, below_then H1.out.2 b2⟩
  rcases hr2 with ⟨hg1, rfl⟩ | ⟨hg1, g, rfl, hgg, Lg2⟩
  · clear b2 H1 hg1
    go_wp2_with fail
    refine (enWith_any gs S a2 l2.length cap2 l2 w2 H2.out.1 HS.out.1 rfl hc2 (by rw [HS.out.2.1]; omega) (HA.out.2.2.later H2.out.2)).mono ?_
    rintro e w3 ⟨hr3, b3⟩
    have F : Hid _ := below_then H2.out.2 b3
    rcases hr3 with ⟨-, rfl⟩ | ⟨-, h, rfl, -, -⟩
    · clear b3 H2
      go_wp2_with fail
      refine (known9_any w3).mono ?_
      rintro e wz ⟨rfl, bz⟩
      have G : Hid _ := below_then F.out bz
      clear bz
      go_wp2
      go_ret
      exact ⟨rfl, G.out⟩
    · clear b3 H2
      go_wp2_with fail
      refine (known9_any w3).mono ?_
      rintro e wz ⟨rfl, bz⟩
      have G : Hid _ := below_then F.out bz
      clear bz
      go_wp2
      go_ret
      exact ⟨rfl, G.out⟩
  have HG : Hid (Lg w2 g (S.with l1) ∧ goodB S.tt l1 = true) := ⟨Lg2, hg1⟩
  clear b2 H1 hg1 Lg2 hgg
  go_wp2_with fail
  refine (enWith_any gs S a2 l2.length cap2 l2 w2 H2.out.1 HS.out.1 rfl hc2 (by rw [HS.out.2.1]; omega) (HA.out.2.2.later H2.out.2)).mono ?_
  rintro e w3 ⟨hr3, b3⟩
  rcases hr3 with ⟨-, rfl⟩ | ⟨hg2, h, rfl, -, Lh⟩
  · have F : Hid _ := below_then H2.out.2 b3
    clear b3 H2
    go_wp2_with fail
    refine (known9_any w3).mono ?_
    rintro e wz ⟨rfl, bz⟩
    have G : Hid _ := below_then F.out bz
    clear bz
    go_wp2
    go_ret
    exact ⟨rfl, G.out⟩
  have hwm := Lm.with_wf HS.out.1 (l := l1) (by rw [HS.out.2.1]; omega) HG.out.2
  have hwh := Lm.with_wf HS.out.1 (l := l2) (by rw [HS.out.2.1]; omega) hg2
  obtain ⟨m, hm⟩ : ∃ m, m = S.with l1 := ⟨_, rfl⟩
  obtain ⟨hh, hhe⟩ : ∃ hh, hh = S.with l2 := ⟨_, rfl⟩
  have hml : m.l = l0 ++ l1 := by rw [hm, ← HS.out.2.1]; rfl
  have hhl : hh.l = l0 ++ l2 := by rw [hhe, ← HS.out.2.1]; rfl
  have hmf : m.fl = 0 ∧ m.ft = 0 := by rw [hm]; exact HS.out.2.2
  have hhf : hh.fl = 0 ∧ hh.ft = 0 := by rw [hhe]; exact HS.out.2.2
  have Lm3 := Lg.later HG.out.1 b3
  rw [← hm] at hwm Lm3
  rw [← hhe] at hwh Lh
  have HM : Hid (m.Wf ∧ hh.Wf ∧ m.l = l0 ++ l1 ∧ hh.l = l0 ++ l2 ∧ (m.fl = 0 ∧ m.ft = 0) ∧ (hh.fl = 0 ∧ hh.ft = 0)) := ⟨hwm, hwh, hml, hhl, hmf, hhf⟩
  have H3 : Hid (Below w.heap.size w w3 ∧ Lg w3 g m ∧ Lg w3 h hh) := ⟨below_then H2.out.2 b3, Lm3, Lh⟩
  have m80 : m.l.length ≤ 80 := by rw [hml, List.length_append]; omega
  have h80 : hh.l.length ≤ 80 := by rw [hhl, List.length_append]; omega
  have hkL : l0.length ≤ hh.l.length ∧ l0.length ≤ m.l.length := by rw [hhl, hml, List.length_append, List.length_append]; omega
  clear hwm hwh hm hhe hml hhl hmf hhf Lm3 Lh b3 H2 HG hg2 HS F0 HA
  go_wp2_with fail
  have HSl := enSlice_in h hh ((l0.length : Int) + 1) most l0.length w3 H3.out.2.2 HM.out.2.1 hkL.1 (by rw [HM.out.2.2.2.2.2.1]; omega) hmost
  refine HSl.mono ?_
  rintro e w4 ⟨sa, sc, rfl, hsc, -, hsA, b4⟩
  obtain ⟨D, hD⟩ : ∃ D, D = (hh.l.drop l0.length).take most.toNat := ⟨_, rfl⟩
  rw [← hD] at hsc hsA ⊢
  have hD80 : D.length ≤ 80 := by rw [hD, List.length_take, List.length_drop]; omega
  have HD : Hid (D = (hh.l.drop l0.length).take most.toNat) := hD
  have H4 : Hid (Below w.heap.size w w4 ∧ Lg w4 g m ∧ Lg w4 h hh ∧ EArgs w4 sa D) := ⟨below_then H3.out.1 b4, Lg.later H3.out.2.1 b4, Lg.later H3.out.2.2 b4, hsA⟩
  have hp64 : I64 (l0.length : Int) := by unfold I64; omega
  have HP : Hid (I64 (l0.length : Int) ∧ I64 most) := ⟨hp64, hmost⟩
  have hAl := common_alike HM.out.2.2.1 HM.out.2.2.2.1 HM.out.2.2.2.2.1 HM.out.2.2.2.2.2
  have HAl : Hid (Alike m hh l0.length) := hAl
  clear H3 b4 hsA HSl hD hp64 hmost hAl
  go_wp2_with fail
  refine (enTerm_any h hh l0.length w4 H4.out.2.2.1 HM.out.2.1 HP.out.1).mono ?_
  rintro e w5 ⟨rfl, b5⟩
  have H5 : Hid (Below w.heap.size w w5 ∧ Lg w5 g m ∧ Lg w5 h hh ∧ EArgs w5 sa D) := ⟨below_then H4.out.1 b5, Lg.later H4.out.2.1 b5, Lg.later H4.out.2.2.1 b5, EArgs.later H4.out.2.2.2 b5⟩
  clear H4 b5
  go_wp2_with fail
  refine (enJoin_any g m l0.length (hh.term l0.length) sa sc D w5 H5.out.2.1 HM.out.1 HP.out.1 (by omega) hsc H5.out.2.2.2).mono ?_
  rintro e w6 ⟨hr, b6⟩
  obtain ⟨gx, X, f, rfl, LX, HJ, hXf⟩ : ∃ (gx : Nat) (X : Lm) (f : Nat), e = .returned (joV (some gx) true ((l0.length : Int) + D.length) f 0) ∧ Lg w6 gx X ∧ Joint X hh l0.length D f ∧ (f = 0 ∨ 0 < f) := by
    have hmf := HM.out.2.2.2.2.1.1
    have e0 : (m.fl : Int) + l0.length = l0.length := by rw [hmf]; omega
    have hok := joins_ok HM.out.1 HM.out.2.1 (by rw [hmf, HM.out.2.2.2.2.2.1]) (k := l0.length) (q := most.toNat) hkL.1 (by rw [e0]; exact alike_holds HAl.out (Nat.le_refl _))
    rw [e0, ← HD.out] at hok
    rcases hr with ⟨hno, _⟩ | ⟨_, hpa, rfl⟩ | ⟨_, hlt, hnf, _⟩ | ⟨_, hlt, hfi, g', rfl, _, L'⟩
    · rw [hok.1] at hno; cases hno
    · refine ⟨g, m, 0, rfl, Lg.later H5.out.2.1 b6, ?_, .inl rfl⟩
      rw [HD.out] at hpa ⊢
      exact joint_same HM.out.1 HAl.out hpa
    · exact absurd (hok.2 hlt) hnf
    · refine ⟨g', m.joined l0.length D, l0.length + m.pass l0.length D + 1, ?_, L', ?_, .inr (by omega)⟩
      · rw [show ((l0.length + m.pass l0.length D + 1 : Nat) : Int) = (l0.length : Int) + m.pass l0.length D + 1 by omega]
      · rw [HD.out] at hlt hfi ⊢
        exact joint_new HM.out.1 HAl.out hlt hfi
  clear hr
  simp only [joV, Option.map_some]
  have b7 := box5_below w6 (.pointer (some ⟨gx, 0, none⟩)) (.bool true) (.int .i64 ((l0.length : Int) + D.length)) (.int .i64 f) (.int .i64 0) 31
  have B7 : Blk (w6.alloc (.cells #[.pointer (some ⟨gx, 0, none⟩), .bool true, .int .i64 ((l0.length : Int) + D.length), .int .i64 f, .int .i64 0] 31)) w6.heap.size 31 [.pointer (some ⟨gx, 0, none⟩), .bool true, .int .i64 ((l0.length : Int) + D.length), .int .i64 f, .int .i64 0] := Blk.new' w6 _ _
  have hJW : JW w (w6.alloc (.cells #[.pointer (some ⟨gx, 0, none⟩), .bool true, .int .i64 ((l0.length : Int) + D.length), .int .i64 f, .int .i64 0] 31)) w6.heap.size gx h X hh ((l0.length : Int) + D.length) f sa D := ⟨below_then (below_then H5.out.1 b6) b7, LX.later b7, Lg.later (Lg.later H5.out.2.2.1 b6) b7, B7, EArgs.later (EArgs.later H5.out.2.2.2 b6) b7⟩
  have HB7 : Hid _ := hJW
  have HJn : Hid _ := HJ
  have hE80 : (l0.length : Int) + D.length ≤ 120 := by omega
  have hf80 : (f : Int) ≤ 120 := by
    rcases hXf with e | e
    · omega
    · have := (HJ.part e).2.1; omega
  obtain ⟨E, hE⟩ : ∃ E : Int, E = (l0.length : Int) + D.length := ⟨_, rfl⟩
  obtain ⟨f', hf'⟩ : ∃ f' : Int, f' = (f : Int) := ⟨_, rfl⟩
  rw [← hf'] at HB7 hf80 ⊢
  have HFI : Hid (f' = (f : Int)) := hf'
  have HXf : Hid (f = 0 ∨ 0 < f) := hXf
  clear b7 B7 hJW HJ b6 H5 LX hf' hXf
  go_wp2_with fail
  rw [← hE] at HB7 hE80 ⊢
  generalize w6.alloc (.cells #[.pointer (some ⟨gx, 0, none⟩), .bool true, .int .i64 E, .int .i64 f', .int .i64 0] 31) = w7 at *
  have HE : Hid (E = (l0.length : Int) + D.length) := hE
  have hE0 : 0 ≤ E := by omega
  clear hE
  go_loopw [17] (fun kv wr => ∃ k : Nat, kv = .int .i64 k ∧ (k : Int) ≤ E + 1 ∧ JW w wr w6.heap.size gx h X hh E f' sa D) (fun kv _ => (E + 2 - intOf kv).toNat)
  case atStart => exact ⟨0, rfl, by omega, HB7.out⟩
  case round =>
    obtain ⟨k, rfl, hk, hJ⟩ := hrel
    obtain ⟨d0, d1, d2, d3, d4⟩ := hJ.cells
    by_cases hlt : (k : Int) ≤ E
    · have hk64 : I64 (k : Int) := by unfold I64; omega
      have HB : Hid _ := hJ
      have HT1 := enTerm_any gx X k wr hJ.lx HJn.out.wf hk64
      rw [alike_term HJn.out.alike (k := k) (by have := HE.out; omega)] at HT1
      clear hJ d1 d3 d4
      go_wp2_with fail
      refine HT1.mono ?_
      rintro e x1 ⟨rfl, c1⟩
      have HB1 : Hid _ := JW.later HB.out c1
      clear HB c1 HT1 d0 d2
      go_wp2_with fail
      refine (enTerm_any h hh k x1 HB1.out.lh HM.out.2.1 hk64).mono ?_
      rintro e x2 ⟨rfl, c2⟩
      have F : Hid _ := JW.later HB1.out c2
      clear HB1 c2
      go_wp2
      go_roundw
      case rel => exact ⟨k + 1, by go_num, by omega, F.out⟩
      case measure => simp [intOf]; omega
    · have HB : Hid _ := hJ
      clear hJ d1 d4
      go_upto_region 20 with fail
      clear d0 d2 d3
      go_cut [129] from 106 to 130 (fun cv wx => cv = .bool false ∧ JW w wx w6.heap.size gx h X hh E f' sa D)
      case first =>
        have d0 : ∀ W, Below wr.heap.size wr W → W.cell? ⟨w6.heap.size, 0, none⟩ = some (.pointer (some ⟨gx, 0, none⟩)) := fun W hW => (JW.later HB.out hW).cells.1
        have d2 : ∀ W, Below wr.heap.size wr W → W.cell? ⟨w6.heap.size, 2, none⟩ = some (.int .i64 E) := fun W hW => (JW.later HB.out hW).cells.2.2.1
        have d3 : ∀ W, Below wr.heap.size wr W → W.cell? ⟨w6.heap.size, 3, none⟩ = some (.int .i64 f') := fun W hW => (JW.later HB.out hW).cells.2.2.2.1
        have Sd : Below wr.heap.size wr wr.drew := (Below.refl _ _).drew
        rcases HXf.out with hf0 | hf0
        · have F : Hid _ := JW.later HB.out Sd
          have q5 : ¬ 0 < f' := by rw [HFI.out]; omega
          have q6 : decide (f' > 0) = false := decide_eq_false q5
          clear hf0
          refine wp_region_held_drew (S := fun W => Below wr.heap.size wr W) (by kernel_rfl) Sd (fun hS => ?_)
          have B0 : Below wr.heap.size wr wr.drew := Sd
          refine any_take (i := 0) (v := ?_) rfl (by kernel_rfl) (by kernel_rfl) (by kernel_rfl) (by exact fun _ _ _ h => h) (by rfl) ?_ hS ?_
          rotate_left
          · ((intro w hSw; (try dsimp only at hSw); go_simp) <;> with_reducible rfl)
          (try simp only [Act.put, List.setIfInBounds_toArray, List.set_cons_zero, List.set_cons_succ])
          refine any_take (i := 1) (v := ?_) rfl (by kernel_rfl) (by kernel_rfl) (by kernel_rfl) (by exact fun _ _ _ h => h) (by rfl) ?_ hS ?_
          rotate_left
          · ((intro w hSw; (try dsimp only at hSw); go_simp) <;> with_reducible rfl)
          (try simp only [Act.put, List.setIfInBounds_toArray, List.set_cons_zero, List.set_cons_succ])
          refine any_take (i := 2) (v := ?_) rfl (by kernel_rfl) (by kernel_rfl) (by kernel_rfl) (by exact fun _ _ _ h => h) (by rfl) ?_ hS ?_
          rotate_left
          · ((intro w hSw; (try dsimp only at hSw); go_simp) <;> with_reducible rfl)
          (try simp only [Act.put, List.setIfInBounds_toArray, List.set_cons_zero, List.set_cons_succ])
          refine any_take (i := 3) (v := ?_) rfl (by kernel_rfl) (by kernel_rfl) (by kernel_rfl) (by exact fun _ _ _ h => h) (by rfl) ?_ hS ?_
          rotate_left
          · ((intro w hSw; (try dsimp only at hSw); go_simp) <;> with_reducible rfl)
          (try simp only [Act.put, List.setIfInBounds_toArray, List.set_cons_zero, List.set_cons_succ])
          refine any_skip (i := 4) rfl (by kernel_rfl) (by kernel_rfl) (by kernel_rfl) (by exact fun _ _ _ h => h) (by rfl) hS ?_
          (try simp only [Act.put, List.setIfInBounds_toArray, List.set_cons_zero, List.set_cons_succ])
          refine any_skip (i := 5) rfl (by kernel_rfl) (by kernel_rfl) (by kernel_rfl) (by exact fun _ _ _ h => h) (by rfl) hS ?_
          (try simp only [Act.put, List.setIfInBounds_toArray, List.set_cons_zero, List.set_cons_succ])
          refine any_skip (i := 6) rfl (by kernel_rfl) (by kernel_rfl) (by kernel_rfl) (by exact fun _ _ _ h => h) (by rfl) hS ?_
          (try simp only [Act.put, List.setIfInBounds_toArray, List.set_cons_zero, List.set_cons_succ])
          refine any_skip (i := 7) rfl (by kernel_rfl) (by kernel_rfl) (by kernel_rfl) (by exact fun _ _ _ h => h) (by rfl) hS ?_
          (try simp only [Act.put, List.setIfInBounds_toArray, List.set_cons_zero, List.set_cons_succ])
          refine any_skip (i := 8) rfl (by kernel_rfl) (by kernel_rfl) (by kernel_rfl) (by exact fun _ _ _ h => h) (by rfl) hS ?_
          (try simp only [Act.put, List.setIfInBounds_toArray, List.set_cons_zero, List.set_cons_succ])
          refine any_skip (i := 9) rfl (by kernel_rfl) (by kernel_rfl) (by kernel_rfl) (by exact fun _ _ _ h => h) (by rfl) hS ?_
          (try simp only [Act.put, List.setIfInBounds_toArray, List.set_cons_zero, List.set_cons_succ])
          refine any_skip (i := 10) rfl (by kernel_rfl) (by kernel_rfl) (by kernel_rfl) (by exact fun _ _ _ h => h) (by rfl) hS ?_
          (try simp only [Act.put, List.setIfInBounds_toArray, List.set_cons_zero, List.set_cons_succ])
          refine any_skip (i := 11) rfl (by kernel_rfl) (by kernel_rfl) (by kernel_rfl) (by exact fun _ _ _ h => h) (by rfl) hS ?_
          (try simp only [Act.put, List.setIfInBounds_toArray, List.set_cons_zero, List.set_cons_succ])
          refine any_skip (i := 12) rfl (by kernel_rfl) (by kernel_rfl) (by kernel_rfl) (by exact fun _ _ _ h => h) (by rfl) hS ?_
          (try simp only [Act.put, List.setIfInBounds_toArray, List.set_cons_zero, List.set_cons_succ])
          refine any_skip (i := 13) rfl (by kernel_rfl) (by kernel_rfl) (by kernel_rfl) (by exact fun _ _ _ h => h) (by rfl) hS ?_
          (try simp only [Act.put, List.setIfInBounds_toArray, List.set_cons_zero, List.set_cons_succ])
          refine any_skip (i := 14) rfl (by kernel_rfl) (by kernel_rfl) (by kernel_rfl) (by exact fun _ _ _ h => h) (by rfl) hS ?_
          (try simp only [Act.put, List.setIfInBounds_toArray, List.set_cons_zero, List.set_cons_succ])
          refine any_skip (i := 15) rfl (by kernel_rfl) (by kernel_rfl) (by kernel_rfl) (by exact fun _ _ _ h => h) (by rfl) hS ?_
          (try simp only [Act.put, List.setIfInBounds_toArray, List.set_cons_zero, List.set_cons_succ])
          refine any_skip (i := 16) rfl (by kernel_rfl) (by kernel_rfl) (by kernel_rfl) (by exact fun _ _ _ h => h) (by rfl) hS ?_
          (try simp only [Act.put, List.setIfInBounds_toArray, List.set_cons_zero, List.set_cons_succ])
          refine any_skip (i := 17) rfl (by kernel_rfl) (by kernel_rfl) (by kernel_rfl) (by exact fun _ _ _ h => h) (by rfl) hS ?_
          (try simp only [Act.put, List.setIfInBounds_toArray, List.set_cons_zero, List.set_cons_succ])
          refine any_skip (i := 18) rfl (by kernel_rfl) (by kernel_rfl) (by kernel_rfl) (by exact fun _ _ _ h => h) (by rfl) hS ?_
          (try simp only [Act.put, List.setIfInBounds_toArray, List.set_cons_zero, List.set_cons_succ])
          refine any_skip (i := 19) rfl (by kernel_rfl) (by kernel_rfl) (by kernel_rfl) (by exact fun _ _ _ h => h) (by rfl) hS ?_
          (try simp only [Act.put, List.setIfInBounds_toArray, List.set_cons_zero, List.set_cons_succ])
          refine any_skip (i := 20) rfl (by kernel_rfl) (by kernel_rfl) (by kernel_rfl) (by exact fun _ _ _ h => h) (by rfl) hS ?_
          (try simp only [Act.put, List.setIfInBounds_toArray, List.set_cons_zero, List.set_cons_succ])
          refine any_skip (i := 21) rfl (by kernel_rfl) (by kernel_rfl) (by kernel_rfl) (by exact fun _ _ _ h => h) (by rfl) hS ?_
          (try simp only [Act.put, List.setIfInBounds_toArray, List.set_cons_zero, List.set_cons_succ])
          refine any_skip (i := 22) rfl (by kernel_rfl) (by kernel_rfl) (by kernel_rfl) (by exact fun _ _ _ h => h) (by rfl) hS ?_
          (try simp only [Act.put, List.setIfInBounds_toArray, List.set_cons_zero, List.set_cons_succ])
          refine any_take (i := 23) (v := ?_) rfl (by kernel_rfl) (by kernel_rfl) (by kernel_rfl) (by exact fun _ _ _ h => h) (by rfl) ?_ hS ?_
          rotate_left
          · ((intro w hSw; (try dsimp only at hSw); go_simp) <;> with_reducible rfl)
          (try simp only [Act.put, List.setIfInBounds_toArray, List.set_cons_zero, List.set_cons_succ])
          refine wpAnyH_done (by kernel_rfl) ?_ _
          clear d0 d2 d3
          go_wp2_with fail
          go_meet
          exact ⟨rfl, F.out⟩
        · have q5 : 0 < f' := by rw [HFI.out]; omega
          have hfe := HFI.out
          have hpt := HJn.out.part hf0
          have q7 : E - f' ≤ 120 ∧ 0 ≤ E - f' := by have := HE.out; omega
          obtain ⟨Q, hQe⟩ : ∃ Q, Q = (X.l.drop (f - 1)).take (l0.length + D.length) := ⟨_, rfl⟩
          have hQ : Q.length ≤ 140737488355328 := by rw [hQe, List.length_take]; omega
          have HS1 : Hid (∀ W, JW w W w6.heap.size gx h X hh E f' sa D → Calls Try.prog 11 #[.pointer (some ⟨gx, 0, none⟩), .int .i64 f', .int .i64 E] W fun r w' => ∃ t u, r = .returned (.slice t Q.length u) ∧ Q.length ≤ u ∧ EArgs w' t Q ∧ Below W.heap.size W w') := fun W hW => by
            have hs := enSlice_in gx X f' E (f - 1) W hW.lx HJn.out.wf (by omega) (by rw [HJn.out.alike.fl.1]; omega) (by unfold I64; omega)
            rw [show E.toNat = l0.length + D.length by have := HE.out; omega, ← hQe] at hs
            refine hs.mono ?_
            rintro r w' ⟨t, u, h1, h2, -, h4, h5⟩
            exact ⟨t, u, h1, h2, h4, h5⟩
          have HS2 : Hid (∀ W t1, JW w W w6.heap.size gx h X hh E f' sa D → EArgs W t1 Q → Calls Try.prog 11 #[.pointer (some ⟨h, 0, none⟩), .int .i64 f', .int .i64 (E - f' + 1)] W fun r w' => ∃ t u, r = .returned (.slice t Q.length u) ∧ Q.length ≤ u ∧ EArgs w' t Q ∧ EArgs w' t1 Q ∧ Below W.heap.size W w') := fun W t1 hW ht1 => by
            have hs := enSlice_in h hh f' (E - f' + 1) (f - 1) W hW.lh HM.out.2.1 (by have := HJn.out.alike.lh; omega) (by rw [HJn.out.alike.fl.2]; omega) (by unfold I64; omega)
            rw [show (E - f' + 1).toNat = l0.length + D.length - f + 1 by have := HE.out; omega, ← hpt.2.2.1, ← hQe] at hs
            refine hs.mono ?_
            rintro r w' ⟨t, u, h1, h2, -, h4, h5⟩
            exact ⟨t, u, h1, h2, h4, ht1.later h5, h5⟩
          have q6 : decide (f' > 0) = true := decide_eq_true q5
          clear hpt hQe hfe hf0
          refine wp_region_held_drew (S := fun W => Below wr.heap.size wr W) (by kernel_rfl) Sd (fun hS => ?_)
          have B0 : Below wr.heap.size wr wr.drew := Sd
          refine any_take (i := 0) (v := ?_) rfl (by kernel_rfl) (by kernel_rfl) (by kernel_rfl) (by exact fun _ _ _ h => h) (by rfl) ?_ hS ?_
          rotate_left
          · ((intro w hSw; (try dsimp only at hSw); go_simp) <;> with_reducible rfl)
          (try simp only [Act.put, List.setIfInBounds_toArray, List.set_cons_zero, List.set_cons_succ])
          refine any_take (i := 1) (v := ?_) rfl (by kernel_rfl) (by kernel_rfl) (by kernel_rfl) (by exact fun _ _ _ h => h) (by rfl) ?_ hS ?_
          rotate_left
          · ((intro w hSw; (try dsimp only at hSw); go_simp) <;> with_reducible rfl)
          (try simp only [Act.put, List.setIfInBounds_toArray, List.set_cons_zero, List.set_cons_succ])
          refine any_take (i := 2) (v := ?_) rfl (by kernel_rfl) (by kernel_rfl) (by kernel_rfl) (by exact fun _ _ _ h => h) (by rfl) ?_ hS ?_
          rotate_left
          · ((intro w hSw; (try dsimp only at hSw); go_simp) <;> with_reducible rfl)
          (try simp only [Act.put, List.setIfInBounds_toArray, List.set_cons_zero, List.set_cons_succ])
          refine any_take (i := 3) (v := ?_) rfl (by kernel_rfl) (by kernel_rfl) (by kernel_rfl) (by exact fun _ _ _ h => h) (by rfl) ?_ hS ?_
          rotate_left
          · ((intro w hSw; (try dsimp only at hSw); go_simp) <;> with_reducible rfl)
          (try simp only [Act.put, List.setIfInBounds_toArray, List.set_cons_zero, List.set_cons_succ])
          refine any_take (i := 4) (v := ?_) rfl (by kernel_rfl) (by kernel_rfl) (by kernel_rfl) (by exact fun _ _ _ h => h) (by rfl) ?_ hS ?_
          rotate_left
          · ((intro w hSw; (try dsimp only at hSw); go_simp) <;> with_reducible rfl)
          (try simp only [Act.put, List.setIfInBounds_toArray, List.set_cons_zero, List.set_cons_succ])
          refine any_take (i := 5) (v := ?_) rfl (by kernel_rfl) (by kernel_rfl) (by kernel_rfl) (by exact fun _ _ _ h => h) (by rfl) ?_ hS ?_
          rotate_left
          · ((intro w hSw; (try dsimp only at hSw); go_simp) <;> with_reducible rfl)
          (try simp only [Act.put, List.setIfInBounds_toArray, List.set_cons_zero, List.set_cons_succ])
          refine any_take (i := 6) (v := ?_) rfl (by kernel_rfl) (by kernel_rfl) (by kernel_rfl) (by exact fun _ _ _ h => h) (by rfl) ?_ hS ?_
          rotate_left
          · ((intro w hSw; (try dsimp only at hSw); go_simp) <;> with_reducible rfl)
          (try simp only [Act.put, List.setIfInBounds_toArray, List.set_cons_zero, List.set_cons_succ])
          refine any_take (i := 7) (v := ?_) rfl (by kernel_rfl) (by kernel_rfl) (by kernel_rfl) (by exact fun _ _ _ h => h) (by rfl) ?_ hS ?_
          rotate_left
          · ((intro w hSw; (try dsimp only at hSw); go_simp) <;> with_reducible rfl)
          (try simp only [Act.put, List.setIfInBounds_toArray, List.set_cons_zero, List.set_cons_succ])
          refine any_take (i := 8) (v := ?_) rfl (by kernel_rfl) (by kernel_rfl) (by kernel_rfl) (by exact fun _ _ _ h => h) (by rfl) ?_ hS ?_
          rotate_left
          · ((intro w hSw; (try dsimp only at hSw); go_simp) <;> with_reducible rfl)
          (try simp only [Act.put, List.setIfInBounds_toArray, List.set_cons_zero, List.set_cons_succ])
          refine any_take (i := 9) (v := ?_) rfl (by kernel_rfl) (by kernel_rfl) (by kernel_rfl) (by exact fun _ _ _ h => h) (by rfl) ?_ hS ?_
          rotate_left
          · ((intro w hSw; (try dsimp only at hSw); go_simp) <;> with_reducible rfl)
          (try simp only [Act.put, List.setIfInBounds_toArray, List.set_cons_zero, List.set_cons_succ])
          refine any_take (i := 11) (v := ?_) rfl (by kernel_rfl) (by kernel_rfl) (by kernel_rfl) (by exact fun _ _ _ h => h) (by rfl) ?_ hS ?_
          rotate_left
          · ((intro w hSw; (try dsimp only at hSw); go_simp) <;> with_reducible rfl)
          (try simp only [Act.put, List.setIfInBounds_toArray, List.set_cons_zero, List.set_cons_succ])
          refine any_take (i := 12) (v := ?_) rfl (by kernel_rfl) (by kernel_rfl) (by kernel_rfl) (by exact fun _ _ _ h => h) (by rfl) ?_ hS ?_
          rotate_left
          · ((intro w hSw; (try dsimp only at hSw); go_simp) <;> with_reducible rfl)
          (try simp only [Act.put, List.setIfInBounds_toArray, List.set_cons_zero, List.set_cons_succ])
          refine any_take (i := 13) (v := ?_) rfl (by kernel_rfl) (by kernel_rfl) (by kernel_rfl) (by exact fun _ _ _ h => h) (by rfl) ?_ hS ?_
          rotate_left
          · ((intro w hSw; (try dsimp only at hSw); go_simp) <;> with_reducible rfl)
          (try simp only [Act.put, List.setIfInBounds_toArray, List.set_cons_zero, List.set_cons_succ])
          refine any_take (i := 14) (v := ?_) rfl (by kernel_rfl) (by kernel_rfl) (by kernel_rfl) (by exact fun _ _ _ h => h) (by rfl) ?_ hS ?_
          rotate_left
          · ((intro w hSw; (try dsimp only at hSw); go_simp) <;> with_reducible rfl)
          (try simp only [Act.put, List.setIfInBounds_toArray, List.set_cons_zero, List.set_cons_succ])
          refine any_take (i := 15) (v := ?_) rfl (by kernel_rfl) (by kernel_rfl) (by kernel_rfl) (by exact fun _ _ _ h => h) (by rfl) ?_ hS ?_
          rotate_left
          · ((intro w hSw; (try dsimp only at hSw); go_simp) <;> with_reducible rfl)
          (try simp only [Act.put, List.setIfInBounds_toArray, List.set_cons_zero, List.set_cons_succ])
          refine any_take (i := 16) (v := ?_) rfl (by kernel_rfl) (by kernel_rfl) (by kernel_rfl) (by exact fun _ _ _ h => h) (by rfl) ?_ hS ?_
          rotate_left
          · ((intro w hSw; (try dsimp only at hSw); go_simp) <;> with_reducible rfl)
          (try simp only [Act.put, List.setIfInBounds_toArray, List.set_cons_zero, List.set_cons_succ])
          refine any_take (i := 17) (v := ?_) rfl (by kernel_rfl) (by kernel_rfl) (by kernel_rfl) (by exact fun _ _ _ h => h) (by rfl) ?_ hS ?_
          rotate_left
          · ((intro w hSw; (try dsimp only at hSw); go_simp) <;> with_reducible rfl)
          (try simp only [Act.put, List.setIfInBounds_toArray, List.set_cons_zero, List.set_cons_succ])
          refine any_take (i := 18) (v := .int .i64 (E - f')) rfl (by kernel_rfl) (by kernel_rfl) (by kernel_rfl) (by exact fun _ _ _ h => h) (by rfl) ?_ hS ?_
          · intro W hSW; go_simp; rw [IntKind.wrap_i64]; omega
          (try simp only [Act.put, List.setIfInBounds_toArray, List.set_cons_zero, List.set_cons_succ])
          refine any_take (i := 19) (v := .int .i64 (E - f' + 1)) rfl (by kernel_rfl) (by kernel_rfl) (by kernel_rfl) (by exact fun _ _ _ h => h) (by rfl) ?_ hS ?_
          · intro W hSW; go_simp; rw [IntKind.wrap_i64]; omega
          (try simp only [Act.put, List.setIfInBounds_toArray, List.set_cons_zero, List.set_cons_succ])
          clear d0 d2 d3
          have K1 : Hid _ := HS1.out _ (JW.later HB.out B0)
          refine any_one (i := 10) rfl (by kernel_rfl) (fun K hK => ?_)
          go_simp
          refine (Calls.mono (K1.out)) ?_
          rintro e x1 ⟨t1, u1, rfl, hu1, hA1, hbR⟩
          have B1 : Below wr.heap.size wr x1 := below_then B0 hbR
          clear K1
          go_wp2_with fail
          refine hK.out _ _ (by first | exact B1 | exact hbR | exact below_then hS hbR) (any_weaken (S' := fun W => Below x1.heap.size x1 W) (fun W hW => by first | exact below_then B1 hW | exact below_then hbR hW | exact below_then (below_then hS hbR) hW) _ _ _ _ ?_)
          clear hK K hS hbR
          have hS : Below x1.heap.size x1 x1 := Below.refl _ _
          have K2 : Hid _ := HS2.out _ t1 (JW.later HB.out B1) hA1
          refine any_one (i := 20) rfl (by kernel_rfl) (fun K hK => ?_)
          go_simp
          refine (Calls.mono (K2.out)) ?_
          rintro e x2 ⟨t2, u2, rfl, hu2, hA2, hA1', hbR⟩
          have B2 : Below wr.heap.size wr x2 := below_then B1 hbR
          clear K2
          go_wp2_with fail
          refine hK.out _ _ (by first | exact B2 | exact hbR | exact below_then hS hbR) (any_weaken (S' := fun W => Below x2.heap.size x2 W) (fun W hW => by first | exact below_then B2 hW | exact below_then hbR hW | exact below_then (below_then hS hbR) hW) _ _ _ _ ?_)
          clear hK K hS hbR
          have hS : Below x2.heap.size x2 x2 := Below.refl _ _
          have K3 : Hid _ := same9_yes t1 t2 u1 u2 Q _ hQ hu1 hu2 hA1' hA2
          refine any_one (i := 21) rfl (by kernel_rfl) (fun K hK => ?_)
          go_simp
          refine (Calls.mono (K3.out)) ?_
          rintro e x3 ⟨rfl, hbR⟩
          have B3 : Below wr.heap.size wr x3 := below_then B2 hbR
          clear K3
          go_wp2_with fail
          refine hK.out _ _ (by first | exact B3 | exact hbR | exact below_then hS hbR) (any_weaken (S' := fun W => Below x3.heap.size x3 W) (fun W hW => by first | exact below_then B3 hW | exact below_then hbR hW | exact below_then (below_then hS hbR) hW) _ _ _ _ ?_)
          clear hK K hS hbR
          have hS : Below x3.heap.size x3 x3 := Below.refl _ _
          refine any_take (i := 22) (v := ?_) rfl (by kernel_rfl) (by kernel_rfl) (by kernel_rfl) (by exact fun _ _ _ h => h) (by rfl) ?_ hS ?_
          rotate_left
          · ((intro w hSw; (try dsimp only at hSw); go_simp) <;> with_reducible rfl)
          (try simp only [Act.put, List.setIfInBounds_toArray, List.set_cons_zero, List.set_cons_succ])
          refine any_take (i := 23) (v := ?_) rfl (by kernel_rfl) (by kernel_rfl) (by kernel_rfl) (by exact fun _ _ _ h => h) (by rfl) ?_ hS ?_
          rotate_left
          · ((intro w hSw; (try dsimp only at hSw); go_simp) <;> with_reducible rfl)
          (try simp only [Act.put, List.setIfInBounds_toArray, List.set_cons_zero, List.set_cons_succ])
          refine wpAnyH_done (by kernel_rfl) ?_ _
          have F : Hid _ := JW.later HB.out B3
          clear hS
          go_wp2_with fail
          go_meet
          exact ⟨rfl, F.out⟩
      case rest =>
      obtain ⟨rfl, hJ⟩ := hcut
      have HB2 : Hid _ := hJ
      clear hJ HB
      go_upto_region 22 with fail
      have HT2 : Hid (∀ W, JW w W w6.heap.size gx h X hh E f' sa D → Calls Try.prog 13 #[.pointer (some ⟨h, 0, none⟩), .int .i64 l0.length] W fun e w' => e = .returned (.int .i64 (hh.term l0.length)) ∧ Below W.heap.size W w') := fun W hW => enTerm_any h hh l0.length W hW.lh HM.out.2.1 HP.out.1
      have HJ2 : Hid (∀ W, JW w W w6.heap.size gx h X hh E f' sa D → Calls Try.prog 12 #[.pointer (some ⟨gx, 0, none⟩), .int .i64 l0.length, .int .i64 (hh.term l0.length), .slice sa D.length sc] W fun e w' => e = .returned (.agg #[.pointer (some ⟨gx, 0, none⟩), .bool true, .int .i64 E, .int .i64 0, .int .i64 0]) ∧ Below W.heap.size W w') := fun W hW => by
        refine (enJoin_any gx X l0.length (hh.term l0.length) sa sc D W hW.lx HJn.out.wf HP.out.1 (by omega) hsc hW.args).mono ?_
        rintro e w' ⟨hr, hb⟩
        have hal := HJn.out.alike
        have hme : X.meetsB (l0.length : Int) (hh.term l0.length) D.length = true := (show _ = X.holdsB _ _ from if_neg (by rw [hal.fl.1]; omega)).trans (alike_holds hal (by omega))
        have hpa : X.pass l0.length D = D.length := by
          rw [pass_eq (by rw [hal.fl.1]; omega), HD.out]
          refine skip_all ?_
          rw [← HD.out]; exact hal
        refine ⟨?_, hb⟩
        rcases hr with ⟨hno, _⟩ | ⟨_, _, rfl⟩ | ⟨_, hlt', _, _⟩ | ⟨_, hlt', _, _, _, _, _⟩
        · rw [hme] at hno; cases hno
        · rw [HE.out]; rfl
        · rw [hpa] at hlt'; omega
        · rw [hpa] at hlt'; omega
      obtain ⟨w8, hw8⟩ : ∃ x, x = wc := ⟨_, rfl⟩
      subst hw8
      go_cut [18] from 130 to 138 (fun pv wx => ∃ q2, pv = .pointer (some ⟨q2, 0, none⟩) ∧ JW w wx w6.heap.size gx h X hh E f' sa D ∧ Blk wx q2 31 [.pointer (some ⟨gx, 0, none⟩), .bool true, .int .i64 E, .int .i64 0, .int .i64 0])
      case first =>
        have d0 : ∀ W, Below w8.heap.size w8 W → W.cell? ⟨w6.heap.size, 0, none⟩ = some (.pointer (some ⟨gx, 0, none⟩)) := fun W hW => (JW.later HB2.out hW).cells.1
        have HB : Hid _ := HB2.out
        have Sd : Below w8.heap.size w8 w8.drew := (Below.refl _ _).drew
        refine wp_region_held_drew (S := fun W => Below w8.heap.size w8 W) (by kernel_rfl) Sd (fun hS => ?_)
        have B0 : Below w8.heap.size w8 w8.drew := Sd
        refine any_take (i := 0) (v := ?_) rfl (by kernel_rfl) (by kernel_rfl) (by kernel_rfl) (by exact fun _ _ _ h => h) (by rfl) ?_ hS ?_
        rotate_left
        · ((intro w hSw; (try dsimp only at hSw); go_simp) <;> with_reducible rfl)
        (try simp only [Act.put, List.setIfInBounds_toArray, List.set_cons_zero, List.set_cons_succ])
        refine any_take (i := 1) (v := ?_) rfl (by kernel_rfl) (by kernel_rfl) (by kernel_rfl) (by exact fun _ _ _ h => h) (by rfl) ?_ hS ?_
        rotate_left
        · ((intro w hSw; (try dsimp only at hSw); go_simp) <;> with_reducible rfl)
        (try simp only [Act.put, List.setIfInBounds_toArray, List.set_cons_zero, List.set_cons_succ])
        refine any_take (i := 2) (v := ?_) rfl (by kernel_rfl) (by kernel_rfl) (by kernel_rfl) (by exact fun _ _ _ h => h) (by rfl) ?_ hS ?_
        rotate_left
        · ((intro w hSw; (try dsimp only at hSw); go_simp) <;> with_reducible rfl)
        (try simp only [Act.put, List.setIfInBounds_toArray, List.set_cons_zero, List.set_cons_succ])
        refine any_take (i := 3) (v := ?_) rfl (by kernel_rfl) (by kernel_rfl) (by kernel_rfl) (by exact fun _ _ _ h => h) (by rfl) ?_ hS ?_
        rotate_left
        · ((intro w hSw; (try dsimp only at hSw); go_simp) <;> with_reducible rfl)
        (try simp only [Act.put, List.setIfInBounds_toArray, List.set_cons_zero, List.set_cons_succ])
        refine any_take (i := 4) (v := ?_) rfl (by kernel_rfl) (by kernel_rfl) (by kernel_rfl) (by exact fun _ _ _ h => h) (by rfl) ?_ hS ?_
        rotate_left
        · ((intro w hSw; (try dsimp only at hSw); go_simp) <;> with_reducible rfl)
        (try simp only [Act.put, List.setIfInBounds_toArray, List.set_cons_zero, List.set_cons_succ])
        refine any_take (i := 6) (v := ?_) rfl (by kernel_rfl) (by kernel_rfl) (by kernel_rfl) (by exact fun _ _ _ h => h) (by rfl) ?_ hS ?_
        rotate_left
        · ((intro w hSw; (try dsimp only at hSw); go_simp) <;> with_reducible rfl)
        (try simp only [Act.put, List.setIfInBounds_toArray, List.set_cons_zero, List.set_cons_succ])
        clear d0 B0
        refine any_two (i := 5) (j := 8) rfl rfl (by kernel_rfl) (fun K hK => ?_) (fun K hK => ?_)
        · go_simp
          refine (Calls.mono (HT2.out _ (JW.later HB.out hS))) ?_
          rintro e y1 ⟨rfl, hbR⟩
          go_wp2_with fail
          refine hK.out _ _ (below_then hS hbR) (fun hS1 => ?_)
          clear hK K hS
          have hS := hS1
          clear hS1
          refine any_two (i := 7) (j := 8) rfl rfl (by kernel_rfl) (fun K hK => ?_) (fun K hK => ?_)
          · go_simp
            refine (Calls.mono (HJ2.out _ (JW.later HB.out hS))) ?_
            rintro e y2 ⟨rfl, hbR2⟩
            go_wp2_with fail
            refine hK.out _ _ (below_then hS hbR2) (fun hS1 => ?_)
            clear hK K hS
            have hS := hS1
            clear hS1
            refine any_on (i := 8) rfl (by kernel_rfl) (fun K hK => ?_)
            have hz := hS.size
            go_simp
            refine hK.out _ _ (hS.alloc hS.size _) (fun hS1 => ?_)
            clear hK K hS
            have hS := hS1
            clear hS1
            have M3 := (Blk.new' y2 31 [.pointer none, .bool false, .int .i64 0, .int .i64 0, .int .i64 0])
            generalize y2.alloc (.cells #[.pointer none, .bool false, .int .i64 0, .int .i64 0, .int .i64 0] 31) = y3 at *
            have MY := M3
            obtain ⟨⟨z0, z1, z2, z3, z4⟩, f0, f1, f2, f3, f4⟩ := eblk5 MY
            have S4 : Hid _ := eset5 MY (.pointer (some ⟨gx, 0, none⟩)) (.bool true) (.int .i64 E) (.int .i64 0) (.int .i64 0) w8.heap.size w8 hS hz hS.size
            refine any_on (i := 9) rfl (by kernel_rfl) (fun K hK => ?_)
            go_simp
            refine hK.out _ _ S4.out.2 (fun hS1 => ?_)
            clear hK K hS
            have hS := hS1
            clear hS1
            refine wpAnyH_done (by kernel_rfl) ?_ _
            go_wp2_with fail
            go_meet
            exact ⟨_, rfl, JW.later HB.out S4.out.2, S4.out.1⟩
          · have hz := hS.size
            go_simp
            refine hK.out _ _ (hS.alloc hS.size _) (fun hS1 => ?_)
            clear hK K hS
            have hS := hS1
            clear hS1
            have M3 := (Blk.new' y1 31 [.pointer none, .bool false, .int .i64 0, .int .i64 0, .int .i64 0])
            generalize y1.alloc (.cells #[.pointer none, .bool false, .int .i64 0, .int .i64 0, .int .i64 0] 31) = y3 at *
            refine any_on (i := 7) rfl (by kernel_rfl) (fun K hK => ?_)
            go_simp
            refine (Calls.mono (HJ2.out _ (JW.later HB.out hS))) ?_
            rintro e y2 ⟨rfl, hbR2⟩
            go_wp2_with fail
            refine hK.out _ _ (below_then hS hbR2) (fun hS1 => ?_)
            clear hK K hS
            have hS := hS1
            clear hS1
            have MY := M3.laterB hbR2
            obtain ⟨⟨z0, z1, z2, z3, z4⟩, f0, f1, f2, f3, f4⟩ := eblk5 MY
            have S4 : Hid _ := eset5 MY (.pointer (some ⟨gx, 0, none⟩)) (.bool true) (.int .i64 E) (.int .i64 0) (.int .i64 0) w8.heap.size w8 hS hz hS.size
            refine any_on (i := 9) rfl (by kernel_rfl) (fun K hK => ?_)
            go_simp
            refine hK.out _ _ S4.out.2 (fun hS1 => ?_)
            clear hK K hS
            have hS := hS1
            clear hS1
            refine wpAnyH_done (by kernel_rfl) ?_ _
            go_wp2_with fail
            go_meet
            exact ⟨_, rfl, JW.later HB.out S4.out.2, S4.out.1⟩
        · go_simp
          refine hK.out _ _ (hS.alloc hS.size _) (fun hS1 => ?_)
          clear hK K hS
          have hS := hS1
          clear hS1
          have hz : w8.heap.size ≤ w8.heap.size := Nat.le_refl _
          have M3 : Blk (w8.alloc (.cells #[.pointer none, .bool false, .int .i64 0, .int .i64 0, .int .i64 0] 31)).drew w8.heap.size 31 [.pointer none, .bool false, .int .i64 0, .int .i64 0, .int .i64 0] := (Blk.new' w8 31 [.pointer none, .bool false, .int .i64 0, .int .i64 0, .int .i64 0])
          first | generalize (w8.alloc (.cells #[.pointer none, .bool false, .int .i64 0, .int .i64 0, .int .i64 0] 31)).drew = y0 at * | (change Blk (w8.drew.alloc (.cells #[.pointer none, .bool false, .int .i64 0, .int .i64 0, .int .i64 0] 31)) _ _ _ at M3; generalize w8.drew.alloc (.cells #[.pointer none, .bool false, .int .i64 0, .int .i64 0, .int .i64 0] 31) = y0 at *)
          refine any_on (i := 5) rfl (by kernel_rfl) (fun K hK => ?_)
          go_simp
          refine (Calls.mono (HT2.out _ (JW.later HB.out hS))) ?_
          rintro e y1 ⟨rfl, hbR⟩
          go_wp2_with fail
          refine hK.out _ _ (below_then hS hbR) (fun hS1 => ?_)
          clear hK K hS
          have hS := hS1
          clear hS1
          refine any_on (i := 7) rfl (by kernel_rfl) (fun K hK => ?_)
          go_simp
          refine (Calls.mono (HJ2.out _ (JW.later HB.out hS))) ?_
          rintro e y2 ⟨rfl, hbR2⟩
          go_wp2_with fail
          refine hK.out _ _ (below_then hS hbR2) (fun hS1 => ?_)
          clear hK K hS
          have hS := hS1
          clear hS1
          have MY := (M3.laterB hbR).laterB hbR2
          obtain ⟨⟨z0, z1, z2, z3, z4⟩, f0, f1, f2, f3, f4⟩ := eblk5 MY
          have S4 : Hid _ := eset5 MY (.pointer (some ⟨gx, 0, none⟩)) (.bool true) (.int .i64 E) (.int .i64 0) (.int .i64 0) w8.heap.size w8 hS hz hS.size
          refine any_on (i := 9) rfl (by kernel_rfl) (fun K hK => ?_)
          go_simp
          refine hK.out _ _ S4.out.2 (fun hS1 => ?_)
          clear hK K hS
          have hS := hS1
          clear hS1
          refine wpAnyH_done (by kernel_rfl) ?_ _
          go_wp2_with fail
          go_meet
          exact ⟨_, rfl, JW.later HB.out S4.out.2, S4.out.1⟩
      case rest =>
      obtain ⟨q2, rfl, hJ4, B8⟩ := hcut
      obtain ⟨y1, hy1⟩ : ∃ x, x = wc := ⟨_, rfl⟩
      subst hy1
      have hT := HJn.out.part
      have HTop : Hid (∀ W, Lg W gx X → Calls Try.prog 15 #[.pointer (some ⟨gx, 0, none⟩)] W fun e w' => e = .returned (.tuple #[.int .i64 X.top, .int .i64 X.tt]) ∧ Below W.heap.size W w') := fun W hW => enTop_any gx X W hW HJn.out.wf
      have hXt : f' = 0 ∨ (X.top : Int) = E := by
        have h1 := HFI.out
        have h2 := HE.out
        rcases HXf.out with e | e
        · exact .inl (by omega)
        · refine .inr ?_
          have := (hT e).2.2.2
          unfold Lm.top
          rw [HJn.out.alike.fl.1]
          omega
      have HXt : Hid _ := hXt
      have H9 : Hid (JW w y1 w6.heap.size gx h X hh E f' sa D ∧ Blk y1 q2 31 [.pointer (some ⟨gx, 0, none⟩), .bool true, .int .i64 E, .int .i64 0, .int .i64 0]) := ⟨hJ4, B8⟩
      clear hJ4 B8 HJ2 HT2 hT hXt HB2
      obtain ⟨p0, p1, p2, p3, p4⟩ := H9.out.1.cells
      obtain ⟨⟨r0, r1, r2, r3, r4⟩, -⟩ := eblk5 H9.out.2
      go_wp2_with fail
      refine (HTop.out y1 H9.out.1.lx).mono ?_
      rintro e y2 ⟨rfl, c2⟩
      have H10 : Hid (JW w y2 w6.heap.size gx h X hh E f' sa D ∧ Blk y2 q2 31 [.pointer (some ⟨gx, 0, none⟩), .bool true, .int .i64 E, .int .i64 0, .int .i64 0]) := ⟨JW.later H9.out.1 c2, H9.out.2.laterB c2⟩
      clear H9 c2 p0 p1 p2 p3 p4 r0 r1 r2 r3 r4
      obtain ⟨r0, -⟩ := (eblk5 H10.out.2).1
      go_wp2_with fail
      refine (HTop.out y2 H10.out.1.lx).mono ?_
      rintro e y3 ⟨rfl, c3⟩
      have H11 : Hid (JW w y3 w6.heap.size gx h X hh E f' sa D) := JW.later H10.out.1 c3
      clear H10 c3 r0 HTop
      obtain ⟨p0, p1, p2, p3, p4⟩ := H11.out.cells
      have htt : X.top ≤ 1125899906842624 + 4096 := by have := HJn.out.wf.place; have := HJn.out.wf.full; unfold Lm.top; omega
      rcases HXt.out with hz | hz
      · have HZ : Hid _ := hz
        have q8 : (f' == 0) = true := by rw [beq_iff_eq]; exact hz
        clear hz
        go_wp2_with fail
        refine (known9_any y3).mono ?_
        rintro e wz ⟨rfl, bz⟩
        have G : Hid _ := below_then H11.out.b bz
        clear bz
        go_wp2
        go_ret
        exact ⟨rfl, G.out⟩
      · rw [hz]
        by_cases hf0 : f' = 0
        · have q8 : (f' == 0) = true := by rw [beq_iff_eq]; exact hf0
          clear hz hf0
          go_wp2_with fail
          refine (known9_any y3).mono ?_
          rintro e wz ⟨rfl, bz⟩
          have G : Hid _ := below_then H11.out.b bz
          clear bz
          go_wp2
          go_ret
          exact ⟨rfl, G.out⟩
        · have q8 : (f' == 0) = false := by rw [beq_eq_false_iff_ne]; exact hf0
          clear hz
          go_wp2_with fail
          refine (known9_any y3).mono ?_
          rintro e wz ⟨rfl, bz⟩
          have G : Hid _ := below_then H11.out.b bz
          clear bz
          go_wp2
          go_ret
          exact ⟨rfl, G.out⟩
end Go.Proofs.Ytehbolkjgiedbaa
