/- A message of which bits are turned, and one that is cut: EntriesTurned's walk. -/
import Derived.Test.YtgjcgnmomdanaaaXEmM
import Derived.Test.YtgjcgnmomdanaaaXEmN
import Derived.Test.YtgjcgnmomdanaaaXEpL1
import Derived.Test.YtgjcgnmomdanaaaXSumC
namespace Go.Proofs.Ytgjcgnmomdanaaa
open Go.RowKit Go.Shelf
set_option linter.unusedVariables false
set_option linter.unusedSimpArgs false
set_option maxRecDepth 8000

theorem own_row9 {w : World} {lg n c base : Nat} {l : List (BitVec 8)} (h : Own w base (.slice (some ⟨lg, 0, none⟩) n c) l) : Row w (some ⟨lg, 0, none⟩) l := by
  obtain ⟨a, c2, e, -, -, hr, -⟩ := h.open
  simp only [Value.slice.injEq] at e
  rw [e.1]
  exact hr
/-- while bits are turned -/
structure TeI (w : World) (bs g BL cap1 : Nat) (z1 : Option Addr) (B P X Q : List (BitVec 8)) (q : Nat) (x : BitVec 32) (k : Nat) (Y : List (BitVec 8)) (wr : World) : Prop where
  tn : TnL X q (Crc.mask x k) Y
  own : Own wr bs (.slice (some ⟨g, 0, none⟩) BL cap1) (P ++ (Y ++ Q))
  row : Row wr z1 B
  be : Below w.heap.size w wr
set_option maxHeartbeats 4000000 in
theorem entriesTurned_walk (m : Mg) (ea : Option Addr) (ec : Nat) (da : Option Addr) (dc : Nat) (at' : Int) (x : BitVec 32) (cut : Int) (w : World) (B0 : EArgs w ea m.es ∧ m.es.length ≤ ec ∧ m.es.length ≤ 140737488355328 ∧ Row w da m.dt ∧ m.dt.length ≤ dc ∧ m.dt.length ≤ 140737488351232 ∧ (da = none → dc = 0)) (hat : -9223372036854775808 ≤ at' ∧ at' ≤ 9223372036854775807) (hcut : -9223372036854775808 ≤ cut ∧ cut ≤ 9223372036854775807) :
    Calls Try.prog 4 #[.agg #[.int .i64 m.kd, .int .i64 m.fr, .int .i64 m.too, .int .i64 m.tm, .int .i64 m.at_, .int .i64 m.att, .int .i64 m.cm, .int .i64 m.rd, .bool m.yes, .slice ea m.es.length ec, .slice da m.dt.length dc], .int .i64 at', .int .u32 (x.toNat : Int), .int .i64 cut] w fun e w' => e = .returned (.bool true) ∧ Below w.heap.size w w' := by
  obtain ⟨h1, h2, h3, h4, h5, h6, h7⟩ := B0
  have b0 := box11_below w #[.int .i64 m.kd, .int .i64 m.fr, .int .i64 m.too, .int .i64 m.tm, .int .i64 m.at_, .int .i64 m.att, .int .i64 m.cm, .int .i64 m.rd, .bool m.yes, .slice ea m.es.length ec, .slice da m.dt.length dc] 25
  have M0 : Blk (w.alloc (.cells #[.int .i64 m.kd, .int .i64 m.fr, .int .i64 m.too, .int .i64 m.tm, .int .i64 m.at_, .int .i64 m.att, .int .i64 m.cm, .int .i64 m.rd, .bool m.yes, .slice ea m.es.length ec, .slice da m.dt.length dc] 25)) w.heap.size 25 [.int .i64 m.kd, .int .i64 m.fr, .int .i64 m.too, .int .i64 m.tm, .int .i64 m.at_, .int .i64 m.att, .int .i64 m.cm, .int .i64 m.rd, .bool m.yes, .slice ea m.es.length ec, .slice da m.dt.length dc] := Blk.new' w _ _
  have H0 : Hid (Below w.heap.size w (w.alloc (.cells #[.int .i64 m.kd, .int .i64 m.fr, .int .i64 m.too, .int .i64 m.tm, .int .i64 m.at_, .int .i64 m.att, .int .i64 m.cm, .int .i64 m.rd, .bool m.yes, .slice ea m.es.length ec, .slice da m.dt.length dc] 25)) ∧ MOk w m ea ec da dc) := ⟨b0, ⟨h1, h2, h3, h4, h5, h6, h7⟩⟩
  have HA : Hid _ := And.intro hat hcut
  have ld := load_msg M0 rfl
  have N := packMsg_any m ea ec da dc _ (H0.out.2.later b0).es (H0.out.2.later b0).el (H0.out.2.later b0).row (H0.out.2.later b0).dl (H0.out.2.later b0).dk (H0.out.2.later b0).dn
  obtain ⟨f, hf⟩ : ∃ f, f = pmE m := ⟨_, rfl⟩
  obtain ⟨B, hB⟩ : ∃ B, B = pmB m := ⟨_, rfl⟩
  rw [← hf, ← hB] at N
  have HF : Hid (f = pmE m ∧ B = pmB m) := ⟨hf, hB⟩
  clear h1 h2 h3 h4 h5 h6 h7 b0 M0 hat hcut hf hB
  go_enter Try.func4, Try.ntmps4
  go_wp2_with (refine wpList_valueM rfl (exec_loadM rfl rfl ld) ?_)
  clear ld
  generalize w.alloc (.cells #[.int .i64 m.kd, .int .i64 m.fr, .int .i64 m.too, .int .i64 m.tm, .int .i64 m.at_, .int .i64 m.att, .int .i64 m.cm, .int .i64 m.rd, .bool m.yes, .slice ea m.es.length ec, .slice da m.dt.length dc] 25) = wb at *
  refine N.mono ?_
  rintro r w2 ⟨z, rfl, o2, b2⟩
  clear N
  have hlt2 := World.ownsRow.lt o2
  obtain ⟨z1, k1, rfl, hk1, -, r1, hz1, -⟩ := o2.open
  have H2 : Hid (Below w.heap.size w w2 ∧ Row w2 z1 B ∧ (z1 = none → k1 = 0) ∧ B.length ≤ k1 ∧ ∀ y, z1 = some y → y.block < w2.heap.size) := ⟨below_then H0.out.1 b2, r1, hz1, hk1, fun y hy => (hlt2 y.block (by rw [hy]; rfl)).2⟩
  clear H0 b2 r1 o2 hz1 hk1 hlt2
  by_cases hf0 : f = 0
  · subst hf0
    have hpl := pm_len (m := m) HF.out.1.symm
    rw [← HF.out.2] at hpl
    obtain ⟨BL, hBL⟩ : ∃ BL, BL = B.length := ⟨_, rfl⟩
    rw [← hBL] at hpl ⊢
    have hb0 : ¬ (BL : Int) = 0 := by omega
    have HBL : Hid _ := And.intro hBL hpl
    have hb1 : 45 ≤ BL ∧ BL ≤ 65536 := ⟨hpl.2.2, hpl.2.1⟩
    obtain ⟨hb1, hb2⟩ := hb1
    clear hBL hpl
    have N := ct_any at' (8 * BL) w2 HA.out.1 (by omega) (by omega)
    rw [show ((8 * BL : Nat) : Int) = 8 * (BL : Int) by omega] at N
    go_wp2_with fail
    refine N.mono ?_
    rintro r w' ⟨q0, rfl, hq0, hw⟩
    subst hw
    clear N
    by_cases hge : 8 * (BL - 4) ≤ q0
    · obtain ⟨lo, hi, P, X, Q, hPX, hPl, hhi, hlo2, hhi2, hBl⟩ := ms_parts (m := m) HF.out.1.symm true
      rw [← HF.out.2, ← HBL.out.1] at hlo2 hhi2 hBl
      simp only [Bool.false_eq_true, if_false, if_true] at hlo2 hhi2
      obtain ⟨q, hq⟩ : ∃ q, q0 = 8 * lo + q := ⟨q0 - 8 * lo, by omega⟩
      have hqX : q < 8 * X.length := by omega
      have HX : Hid _ := And.intro hPX (And.intro hPl (And.intro hhi (And.intro hBl (And.intro hq hqX))))
      have hi2 : q0 < 8 * hi := by omega
      have hi3 : hi ≤ BL := by omega
      obtain ⟨hh, ehh⟩ : ∃ hh, hh = 8 * hi := ⟨_, rfl⟩
      have eT : 8 * (BL : Int) = (hh : Int) := by omega
      have HT : Hid _ := eT
      have qc : 8 * ((BL : Int) - 4) ≤ (q0 : Int) := by omega
      have Har : Hid (q0 < 8 * hi ∧ hi ≤ BL ∧ hh = 8 * hi) := ⟨hi2, hi3, ehh⟩
      have hr9 := H2.out.2.1
      have hn9 := H2.out.2.2.1
      have hc9 := H2.out.2.2.2.1
      rw [← HBL.out.1] at hc9
      have hB9 := HBL.out.1.symm
      clear ehh hi2 hi3 hPX hPl hhi hlo2 hhi2 hBl hqX hq eT hge
      go_wp2_with (at_builtin; refine wpList_append_bytes _ rfl _ _ rfl w2.heap.size _ [] rfl (Own.nil _ _) z1 BL k1 B rfl hB9 hr9 hn9 hc9 (by simp; omega) (Nat.le_refl _) ?_)
      intro v w3 ho hg
      replace ho : Own w3 w2.heap.size v B := ho
      obtain ⟨g, cap1, hv, hg1, hg2, hc1⟩ : ∃ g cap, v = .slice (some ⟨g, 0, none⟩) BL cap ∧ w2.heap.size ≤ g ∧ g < w3.heap.size ∧ BL ≤ cap := by
        have h0 := ho
        obtain ⟨a, cap, rfl, h1, -, -, hn, hx⟩ := ho.open
        rw [hB9] at h1
        cases a with
        | none => have := hn rfl; omega
        | some y =>
          obtain ⟨g, rfl, hg⟩ := hx y rfl
          exact ⟨g, cap, by rw [hB9], hg, (World.ownsRow.lt h0 g rfl).2, h1⟩
      subst hv
      have hb3 : Below w2.heap.size w2 w3 := (Below.refl _ _).grown hg (Nat.le_refl _) (by simp [Value.ownBlock])
      have S0 : Hid (TeI w w2.heap.size g BL cap1 z1 B P X Q q x 0 X w3) := ⟨TnL.start X q, by rw [← HX.out.1.eq, ← HF.out.2]; exact ho, H2.out.2.1.later hb3, below_then H2.out.1 hb3⟩
      have HG : Hid (w2.heap.size ≤ g ∧ BL ≤ cap1) := ⟨hg1, hc1⟩
      clear ho hg hg1 hg2 hc1 hb3 hr9 hn9 hc9 hB9 qc
      go_wp2_with fail
      rw [HT.out]
      go_loopw [13, 14] (fun av iv wr => ∃ (k : Nat) (Y : List (BitVec 8)), k ≤ 32 ∧ iv = .int .i64 k ∧ av = .bool (!decide (Crc.mask x k = 0#32)) ∧ TeI w w2.heap.size g BL cap1 z1 B P X Q q x k Y wr) (fun _ iv _ => 32 - (intOf iv).toNat)
      case atStart => exact ⟨0, X, by omega, rfl, rfl, S0.out⟩
      case round =>
        obtain ⟨k, Y, hk, rfl, rfl, hI⟩ := hrel
        clear S0
        have hYl : (P ++ (Y ++ Q)).length = BL := by have h1 := HX.out.2.2.2.1; have h2 := HX.out.2.1; rw [List.length_append, List.length_append, hI.tn.len]; omega
        by_cases hlt : k < 32 ∧ q0 + k < hh
        · obtain ⟨hlt, hlt2⟩ := hlt
          have p0 : (q0 : Int) + (k : Int) < (hh : Int) := by omega
          have p1 : (k : Int) < 32 := by omega
          have p2 : ((q0 : Int) + (k : Int)) / 8 < (BL : Int) := by have := Har.out; omega
          have hb32 := bit32t x k
          cases hb : x.getLsbD k with
          | false =>
            rw [hb] at hb32
            simp only [Bool.false_eq_true, if_false] at hb32
            have R : Hid (TeI w w2.heap.size g BL cap1 z1 B P X Q q x (k + 1) Y wr) := ⟨by rw [Crc.mask_no x k hb]; exact hI.tn, hI.own, hI.row, hI.be⟩
            have RM : Hid _ := Crc.mask_no x k hb
            clear hI hYl hb
            go_wp2
            go_roundw
            case rel => exact ⟨k + 1, Y, by omega, by go_num, by rw [RM.out], R.out⟩
            case measure => simp [intOf]; omega
          | true =>
            rw [hb] at hb32
            simp only [if_true] at hb32
            have hin : q + k < 8 * X.length := by have h1 := HX.out; have h2 := Har.out; omega
            have ho2 : wr.ownsRow w2.heap.size 5 1 (.slice (some ⟨g, 0, none⟩) BL cap1) BL (vals (P ++ (Y ++ Q))) := by have := hI.own; unfold Own at this; rw [hYl] at this; exact this
            have hc := World.ownsRow.cellAt ho2 ((q0 + k) / 8) (by have := Har.out; omega)
            rw [vals_at _ _ (by have := Har.out; omega)] at hc
            have hf := World.ownsRow.frozenAt ho2 ((q0 + k) / 8)
            have hbd := bt_bd (P ++ (Y ++ Q)) ((q0 + k) / 8)
            have R0 := World.ownsRow.stored ho2 ((q0 + k) / 8) (.int .u8 (((P ++ (Y ++ Q)).getD ((q0 + k) / 8) 0#8 ^^^ (1#8 <<< ((q0 + k) % 8))).toNat : Int))
            have hsm := set_mid P Y Q q k (by rw [hI.tn.len]; exact hin)
            rw [show 8 * P.length + q = q0 by have h1 := HX.out; omega] at hsm
            have tnn := hI.tn.turn hlt hin
            rw [← Crc.mask_yes x k hb] at tnn
            rw [vals_set7, hsm, ← turn_val7] at R0
            have hnb : ¬ Crc.mask x (k + 1) = 0#32 := Crc.mask_any x k hlt hb
            have hYl2 : (P ++ (Y.set ((q + k) / 8) (Y.getD ((q + k) / 8) 0#8 ^^^ (1#8 <<< ((q + k) % 8))) ++ Q)).length = BL := by rw [← hYl]; simp
            have R : Hid (TeI w w2.heap.size g BL cap1 z1 B P X Q q x (k + 1) (Y.set ((q + k) / 8) (Y.getD ((q + k) / 8) 0#8 ^^^ (1#8 <<< ((q + k) % 8)))) _) := ⟨tnn, by unfold Own; rw [hYl2]; exact R0.1, hI.row.keep R0.2 (fun y hy e => by have h1 := H2.out.2.2.2.2 y hy; have h2 := HG.out.1; have h3 := Option.some.inj e; omega), hI.be.grown R0.2 hI.be.size (by intro k' hk'; have h2 := HG.out.1; have h3 := H2.out.1.size; cases hk'; omega)⟩
            have RN : Hid _ := hnb
            clear hI hYl ho2 R0 hsm tnn hnb hYl2 hin hb
            go_wp2
            go_roundw
            case rel => exact ⟨k + 1, _, by omega, by go_num, by rw [decide_eq_false RN.out]; rfl, R.out⟩
            case measure => simp [intOf]; omega
        · have hstop : ¬ (k : Int) < 32 ∨ ((k : Int) < 32 ∧ ¬ ((q0 : Int) + (k : Int) < (hh : Int))) := by omega
          have HI : Hid _ := And.intro hI hYl
          have HMK : Hid (∃ mk, mk = Crc.mask x k ∧ (¬ mk = 0#32 → umE (P ++ (Y ++ Q)) ≠ 0)) := ⟨_, rfl, fun hy => msg_turned HF.out.1.symm HX.out.1 hI.tn hy⟩
          clear hI hYl hlt
          obtain ⟨mk, hmk, hne⟩ := HMK.out
          rw [← hmk]
          clear hmk HMK
          obtain ⟨E, hE⟩ : ∃ E, E = umE (P ++ (Y ++ Q)) := ⟨_, rfl⟩
          rw [← hE] at hne
          have HE : Hid _ := hE
          have HN : Hid (¬ mk = 0#32 → E ≠ 0) := hne
          clear hE hne
          have N : Hid _ := And.intro (unpackMsg_any (some ⟨g, 0, none⟩) BL cap1 (P ++ (Y ++ Q)) wr HI.out.2 HG.out.2 (own_row9 HI.out.1.own) (fun e => by cases e) (by omega)) trivial
          rcases hstop with hstop | ⟨hst1, hstop⟩
          all_goals
            go_upto_region 19 with fail
            go_wp2_with fail
            refine N.out.1.mono ?_
            rintro r w4 h4
            clear N
            obtain ⟨e4, c4, d4, k4, rfl, o4, b4⟩ := um_open (by rw [HI.out.2]; omega) h4
            rw [← HE.out]
            clear h4
            obtain ⟨w5, st, -, b5⟩ := new_msg w4 (umM (P ++ (Y ++ Q))) e4 c4 d4 k4
            have H5 : Hid (Below w.heap.size w w5 ∧ Row w5 z1 B) := ⟨below_then HI.out.1.be (below_then b4 b5), HI.out.1.row.later (below_then b4 b5)⟩
            clear o4 b4 b5 HI HE
            go_upto_region 20 with (refine wpList_skipM rfl (exec_storeM rfl rfl rfl st) ?_)
            clear st
            have N := ct_any cut BL w5 HA.out.2 (by omega) (by omega)
            cases hmz : decide (mk = 0#32)
            all_goals
              have qe := HN.out
              first
              | (have qe2 : (E == 0) = false := by rw [beq_eq_false_iff_ne]; exact qe (of_decide_eq_false hmz))
              | skip
              clear qe
              go_wp2_with fail
              refine N.mono ?_
              rintro r w' ⟨kk, rfl, hkk, hw⟩
              subst hw
              clear N
              obtain ⟨y, sl, ry, yn, -⟩ := slice_uptoM H5.out.2 HBL.out.1.symm (by rw [HBL.out.1]; exact H2.out.2.2.2.1) kk (by omega) H2.out.2.2.1
              have htl : (B.take kk).length = kk := by rw [List.length_take, ← HBL.out.1]; omega
              have hkc : kk ≤ k1 := by have h1 := H2.out.2.2.2.1; rw [← HBL.out.1] at h1; omega
              have HY : Hid _ := And.intro ry (And.intro yn (And.intro htl (And.intro hkc (show kk ≤ 140737488351232 by omega))))
              clear ry yn htl hkk
              obtain ⟨R, hR⟩ : ∃ R, R = B.take kk := ⟨_, rfl⟩
              rw [← hR] at HY
              clear hR
              have N := unpackMsg_any y kk k1 R w5 HY.out.2.2.1 HY.out.2.2.2.1 HY.out.1 HY.out.2.1 HY.out.2.2.2.2
              clear hkc
              go_wp2_with (refine wpList_valueM rfl (exec_sliceM rfl rfl (sl _)) ?_)
              clear sl
              refine N.mono ?_
              rintro r w6 h6
              clear N
              obtain ⟨e6, c6, d6, k6, rfl, -, b6⟩ := um_open (by rw [HY.out.2.2.1]; exact HY.out.2.2.2.2) h6
              clear h6
              obtain ⟨E2, hE2⟩ : ∃ E, E = umE R := ⟨_, rfl⟩
              obtain ⟨M2, hM2⟩ : ∃ M, M = umM R := ⟨_, rfl⟩
              rw [← hE2, ← hM2]
              have HE2 : Hid (E2 = umE R ∧ M2 = umM R) := ⟨hE2, hM2⟩
              clear hE2 hM2
              obtain ⟨w7, st, -, b7⟩ := new_msg w6 M2 e6 c6 d6 k6
              have H7 : Hid (Below w.heap.size w w7 ∧ Row w7 y R) := ⟨below_then H5.out.1 (below_then b6 b7), HY.out.1.later (below_then b6 b7)⟩
              clear b6 b7
              have N := rUnpackMsg_any y kk k1 R w7 HY.out.2.2.1 HY.out.2.2.2.1 H7.out.2 HY.out.2.1 HY.out.2.2.2.2
              go_wp2_with (refine wpList_skipM rfl (exec_storeM rfl rfl rfl st) ?_)
              clear st
              refine N.mono ?_
              rintro r w8 h8
              clear N
              obtain ⟨e8, c8, d8, k8, rfl, -, b8⟩ := um_open (by rw [HY.out.2.2.1]; exact HY.out.2.2.2.2) h8
              clear h8
              rw [← HE2.out.1, ← HE2.out.2]
              obtain ⟨w9, st, -, b9⟩ := new_msg w8 M2 e8 c8 d8 k8
              have H9 : Hid (Below w.heap.size w w9) := below_then H7.out.1 (below_then b8 b9)
              clear b8 b9
              go_wp2_with (refine wpList_skipM rfl (exec_storeM rfl rfl rfl st) ?_)
              clear st
              refine (known9_any w9).mono ?_
              rintro e wz ⟨rfl, bz⟩
              have G : Hid _ := below_then H9.out bz
              clear bz
              go_wp2
              go_ret
              exact ⟨rfl, G.out⟩
    · obtain ⟨lo, hi, P, X, Q, hPX, hPl, hhi, hlo2, hhi2, hBl⟩ := ms_parts (m := m) HF.out.1.symm false
      rw [← HF.out.2, ← HBL.out.1] at hlo2 hhi2 hBl
      simp only [Bool.false_eq_true, if_false, if_true] at hlo2 hhi2
      obtain ⟨q, hq⟩ : ∃ q, q0 = 8 * lo + q := ⟨q0 - 8 * lo, by omega⟩
      have hqX : q < 8 * X.length := by omega
      have HX : Hid _ := And.intro hPX (And.intro hPl (And.intro hhi (And.intro hBl (And.intro hq hqX))))
      have hi2 : q0 < 8 * hi := by omega
      have hi3 : hi ≤ BL := by omega
      obtain ⟨hh, ehh⟩ : ∃ hh, hh = 8 * hi := ⟨_, rfl⟩
      have eT : 8 * ((BL : Int) - 4) = (hh : Int) := by omega
      have HT : Hid _ := eT
      have qc : ¬ (8 * ((BL : Int) - 4) ≤ (q0 : Int)) := by omega
      have Har : Hid (q0 < 8 * hi ∧ hi ≤ BL ∧ hh = 8 * hi) := ⟨hi2, hi3, ehh⟩
      have hr9 := H2.out.2.1
      have hn9 := H2.out.2.2.1
      have hc9 := H2.out.2.2.2.1
      rw [← HBL.out.1] at hc9
      have hB9 := HBL.out.1.symm
      clear ehh hi2 hi3 hPX hPl hhi hlo2 hhi2 hBl hqX hq eT hge
      go_wp2_with (at_builtin; refine wpList_append_bytes _ rfl _ _ rfl w2.heap.size _ [] rfl (Own.nil _ _) z1 BL k1 B rfl hB9 hr9 hn9 hc9 (by simp; omega) (Nat.le_refl _) ?_)
      intro v w3 ho hg
      replace ho : Own w3 w2.heap.size v B := ho
      obtain ⟨g, cap1, hv, hg1, hg2, hc1⟩ : ∃ g cap, v = .slice (some ⟨g, 0, none⟩) BL cap ∧ w2.heap.size ≤ g ∧ g < w3.heap.size ∧ BL ≤ cap := by
        have h0 := ho
        obtain ⟨a, cap, rfl, h1, -, -, hn, hx⟩ := ho.open
        rw [hB9] at h1
        cases a with
        | none => have := hn rfl; omega
        | some y =>
          obtain ⟨g, rfl, hg⟩ := hx y rfl
          exact ⟨g, cap, by rw [hB9], hg, (World.ownsRow.lt h0 g rfl).2, h1⟩
      subst hv
      have hb3 : Below w2.heap.size w2 w3 := (Below.refl _ _).grown hg (Nat.le_refl _) (by simp [Value.ownBlock])
      have S0 : Hid (TeI w w2.heap.size g BL cap1 z1 B P X Q q x 0 X w3) := ⟨TnL.start X q, by rw [← HX.out.1.eq, ← HF.out.2]; exact ho, H2.out.2.1.later hb3, below_then H2.out.1 hb3⟩
      have HG : Hid (w2.heap.size ≤ g ∧ BL ≤ cap1) := ⟨hg1, hc1⟩
      clear ho hg hg1 hg2 hc1 hb3 hr9 hn9 hc9 hB9 qc
      go_wp2_with fail
      rw [HT.out]
      go_loopw [13, 14] (fun av iv wr => ∃ (k : Nat) (Y : List (BitVec 8)), k ≤ 32 ∧ iv = .int .i64 k ∧ av = .bool (!decide (Crc.mask x k = 0#32)) ∧ TeI w w2.heap.size g BL cap1 z1 B P X Q q x k Y wr) (fun _ iv _ => 32 - (intOf iv).toNat)
      case atStart => exact ⟨0, X, by omega, rfl, rfl, S0.out⟩
      case round =>
        obtain ⟨k, Y, hk, rfl, rfl, hI⟩ := hrel
        clear S0
        have hYl : (P ++ (Y ++ Q)).length = BL := by have h1 := HX.out.2.2.2.1; have h2 := HX.out.2.1; rw [List.length_append, List.length_append, hI.tn.len]; omega
        by_cases hlt : k < 32 ∧ q0 + k < hh
        · obtain ⟨hlt, hlt2⟩ := hlt
          have p0 : (q0 : Int) + (k : Int) < (hh : Int) := by omega
          have p1 : (k : Int) < 32 := by omega
          have p2 : ((q0 : Int) + (k : Int)) / 8 < (BL : Int) := by have := Har.out; omega
          have hb32 := bit32t x k
          cases hb : x.getLsbD k with
          | false =>
            rw [hb] at hb32
            simp only [Bool.false_eq_true, if_false] at hb32
            have R : Hid (TeI w w2.heap.size g BL cap1 z1 B P X Q q x (k + 1) Y wr) := ⟨by rw [Crc.mask_no x k hb]; exact hI.tn, hI.own, hI.row, hI.be⟩
            have RM : Hid _ := Crc.mask_no x k hb
            clear hI hYl hb
            go_wp2
            go_roundw
            case rel => exact ⟨k + 1, Y, by omega, by go_num, by rw [RM.out], R.out⟩
            case measure => simp [intOf]; omega
          | true =>
            rw [hb] at hb32
            simp only [if_true] at hb32
            have hin : q + k < 8 * X.length := by have h1 := HX.out; have h2 := Har.out; omega
            have ho2 : wr.ownsRow w2.heap.size 5 1 (.slice (some ⟨g, 0, none⟩) BL cap1) BL (vals (P ++ (Y ++ Q))) := by have := hI.own; unfold Own at this; rw [hYl] at this; exact this
            have hc := World.ownsRow.cellAt ho2 ((q0 + k) / 8) (by have := Har.out; omega)
            rw [vals_at _ _ (by have := Har.out; omega)] at hc
            have hf := World.ownsRow.frozenAt ho2 ((q0 + k) / 8)
            have hbd := bt_bd (P ++ (Y ++ Q)) ((q0 + k) / 8)
            have R0 := World.ownsRow.stored ho2 ((q0 + k) / 8) (.int .u8 (((P ++ (Y ++ Q)).getD ((q0 + k) / 8) 0#8 ^^^ (1#8 <<< ((q0 + k) % 8))).toNat : Int))
            have hsm := set_mid P Y Q q k (by rw [hI.tn.len]; exact hin)
            rw [show 8 * P.length + q = q0 by have h1 := HX.out; omega] at hsm
            have tnn := hI.tn.turn hlt hin
            rw [← Crc.mask_yes x k hb] at tnn
            rw [vals_set7, hsm, ← turn_val7] at R0
            have hnb : ¬ Crc.mask x (k + 1) = 0#32 := Crc.mask_any x k hlt hb
            have hYl2 : (P ++ (Y.set ((q + k) / 8) (Y.getD ((q + k) / 8) 0#8 ^^^ (1#8 <<< ((q + k) % 8))) ++ Q)).length = BL := by rw [← hYl]; simp
            have R : Hid (TeI w w2.heap.size g BL cap1 z1 B P X Q q x (k + 1) (Y.set ((q + k) / 8) (Y.getD ((q + k) / 8) 0#8 ^^^ (1#8 <<< ((q + k) % 8)))) _) := ⟨tnn, by unfold Own; rw [hYl2]; exact R0.1, hI.row.keep R0.2 (fun y hy e => by have h1 := H2.out.2.2.2.2 y hy; have h2 := HG.out.1; have h3 := Option.some.inj e; omega), hI.be.grown R0.2 hI.be.size (by intro k' hk'; have h2 := HG.out.1; have h3 := H2.out.1.size; cases hk'; omega)⟩
            have RN : Hid _ := hnb
            clear hI hYl ho2 R0 hsm tnn hnb hYl2 hin hb
            go_wp2
            go_roundw
            case rel => exact ⟨k + 1, _, by omega, by go_num, by rw [decide_eq_false RN.out]; rfl, R.out⟩
            case measure => simp [intOf]; omega
        · have hstop : ¬ (k : Int) < 32 ∨ ((k : Int) < 32 ∧ ¬ ((q0 : Int) + (k : Int) < (hh : Int))) := by omega
          have HI : Hid _ := And.intro hI hYl
          have HMK : Hid (∃ mk, mk = Crc.mask x k ∧ (¬ mk = 0#32 → umE (P ++ (Y ++ Q)) ≠ 0)) := ⟨_, rfl, fun hy => msg_turned HF.out.1.symm HX.out.1 hI.tn hy⟩
          clear hI hYl hlt
          obtain ⟨mk, hmk, hne⟩ := HMK.out
          rw [← hmk]
          clear hmk HMK
          obtain ⟨E, hE⟩ : ∃ E, E = umE (P ++ (Y ++ Q)) := ⟨_, rfl⟩
          rw [← hE] at hne
          have HE : Hid _ := hE
          have HN : Hid (¬ mk = 0#32 → E ≠ 0) := hne
          clear hE hne
          have N : Hid _ := And.intro (unpackMsg_any (some ⟨g, 0, none⟩) BL cap1 (P ++ (Y ++ Q)) wr HI.out.2 HG.out.2 (own_row9 HI.out.1.own) (fun e => by cases e) (by omega)) trivial
          rcases hstop with hstop | ⟨hst1, hstop⟩
          all_goals
            go_upto_region 19 with fail
            go_wp2_with fail
            refine N.out.1.mono ?_
            rintro r w4 h4
            clear N
            obtain ⟨e4, c4, d4, k4, rfl, o4, b4⟩ := um_open (by rw [HI.out.2]; omega) h4
            rw [← HE.out]
            clear h4
            obtain ⟨w5, st, -, b5⟩ := new_msg w4 (umM (P ++ (Y ++ Q))) e4 c4 d4 k4
            have H5 : Hid (Below w.heap.size w w5 ∧ Row w5 z1 B) := ⟨below_then HI.out.1.be (below_then b4 b5), HI.out.1.row.later (below_then b4 b5)⟩
            clear o4 b4 b5 HI HE
            go_upto_region 20 with (refine wpList_skipM rfl (exec_storeM rfl rfl rfl st) ?_)
            clear st
            have N := ct_any cut BL w5 HA.out.2 (by omega) (by omega)
            cases hmz : decide (mk = 0#32)
            all_goals
              have qe := HN.out
              first
              | (have qe2 : (E == 0) = false := by rw [beq_eq_false_iff_ne]; exact qe (of_decide_eq_false hmz))
              | skip
              clear qe
              go_wp2_with fail
              refine N.mono ?_
              rintro r w' ⟨kk, rfl, hkk, hw⟩
              subst hw
              clear N
              obtain ⟨y, sl, ry, yn, -⟩ := slice_uptoM H5.out.2 HBL.out.1.symm (by rw [HBL.out.1]; exact H2.out.2.2.2.1) kk (by omega) H2.out.2.2.1
              have htl : (B.take kk).length = kk := by rw [List.length_take, ← HBL.out.1]; omega
              have hkc : kk ≤ k1 := by have h1 := H2.out.2.2.2.1; rw [← HBL.out.1] at h1; omega
              have HY : Hid _ := And.intro ry (And.intro yn (And.intro htl (And.intro hkc (show kk ≤ 140737488351232 by omega))))
              clear ry yn htl hkk
              obtain ⟨R, hR⟩ : ∃ R, R = B.take kk := ⟨_, rfl⟩
              rw [← hR] at HY
              clear hR
              have N := unpackMsg_any y kk k1 R w5 HY.out.2.2.1 HY.out.2.2.2.1 HY.out.1 HY.out.2.1 HY.out.2.2.2.2
              clear hkc
              go_wp2_with (refine wpList_valueM rfl (exec_sliceM rfl rfl (sl _)) ?_)
              clear sl
              refine N.mono ?_
              rintro r w6 h6
              clear N
              obtain ⟨e6, c6, d6, k6, rfl, -, b6⟩ := um_open (by rw [HY.out.2.2.1]; exact HY.out.2.2.2.2) h6
              clear h6
              obtain ⟨E2, hE2⟩ : ∃ E, E = umE R := ⟨_, rfl⟩
              obtain ⟨M2, hM2⟩ : ∃ M, M = umM R := ⟨_, rfl⟩
              rw [← hE2, ← hM2]
              have HE2 : Hid (E2 = umE R ∧ M2 = umM R) := ⟨hE2, hM2⟩
              clear hE2 hM2
              obtain ⟨w7, st, -, b7⟩ := new_msg w6 M2 e6 c6 d6 k6
              have H7 : Hid (Below w.heap.size w w7 ∧ Row w7 y R) := ⟨below_then H5.out.1 (below_then b6 b7), HY.out.1.later (below_then b6 b7)⟩
              clear b6 b7
              have N := rUnpackMsg_any y kk k1 R w7 HY.out.2.2.1 HY.out.2.2.2.1 H7.out.2 HY.out.2.1 HY.out.2.2.2.2
              go_wp2_with (refine wpList_skipM rfl (exec_storeM rfl rfl rfl st) ?_)
              clear st
              refine N.mono ?_
              rintro r w8 h8
              clear N
              obtain ⟨e8, c8, d8, k8, rfl, -, b8⟩ := um_open (by rw [HY.out.2.2.1]; exact HY.out.2.2.2.2) h8
              clear h8
              rw [← HE2.out.1, ← HE2.out.2]
              obtain ⟨w9, st, -, b9⟩ := new_msg w8 M2 e8 c8 d8 k8
              have H9 : Hid (Below w.heap.size w w9) := below_then H7.out.1 (below_then b8 b9)
              clear b8 b9
              go_wp2_with (refine wpList_skipM rfl (exec_storeM rfl rfl rfl st) ?_)
              clear st
              refine (known9_any w9).mono ?_
              rintro e wz ⟨rfl, bz⟩
              have G : Hid _ := below_then H9.out bz
              clear bz
              go_wp2
              go_ret
              exact ⟨rfl, G.out⟩
  · have q1 : (f == 0) = false := by rw [beq_eq_false_iff_ne]; exact hf0
    have F : Hid (Below w.heap.size w w2) := H2.out.1
    clear hf0
    go_wp2_with fail
    refine (known9_any w2).mono ?_
    rintro e wz ⟨rfl, bz⟩
    have G : Hid _ := below_then F.out bz
    clear bz
    go_wp2
    go_ret
    exact ⟨rfl, G.out⟩
end Go.Proofs.Ytgjcgnmomdanaaa

