/- The walk of ChunkTells. -/
import Derived.Test.YtdagekciipfnoaaXCk23
import Derived.Deep.RegionHeldLaw
import Derived.Deep.RegionHeld3
namespace Go.Proofs.Ytdagekciipfnoaa
open Go.RowKit Go.Shelf
set_option linter.unusedVariables false
set_option linter.unusedSimpArgs false
set_option maxRecDepth 4000

theorem Crc.mask_min_no (x : BitVec 32) (k M : Nat) (h : x.getLsbD k = false ∨ M ≤ k) : Crc.mask x (min (k + 1) M) = Crc.mask x (min k M) := by
  rcases Nat.lt_or_ge k M with h1 | h1
  · rw [Nat.min_eq_left (by omega), Nat.min_eq_left (by omega)]
    exact Crc.mask_no x k (h.resolve_right (by omega))
  · rw [Nat.min_eq_right (by omega), Nat.min_eq_right (by omega)]
set_option maxHeartbeats 8000000 in
theorem chunkTells_walk (id : Int) (a : Option Addr) (len cap : Nat) (b : List (BitVec 8)) (size which at' : Int) (x : BitVec 32) (cut : Int) (w : World) (hid : -9223372036854775808 ≤ id ∧ id ≤ 9223372036854775807) (A : Arg 140737488351232 w a len cap b) (hsz : -9223372036854775808 ≤ size ∧ size ≤ 9223372036854775807) (hwh : -9223372036854775808 ≤ which ∧ which ≤ 9223372036854775807) (hat : -9223372036854775808 ≤ at' ∧ at' ≤ 9223372036854775807) (hcu : -9223372036854775808 ≤ cut ∧ cut ≤ 9223372036854775807) :
    Calls Try.prog 4 #[.int .i64 id, .slice a len cap, .int .i64 size, .int .i64 which, .int .i64 at', .int .u32 (x.toNat : Int), .int .i64 cut] w fun e w' => e = .returned (.bool true) ∧ Below w.heap.size w w' := by
  obtain ⟨rfl, hle, hbd, hr, hnil⟩ := A
  by_cases hok : idB id = true ∧ 1 ≤ size ∧ size ≤ 4096 ∧ b.length ≤ 65536 ∧ npc b.length size.toNat ≤ 256
  · obtain ⟨h1, h2, h3, h4, h5⟩ := hok
    obtain ⟨s, rfl⟩ : ∃ n : Nat, size = n := ⟨size.toNat, by omega⟩
    rw [Int.toNat_natCast] at h5
    have hI : Img id b s := ⟨h1, by omega, by omega, h4, h5⟩
    have HS : Hid _ := split_yes id a cap b s w h1 (by omega) (by omega) h4 h5 hle hr hnil
    have HI : Hid _ := And.intro hI trivial
    have n1 := npc_1 b.length s
    have hn3 : ¬ ((npc b.length s : Nat) : Int) = 0 := by omega
    have hn4 : (((npc b.length s : Nat) : Int) == 0) = false := by rw [beq_eq_false_iff_ne]; omega
    have HC : Hid _ := ct_any which (npc b.length s)
    clear h1 hr hnil hI
    generalize hN : npc b.length s = N at *
    have HE : Hid _ := And.intro hN trivial
    clear hN
    go_enter Try.func4, Try.ntmps4
    go_wp2_with fail
    refine (Calls.mono HS.out) ?_
    rintro e w1 ⟨D, vs, rfl, hl1, hP1, b1⟩
    have hO : (pcsOb D vs (splL id b s N)).Ok w1 := hP1.ob (by rw [hl1, splL_len])
    have HC1 : Hid _ := HC.out w1 hwh (by omega) (by omega)
    have H1 : Hid _ := And.intro hO b1
    clear HS hP1 hl1 b1 hO HC
    go_wp2_with fail
    refine (Calls.mono HC1.out) ?_
    rintro e _ ⟨q, rfl, hq, rfl⟩
    clear HC1
    obtain ⟨u, hu, c1, ho⟩ := pcs_at H1.out.1 q hq
    obtain rfl := HE.out.1.symm
    obtain ⟨pa, pc, rfl, p1, p2, p3, p4, p5⟩ := ho.open
    have hpl : (pieceI id b s q).length = 22 + (chk b s q).length := piece_len
    obtain ⟨pg, rfl⟩ : ∃ pg, pa = some ⟨pg, 0, none⟩ := by
      cases pa with
      | none => have := p4 rfl; omega
      | some x => obtain ⟨g, rfl, -⟩ := p5 x rfl; exact ⟨g, rfl⟩
    clear p5
    have hcl := chk_len (b := b) (s := s) q
    have hP0 : dcE (pieceI id b s q) = 0 := (piece_is HI.out.1 q hq).1
    have hst : ∀ t, Tn (pcH id q (npc b.length s) (Crc.sum b) (chk b s q)) (be 4 (BitVec.ofInt 64 ((Crc.sum (pcH id q (npc b.length s) (Crc.sum b) (chk b s q))).toNat : Int))) (chk b s q).length t 0#32 (pieceI id b s q) := fun t => Tn.start id q (npc b.length s) (Crc.sum b) (chk b s q) t
    have HP : Hid _ := And.intro hst (And.intro hP0 (And.intro p3 (And.intro p4 (And.intro hu hq))))
    have q6 : (q : Int) < ((npc b.length s : Nat) : Int) := by omega
    clear ho hst hP0 p3 p4 hu
    generalize pieceI id b s q = P at *
    generalize pcH id q (npc b.length s) (Crc.sum b) (chk b s q) = H at *
    generalize (chk b s q).length = C at *
    rw [hpl] at c1 p1 HP
    have HL : Hid _ := And.intro hpl trivial
    clear hpl
    go_wp2_with (at_builtin; refine wpList_append_bytes _ rfl _ _ rfl w1.heap.size _ [] rfl (Own.nil _ _) (some ⟨pg, 0, none⟩) (22 + C) pc P rfl HL.out.1 HP.out.2.2.1 HP.out.2.2.2.1 p1 (by simp; omega) (Nat.le_refl _) ?_)
    clear c1
    intro v w2 ho2 hg2
    have b2 : Below w1.heap.size w1 w2 := (Below.refl _ _).grown hg2 (Nat.le_refl _) (by simp [Value.ownBlock])
    obtain ⟨g, cap1, rfl, hg1, hc1, hc2, hh2⟩ : ∃ g cap1, v = .slice (some ⟨g, 0, none⟩) (22 + C) cap1 ∧ w1.heap.size ≤ g ∧ 22 + C ≤ cap1 ∧ cap1 ≤ maxLen ∧ True := by
      have hl := HL.out.1
      obtain ⟨h1, h2 | ⟨g, cap, cur, rfl, hb, hh, hc, hm, hs, ht⟩⟩ := ho2
      · have := h2.2; omega
      · exact ⟨g, cap, by rw [hl], hb, by rw [← hl]; exact hc, hm, trivial⟩
    have HC2 : Hid _ := ct_any at' (8 * (16 + C)) w2 hat (by omega) (by omega)
    have H2 : Hid _ := And.intro ho2 b2
    have e8 : ((8 * (16 + C) : Nat) : Int) = 8 * (16 + (C : Int)) := by omega
    rw [e8] at HC2
    clear ho2 b2 hg2 hh2 e8
    go_wp2_with fail
    rw [show (22 + (C : Int) - 22) = (C : Int) by omega]
    refine (Calls.mono HC2.out) ?_
    rintro e _ ⟨r, rfl, hr, rfl⟩
    clear HC2
    go_upto_if 58 with fail
    go_cut [4] from 57 to 157 (fun av wx => ∃ t : Nat, av = .int .i64 t ∧ (t < 128 ∨ (144 ≤ t ∧ t < 8 * (18 + C))) ∧ wx = w2)
    case first =>
      by_cases h8 : (r : Int) ≥ 128
      · go_wp2
        go_meet
        exact ⟨r + 16, by go_num, by omega, rfl⟩
      · go_wp2
        go_meet
        exact ⟨r, rfl, by omega, rfl⟩
    case rest =>
    obtain ⟨t, rfl, ht, hwc⟩ := hcut
    obtain rfl := hwc.symm
    clear hwc hr
    obtain ⟨T, hT⟩ : ∃ T, T = be 4 (BitVec.ofInt 64 ((Crc.sum H).toNat : Int)) := ⟨_, rfl⟩
    have hTl : T.length = 4 := by rw [hT]; exact be_length _ _ (by omega)
    rw [← hT] at HP
    have HT : Hid _ := And.intro hT hTl
    clear hT hTl
    go_wp2_with fail
    go_loopw [20, 21] (fun any iv wr => ∃ (k : Nat) (L : List (BitVec 8)), k ≤ 32 ∧ iv = .int .i64 k ∧ any = .bool (!decide (Crc.mask x (min k (mOf C t)) = 0#32)) ∧ Tn H T C t (Crc.mask x (min k (mOf C t))) L ∧ Own wr w1.heap.size (.slice (some ⟨g, 0, none⟩) (22 + C) cap1) L ∧ Below w1.heap.size w1 wr) (fun _ iv _ => 32 - (intOf iv).toNat)
    case atStart => exact ⟨0, P, by omega, rfl, by rw [Nat.zero_min]; rfl, by rw [Nat.zero_min]; exact HP.out.1 t, H2.out.1, H2.out.2⟩
    case round =>
      clear H2
      obtain ⟨k, L, hk, rfl, rfl, hTn, hown, hbr⟩ := hrel
      have hLl := hTn.len HT.out.2
      by_cases hlt : k < 32
      · have q1 : (k : Int) < 32 := by omega
        have hb32 := bit32t x k
        have tl : (t : Int) < 8 * (18 + (C : Int)) := by omega
        cases hb : x.getLsbD k with
        | false =>
          rw [hb] at hb32
          simp only [Bool.false_eq_true, if_false] at hb32
          have HR : Hid _ := And.intro hTn (And.intro hown hbr)
          clear hTn hown hbr hLl
          go_wp2
          go_roundw
          case rel => exact ⟨k + 1, L, by omega, by go_num, by rw [Crc.mask_min_no x k _ (.inl hb)], by rw [Crc.mask_min_no x k _ (.inl hb)]; exact HR.out.1, HR.out.2.1, HR.out.2.2⟩
          case measure => simp [intOf]; omega
        | true =>
          rw [hb] at hb32
          simp only [if_true] at hb32
          by_cases hM : k < mOf C t
          · have q2 : (t : Int) + (k : Int) < 8 * (18 + (C : Int)) := by unfold mOf at hM; split at hM <;> omega
            have q3 : ((t : Int) + (k : Int)) / 8 < 22 + (C : Int) := by omega
            have ho2 : wr.ownsRow w1.heap.size 5 1 (.slice (some ⟨g, 0, none⟩) (22 + C) cap1) (22 + C) (vals L) := by
              have := hown; unfold Own at this; rw [hLl] at this; exact this
            have hc := World.ownsRow.cellAt ho2 ((t + k) / 8) (by omega)
            rw [vals_at _ _ (by omega)] at hc
            have hf := World.ownsRow.frozenAt ho2 ((t + k) / 8)
            have hbd := bt_bd L ((t + k) / 8)
            have R := World.ownsRow.stored ho2 ((t + k) / 8) (.int .u8 ((L.getD ((t + k) / 8) 0#8 ^^^ (1#8 <<< ((t + k) % 8))).toNat : Int))
            rw [vals_set7, ← turn_val7 L] at R
            have hT2 := hTn.turn ht hlt hM
            rw [Nat.min_eq_left (Nat.le_of_lt hM), ← Crc.mask_yes x k hb] at hT2
            have hmn : min (k + 1) (mOf C t) = k + 1 := Nat.min_eq_left (by omega)
            have R2 : Hid _ := And.intro R (And.intro hT2 (And.intro hbr (And.intro hLl hmn)))
            clear ho2 hown R hT2 hTn hbr hLl hmn
            by_cases h8 : (t : Int) ≥ 128
            · go_wp2
              go_roundw
              case rel =>
                refine ⟨k + 1, _, by omega, by go_num, by rw [R2.out.2.2.2.2, decide_eq_false (Crc.mask_any x k hlt hb)]; rfl, by rw [R2.out.2.2.2.2]; exact R2.out.2.1, (by unfold Own; rw [List.length_set, R2.out.2.2.2.1]; exact R2.out.1.1), R2.out.2.2.1.grown R2.out.1.2 R2.out.2.2.1.size (by intro k' hk'; cases hk'; exact hg1)⟩
              case measure => simp [intOf]; omega
            · have q5 : (t : Int) + (k : Int) < 128 := by unfold mOf at hM; split at hM <;> omega
              go_wp2
              go_roundw
              case rel =>
                refine ⟨k + 1, _, by omega, by go_num, by rw [R2.out.2.2.2.2, decide_eq_false (Crc.mask_any x k hlt hb)]; rfl, by rw [R2.out.2.2.2.2]; exact R2.out.2.1, (by unfold Own; rw [List.length_set, R2.out.2.2.2.1]; exact R2.out.1.1), R2.out.2.2.1.grown R2.out.1.2 R2.out.2.2.1.size (by intro k' hk'; cases hk'; exact hg1)⟩
              case measure => simp [intOf]; omega
          · have HR : Hid _ := And.intro hTn (And.intro hown hbr)
            clear hTn hown hbr hLl
            have hM' : mOf C t ≤ k := by omega
            have q4 : ¬ (t : Int) + (k : Int) < 8 * (18 + (C : Int)) ∨ ((t : Int) + (k : Int) < 8 * (18 + (C : Int)) ∧ ¬ (t : Int) ≥ 128 ∧ ¬ (t : Int) + (k : Int) < 128) := by unfold mOf at hM'; split at hM' <;> omega
            rcases q4 with q4 | ⟨q4, q5, q6'⟩
            all_goals
              go_wp2
              go_roundw
              case rel => exact ⟨k + 1, L, by omega, by go_num, by rw [Crc.mask_min_no x k _ (.inr hM')], by rw [Crc.mask_min_no x k _ (.inr hM')]; exact HR.out.1, HR.out.2.1, HR.out.2.2⟩
              case measure => simp [intOf]; omega
      · obtain rfl : k = 32 := by omega
        obtain ⟨y, hy⟩ : ∃ y, y = Crc.mask x (min 32 (mOf C t)) := ⟨_, rfl⟩
        rw [← hy] at hTn ⊢
        clear hy
        have bb := below_then H1.out.2 hbr
        have Z5 : Sep w.heap.size [pcsOb D vs (splL id b s (npc b.length s))] wr := (Sep.nil (w := w)).add bb (H1.out.1.later hbr) (fun k hk => by cases hk) (fun k _ p hp => by cases hp)
        have HN : Hid _ := newZ Z5
        obtain ⟨ca, cc, hce, -, -, hcr, -, -⟩ := hown.open
        rw [hLl, Value.slice.injEq] at hce
        obtain ⟨rfl, -, rfl⟩ := hce
        have H5 : Hid _ := And.intro hTn (And.intro hcr (And.intro bb (And.intro hLl (HP.out.2.2.1.later hbr))))
        clear Z5 hTn hown hbr bb hcr hLl
        go_wp2_with fail
        refine (Calls.mono HN.out) ?_
        rintro e w6 ⟨p, rfl, Z6, b6⟩
        have H6 : Hid _ := And.intro Z6 (And.intro (below_then H5.out.2.2.1 b6) (H5.out.2.2.2.2.later b6))
        have HAE : Hid (y ≠ 0#32 → _) := fun hy => add_err (some ⟨g, 0, none⟩) cap1 L p ⟨0, 0, [], 0⟩ w6 Z6.head (by rw [H5.out.2.2.2.1]; exact hc1) (H5.out.2.1.later b6) (fun h => by cases h) (by rw [H5.out.2.2.2.1]; omega) (by rw [H5.out.1.refused (by omega) HT.out.1 hy]; decide)
        rw [H5.out.2.2.2.1] at HAE
        have HE12 : Hid (y ≠ 0#32 → dcE L = 12) := fun hy => H5.out.1.refused (by omega) HT.out.1 hy
        clear HN Z6 b6 H5
        generalize hgr : p.g = gr at *
        have HG : Hid _ := And.intro hgr trivial
        clear hgr
        obtain ⟨B, hB⟩ : ∃ B, B = !decide (y = 0#32) := ⟨_, rfl⟩
        rw [← hB]
        have HB : Hid _ := And.intro hB trivial
        clear hB
        go_upto_region 24 with fail
        go_cut [116] from 110 to 157 (fun cv wx => cv = .bool false ∧ Below w6.heap.size w6 wx)
        case first =>
          cases B with
          | false =>
            clear HAE HE12 HB
            go_wp2
            go_meet
            exact ⟨rfl, Below.refl _ _⟩
          | true =>
            have hy : y ≠ 0#32 := fun h => by have := HB.out.1; rw [decide_eq_true h] at this; cases this
            have HA2 : Hid _ := HAE.out hy
            rw [HE12.out hy] at HA2
            clear HAE HE12 HB hy
            go_wp2_with fail
            refine (Calls.mono HA2.out) ?_
            rintro e w7 ⟨rfl, b7⟩
            have B7 : Hid _ := And.intro b7 trivial
            clear HA2 b7
            go_wp2
            go_meet
            exact ⟨rfl, B7.out.1⟩
        case rest =>
        obtain ⟨rfl, b7⟩ := hcut
        clear HAE HE12
        have Z7 := H6.out.1.later b7
        have r7 := H6.out.2.2.later b7
        have bb7 := below_then H6.out.2.1 b7
        have HC3 : Hid _ := ct_any cut (22 + C) wc hcu (by omega) (by omega)
        rw [show ((22 + C : Nat) : Int) = 22 + (C : Int) by omega] at HC3
        have H7 : Hid _ := And.intro Z7 (And.intro bb7 r7)
        clear Z7 bb7 r7 b7 H6
        go_wp2_with fail
        refine (Calls.mono HC3.out) ?_
        rintro e _ ⟨q2, rfl, hq2, rfl⟩
        clear HC3
        have hPl := HL.out.1
        have htl : (P.take q2).length = q2 := by rw [List.length_take, hPl]; omega
        have HAc : Hid _ := add_err (some ⟨pg, 0, none⟩) pc (P.take q2) p ⟨0, 0, [], 0⟩ wc H7.out.1.head (by rw [htl]; omega) (H7.out.2.2.first q2) (fun h => by cases h) (by rw [htl]; omega) (dcE_cut HP.out.2.1 q2 (by omega))
        have hE1 : ¬ dcE (P.take q2) = 0 := dcE_cut HP.out.2.1 q2 (by omega)
        rw [htl, HG.out.1] at HAc
        have hq3 : (q2 : Int) ≤ (pc : Int) := by omega
        clear hPl htl
        generalize dcE (P.take q2) = E1 at *
        go_wp2_with fail
        refine (Calls.mono HAc.out) ?_
        rintro e w8 ⟨rfl, b8⟩
        have H8 : Hid _ := And.intro (H7.out.1.later b8) (And.intro (below_then H7.out.2.1 b8) (H7.out.2.2.later b8))
        clear HAc H7 b8
        go_wp2_with (at_builtin; refine wpList_append_bytes _ rfl _ _ rfl w8.heap.size _ [] rfl (Own.nil _ _) (some ⟨pg, 0, none⟩) (22 + C) pc P rfl HL.out.1 H8.out.2.2 (fun h => by cases h) p1 (by simp; omega) (Nat.le_refl _) ?_)
        intro v9 w9 ho9 hg9
        have b9 : Below w8.heap.size w8 w9 := (Below.refl _ _).grown hg9 (Nat.le_refl _) (by simp [Value.ownBlock])
        obtain ⟨v9a, v9n, v9c, rfl⟩ := own_slice ho9
        have b10 : Below w9.heap.size w9 (w9.alloc (.cells #[.int .u8 0] 5)) := (Below.refl _ _).alloc (Nat.le_refl _) _
        have r10 : Row (w9.alloc (.cells #[.int .u8 0] 5)) (some ⟨w9.heap.size, 0, none⟩) [0#8] := Row.newl w9 _ _ _ [0#8] rfl
        have ho10 := ho9.later b10
        have H9 : Hid _ := And.intro ho10 (And.intro r10 (And.intro b9 (And.intro b10 b9.size)))
        clear ho9 hg9 b9 b10 r10 ho10
        go_wp2_with (at_builtin; refine wpList_append_bytes _ rfl _ _ rfl w8.heap.size _ P rfl H9.out.1 (some ⟨w9.heap.size, 0, none⟩) 1 1 [0#8] rfl rfl H9.out.2.1 (fun h => by cases h) (by omega) (by rw [HL.out.1]; omega) (by have := H9.out.2.2.2.2; simp; omega) ?_)
        intro v11 w11 ho11 hg11
        have hv9 : ∀ k, (Value.slice v9a v9n v9c).ownBlock = some k → w8.heap.size ≤ k := fun k hk => (World.ownsRow.lt H9.out.1 k hk).1
        have b11 : Below w8.heap.size w8 w11 := (below_then H9.out.2.2.1 H9.out.2.2.2.1).grown hg11 (by have := H9.out.2.2.2.2; simp; omega) hv9
        obtain ⟨da, dc, rfl, d1, d2, d3, d4, -⟩ := ho11.open
        have Z11 := H8.out.1.later b11
        have HAd : Hid _ := add_err da dc (P ++ [0#8]) p ⟨0, 0, [], 0⟩ w11 Z11.head d1 d3 d4 (by rw [List.length_append, HL.out.1]; simp; omega) (dcE_long HP.out.2.1 _)
        have hE2 : ¬ dcE (P ++ [0#8]) = 0 := dcE_long HP.out.2.1 _
        rw [HG.out.1] at HAd
        have H11 : Hid _ := And.intro Z11 (below_then H8.out.2.1 b11)
        clear H8 H9 hg11 ho11 d1 d2 d3 d4 b11 Z11 hv9
        generalize dcE (P ++ [0#8]) = E2 at *
        generalize (P ++ [0#8]).length = nd at *
        have f1 : (E1 != 0) = true := by rw [bne_iff_ne]; exact hE1
        have f2 : (E2 != 0) = true := by rw [bne_iff_ne]; exact hE2
        go_wp2_with fail
        refine (Calls.mono HAd.out) ?_
        rintro e w12 ⟨rfl, b12⟩
        have Z12 := H11.out.1.later b12
        have HID : Hid _ := crId_any p ⟨0, 0, [], 0⟩ w12 Z12.head
        have HAD : Hid _ := crAdded_any p ⟨0, 0, [], 0⟩ w12 Z12.head
        have HFI : Hid _ := addZ HI.out.1 Z12 q HP.out.2.2.2.2.2 _ HP.out.2.2.2.2.1 (.inl (by have := HI.out.1.pos; show (0 : Int) < id; omega)) (by decide)
        rw [HG.out.1] at HID HAD HFI
        have H12 : Hid _ := And.intro (below_then H11.out.2 b12) trivial
        clear HAd H11 b12 Z12
        go_wp2_with fail
        refine (Calls.mono HID.out) ?_
        rintro e _ ⟨rfl, rfl⟩
        clear HID
        go_wp2_with fail
        refine (Calls.mono HAD.out) ?_
        rintro e _ ⟨rfl, rfl⟩
        clear HAD
        go_wp2_with fail
        refine (Calls.mono HFI.out) ?_
        rintro e w13 ⟨rfl, p13, g13, Z13, b13⟩
        have HK : Hid _ := known7_any w13
        have H13 : Hid _ := And.intro (H12.out.1.trans b13) trivial
        clear HFI H12 Z13 b13
        go_wp2_with fail
        refine (Calls.mono HK.out) ?_
        rintro e w14 ⟨rfl, b14⟩
        have FF : Hid _ := below_then H13.out.1 b14
        clear HK H13 b14
        go_wp2
        go_ret
        exact ⟨rfl, FF.out⟩
  · have HS : Hid _ := split_no id a cap b size w hok
    have HK : Hid _ := known7_any w
    clear hok hr hnil
    go_enter Try.func4, Try.ntmps4
    go_wp2_with fail
    refine (Calls.mono HS.out) ?_
    rintro e w1 ⟨E, rfl, hE, rfl⟩
    clear HS
    have hE2 : (E != 0) = true := by rw [bne, hE]; rfl
    have hE3 : ¬ E = 0 := fun h => by rw [h] at hE; cases hE
    go_wp2_with fail
    refine (Calls.mono HK.out) ?_
    rintro e w2 ⟨rfl, b2⟩
    have FF : Hid _ := And.intro b2 trivial
    clear HK b2
    go_wp2
    go_ret
    exact ⟨rfl, FF.out.1⟩
end Go.Proofs.Ytdagekciipfnoaa

