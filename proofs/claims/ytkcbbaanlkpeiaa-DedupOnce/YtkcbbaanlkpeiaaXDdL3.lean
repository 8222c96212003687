/- DedupOnce. -/
import Derived.Test.YtkcbbaanlkpeiaaXDd26
import Derived.Test.YtkcbbaanlkpeiaaXDdB
import Derived.Test.YtkcbbaanlkpeiaaXAid
import Derived.Deep.CutRange
namespace Go.Proofs.Ytkcbbaanlkpeiaa
open Go.RowKit
set_option linter.unusedVariables false
set_option linter.unusedSimpArgs false
set_option maxRecDepth 8000

/-- between two rounds -/
structure OnR (w1 wr : World) (g N : Nat) (S : Int) (bs : List (BitVec 8)) (fs : List Nx) : Prop where
  sep : Sep w1.heap.size [tb g fs] wr
  be : Below w1.heap.size w1 wr
  inv : OnceI N S bs ((fsm fs).getD N (0, []))
theorem OnR.later {w1 wr wx : World} {g N : Nat} {S : Int} {bs : List (BitVec 8)} {fs : List Nx} (h : OnR w1 wr g N S bs fs) (hb : Below wr.heap.size wr wx) : OnR w1 wx g N S bs fs := ⟨h.sep.later hb, below_then h.be hb, h.inv⟩
theorem OnR.put {w1 wr wx : World} {g N : Nat} {S : Int} {bs bs' : List (BitVec 8)} {fs fs' : List Nx} {q n E : Int} (h : OnR w1 wr g N S bs fs) (st : Step wr wx (tb g fs) (tb g fs')) (e : fsm fs' = putTo (fsm fs) q n bs' (putE (fsm fs) q n E)) : OnR w1 wx g N S bs fs' :=
  ⟨h.sep.step st, h.be.trans (h.sep.below st), by rw [e]; exact (once_to h.inv).1⟩
theorem below_alloc1 {w w' : World} {o : Obj} (h : Below (w.alloc o).heap.size (w.alloc o) w') : Below w.heap.size w w' := below_then ((Below.refl _ _).alloc (Nat.le_refl _) _) h
set_option maxHeartbeats 16000000 in
theorem dedupOnce_walk (q n : Int) (a b c d : Int) (l : List (BitVec 8)) (x : Option Addr) (cp : Nat) (sa : Option Addr) (sl sc : Nat) (w : World) (hq : I64 q) (hn : I64 n) (B0 : I64 a ∧ I64 b ∧ I64 c ∧ I64 d ∧ DatOk w x l cp) (B1 : Op12Arg w sa sl sc) :
    Calls Try.prog 4 #[.int .i64 q, .int .i64 n, .agg #[.int .i64 a, .int .i64 b, .int .i64 c, .int .i64 d, .slice x l.length cp], .slice sa sl sc] w fun e w' => e = .returned (.bool true) ∧ Below w.heap.size w w' := by
  obtain ⟨-, -, -, -, hD⟩ := B0
  have b1 : Below w.heap.size w (w.alloc (.cells #[.int .i64 a, .int .i64 b, .int .i64 c, .int .i64 d, .slice x l.length cp] 38)) := (Below.refl _ _).alloc (Nat.le_refl _) _
  have M1 := Blk.new' w 38 [.int .i64 a, .int .i64 b, .int .i64 c, .int .i64 d, .slice x l.length cp]
  have HP : Hid _ := And.intro hD (And.intro B1 b1)
  have hll := hD.most
  have hlc := hD.le
  have NN : Hid _ := ddNew_any (w.alloc (.cells #[.int .i64 a, .int .i64 b, .int .i64 c, .int .i64 d, .slice x l.length cp] 38))
  have H1 : Hid _ := And.intro M1 trivial
  have HW : Hid (∀ W, Below (w.alloc (.cells #[.int .i64 a, .int .i64 b, .int .i64 c, .int .i64 d, .slice x l.length cp] 38)).heap.size (w.alloc (.cells #[.int .i64 a, .int .i64 b, .int .i64 c, .int .i64 d, .slice x l.length cp] 38)) W → Below w.heap.size w W) := fun W hW => below_alloc1 hW
  clear hD B1 b1 M1
  go_enter Try.func4, Try.ntmps4
  go_wp2_with fail
  generalize (w.alloc (.cells #[.int .i64 a, .int .i64 b, .int .i64 c, .int .i64 d, .slice x l.length cp] 38)) = w1 at *
  refine (Calls.mono NN.out) ?_
  rintro e w2 ⟨rfl, hG, b2⟩
  have S2 : Sep w1.heap.size [tb w1.heap.size nx0] w2 := Sep.nil.fresh b2 (tbNew_ok w2 _ hG) (fun k hk => by
    rcases hk with hk | hk
    · rcases mem_tb.1 hk with rfl | ⟨f, hf, hk⟩
      · exact Nat.le_refl _
      · rw [List.eq_of_mem_replicate hf] at hk; cases hk
    · cases hk)
  have H2 : Hid _ := And.intro S2 b2
  clear NN hG b2 S2
  have hnn : (binOp .eql 24 (.pointer (some ⟨w1.heap.size, 0, none⟩)) (.pointer none)).run Try.prog w2 = .ok (.bool false) w2 := by first | rfl | kernel_rfl
  have NP : Hid _ := tbPut_any w1.heap.size nx0 q n a b c d x cp l w2 H2.out.1.head hll hlc HP.out.1.nil (HP.out.1.row.later (HW.out _ H2.out.2))
  have y0 := blk_at (H1.out.1.laterB H2.out.2) 0
  have y1 := blk_at (H1.out.1.laterB H2.out.2) 1
  have y2 := blk_at (H1.out.1.laterB H2.out.2) 2
  have y3 := blk_at (H1.out.1.laterB H2.out.2) 3
  have y4 := blk_at (H1.out.1.laterB H2.out.2) 4
  simp only [List.getElem?_cons_zero, List.getElem?_cons_succ] at y0 y1 y2 y3 y4
  rw [putE_new] at NP
  generalize hgg : w1.heap.size = g at *
  have HW0 : Hid (∀ W, Below w1.heap.size w1 W → Below w.heap.size w W) := by rw [hgg]; exact HW.out
  clear HW
  have HW : Hid _ := HW0.out
  clear HW0
  go_wp2_with fail
  clear y0 y1 y2 y3 y4
  clear hnn
  refine (Calls.mono NP.out) ?_
  rintro e w3 ⟨fs, rfl, st3, hfs⟩
  have H3 : Hid (Sep w1.heap.size [tb g fs] w3 ∧ Below w1.heap.size w1 w3) := by
    rw [hgg]
    exact ⟨H2.out.1.step st3, H2.out.2.trans (H2.out.1.below st3)⟩
  have HF : Hid _ := hfs
  clear hfs st3 NP H2
  by_cases hcan : canP q n = true
  · simp only [hcan, if_true]
    by_cases hE : prE a b c d l.length = 0
    · obtain ⟨N, rfl, hN, hn1, hn2⟩ := canP_nat hcan
      have I0 : OnceI N n (prB a b c d l) ((fsm fs).getD N (0, [])) := by
        have := HF.out
        rw [hcan, if_pos rfl, hE] at this
        rw [this]
        exact once_first hn1 hN
      have HR : Hid (OnR w1 w3 g N n (prB a b c d l) fs) := ⟨H3.out.1, H3.out.2, I0⟩
      have hE0 : (prE a b c d l.length == 0) = true := by rw [beq_iff_eq]; exact hE
      have HE : Hid _ := hE
      have HC : Hid _ := hcan
      rw [hE]
      clear H3 HF I0 hE hE0 hcan
      go_wp2_with fail
      go_loopw [12, 13] (fun gv iv wr => ∃ (k : Nat) (gr : Int) (fs : List Nx), iv = .int .i64 k ∧ gv = .int .i64 gr ∧ k ≤ 200 ∧ OnR w1 wr g N n (prB a b c d l) fs) (fun _ iv _ => 200 - (intOf iv).toNat)
      case atStart => exact ⟨0, 0, fs, rfl, rfl, by omega, HR.out⟩
      case round =>
        clear HR
        obtain ⟨k, gr, fs, rfl, rfl, hk, hI⟩ := hrel
        have HI : Hid _ := hI
        clear hI
        by_cases hcc : k < sl ∧ k < 200
        · obtain ⟨t1, t2⟩ := hcc
          obtain ⟨sb, so, rfl, hss⟩ := HP.out.2.1.each (by omega)
          obtain ⟨z0, z1, z2, z3_0, z3_1, z3_2, z3_3, z3_4, z3_4x, z3_4c, x0, x1, x2, x3, x4, x5, x6, x7, i0, i1, i2, -, -, -, -, hDo⟩ := hss k t1
          have hbr := HW.out _ HI.out.be
          have y0 := cell_later hbr x0
          have y1 := cell_later hbr x1
          have y2 := cell_later hbr x2
          have y3 := cell_later hbr x3
          have y4 := cell_later hbr x4
          have y5 := cell_later hbr x5
          have y6 := cell_later hbr x6
          have y7 := cell_later hbr x7
          have q1 : (k : Int) < sl := by omega
          have q2 : (k : Int) < 200 := by omega
          have q3 : (sl : Int) ≤ 140737488355328 := by have := HP.out.2.1.few; omega
          have bn : Below wr.heap.size wr (wr.alloc (.cells #[.int .i64 z0, .int .i64 z1, .int .i64 z2, .int .i64 z3_0, .int .i64 z3_1, .int .i64 z3_2, .int .i64 z3_3, .slice z3_4x z3_4.length z3_4c] 45)) := (Below.refl _ _).alloc (Nat.le_refl _) _
          have MO := Blk.new' wr 45 [.int .i64 z0, .int .i64 z1, .int .i64 z2, .int .i64 z3_0, .int .i64 z3_1, .int .i64 z3_2, .int .i64 z3_3, .slice z3_4x z3_4.length z3_4c]
          have HA : Hid (OnR w1 (wr.alloc (.cells #[.int .i64 z0, .int .i64 z1, .int .i64 z2, .int .i64 z3_0, .int .i64 z3_1, .int .i64 z3_2, .int .i64 z3_3, .slice z3_4x z3_4.length z3_4c] 45)) g N n (prB a b c d l) fs ∧ Blk (wr.alloc (.cells #[.int .i64 z0, .int .i64 z1, .int .i64 z2, .int .i64 z3_0, .int .i64 z3_1, .int .i64 z3_2, .int .i64 z3_3, .slice z3_4x z3_4.length z3_4c] 45)) wr.heap.size 45 [.int .i64 z0, .int .i64 z1, .int .i64 z2, .int .i64 z3_0, .int .i64 z3_1, .int .i64 z3_2, .int .i64 z3_3, .slice z3_4x z3_4.length z3_4c]) := ⟨HI.out.later bn, MO⟩
          have HDo : Hid _ := hDo.later hbr
          have HDa : Hid _ := hDo.later (below_then hbr bn)
          have hzl := hDo.most
          have hzc := hDo.le
          clear hss x0 x1 x2 x3 x4 x5 x6 x7 bn MO HI hDo hbr
          go_upto_region 12 with fail
          generalize wr.alloc (.cells #[.int .i64 z0, .int .i64 z1, .int .i64 z2, .int .i64 z3_0, .int .i64 z3_1, .int .i64 z3_2, .int .i64 z3_3, .slice z3_4x z3_4.length z3_4c] 45) = wa at *
          clear y0 y1 y2 y3 y4 y5 y6 y7
          generalize hrc : wr.heap.size = rc at *
          have y0 := blk_at HA.out.2 0
          have y1 := blk_at HA.out.2 1
          have y2 := blk_at HA.out.2 2
          have y3 := blk_at HA.out.2 3
          have y4 := blk_at HA.out.2 4
          have y5 := blk_at HA.out.2 5
          have y6 := blk_at HA.out.2 6
          have y7 := blk_at HA.out.2 7
          simp only [List.getElem?_cons_zero, List.getElem?_cons_succ] at y0 y1 y2 y3 y4 y5 y6 y7
          obtain ⟨fl, v, L, hf⟩ := HA.out.1.sep.head.holds.row hN
          have hfm := fsm_at hf
          by_cases hA : z0 = 5 ∧ z1 = (N : Int)
          · obtain ⟨rfl, rfl⟩ := hA
            have NF : Hid _ := tbForget_any g N fs fl v L wa HA.out.1.sep.head hf hN
            go_wp2_with fail
            refine (Calls.mono NF.out) ?_
            rintro e v1 ⟨rfl, st⟩
            have S1 := HA.out.1.sep.step st
            have B1 := HA.out.1.be.trans (HA.out.1.sep.below st)
            have hf1 : (fs.set N (0, .slice none 0 0, []))[N]? = some (0, .slice none 0 0, []) := List.getElem?_set_self (by have := HA.out.1.sep.head.holds.len; omega)
            have NC : Hid _ := tbCheck_none g N _ n 0 (.slice none 0 0) [] v1 S1.head.holds hf1 hN HC.out (fun a ha => by cases ha)
            rw [if_neg (by omega)] at NC
            unfold zeroR at NC
            have H4 : Hid _ := And.intro S1 (And.intro B1 hf1)
            clear NF st S1 B1 hf1
            clear y0 y1 y2 y3 y4 y5 y6 y7
            go_wp2_with fail
            refine (Calls.mono NC.out) ?_
            rintro e v2 ⟨rfl, b2⟩
            have b3 : Below v2.heap.size v2 (v2.alloc (.cells #[.int .i64 0, .int .i64 0, .int .i64 0, .int .i64 0, .slice none 0 0] 38)) := (Below.refl _ _).alloc (Nat.le_refl _) _
            have S3 := H4.out.1.later (below_then b2 b3)
            have NL : Hid _ := tbLen_any g N _ 0 (.slice none 0 0) [] _ S3.head.holds H4.out.2.2 hN
            have F : Hid _ := HW.out _ (below_then H4.out.2.1 (below_then b2 b3))
            clear b2 b3 S3 NC H4
            go_wp2_with fail
            generalize (v2.alloc (.cells #[.int .i64 0, .int .i64 0, .int .i64 0, .int .i64 0, .slice none 0 0] 38)) = v3 at *
            refine (Calls.mono NL.out) ?_
            rintro e _ ⟨rfl, rfl⟩
            clear NL
            go_wp2_with fail
            refine (known12_any v3).mono ?_
            rintro e wz ⟨rfl, bz⟩
            have G : Hid _ := below_then F.out bz
            clear bz
            go_wp2
            go_ret
            exact ⟨rfl, G.out⟩
          · by_cases h5 : z0 > 4
            · have F : Hid _ := HA.out.1
              have hA' : ¬ (z0 = 5) ∨ ¬ (z1 = (N : Int)) := by
                by_cases e : z0 = 5
                · exact .inr (fun e' => hA ⟨e, e'⟩)
                · exact .inl e
              clear hA
              by_cases e5 : z0 = 5
              · have e6 := hA'.resolve_left (fun h => h e5)
                subst e5
                clear hA'
                go_wp2
                go_roundw
                case rel => exact ⟨k + 1, gr, fs, by go_num, rfl, by omega, F.out⟩
                case measure => simp [intOf]; omega
              · clear hA'
                go_wp2
                go_roundw
                case rel => exact ⟨k + 1, gr, fs, by go_num, rfl, by omega, F.out⟩
                case measure => simp [intOf]; omega
            · have e5 : ¬ z0 = 5 := by omega
              have NP : Hid _ := tbPut_any g fs z1 z2 z3_0 z3_1 z3_2 z3_3 z3_4x z3_4c z3_4 wa HA.out.1.sep.head hzl hzc HDa.out.nil HDa.out.row
              clear hA
              go_wp2_with fail
              clear y0 y1 y2 y3 y4 y5 y6 y7
              refine (Calls.mono NP.out) ?_
              rintro e v1 ⟨fs1, rfl, st, hfs1⟩
              have hon := (once_to (q := z1) (n := z2) (bs' := prB z3_0 z3_1 z3_2 z3_3 z3_4) (E := prE z3_0 z3_1 z3_2 z3_3 z3_4.length) HA.out.1.inv).2
              have H5 : Hid (OnR w1 v1 g N n (prB a b c d l) fs1 ∧ Blk v1 rc 45 [.int .i64 z0, .int .i64 z1, .int .i64 z2, .int .i64 z3_0, .int .i64 z3_1, .int .i64 z3_2, .int .i64 z3_3, .slice z3_4x z3_4.length z3_4c]) := ⟨HA.out.1.put st hfs1, by
                have hrcl := HA.out.2.lt
                refine HA.out.2.turned st.turned (fun hm => ?_)
                rcases mem_tb.1 hm with e | ⟨f, hf', e⟩
                · have := HA.out.2; rw [e] at this; have h2 := HA.out.1.sep.head.holds.blk; unfold Blk at this h2; rw [h2] at this; injection this with this; injection this with t1 t2 t3; exact absurd t2 (by decide)
                · exact own_ne (HA.out.1.sep.head.holds.own f hf') HA.out.2 (by decide) e⟩
              generalize putE (fsm fs) z1 z2 (prE z3_0 z3_1 z3_2 z3_3 z3_4.length) = E at *
              clear NP st hfs1 HA hf hfm
              have y0 := blk_at H5.out.2 0
              have y1 := blk_at H5.out.2 1
              have y2 := blk_at H5.out.2 2
              have y3 := blk_at H5.out.2 3
              have y4 := blk_at H5.out.2 4
              have y5 := blk_at H5.out.2 5
              have y6 := blk_at H5.out.2 6
              have y7 := blk_at H5.out.2 7
              simp only [List.getElem?_cons_zero, List.getElem?_cons_succ] at y0 y1 y2 y3 y4 y5 y6 y7
              go_upto_region 18 with fail
              go_cut [123] from 110 to 176 (fun cv wx => ∃ B, cv = .bool B ∧ wx = v1)
              case first =>
                by_cases c1 : z1 = (N : Int)
                · have c1' : (z1 == (N : Int)) = true := by rw [beq_iff_eq]; exact c1
                  clear c1
                  by_cases c2 : E = 0
                  · have c2' : (E == 0) = true := by rw [beq_iff_eq]; exact c2
                    clear c2
                    by_cases c3 : z2 > n
                    · go_wp2
                      go_meet
                      exact ⟨_, rfl, rfl⟩
                    · go_wp2
                      go_meet
                      exact ⟨_, rfl, rfl⟩
                  · have c2' : (E == 0) = false := by rw [beq_eq_false_iff_ne]; exact c2
                    go_wp2
                    go_meet
                    exact ⟨_, rfl, rfl⟩
                · go_wp2
                  go_meet
                  exact ⟨_, rfl, rfl⟩
              case rest =>
              obtain ⟨Bc, rfl, hwc⟩ := hcut
              obtain rfl := hwc.symm
              clear hwc
              go_upto_if 123 with fail
              go_cut [12] from 124 to 176 (fun gv wx => ∃ gr, gv = .int .i64 gr ∧ wx = v1)
              case first =>
                cases Bc
                · go_wp2
                  go_meet
                  exact ⟨_, rfl, rfl⟩
                · go_wp2
                  go_meet
                  exact ⟨_, rfl, rfl⟩
              case rest =>
              obtain ⟨gr2, rfl, hwc⟩ := hcut
              obtain rfl := hwc.symm
              clear hwc
              go_upto_region 20 with fail
              go_cut [139] from 126 to 176 (fun cv wx => cv = .bool false ∧ wx = v1)
              case first =>
                by_cases c1 : z1 = (N : Int)
                · have c1' : (z1 == (N : Int)) = true := by rw [beq_iff_eq]; exact c1
                  by_cases c2 : z2 = n
                  · have c3 : ¬ E = 0 := fun e => hon ⟨c1, c2, e⟩
                    have c3' : (E == 0) = false := by rw [beq_eq_false_iff_ne]; exact c3
                    have c2' : (z2 == n) = true := by rw [beq_iff_eq]; exact c2
                    clear c1 c2
                    go_wp2
                    go_meet
                    exact ⟨rfl, rfl⟩
                  · clear c1
                    go_wp2
                    go_meet
                    exact ⟨rfl, rfl⟩
                · go_wp2
                  go_meet
                  exact ⟨rfl, rfl⟩
              case rest =>
              obtain ⟨rfl, hwc⟩ := hcut
              obtain rfl := hwc.symm
              clear hwc hon
              clear y0 y1 y2 y3 y4 y5 y6 y7
              obtain ⟨fl, v, L, hf⟩ := H5.out.1.sep.head.holds.row hN
              have hfm := fsm_at hf
              simp only at hfm
              have hinv := H5.out.1.inv
              rw [hfm] at hinv
              rcases hinv.st with hin | ⟨h1, h2, h3⟩
              · have NC : Hid _ := tbCheck_done g N fs1 n fl v L (prB a b c d l) v1 H5.out.1.sep.head.holds hf hN HC.out hin (prB_most _ _ _ _ _ HE.out)
                have htb := (there_back HE.out).2
                rw [htb] at NC
                simp only at NC
                clear hinv hin htb hfm hf
                go_wp2_with fail
                refine (Calls.mono NC.out) ?_
                rintro e v2 ⟨x2, c2, rfl, o2, b2⟩
                have b3 : Below v2.heap.size v2 (v2.alloc (.cells #[.int .i64 a, .int .i64 b, .int .i64 c, .int .i64 d, .slice x2 l.length c2] 38)) := (Below.refl _ _).alloc (Nat.le_refl _) _
                have M3 := Blk.new' v2 38 [.int .i64 a, .int .i64 b, .int .i64 c, .int .i64 d, .slice x2 l.length c2]
                obtain ⟨x2', c2', hv2, -, -, r2, -, -⟩ := o2.open
                simp only [Value.slice.injEq] at hv2
                obtain ⟨rfl, -, rfl⟩ := hv2
                have H6 : Hid (OnR w1 (v2.alloc (.cells #[.int .i64 a, .int .i64 b, .int .i64 c, .int .i64 d, .slice x2 l.length c2] 38)) g N n (prB a b c d l) fs1 ∧ Blk (v2.alloc (.cells #[.int .i64 a, .int .i64 b, .int .i64 c, .int .i64 d, .slice x2 l.length c2] 38)) v2.heap.size 38 [.int .i64 a, .int .i64 b, .int .i64 c, .int .i64 d, .slice x2 l.length c2] ∧ Row (v2.alloc (.cells #[.int .i64 a, .int .i64 b, .int .i64 c, .int .i64 d, .slice x2 l.length c2] 38)) x2 l) := ⟨H5.out.1.later (below_then b2 b3), M3, r2.later b3⟩
                clear NC H5 b2 b3 M3 o2 r2
                go_upto_region 23 with fail
                generalize (v2.alloc (.cells #[.int .i64 a, .int .i64 b, .int .i64 c, .int .i64 d, .slice x2 l.length c2] 38)) = v3 at *
                have y0 := blk_at H6.out.2.1 0
                have y1 := blk_at H6.out.2.1 1
                have y2 := blk_at H6.out.2.1 2
                have y3 := blk_at H6.out.2.1 3
                have y4 := blk_at H6.out.2.1 4
                simp only [List.getElem?_cons_zero, List.getElem?_cons_succ] at y0 y1 y2 y3 y4
                have u0 := blk_at (H1.out.1.laterB H6.out.1.be) 0
                have u1 := blk_at (H1.out.1.laterB H6.out.1.be) 1
                have u2 := blk_at (H1.out.1.laterB H6.out.1.be) 2
                have u3 := blk_at (H1.out.1.laterB H6.out.1.be) 3
                have u4 := blk_at (H1.out.1.laterB H6.out.1.be) 4
                simp only [List.getElem?_cons_zero, List.getElem?_cons_succ] at u0 u1 u2 u3 u4
                have NS : Hid _ := same_yes a b c d x2 x c2 cp l v3 hll H6.out.2.2 (HP.out.1.row.later (HW.out _ H6.out.1.be))
                go_wp2_with fail
                clear y0 y1 y2 y3 y4
                clear u0 u1 u2 u3 u4
                refine (Calls.mono NS.out) ?_
                rintro e v4 ⟨rfl, b4⟩
                have F : Hid _ := H6.out.1.later b4
                clear NS H6 b4
                by_cases g64 : gr2 < 64
                · go_wp2
                  go_roundw
                  case rel => exact ⟨k + 1, gr2, fs1, by go_num, rfl, by omega, F.out⟩
                  case measure => simp [intOf]; omega
                · go_wp2
                  go_roundw
                  case rel => exact ⟨k + 1, gr2, fs1, by go_num, rfl, by omega, F.out⟩
                  case measure => simp [intOf]; omega
              · have NC : Hid _ := tbCheck_none g N fs1 n fl v L v1 H5.out.1.sep.head.holds hf hN HC.out h1
                rw [if_pos h2] at NC
                unfold zeroR at NC
                have h64 : L.length = 64 := h3
                clear hinv h1 h2 h3 hfm
                go_wp2_with fail
                refine (Calls.mono NC.out) ?_
                rintro e v2 ⟨rfl, b2⟩
                have b3 : Below v2.heap.size v2 (v2.alloc (.cells #[.int .i64 0, .int .i64 0, .int .i64 0, .int .i64 0, .slice none 0 0] 38)) := (Below.refl _ _).alloc (Nat.le_refl _) _
                have H6 : Hid _ := H5.out.1.later (below_then b2 b3)
                have NL : Hid _ := tbLen_any g N fs1 fl v L _ H6.out.sep.head.holds hf hN
                rw [h64] at NL
                clear NC H5 b2 b3 hf h64
                by_cases g64 : gr2 < 64
                · go_wp2_with fail
                  generalize (v2.alloc (.cells #[.int .i64 0, .int .i64 0, .int .i64 0, .int .i64 0, .slice none 0 0] 38)) = v3 at *
                  refine (Calls.mono NL.out) ?_
                  rintro e _ ⟨rfl, rfl⟩
                  go_wp2
                  go_roundw
                  case rel => exact ⟨k + 1, gr2, fs1, by go_num, rfl, by omega, H6.out⟩
                  case measure => simp [intOf]; omega
                · go_wp2
                  go_roundw
                  case rel => exact ⟨k + 1, gr2, fs1, by go_num, rfl, by omega, H6.out⟩
                  case measure => simp [intOf]; omega
        · have F : Hid (Below w.heap.size w wr) := HW.out _ HI.out.be
          clear HI
          by_cases t1 : (k : Int) < sl
          · have t2 : ¬ (k : Int) < 200 := by omega
            go_wp2_with fail
            refine (known12_any wr).mono ?_
            rintro e wz ⟨rfl, bz⟩
            have G : Hid _ := below_then F.out bz
            clear bz
            go_wp2
            go_ret
            exact ⟨rfl, G.out⟩
          · go_wp2_with fail
            refine (known12_any wr).mono ?_
            rintro e wz ⟨rfl, bz⟩
            have G : Hid _ := below_then F.out bz
            clear bz
            go_wp2
            go_ret
            exact ⟨rfl, G.out⟩
    · have hE0 : (prE a b c d l.length == 0) = false := by rw [beq_eq_false_iff_ne]; exact hE
      have NQ : Hid _ := qputReply_any a b c d x cp l w3 hll hlc HP.out.1.nil (HP.out.1.row.later (HW.out _ H3.out.2))
      have y0 := blk_at (H1.out.1.laterB H3.out.2) 0
      have y1 := blk_at (H1.out.1.laterB H3.out.2) 1
      have y2 := blk_at (H1.out.1.laterB H3.out.2) 2
      have y3 := blk_at (H1.out.1.laterB H3.out.2) 3
      have y4 := blk_at (H1.out.1.laterB H3.out.2) 4
      simp only [List.getElem?_cons_zero, List.getElem?_cons_succ] at y0 y1 y2 y3 y4
      have F3 : Hid _ := H3.out.2
      clear HF H3
      obtain ⟨N, rfl, hN, hn1, hn2⟩ := canP_nat hcan
      have p1 : ¬ (N : Int) < 0 := by omega
      have p2 : ¬ (N : Int) ≥ 16 := by omega
      have p3 : ¬ n < 1 := by omega
      have p4 : ¬ n > 1152921504606846976 := by omega
      clear hcan
      go_wp2_with fail
      clear y0 y1 y2 y3 y4
      refine (Calls.mono NQ.out) ?_
      rintro e w4 ⟨z, rfl, o4, b4⟩
      obtain ⟨za, zn, zc, rfl, -⟩ := own12_strs o4
      have F : Hid _ := HW.out _ (below_then F3.out b4)
      clear NQ o4 b4 F3
      go_wp2_with fail
      refine (known12_any w4).mono ?_
      rintro e wz ⟨rfl, bz⟩
      have G : Hid _ := below_then F.out bz
      clear bz
      go_wp2
      go_ret
      exact ⟨rfl, G.out⟩
  · have hcan' : canP q n = false := by simpa using hcan
    simp only [hcan']
    have NQ : Hid _ := qputReply_any a b c d x cp l w3 hll hlc HP.out.1.nil (HP.out.1.row.later (HW.out _ H3.out.2))
    have y0 := blk_at (H1.out.1.laterB H3.out.2) 0
    have y1 := blk_at (H1.out.1.laterB H3.out.2) 1
    have y2 := blk_at (H1.out.1.laterB H3.out.2) 2
    have y3 := blk_at (H1.out.1.laterB H3.out.2) 3
    have y4 := blk_at (H1.out.1.laterB H3.out.2) 4
    simp only [List.getElem?_cons_zero, List.getElem?_cons_succ] at y0 y1 y2 y3 y4
    have F3 : Hid _ := H3.out.2
    have hbad : q < 0 ∨ (¬ q < 0 ∧ q ≥ 16) ∨ (¬ q < 0 ∧ ¬ q ≥ 16 ∧ n < 1) ∨ (¬ q < 0 ∧ ¬ q ≥ 16 ∧ ¬ n < 1 ∧ n > 1152921504606846976) := by
      unfold canP at hcan'
      by_cases e1 : q < 0
      · exact .inl e1
      · by_cases e2 : q ≥ 16
        · exact .inr (.inl ⟨e1, e2⟩)
        · by_cases e3 : n < 1
          · exact .inr (.inr (.inl ⟨e1, e2, e3⟩))
          · refine .inr (.inr (.inr ⟨e1, e2, e3, ?_⟩))
            simp only [Bool.and_eq_false_iff, decide_eq_false_iff_not] at hcan'
            omega
    clear HF H3 hcan hcan'
    go_wp2_with fail
    clear y0 y1 y2 y3 y4
    refine (Calls.mono NQ.out) ?_
    rintro e w4 ⟨z, rfl, o4, b4⟩
    obtain ⟨za, zn, zc, rfl, -⟩ := own12_strs o4
    have F : Hid _ := HW.out _ (below_then F3.out b4)
    generalize prE a b c d l.length = E at *
    clear NQ o4 b4 F3
    rcases hbad with e1 | ⟨e1, e2⟩ | ⟨e1, e2, e3⟩ | ⟨e1, e2, e3, e4⟩
    all_goals
      go_wp2_with fail
      refine (known12_any w4).mono ?_
      rintro e wz ⟨rfl, bz⟩
      have G : Hid _ := below_then F.out bz
      clear bz
      go_wp2
      go_ret
      exact ⟨rfl, G.out⟩
end Go.Proofs.Ytkcbbaanlkpeiaa

