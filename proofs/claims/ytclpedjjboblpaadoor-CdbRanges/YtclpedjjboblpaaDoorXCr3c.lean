/- cdb: Ranges, the program's and the document's. -/
import Derived.Test.YtclpedjjboblpaaDoorXCr3b
namespace Go.Proofs.YtclpedjjboblpaaDoor
open Go.RowKit
set_option linter.unusedVariables false
set_option linter.unusedSimpArgs false
set_option maxRecDepth 8000

set_option maxHeartbeats 8000000 in
theorem rrange_any (a : Option Addr) (c : Nat) (l : List (BitVec 8)) (w : World) (hle : l.length ≤ c) (hr : Row w a l) (hn : a = none → c = 0) (hlen : l.length ≤ 140737488351232) :
    Calls Tryd.prog 32 #[.slice a l.length c] w fun e w' => ∃ v, e = .returned (.tuple #[v, .int .i64 (rgR l).2]) ∧ RgI kRr w w' v (rgR l).1 := by
  by_cases h8 : l.length < 8
  · have e1 : Hid (rgR l = ([], 10)) := rgR_short h8
    have q1 : (l.length : Int) < 8 := by omega
    clear hr h8
    go_enter Tryd.func32, Tryd.ntmps32
    go_wp2
    refine bodyPost_ret (v := .tuple #[.slice none 0 0, .int .i64 10]) (by first | rfl | simp [results, Tryd.results32, go_sem]) rfl ?_
    exact ⟨_, by rw [e1.out], by rw [e1.out]; exact RgI.none (Below.refl _ _)⟩
  rcases Bool.eq_false_or_eq_true (rgHd l) with hh | hh
  rotate_left
  · exact rrange_bad a c l w hle hr hn hlen h8 hh
  have q1 : decide ((l.length : Int) < 8) = false := decide_eq_false (by omega)
  have H8 : Hid _ := h8
  have HN : Hid _ := Of_any a l.length c l w rfl hle hr hn hlen
  clear hr
  have r1 := rd_k (l := l) 2 (by omega) (by omega) (by omega)
  have r2 := rd_k (l := l.drop 2) 2 (by omega) (by omega) (by rw [List.length_drop]; omega)
  have r3 := rd_k (l := (l.drop 2).drop 2) 4 (by omega) (by omega) (by simp only [List.length_drop]; omega)
  rw [(wrap_4 _ _ (by omega)).1] at r1 r2 r3
  have e8 : ((l.drop 2).drop 2).drop 4 = l.drop 8 := by simp only [List.drop_drop]
  rw [e8] at r3
  clear e8
  have hd : rgHd l = decide (((numTo l 0 2).toNat : Int) = (l.length : Int) - 2 ∧ ((numTo (l.drop 2) 0 2).toNat : Int) = (l.length : Int) - 8 ∧ ((numTo (l.drop 2) 0 2).toNat : Int) % 16 = 0 ∧ ((numTo ((l.drop 2).drop 2) 0 4).toNat : Int) = 0) := rfl
  have hNN : (rgN l : Int) = ((numTo (l.drop 2) 0 2).toNat : Int) / 16 := by unfold rgN; omega
  have hfew := rgN_few l
  have hHL := fun h => rgHd_len (l := l) h h8
  have p0 : (0 : Int) ≤ ((numTo (l.drop 2) 0 2).toNat : Int) := by omega
  generalize ((numTo l 0 2).toNat : Int) = V1 at *
  generalize ((numTo (l.drop 2) 0 2).toNat : Int) = V2 at *
  generalize ((numTo ((l.drop 2).drop 2) 0 4).toNat : Int) = V3 at *
  have HR : Hid _ := And.intro r1 (And.intro r2 r3)
  clear r1 r2 r3 h8
  have HHL : Hid _ := And.intro hh (hHL hh)
  clear hHL
  have HHH : Hid _ := hh
  clear hh
  go_enter Tryd.func32, Tryd.ntmps32
  go_wp2_with fail
  refine (Calls.mono HN.out) ?_
  rintro e u0 ⟨g, rfl, hg, R0, b0⟩
  have J0 : Hid _ := (⟨R0 [] (fun k h => by cases h), GSl.nil _ _, (fun b e => by cases e), (fun b e => by cases e), b0, hg⟩ : RnI kRr 112 w u0 [] g (.slice none 0 0) none [] l)
  clear R0 b0 HN hg
  have NN := rNum_any [] g _ 0 2 u0 J0.out.rd
  rw [show rdNum _ 0 2 = _ from HR.out.1] at NN
  have HN : Hid _ := NN
  clear NN
  go_wp2_with fail
  refine (Calls.mono HN.out) ?_
  rintro e u1 ⟨rfl, R1, g1⟩
  have J1 : Hid _ := J0.out.num R1 g1
  clear R1 g1 HN J0
  have NN := rNum_any [] g _ 0 2 u1 J1.out.rd
  rw [show rdNum _ 0 2 = _ from HR.out.2.1] at NN
  have HN : Hid _ := NN
  clear NN
  go_wp2_with fail
  refine (Calls.mono HN.out) ?_
  rintro e u2 ⟨rfl, R1, g1⟩
  have J2 : Hid _ := J1.out.num R1 g1
  clear R1 g1 HN J1
  have NN := rNum_any [] g _ 0 4 u2 J2.out.rd
  rw [show rdNum _ 0 4 = _ from HR.out.2.2] at NN
  have HN : Hid _ := NN
  clear NN
  go_wp2_with fail
  refine (Calls.mono HN.out) ?_
  rintro e u3 ⟨rfl, R1, g1⟩
  have J3 : Hid _ := J2.out.num R1 g1
  clear R1 g1 HN J2
  clear HR
  have hh := HHH.out
  have hl2 := HHL.out.2
  have hv := of_decide_eq_true (hd.symm.trans hh)
  have v2 : V2 = 16 * (rgN l : Int) := by omega
  have d1 : (V1 != (l.length : Int) - 2) = false := by simpa using hv.1
  have d2 : (V2 != (l.length : Int) - 8) = false := by simpa using hv.2.1
  have d3 : (V2.tmod 16 != 0) = false := by rw [v2]; simp
  have d4 : (V3 != 0) = false := by simpa using hv.2.2.2
  have d5 : V2.tdiv 16 = (rgN l : Int) := by rw [v2]; simp
  have HH : Hid _ := And.intro hh hl2
  generalize hN : rgN l = N at *
  generalize hD : l.drop 8 = d at *
  have HD : Hid _ := And.intro hN hD
  have hdl : d.length = 16 * N := by rw [← hD, List.length_drop]; omega
  have HDL : Hid _ := hdl
  clear hv v2 hh HHL HHH hd hNN hl2 hN hD hdl p0
  have J4q : RnI kRr 112 w u3 [] g (.slice none 0 0) none (rgL d 0) (d.drop (16 * 0)) := J3.out
  have J4 : Hid _ := J4q
  clear J4q J3
  go_wp2_with fail
  clear d1 d2 d3 d4
  go_loopw [8, 9, 10] (fun bv lv iv wr => ∃ (k : Nat) (F : List Nat) (q : Option Nat), bv = .bool (!rzL d k) ∧ iv = .int .i64 k ∧ k ≤ N ∧ RnI kRr 112 w wr F g lv q (rgL d k) (d.drop (16 * k))) (fun _ _ iv _ => N - (intOf iv).toNat)
  case atStart => exact ⟨0, [], none, rfl, rfl, Nat.zero_le _, J4.out⟩
  case round =>
    obtain ⟨k, F, q, rfl, rfl, hk, hI⟩ := hrel
    clear J4
    obtain ⟨a0, c0, e0, -, -, -⟩ := hI.ls.cell kRr_ok
    rw [rgL_len] at e0
    subst e0
    cases hz : rzL d k with
    | false =>
      have e1q : rgR l = ([], 11) := rgR_rest H8.out (by rw [HD.out.1, HD.out.2, ← Bool.not_eq_true]; intro e; have := rzL_less hk e; rw [hz] at this; cases this)
      have e1 : Hid _ := And.intro e1q trivial
      have F9 : Hid _ := hI.bl
      clear hI e1q hz
      by_cases hlt : k < N
      · have q2 : (k : Int) < (N : Int) := by omega
        go_wp2
        refine bodyPost_ret (v := .tuple #[.slice none 0 0, .int .i64 11]) (by first | rfl | simp [results, Tryd.results32, go_sem]) rfl ?_
        exact ⟨_, by rw [e1.out.1], by rw [e1.out.1]; exact RgI.none F9.out⟩
      · have q2 : decide ((k : Int) < (N : Int)) = false := decide_eq_false (by omega)
        go_wp2
        refine bodyPost_ret (v := .tuple #[.slice none 0 0, .int .i64 11]) (by first | rfl | simp [results, Tryd.results32, go_sem]) rfl ?_
        exact ⟨_, by rw [e1.out.1], by rw [e1.out.1]; exact RgI.none F9.out⟩
    | true =>
      by_cases hlt : k < N
      · have q2 : (k : Int) < (N : Int) := by omega
        have hdk : (d.drop (16 * k)).length ≥ 16 := by rw [List.length_drop]; have := HDL.out; omega
        have hsn := rgL_succ d k
        have hzn := rzL_succ d k
        rw [hz, Bool.true_and] at hzn
        have hnx : d.drop (16 * (k + 1)) = (((d.drop (16 * k)).drop 8).drop 4).drop 4 := by simp only [List.drop_drop]; congr 1
        generalize hdd : d.drop (16 * k) = dd at *
        have r1 := rd_k (l := dd) 8 (by omega) (by omega) (by omega)
        have r2 := rd_k (l := dd.drop 8) 4 (by omega) (by omega) (by rw [List.length_drop]; omega)
        have r3 := rd_k (l := (dd.drop 8).drop 4) 4 (by omega) (by omega) (by simp only [List.length_drop]; omega)
        rw [(wrap_4 _ _ (by omega)).1] at r2 r3
        have bw := back_wrapC (numTo dd 0 8)
        have hx : rg1 dd = (numTo dd 0 8, ((numTo (dd.drop 8) 0 4).toNat : Int)) := rfl
        have hzz : rz1 dd = decide (((numTo ((dd.drop 8).drop 4) 0 4).toNat : Int) = 0) := rfl
        generalize numTo dd 0 8 = X1 at *
        generalize ((numTo (dd.drop 8) 0 4).toNat : Int) = X2 at *
        generalize ((numTo ((dd.drop 8).drop 4) 0 4).toNat : Int) = X3 at *
        have J5 : Hid _ := hI
        have HR : Hid _ := And.intro r1 (And.intro r2 (And.intro r3 (And.intro hsn (And.intro hzn (And.intro hnx (And.intro hx hzz))))))
        clear hI r1 r2 r3 hsn hzn hnx hx hzz hz hdk hdd
        have NN := rNum_any F g _ 0 8 wr J5.out.rd
        rw [show rdNum _ 0 8 = _ from HR.out.1] at NN
        have HN : Hid _ := NN
        clear NN
        go_wp2_with fail
        refine (Calls.mono HN.out) ?_
        rintro e u4 ⟨rfl, R1, g1⟩
        have J6q := (J5.out.num R1 g1).box 102 [.int .u64 (X1.toNat : Int), .int .i64 0]
        have B6 := Blk.new' u4 102 [.int .u64 (X1.toNat : Int), .int .i64 0]
        obtain ⟨ux, hux⟩ : ∃ ux, ux = u4.alloc (.cells #[.int .u64 (X1.toNat : Int), .int .i64 0] 102) := ⟨_, rfl⟩
        obtain ⟨xb, hxb⟩ : ∃ xb, xb = u4.heap.size := ⟨_, rfl⟩
        have J6r : RnI kRr 112 w ux (xb :: F) g (.slice a0 k c0) q (rgL d k) (dd.drop 8) := by rw [hux, hxb]; exact J6q
        have B6r : Blk ux xb 102 [.int .u64 (X1.toNat : Int), .int .i64 0] := by rw [hux, hxb]; exact B6
        have nb : xb ≠ g ∧ q ≠ some xb ∧ w.heap.size ≤ xb := by
          have g0 := (J5.out.num R1 g1)
          have h1 := g0.rd.blt
          have h2 := g0.bl.size
          refine ⟨by omega, fun e => ?_, by omega⟩
          have := g0.ls.lt xb e
          omega
        have J6 : Hid _ := And.intro J6r (And.intro B6r nb)
        clear R1 g1 HN J5 J6q J6r B6 B6r nb
        generalize hX1 : (X1.toNat : Int) = Y1 at *
        go_upto_region 13 with fail
        rw [← hux, ← hxb]
        clear hux hxb bw
        have NN := rNum_any (xb :: F) g _ 0 4 ux J6.out.1.rd
        rw [show rdNum _ 0 4 = _ from HR.out.2.1] at NN
        have HN : Hid _ := NN
        clear NN
        go_wp2_with fail
        refine (Calls.mono HN.out) ?_
        rintro e u5 ⟨rfl, R1, g1⟩
        have J7q := J6.out.1.num R1 g1
        have B7 := blk_grown J6.out.2.1 g1 (fun e => J6.out.2.2.1 (Option.some.inj e).symm)
        have c0x := blk_at B7 0
        have c1x := blk_at B7 1
        simp only [List.getElem?_cons_zero, List.getElem?_cons_succ] at c0x c1x
        have fz := blk_frozen B7 1
        have J8q := J7q.set xb 1 (.int .i64 X2) (List.mem_cons_self ..) J6.out.2.2.1 J6.out.2.2.2.1 J6.out.2.2.2.2
        have B8 := B7.set 1 (.int .i64 X2)
        simp only [List.set_cons_zero, List.set_cons_succ] at B8
        obtain ⟨uy, huy⟩ : ∃ uy, uy = u5.setCell ⟨xb, 1, none⟩ (.int .i64 X2) := ⟨_, rfl⟩
        rw [← huy] at J8q B8
        have J8 : Hid _ := And.intro J8q (And.intro B8 J6.out.2.2)
        clear R1 g1 HN J6 J7q B7 J8q B8
        go_upto_region 14 with fail
        rw [← huy]
        clear huy c0x c1x fz
        have NN := rNum_any (xb :: F) g _ 0 4 uy J8.out.1.rd
        rw [show rdNum _ 0 4 = _ from HR.out.2.2.1] at NN
        have HN : Hid _ := NN
        clear NN
        go_wp2_with fail
        refine (Calls.mono HN.out) ?_
        rintro e u6 ⟨rfl, R1, g1⟩
        have J9 := J8.out.1.num R1 g1
        have B9 := blk_grown J8.out.2.1 g1 (fun e => J8.out.2.2.1 (Option.some.inj e).symm)
        have c0y := blk_at B9 0
        have c1y := blk_at B9 1
        simp only [List.getElem?_cons_zero, List.getElem?_cons_succ] at c0y c1y
        obtain ⟨a2, n2, c2, w2, q2', F2, hap, hn2, I2⟩ := J9.more kRr_ok (X1, X2) [.int .u64 (X1.toNat : Int), .int .i64 X2] rfl (by rw [rgL_len]; omega) rfl
        rw [rgL_len] at hn2
        subst hn2
        rw [← HR.out.2.2.2.2.2.2.1, ← HR.out.2.2.2.1, ← HR.out.2.2.2.2.2.1] at I2
        rw [hX1] at hap
        have hb9 : (X3 != 0) = !rzL d (k + 1) := by rw [HR.out.2.2.2.2.1, HR.out.2.2.2.2.2.2.2]; by_cases h : X3 = 0 <;> simp [h]
        have JA : Hid _ := And.intro hap (And.intro I2 hb9)
        clear R1 g1 HN J8 J9 B9 hap I2 hb9 hX1 HR
        go_wp2_with (at_builtin; refine wpList_run_app rfl _ _ 53 53 rfl _ _ rfl rfl JA.out.1 ?_)
        go_roundw
        case rel => exact ⟨k + 1, F2, q2', by rw [JA.out.2.2], by go_num, by omega, JA.out.2.1⟩
        case measure => simp [intOf]; omega
      · obtain rfl : k = N := by omega
        have q2 : decide ((k : Int) < (k : Int)) = false := decide_eq_false (by omega)
        by_cases hm : 32 < k
        · have e1q : rgR l = ([], 3) := rgR_many H8.out HH.out.1 (by rw [HD.out.1, HD.out.2]; exact hz) (by rw [HD.out.1]; exact hm)
          have e1 : Hid _ := And.intro e1q trivial
          have q5 : (k : Int) > 32 := by omega
          have F9 : Hid _ := hI.bl
          clear hI hz e1q
          go_wp2
          refine bodyPost_ret (v := .tuple #[.slice none 0 0, .int .i64 3]) (by first | rfl | simp [results, Tryd.results32, go_sem]) rfl ?_
          exact ⟨_, by rw [e1.out.1], by rw [e1.out.1]; exact RgI.none F9.out⟩
        · have e1q : rgR l = (rgL d k, 0) := by have := rgR_yes H8.out HH.out.1 (by rw [HD.out.1, HD.out.2]; exact hz) (by rw [HD.out.1]; omega); rw [HD.out.1, HD.out.2] at this; exact this
          have e1 : Hid _ := And.intro e1q trivial
          have q5 : decide ((k : Int) > 32) = false := decide_eq_false (by omega)
          have F9 : Hid _ := (⟨⟨q, hI.ls, fun b e => (hI.new b e).1⟩, hI.bl⟩ : RgI kRr w wr (.slice a0 k c0) (rgL d k))
          clear hI hz e1q hm
          go_wp2
          refine bodyPost_ret (v := .tuple #[.slice a0 k c0, .int .i64 0]) (by first | rfl | simp [results, Tryd.results32, go_sem]) rfl ?_
          exact ⟨_, by rw [e1.out.1], by rw [e1.out.1]; exact F9.out⟩
end Go.Proofs.YtclpedjjboblpaaDoor

