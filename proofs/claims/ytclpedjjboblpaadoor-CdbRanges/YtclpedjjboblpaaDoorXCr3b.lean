/- cdb: Ranges, the program's and the document's. -/
import Derived.Test.YtclpedjjboblpaaDoorXCr3
namespace Go.Proofs.YtclpedjjboblpaaDoor
open Go.RowKit
set_option linter.unusedVariables false
set_option linter.unusedSimpArgs false
set_option maxRecDepth 8000

set_option maxHeartbeats 8000000 in
theorem rrange_bad (a : Option Addr) (c : Nat) (l : List (BitVec 8)) (w : World) (hle : l.length ≤ c) (hr : Row w a l) (hn : a = none → c = 0) (hlen : l.length ≤ 140737488351232) (h8 : ¬ l.length < 8) (hh0 : rgHd l = false) :
    Calls Tryd.prog 32 #[.slice a l.length c] w fun e w' => ∃ v, e = .returned (.tuple #[v, .int .i64 (rgR l).2]) ∧ RgI kRr w w' v (rgR l).1 := by
  have q1 : decide ((l.length : Int) < 8) = false := decide_eq_false (by omega)
  have H8 : Hid _ := h8
  have HN : Hid _ := Of_any a l.length c l w rfl hle hr hn hlen
  clear hr
  have r1 := rd_k (l := l) 2 (by omega) (by omega) (by omega)
  have r2 := rd_k (l := l.drop 2) 2 (by omega) (by omega) (by rw [List.length_drop]; omega)
  have r3 := rd_k (l := (l.drop 2).drop 2) 4 (by omega) (by omega) (by simp only [List.length_drop]; omega)
  rw [(wrap_4 _ _ (by omega)).1] at r1 r2 r3
  have e8 : ((l.drop 2).drop 2).drop 4 = l.drop 8 := by simp only [List.drop_drop]
  rw [e8] at r3
  clear e8
  have hd : rgHd l = decide (((numTo l 0 2).toNat : Int) = (l.length : Int) - 2 ∧ ((numTo (l.drop 2) 0 2).toNat : Int) = (l.length : Int) - 8 ∧ ((numTo (l.drop 2) 0 2).toNat : Int) % 16 = 0 ∧ ((numTo ((l.drop 2).drop 2) 0 4).toNat : Int) = 0) := rfl
  have hNN : (rgN l : Int) = ((numTo (l.drop 2) 0 2).toNat : Int) / 16 := by unfold rgN; omega
  have hfew := rgN_few l
  have hHL := fun h => rgHd_len (l := l) h h8
  have p0 : (0 : Int) ≤ ((numTo (l.drop 2) 0 2).toNat : Int) := by omega
  generalize ((numTo l 0 2).toNat : Int) = V1 at *
  generalize ((numTo (l.drop 2) 0 2).toNat : Int) = V2 at *
  generalize ((numTo ((l.drop 2).drop 2) 0 4).toNat : Int) = V3 at *
  have HR : Hid _ := And.intro r1 (And.intro r2 r3)
  clear r1 r2 r3 h8
  go_enter Tryd.func32, Tryd.ntmps32
  go_wp2_with fail
  refine (Calls.mono HN.out) ?_
  rintro e u0 ⟨g, rfl, hg, R0, b0⟩
  have J0 : Hid _ := (⟨R0 [] (fun k h => by cases h), GSl.nil _ _, (fun b e => by cases e), (fun b e => by cases e), b0, hg⟩ : RnI kRr 112 w u0 [] g (.slice none 0 0) none [] l)
  clear R0 b0 HN hg
  have NN := rNum_any [] g _ 0 2 u0 J0.out.rd
  rw [show rdNum _ 0 2 = _ from HR.out.1] at NN
  have HN : Hid _ := NN
  clear NN
  go_wp2_with fail
  refine (Calls.mono HN.out) ?_
  rintro e u1 ⟨rfl, R1, g1⟩
  have J1 : Hid _ := J0.out.num R1 g1
  clear R1 g1 HN J0
  have NN := rNum_any [] g _ 0 2 u1 J1.out.rd
  rw [show rdNum _ 0 2 = _ from HR.out.2.1] at NN
  have HN : Hid _ := NN
  clear NN
  go_wp2_with fail
  refine (Calls.mono HN.out) ?_
  rintro e u2 ⟨rfl, R1, g1⟩
  have J2 : Hid _ := J1.out.num R1 g1
  clear R1 g1 HN J1
  have NN := rNum_any [] g _ 0 4 u2 J2.out.rd
  rw [show rdNum _ 0 4 = _ from HR.out.2.2] at NN
  have HN : Hid _ := NN
  clear NN
  go_wp2_with fail
  refine (Calls.mono HN.out) ?_
  rintro e u3 ⟨rfl, R1, g1⟩
  have J3 : Hid _ := J2.out.num R1 g1
  clear R1 g1 HN J2
  clear HR
  have e1 : Hid _ := And.intro (rgR_head H8.out hh0) trivial
  have F9 : Hid _ := J3.out.bl
  have hv := of_decide_eq_false (hd.symm.trans hh0)
  have t16 : V2.tmod 16 = V2 % 16 := Int.tmod_eq_emod_of_nonneg p0
  clear J3 hHL hd hNN hh0 p0
  go_upto_region 7 with fail
  go_cut [8] from 23 to 72 (fun c wx => c = .bool true ∧ wx = u3)
  case first =>
    clear F9 e1
    by_cases d1 : V1 = (l.length : Int) - 2
    · by_cases d2 : V2 = (l.length : Int) - 8
      · by_cases d3 : V2 % 16 = 0
        · have d4 : V3 ≠ 0 := fun e => hv ⟨d1, d2, d3, e⟩
          have k1 : (V1 != (l.length : Int) - 2) = false := by simpa using d1
          have k2 : (V2 != (l.length : Int) - 8) = false := by simpa using d2
          have k3 : (V2.tmod 16 != 0) = false := by rw [t16]; simpa using d3
          have HX : Hid _ := And.intro d4 trivial
          clear d1 d2 d3 d4 hv t16
          go_wp2
          go_meet
          exact ⟨by first | rfl | simpa using HX.out.1, rfl⟩
        · have k1 : (V1 != (l.length : Int) - 2) = false := by simpa using d1
          have k2 : (V2 != (l.length : Int) - 8) = false := by simpa using d2
          have k3 : ¬ V2.tmod 16 = 0 := by rw [t16]; exact d3
          clear d1 d2 d3 hv t16
          go_wp2
          go_meet
          exact ⟨rfl, rfl⟩
      · have k1 : (V1 != (l.length : Int) - 2) = false := by simpa using d1
        have k2 : (V2 != (l.length : Int) - 8) = true := by simpa using d2
        clear d1 d2 hv t16
        go_wp2
        go_meet
        exact ⟨rfl, rfl⟩
    · have k1 : (V1 != (l.length : Int) - 2) = true := by simpa using d1
      clear d1 hv t16
      go_wp2
      go_meet
      exact ⟨rfl, rfl⟩
  case rest =>
    obtain ⟨rfl, hwc⟩ := hcut
    obtain rfl := hwc.symm
    clear hwc
    clear hv t16
    obtain ⟨Tq, d5⟩ : ∃ Tq, V2.tdiv 16 = Tq := ⟨_, rfl⟩
    go_wp2_with fail
    go_loopw [8, 9, 10] (fun bv lv iv wr => bv = .bool true ∧ iv = .int .i64 0 ∧ Below w.heap.size w wr) (fun _ _ _ _ => 0)
    case atStart => exact ⟨rfl, rfl, F9.out⟩
    case round =>
      obtain ⟨rfl, rfl, hbw⟩ := hrel
      clear F9
      have F9 : Hid _ := hbw
      clear hbw
      go_wp2
      all_goals (refine bodyPost_ret (v := .tuple #[.slice none 0 0, .int .i64 11]) (by first | rfl | simp [results, Tryd.results32, go_sem]) rfl ?_)
      all_goals exact ⟨_, by rw [e1.out.1], by rw [e1.out.1]; exact RgI.none F9.out⟩
end Go.Proofs.YtclpedjjboblpaaDoor

