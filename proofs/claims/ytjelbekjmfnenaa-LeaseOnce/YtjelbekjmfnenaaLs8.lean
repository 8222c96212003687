/- What must come of fixed calls. -/
import Derived.Test.YtjelbekjmfnenaaLs7
namespace Go.Proofs.Ytjelbekjmfnenaa
open Go.RowKit Go.Shelf
set_option linter.unusedVariables false
set_option maxRecDepth 4000

theorem kn_wf0 : LsWf 6 [] := ⟨by simp, (fun x hx => by cases hx), .nil, by omega, by omega⟩
theorem kn_e : sentE [] 1 5 = 0 := by decide
theorem kn_l : sentTo [] 1 5 = [(1, 5)] := by decide
theorem kn_wf : LsWf 6 [(1, 5)] := by have := sentTo_wf kn_wf0 1 5; rw [kn_l] at this; exact this
theorem kn_u1 : untilOf 6 [(1, 5)] 1 = 11 := by decide
theorem kn_u0 : untilOf 6 [(1, 5)] 0 = 0 := by decide
theorem kn_h1 : holdsOf 6 [(1, 5)] 1 10 = true := by decide
theorem kn_h2 : holdsOf 6 [(1, 5)] 1 11 = false := by decide
set_option maxHeartbeats 2000000 in
theorem known11_any (w : World) : Calls Try.prog 10 #[] w fun e w' => e = .returned (.bool true) ∧ Below w.heap.size w w' := by
  have H1 : Hid _ := lsNew_yes 10 2 w (by omega)
  go_enter Try.func10, Try.ntmps10
  go_wp2_with fail
  refine (Calls.mono H1.out) ?_
  rintro e w1 ⟨g, rfl, hg, ho1, b1⟩
  have H2 : Hid _ := lsSent_any g none 6 [] 1 5 w1 ho1 kn_wf0
  rw [kn_e, kn_l] at H2
  have HF : Hid _ := And.intro hg (And.intro ho1 b1)
  clear ho1 b1 H1 hg
  go_wp2_with fail
  refine (Calls.mono H2.out) ?_
  rintro e w2 ⟨q, rfl, st2⟩
  have b2 : Below w.heap.size w w2 := HF.out.2.2.trans (st2.below w.heap.size HF.out.2.2.size (fun k hk => by
    simp only [lsOb, qu, List.mem_cons, Option.mem_toList, reduceCtorEq, or_false] at hk; rw [hk]; exact HF.out.1))
  have H3 : Hid _ := lsUntil_any g q 6 [(1, 5)] 1 w2 st2.ok kn_wf
  rw [kn_u1] at H3
  have HG : Hid _ := And.intro st2.ok b2
  clear st2 b2 HF H2
  go_wp2_with fail
  refine (Calls.mono H3.out) ?_
  rintro e w3 ⟨rfl, b3⟩
  have HI : Hid _ := And.intro (HG.out.1.later b3) (below_then HG.out.2 b3)
  clear HG H3 b3
  have H4 : Hid _ := lsHolds_any g q 6 [(1, 5)] 1 10 w3 HI.out.1 kn_wf
  rw [kn_h1] at H4
  go_wp2_with fail
  refine (Calls.mono H4.out) ?_
  rintro e w4 ⟨rfl, b4⟩
  have HJ : Hid _ := And.intro (HI.out.1.later b4) (below_then HI.out.2 b4)
  clear HI H4 b4
  have H5 : Hid _ := lsHolds_any g q 6 [(1, 5)] 1 11 w4 HJ.out.1 kn_wf
  rw [kn_h2] at H5
  go_wp2_with fail
  refine (Calls.mono H5.out) ?_
  rintro e w5 ⟨rfl, b5⟩
  have HK : Hid _ := And.intro (HJ.out.1.later b5) (below_then HJ.out.2 b5)
  clear HJ H5 b5
  have H6 : Hid _ := lsUntil_any g q 6 [(1, 5)] 0 w5 HK.out.1 kn_wf
  rw [kn_u0] at H6
  go_wp2_with fail
  refine (Calls.mono H6.out) ?_
  rintro e w6 ⟨rfl, b6⟩
  have HN : Hid _ := below_then HK.out.2 b6
  clear HK H6 b6
  go_wp2
  go_ret
  exact ⟨rfl, HN.out⟩
end Go.Proofs.Ytjelbekjmfnenaa
