/- The walk of SenseUnits. -/
import Derived.Test.YthgiifeifinngaaSe4
import Derived.Test.YthgiifeifinngaaWrap
namespace Go.Proofs.Ythgiifeifinngaa
open Go.RowKit
set_option linter.unusedVariables false
set_option linter.unusedSimpArgs false
set_option maxRecDepth 4000

set_option maxHeartbeats 1000000 in
theorem senseUnits_walk (n m : Int) (w : World) (_ : -9223372036854775808 ≤ n ∧ n ≤ 9223372036854775807) (_ : -9223372036854775808 ≤ m ∧ m ≤ 9223372036854775807) :
    Calls Try.prog 5 #[.int .i64 n, .int .i64 m] w fun e w' => e = .returned (.bool true) ∧ Below w.heap.size w w' := by
  have H0 : Hid _ := cap_any n w
  go_enter Try.func5, Try.ntmps5
  go_wp2_with fail
  refine (Calls.mono H0.out) ?_
  rintro e w1 ⟨z0, rfl, o0, b0⟩
  obtain ⟨a0, n0, c0, rfl, hs0⟩ := ow_strs o0
  have S0 : Hid _ := And.intro (And.intro hs0 (b0)) b0
  clear hs0 b0 o0 H0
  have H1 : Hid _ := rcap_any n w1
  go_wp2_with fail
  refine (Calls.mono H1.out) ?_
  rintro e w2 ⟨z1, rfl, o1, b1⟩
  obtain ⟨a1, n1, c1, rfl, hs1⟩ := ow_strs o1
  have S1 : Hid _ := And.intro (And.intro hs1 (below_then S0.out.1.2 b1)) b1
  clear hs1 b1 o1 H1
  have H2 : Hid _ := luns_any m w2
  go_wp2_with fail
  refine (Calls.mono H2.out) ?_
  rintro e w3 ⟨z2, rfl, o2, b2⟩
  obtain ⟨a2, n2, c2, rfl, hs2⟩ := ow_strs o2
  have S2 : Hid _ := And.intro (And.intro hs2 (below_then S1.out.1.2 b2)) b2
  clear hs2 b2 o2 H2
  have H3 : Hid _ := rluns_any m w3
  go_wp2_with fail
  refine (Calls.mono H3.out) ?_
  rintro e w4 ⟨z3, rfl, o3, b3⟩
  obtain ⟨a3, n3, c3, rfl, hs3⟩ := ow_strs o3
  have S3 : Hid _ := And.intro (And.intro hs3 (below_then S2.out.1.2 b3)) b3
  clear hs3 b3 o3 H3
  have t0 := S0.out.1.1 w4 (below_then S1.out.2 (below_then S2.out.2 S3.out.2))
  have t1 := S1.out.1.1 w4 (below_then S2.out.2 S3.out.2)
  have t2 := S2.out.1.1 w4 S3.out.2
  have t3 := S3.out.1.1 w4 (Below.refl _ _)
  have F : Hid _ := S3.out.1.2
  clear S0 S1 S2 S3
  generalize cpE n = E1
  generalize lnE m = E2
  generalize str (cpB n) = T1 at *
  generalize str (lnB m) = T2 at *
  go_wp2_with fail
  refine (Calls.mono (known16_any w4)) ?_
  rintro e w5 ⟨rfl, b5⟩
  have F5 : Hid _ := below_then F.out b5
  clear F b5 t0 t1 t2 t3
  go_wp2
  go_ret
  exact ⟨rfl, F5.out⟩
end Go.Proofs.Ythgiifeifinngaa
