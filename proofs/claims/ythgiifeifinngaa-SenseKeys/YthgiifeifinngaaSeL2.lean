/- The walk of SenseKeys. -/
import Derived.Test.YthgiifeifinngaaSe7
import Derived.Test.YthgiifeifinngaaWrap
namespace Go.Proofs.Ythgiifeifinngaa
open Go.RowKit
set_option linter.unusedVariables false
set_option linter.unusedSimpArgs false
set_option maxRecDepth 4000

theorem VArg.later {k : IntKind} {w w' : World} {a : Option Addr} {len cap : Nat} {l : List Int} (h : VArg k w a len cap l) (hb : Below w.heap.size w w') : VArg k w' a len cap l :=
  ⟨h.num, h.le, h.most, fun h0 => by obtain ⟨b, off, e, hc⟩ := h.each h0; exact ⟨b, off, e, fun i hi => cl_later (hc i hi) hb⟩, h.wf⟩
set_option maxHeartbeats 1000000 in
theorem senseKeys_walk (g : Int) (a : Option Addr) (len cap : Nat) (l : List Int) (x : BitVec 64) (t : Int) (w : World) (_ : -9223372036854775808 ≤ g ∧ g ≤ 9223372036854775807) (V : VArg .u64 w a len cap l) (_ : -9223372036854775808 ≤ t ∧ t ≤ 9223372036854775807) :
    Calls Try.prog 6 #[.int .i64 g, .slice a len cap, .int .u64 (x.toNat : Int), .int .i64 t] w fun e w' => e = .returned (.bool true) ∧ Below w.heap.size w w' := by
  obtain rfl := V.num
  have HV : Hid _ := V
  clear V
  generalize (x.toNat : Int) = X
  have H0 : Hid _ := keys_any g a cap l w HV.out
  go_enter Try.func6, Try.ntmps6
  go_wp2_with fail
  refine (Calls.mono H0.out) ?_
  rintro e w1 ⟨z0, rfl, o0, b0⟩
  obtain ⟨a0, n0, c0, rfl, hs0⟩ := ow_strs o0
  have S0 : Hid _ := And.intro (And.intro hs0 (b0)) b0
  clear hs0 b0 o0 H0
  have H1 : Hid _ := rkeys_any g a cap l w1 (HV.out.later S0.out.1.2)
  go_wp2_with fail
  refine (Calls.mono H1.out) ?_
  rintro e w2 ⟨z1, rfl, o1, b1⟩
  obtain ⟨a1, n1, c1, rfl, hs1⟩ := ow_strs o1
  have S1 : Hid _ := And.intro (And.intro hs1 (below_then S0.out.1.2 b1)) b1
  clear hs1 b1 o1 H1
  have H2 : Hid _ := holder_any g t X w2
  go_wp2_with fail
  refine (Calls.mono H2.out) ?_
  rintro e w3 ⟨z2, rfl, o2, b2⟩
  obtain ⟨a2, n2, c2, rfl, hs2⟩ := ow_strs o2
  have S2 : Hid _ := And.intro (And.intro hs2 (below_then S1.out.1.2 b2)) b2
  clear hs2 b2 o2 H2
  have H3 : Hid _ := rholder_any g t X w3
  go_wp2_with fail
  refine (Calls.mono H3.out) ?_
  rintro e w4 ⟨z3, rfl, o3, b3⟩
  obtain ⟨a3, n3, c3, rfl, hs3⟩ := ow_strs o3
  have S3 : Hid _ := And.intro (And.intro hs3 (below_then S2.out.1.2 b3)) b3
  clear hs3 b3 o3 H3
  have t0 := S0.out.1.1 w4 (below_then S1.out.2 (below_then S2.out.2 S3.out.2))
  have t1 := S1.out.1.1 w4 (below_then S2.out.2 S3.out.2)
  have t2 := S2.out.1.1 w4 S3.out.2
  have t3 := S3.out.1.1 w4 (Below.refl _ _)
  have F : Hid _ := S3.out.1.2
  clear S0 S1 S2 S3
  generalize kyE g l.length = E1
  generalize hdE g t = E2
  generalize str (kyB g l) = T1 at *
  generalize str (hdB g X t) = T2 at *
  go_wp2_with fail
  refine (Calls.mono (known16_any w4)) ?_
  rintro e w5 ⟨rfl, b5⟩
  have F5 : Hid _ := below_then F.out b5
  clear F b5 t0 t1 t2 t3
  go_wp2
  go_ret
  exact ⟨rfl, F5.out⟩
end Go.Proofs.Ythgiifeifinngaa
