/- A command that came in. -/
import Derived.Test.YtmoobfpmijdoaaaDoorXOpA
namespace Go.Proofs.YtmoobfpmijdoaaaDoor
open Go.ChangeShapes Go.WideShapes Go.ChangeAt Go.RowKit Go.Deep
set_option linter.unusedVariables false
set_option maxRecDepth 100000

theorem cells_cdb15 : Tryd.prog.cellsOf 42 = 7 := by kernel_rfl
theorem under_cdb15 : ∃ f0 f1 f2 f3 f4 f5 f6, Tryd.prog.underlying 42 = some (.struct #[f0, f1, f2, f3, f4, f5, f6]) ∧ (f0.offset = 0 ∧ f1.offset = 1 ∧ f2.offset = 2 ∧ f3.offset = 3 ∧ f4.offset = 4 ∧ f5.offset = 5 ∧ f6.offset = 6) ∧ (Tryd.prog.cellsOf f0.type = 1 ∧ Tryd.prog.cellsOf f1.type = 1 ∧ Tryd.prog.cellsOf f2.type = 1 ∧ Tryd.prog.cellsOf f3.type = 1 ∧ Tryd.prog.cellsOf f4.type = 1 ∧ Tryd.prog.cellsOf f5.type = 1 ∧ Tryd.prog.cellsOf f6.type = 1) ∧ (Tryd.prog.underlying f0.type = some (.int .i64) ∧ Tryd.prog.underlying f1.type = some (.int .i64) ∧ Tryd.prog.underlying f2.type = some (.int .i64) ∧ Tryd.prog.underlying f3.type = some .bool ∧ Tryd.prog.underlying f4.type = some (.int .i64) ∧ Tryd.prog.underlying f5.type = some (.int .u64) ∧ Tryd.prog.underlying f6.type = some (.int .i64)) := by
  exact ⟨_, _, _, _, _, _, _, Tryd.underlying42, ⟨rfl, rfl, rfl, rfl, rfl, rfl, rfl⟩, ⟨by kernel_rfl, by kernel_rfl, by kernel_rfl, by kernel_rfl, by kernel_rfl, by kernel_rfl, by kernel_rfl⟩, ⟨Tryd.underlying3, Tryd.underlying3, Tryd.underlying3, Tryd.underlying4, Tryd.underlying3, Tryd.underlying22, Tryd.underlying3⟩⟩
theorem opn_cdb15_cells {H : Type} {enc : TypeId × Value → H} {W : World} {cs : List Value} {d : DataW H} {p : List MemPlace} {fuel : Nat} (hlen : cs.length = 7)
    (hf : DataW.trod enc Tryd.prog W 0 (fun _ => true) true fuel 42 cs = some (d, p)) (hwt : ∀ n ∈ d.weights Tryd.prog 42, n ≤ reachBytes) :
    ∃ (z0 : Int) (z1 : Int) (z2 : Int) (z3 : Bool) (z4 : Int) (z5 : BitVec 64) (z6 : Int), cs = [.int .i64 z0, .int .i64 z1, .int .i64 z2, .bool z3, .int .i64 z4, .int .u64 (z5.toNat : Int), .int .i64 z6] ∧ I64 z0 ∧ I64 z1 ∧ I64 z2 ∧ I64 z4 ∧ I64 z6 := by
  obtain ⟨f0, f1, f2, f3, f4, f5, f6, hu, ⟨o0, o1, o2, o3, o4, o5, o6⟩, ⟨c0, c1, c2, c3, c4, c5, c6⟩, ⟨u0, u1, u2, u3, u4, u5, u6⟩⟩ := under_cdb15
  obtain ⟨xs, k, hk, hxy, _, hxl, hfl⟩ := DataW.trod_struct hu hf
  match xs, hxl, cs, hlen with
  | [y0, y1, y2, y3, y4, y5, y6], _, [v0, v1, v2, v3, v4, v5, v6], _ =>
    simp only [Prod.mk.injEq] at hxy
    have hd : d = .agg [y0.1, y1.1, y2.1, y3.1, y4.1, y5.1, y6.1] := hxy.1
    have g0 := hfl 0 f0 rfl
    have g1 := hfl 1 f1 rfl
    have g2 := hfl 2 f2 rfl
    have g3 := hfl 3 f3 rfl
    have g4 := hfl 4 f4 rfl
    have g5 := hfl 5 f5 rfl
    have g6 := hfl 6 f6 rfl
    simp [o0, o1, o2, o3, o4, o5, o6, c0, c1, c2, c3, c4, c5, c6] at g0 g1 g2 g3 g4 g5 g6
    obtain ⟨z0, q0, _, w0⟩ := DataW.trod_int u0 g0
    simp at q0
    subst q0
    obtain ⟨z1, q1, _, w1⟩ := DataW.trod_int u1 g1
    simp at q1
    subst q1
    obtain ⟨z2, q2, _, w2⟩ := DataW.trod_int u2 g2
    simp at q2
    subst q2
    obtain ⟨z3, q3, _⟩ := DataW.trod_bool u3 g3
    simp at q3
    subst q3
    obtain ⟨z4, q4, _, w4⟩ := DataW.trod_int u4 g4
    simp at q4
    subst q4
    obtain ⟨z5, q5, _, w5⟩ := DataW.trod_int u5 g5
    simp at q5
    subst q5
    obtain ⟨z5, rfl⟩ := u64_of_wf w5
    obtain ⟨z6, q6, _, w6⟩ := DataW.trod_int u6 g6
    simp at q6
    subst q6
    exact ⟨z0, z1, z2, z3, z4, z5, z6, rfl, i64_of_wf w0, i64_of_wf w1, i64_of_wf w2, i64_of_wf w4, i64_of_wf w6⟩
theorem open_cdb15 {H : Type} {enc : TypeId × Value → H} {W : World} {r : Reach} {b0 : Nat} {v : Value} {d : DataW H} {p : List MemPlace} {ts : List TypeId} {ds : List (DataW H)} {j : Nat}
    (hv : Value.okWide Tryd.prog W r b0 42 v) (h : DataW.Trod enc Tryd.prog W 0 (fun _ => true) true 42 v d p)
    (hsz : (DataW.weightsEach Tryd.prog ts ds).all (· ≤ reachBytes) = true) (ht : ts[j]? = some 42) (hd : ds[j]? = some d) :
    ∃ (z0 : Int) (z1 : Int) (z2 : Int) (z3 : Bool) (z4 : Int) (z5 : BitVec 64) (z6 : Int), v = .agg #[.int .i64 z0, .int .i64 z1, .int .i64 z2, .bool z3, .int .i64 z4, .int .u64 (z5.toNat : Int), .int .i64 z6] ∧ I64 z0 ∧ I64 z1 ∧ I64 z2 ∧ I64 z4 ∧ I64 z6 := by
  obtain ⟨f0, f1, f2, f3, f4, f5, f6, hu, _⟩ := under_cdb15
  obtain ⟨cs, rfl, hcs⟩ := okWide_struct hu hv
  obtain ⟨fuel, hf⟩ := h
  rw [cells_cdb15] at hcs
  obtain ⟨z0, z1, z2, z3, z4, z5, z6, he, hO⟩ := opn_cdb15_cells (cs := cs.toList) (by simpa using hcs) hf (fun m hm => by
    have := List.all_eq_true.1 hsz _ (DataW.weights_mem_each ht hd _ hm)
    simpa using this)
  exact ⟨z0, z1, z2, z3, z4, z5, z6, by rw [← he], hO⟩
end Go.Proofs.YtmoobfpmijdoaaaDoor

