/- A call that came in. -/
import Derived.Test.YtkcbbaanlkpeiaaXDdA
namespace Go.Proofs.Ytkcbbaanlkpeiaa
open Go.ChangeShapes Go.WideShapes Go.ChangeAt Go.RowKit Go.Deep
set_option linter.unusedVariables false
set_option maxRecDepth 100000

theorem cells_op12 : Try.prog.cellsOf 45 = 8 := by kernel_rfl
theorem under_op12 : ∃ f0 f1 f2 f3, Try.prog.underlying 45 = some (.struct #[f0, f1, f2, f3]) ∧ (f0.offset = 0 ∧ f1.offset = 1 ∧ f2.offset = 2 ∧ f3.offset = 3) ∧ (Try.prog.cellsOf f0.type = 1 ∧ Try.prog.cellsOf f1.type = 1 ∧ Try.prog.cellsOf f2.type = 1 ∧ Try.prog.cellsOf f3.type = 5) ∧ (Try.prog.underlying f0.type = some (.int .i64) ∧ Try.prog.underlying f1.type = some (.int .i64) ∧ Try.prog.underlying f2.type = some (.int .i64) ∧ f3.type = 38) := by
  exact ⟨_, _, _, _, Try.underlying45, ⟨rfl, rfl, rfl, rfl⟩, ⟨by kernel_rfl, by kernel_rfl, by kernel_rfl, by kernel_rfl⟩, ⟨Try.underlying3, Try.underlying3, Try.underlying2, rfl⟩⟩
theorem opn_op12_cells {H : Type} {enc : TypeId × Value → H} {W : World} {cs : List Value} {d : DataW H} {p : List MemPlace} {fuel : Nat} (hlen : cs.length = 8)
    (hf : DataW.trod enc Try.prog W 0 (fun _ => true) true fuel 45 cs = some (d, p)) (hwt : ∀ n ∈ d.weights Try.prog 45, n ≤ reachBytes) :
    ∃ (z0 : Int) (z1 : Int) (z2 : Int) (z3_0 : Int) (z3_1 : Int) (z3_2 : Int) (z3_3 : Int) (z3_4 : List (BitVec 8)) (z3_4x : Option Addr) (z3_4c : Nat), cs = [.int .i64 z0, .int .i64 z1, .int .i64 z2, .int .i64 z3_0, .int .i64 z3_1, .int .i64 z3_2, .int .i64 z3_3, .slice z3_4x z3_4.length z3_4c] ∧ I64 z0 ∧ I64 z1 ∧ I64 z2 ∧ I64 z3_0 ∧ I64 z3_1 ∧ I64 z3_2 ∧ I64 z3_3 ∧ DatOk W z3_4x z3_4 z3_4c := by
  obtain ⟨f0, f1, f2, f3, hu, ⟨o0, o1, o2, o3⟩, ⟨c0, c1, c2, c3⟩, ⟨u0, u1, u2, u3⟩⟩ := under_op12
  obtain ⟨xs, k, hk, hxy, _, hxl, hfl⟩ := DataW.trod_struct hu hf
  match xs, hxl, cs, hlen with
  | [y0, y1, y2, y3], _, [v0, v1, v2, v3, v4, v5, v6, v7], _ =>
    simp only [Prod.mk.injEq] at hxy
    have hd : d = .agg [y0.1, y1.1, y2.1, y3.1] := hxy.1
    have g0 := hfl 0 f0 rfl
    have g1 := hfl 1 f1 rfl
    have g2 := hfl 2 f2 rfl
    have g3 := hfl 3 f3 rfl
    simp [o0, o1, o2, o3, c0, c1, c2, c3] at g0 g1 g2 g3
    obtain ⟨z0, q0, _, w0⟩ := DataW.trod_int u0 g0
    simp at q0
    subst q0
    obtain ⟨z1, q1, _, w1⟩ := DataW.trod_int u1 g1
    simp at q1
    subst q1
    obtain ⟨z2, q2, _, w2⟩ := DataW.trod_int u2 g2
    simp at q2
    subst q2
    rw [u3] at g3
    have W3 : ∀ n ∈ y3.1.weights Try.prog 38, n ≤ reachBytes := fun n hn => hwt n (by
      rw [hd, DataW.weights, hu]
      exact DataW.weights_mem_each (j := 3) (t := 38) (by simp [u3]) (by rfl) _ hn)
    obtain ⟨z3_0, z3_1, z3_2, z3_3, z3_4, z3_4x, z3_4c, q3, D3⟩ := opn_reply_cells (by rfl) g3 W3
    simp only [List.cons.injEq, and_true] at q3
    obtain ⟨rfl, rfl, rfl, rfl, rfl⟩ := q3
    exact ⟨z0, z1, z2, z3_0, z3_1, z3_2, z3_3, z3_4, z3_4x, z3_4c, rfl, i64_of_wf w0, i64_of_wf w1, i64_of_wf w2, D3.1, D3.2.1, D3.2.2.1, D3.2.2.2.1, D3.2.2.2.2⟩
theorem open_op12 {H : Type} {enc : TypeId × Value → H} {W : World} {r : Reach} {b0 : Nat} {v : Value} {d : DataW H} {p : List MemPlace} {ts : List TypeId} {ds : List (DataW H)} {j : Nat}
    (hv : Value.okWide Try.prog W r b0 45 v) (h : DataW.Trod enc Try.prog W 0 (fun _ => true) true 45 v d p)
    (hsz : (DataW.weightsEach Try.prog ts ds).all (· ≤ reachBytes) = true) (ht : ts[j]? = some 45) (hd : ds[j]? = some d) :
    ∃ (z0 : Int) (z1 : Int) (z2 : Int) (z3_0 : Int) (z3_1 : Int) (z3_2 : Int) (z3_3 : Int) (z3_4 : List (BitVec 8)) (z3_4x : Option Addr) (z3_4c : Nat), v = .agg #[.int .i64 z0, .int .i64 z1, .int .i64 z2, .int .i64 z3_0, .int .i64 z3_1, .int .i64 z3_2, .int .i64 z3_3, .slice z3_4x z3_4.length z3_4c] ∧ I64 z0 ∧ I64 z1 ∧ I64 z2 ∧ I64 z3_0 ∧ I64 z3_1 ∧ I64 z3_2 ∧ I64 z3_3 ∧ DatOk W z3_4x z3_4 z3_4c := by
  obtain ⟨f0, f1, f2, f3, hu, _⟩ := under_op12
  obtain ⟨cs, rfl, hcs⟩ := okWide_struct hu hv
  obtain ⟨fuel, hf⟩ := h
  rw [cells_op12] at hcs
  obtain ⟨z0, z1, z2, z3_0, z3_1, z3_2, z3_3, z3_4, z3_4x, z3_4c, he, hO⟩ := opn_op12_cells (cs := cs.toList) (by simpa using hcs) hf (fun m hm => by
    have := List.all_eq_true.1 hsz _ (DataW.weights_mem_each ht hd _ hm)
    simpa using this)
  exact ⟨z0, z1, z2, z3_0, z3_1, z3_2, z3_3, z3_4, z3_4x, z3_4c, by rw [← he], hO⟩
end Go.Proofs.Ytkcbbaanlkpeiaa

