/- A command that came in. -/
import Derived.Test.YtlopkfenbeahgaaXOpA
namespace Go.Proofs.Ytlopkfenbeahgaa
open Go.ChangeShapes Go.WideShapes Go.ChangeAt Go.RowKit Go.Deep
set_option linter.unusedVariables false
set_option maxRecDepth 100000

theorem cells_cmd13 : Try.prog.cellsOf 34 = 4 := by kernel_rfl
theorem under_cmd13 : ∃ f0 f1 f2 f3, Try.prog.underlying 34 = some (.struct #[f0, f1, f2, f3]) ∧ (f0.offset = 0 ∧ f1.offset = 1 ∧ f2.offset = 2 ∧ f3.offset = 3) ∧ (Try.prog.cellsOf f0.type = 1 ∧ Try.prog.cellsOf f1.type = 1 ∧ Try.prog.cellsOf f2.type = 1 ∧ Try.prog.cellsOf f3.type = 1) ∧ (Try.prog.underlying f0.type = some (.int .i64) ∧ Try.prog.underlying f1.type = some (.int .u64) ∧ Try.prog.underlying f2.type = some (.int .u64) ∧ Try.prog.underlying f3.type = some (.int .i64)) := by
  exact ⟨_, _, _, _, Try.underlying34, ⟨rfl, rfl, rfl, rfl⟩, ⟨by kernel_rfl, by kernel_rfl, by kernel_rfl, by kernel_rfl⟩, ⟨Try.underlying3, Try.underlying32, Try.underlying32, Try.underlying3⟩⟩
theorem opn_cmd13_cells {H : Type} {enc : TypeId × Value → H} {W : World} {cs : List Value} {d : DataW H} {p : List MemPlace} {fuel : Nat} (hlen : cs.length = 4)
    (hf : DataW.trod enc Try.prog W 0 (fun _ => true) true fuel 34 cs = some (d, p)) (hwt : ∀ n ∈ d.weights Try.prog 34, n ≤ reachBytes) :
    ∃ (z0 : Int) (z1 : BitVec 64) (z2 : BitVec 64) (z3 : Int), cs = [.int .i64 z0, .int .u64 (z1.toNat : Int), .int .u64 (z2.toNat : Int), .int .i64 z3] ∧ I64 z0 ∧ I64 z3 := by
  obtain ⟨f0, f1, f2, f3, hu, ⟨o0, o1, o2, o3⟩, ⟨c0, c1, c2, c3⟩, ⟨u0, u1, u2, u3⟩⟩ := under_cmd13
  obtain ⟨xs, k, hk, hxy, _, hxl, hfl⟩ := DataW.trod_struct hu hf
  match xs, hxl, cs, hlen with
  | [y0, y1, y2, y3], _, [v0, v1, v2, v3], _ =>
    simp only [Prod.mk.injEq] at hxy
    have hd : d = .agg [y0.1, y1.1, y2.1, y3.1] := hxy.1
    have g0 := hfl 0 f0 rfl
    have g1 := hfl 1 f1 rfl
    have g2 := hfl 2 f2 rfl
    have g3 := hfl 3 f3 rfl
    simp [o0, o1, o2, o3, c0, c1, c2, c3] at g0 g1 g2 g3
    obtain ⟨z0, q0, _, w0⟩ := DataW.trod_int u0 g0
    simp at q0
    subst q0
    obtain ⟨z1, q1, _, w1⟩ := DataW.trod_int u1 g1
    simp at q1
    subst q1
    obtain ⟨z1, rfl⟩ := u64_of_wf w1
    obtain ⟨z2, q2, _, w2⟩ := DataW.trod_int u2 g2
    simp at q2
    subst q2
    obtain ⟨z2, rfl⟩ := u64_of_wf w2
    obtain ⟨z3, q3, _, w3⟩ := DataW.trod_int u3 g3
    simp at q3
    subst q3
    exact ⟨z0, z1, z2, z3, rfl, i64_of_wf w0, i64_of_wf w3⟩
theorem open_cmd13 {H : Type} {enc : TypeId × Value → H} {W : World} {r : Reach} {b0 : Nat} {v : Value} {d : DataW H} {p : List MemPlace} {ts : List TypeId} {ds : List (DataW H)} {j : Nat}
    (hv : Value.okWide Try.prog W r b0 34 v) (h : DataW.Trod enc Try.prog W 0 (fun _ => true) true 34 v d p)
    (hsz : (DataW.weightsEach Try.prog ts ds).all (· ≤ reachBytes) = true) (ht : ts[j]? = some 34) (hd : ds[j]? = some d) :
    ∃ (z0 : Int) (z1 : BitVec 64) (z2 : BitVec 64) (z3 : Int), v = .agg #[.int .i64 z0, .int .u64 (z1.toNat : Int), .int .u64 (z2.toNat : Int), .int .i64 z3] ∧ I64 z0 ∧ I64 z3 := by
  obtain ⟨f0, f1, f2, f3, hu, _⟩ := under_cmd13
  obtain ⟨cs, rfl, hcs⟩ := okWide_struct hu hv
  obtain ⟨fuel, hf⟩ := h
  rw [cells_cmd13] at hcs
  obtain ⟨z0, z1, z2, z3, he, hO⟩ := opn_cmd13_cells (cs := cs.toList) (by simpa using hcs) hf (fun m hm => by
    have := List.all_eq_true.1 hsz _ (DataW.weights_mem_each ht hd _ hm)
    simpa using this)
  exact ⟨z0, z1, z2, z3, by rw [← he], hO⟩
end Go.Proofs.Ytlopkfenbeahgaa

