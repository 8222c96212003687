/- An act that came in. -/
import Derived.Test.YtlopkfenbeahgaaXRvA
namespace Go.Proofs.Ytlopkfenbeahgaa
open Go.ChangeShapes Go.WideShapes Go.ChangeAt Go.RowKit Go.Deep
set_option linter.unusedVariables false
set_option maxRecDepth 100000

theorem cells_act13 : Try.prog.cellsOf 36 = 5 := by kernel_rfl
theorem under_act13 : ∃ f0 f1, Try.prog.underlying 36 = some (.struct #[f0, f1]) ∧ (f0.offset = 0 ∧ f1.offset = 1) ∧ (Try.prog.cellsOf f0.type = 1 ∧ Try.prog.cellsOf f1.type = 4) ∧ (Try.prog.underlying f0.type = some (.int .i64) ∧ f1.type = 34) := by
  exact ⟨_, _, Try.underlying36, ⟨rfl, rfl⟩, ⟨by kernel_rfl, by kernel_rfl⟩, ⟨Try.underlying3, rfl⟩⟩
theorem opn_act13_cells {H : Type} {enc : TypeId × Value → H} {W : World} {cs : List Value} {d : DataW H} {p : List MemPlace} {fuel : Nat} (hlen : cs.length = 5)
    (hf : DataW.trod enc Try.prog W 0 (fun _ => true) true fuel 36 cs = some (d, p)) (hwt : ∀ n ∈ d.weights Try.prog 36, n ≤ reachBytes) :
    ∃ (z0 : Int) (z1_0 : Int) (z1_1 : BitVec 64) (z1_2 : BitVec 64) (z1_3 : Int), cs = [.int .i64 z0, .int .i64 z1_0, .int .u64 (z1_1.toNat : Int), .int .u64 (z1_2.toNat : Int), .int .i64 z1_3] ∧ I64 z0 ∧ I64 z1_0 ∧ I64 z1_3 := by
  obtain ⟨f0, f1, hu, ⟨o0, o1⟩, ⟨c0, c1⟩, ⟨u0, u1⟩⟩ := under_act13
  obtain ⟨xs, k, hk, hxy, _, hxl, hfl⟩ := DataW.trod_struct hu hf
  match xs, hxl, cs, hlen with
  | [y0, y1], _, [v0, v1, v2, v3, v4], _ =>
    simp only [Prod.mk.injEq] at hxy
    have hd : d = .agg [y0.1, y1.1] := hxy.1
    have g0 := hfl 0 f0 rfl
    have g1 := hfl 1 f1 rfl
    simp [o0, o1, c0, c1] at g0 g1
    obtain ⟨z0, q0, _, w0⟩ := DataW.trod_int u0 g0
    simp at q0
    subst q0
    rw [u1] at g1
    have W1 : ∀ n ∈ y1.1.weights Try.prog 34, n ≤ reachBytes := fun n hn => hwt n (by
      rw [hd, DataW.weights, hu]
      exact DataW.weights_mem_each (j := 1) (t := 34) (by simp [u1]) (by rfl) _ hn)
    obtain ⟨z1_0, z1_1, z1_2, z1_3, q1, D1⟩ := opn_cmd13_cells (by rfl) g1 W1
    simp only [List.cons.injEq, and_true] at q1
    obtain ⟨rfl, rfl, rfl, rfl⟩ := q1
    exact ⟨z0, z1_0, z1_1, z1_2, z1_3, rfl, i64_of_wf w0, D1.1, D1.2⟩
theorem open_act13 {H : Type} {enc : TypeId × Value → H} {W : World} {r : Reach} {b0 : Nat} {v : Value} {d : DataW H} {p : List MemPlace} {ts : List TypeId} {ds : List (DataW H)} {j : Nat}
    (hv : Value.okWide Try.prog W r b0 36 v) (h : DataW.Trod enc Try.prog W 0 (fun _ => true) true 36 v d p)
    (hsz : (DataW.weightsEach Try.prog ts ds).all (· ≤ reachBytes) = true) (ht : ts[j]? = some 36) (hd : ds[j]? = some d) :
    ∃ (z0 : Int) (z1_0 : Int) (z1_1 : BitVec 64) (z1_2 : BitVec 64) (z1_3 : Int), v = .agg #[.int .i64 z0, .int .i64 z1_0, .int .u64 (z1_1.toNat : Int), .int .u64 (z1_2.toNat : Int), .int .i64 z1_3] ∧ I64 z0 ∧ I64 z1_0 ∧ I64 z1_3 := by
  obtain ⟨f0, f1, hu, _⟩ := under_act13
  obtain ⟨cs, rfl, hcs⟩ := okWide_struct hu hv
  obtain ⟨fuel, hf⟩ := h
  rw [cells_act13] at hcs
  obtain ⟨z0, z1_0, z1_1, z1_2, z1_3, he, hO⟩ := opn_act13_cells (cs := cs.toList) (by simpa using hcs) hf (fun m hm => by
    have := List.all_eq_true.1 hsz _ (DataW.weights_mem_each ht hd _ hm)
    simpa using this)
  exact ⟨z0, z1_0, z1_1, z1_2, z1_3, by rw [← he], hO⟩
end Go.Proofs.Ytlopkfenbeahgaa

