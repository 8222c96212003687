/- What is agreed on, that came in. -/
import Derived.Test.YtligmiajlbjecaaDoorXOpA
import Derived.ChangeMaps5
namespace Go.Proofs.YtligmiajlbjecaaDoor
open Go.ChangeShapes Go.WideShapes Go.ChangeAt Go.RowKit Go.Deep
set_option linter.unusedVariables false
set_option maxRecDepth 100000

theorem cells_pm18 : Tryd.prog.cellsOf 48 = 11 := by kernel_rfl
theorem under_pm18 : ∃ f0 f1 f2 f3 f4 f5 f6 f7 f8 f9 f10, Tryd.prog.underlying 48 = some (.struct #[f0, f1, f2, f3, f4, f5, f6, f7, f8, f9, f10]) ∧ (f0.offset = 0 ∧ f1.offset = 1 ∧ f2.offset = 2 ∧ f3.offset = 3 ∧ f4.offset = 4 ∧ f5.offset = 5 ∧ f6.offset = 6 ∧ f7.offset = 7 ∧ f8.offset = 8 ∧ f9.offset = 9 ∧ f10.offset = 10) ∧ (Tryd.prog.cellsOf f0.type = 1 ∧ Tryd.prog.cellsOf f1.type = 1 ∧ Tryd.prog.cellsOf f2.type = 1 ∧ Tryd.prog.cellsOf f3.type = 1 ∧ Tryd.prog.cellsOf f4.type = 1 ∧ Tryd.prog.cellsOf f5.type = 1 ∧ Tryd.prog.cellsOf f6.type = 1 ∧ Tryd.prog.cellsOf f7.type = 1 ∧ Tryd.prog.cellsOf f8.type = 1 ∧ Tryd.prog.cellsOf f9.type = 1 ∧ Tryd.prog.cellsOf f10.type = 1) ∧ (Tryd.prog.underlying f0.type = some .bool ∧ Tryd.prog.underlying f1.type = some .bool ∧ Tryd.prog.underlying f2.type = some (.int .i64) ∧ Tryd.prog.underlying f3.type = some (.int .i64) ∧ Tryd.prog.underlying f4.type = some (.int .i64) ∧ Tryd.prog.underlying f5.type = some (.int .i64) ∧ Tryd.prog.underlying f6.type = some .bool ∧ Tryd.prog.underlying f7.type = some .bool ∧ Tryd.prog.underlying f8.type = some .bool ∧ Tryd.prog.underlying f9.type = some .string ∧ Tryd.prog.underlying f10.type = some .string) := by
  exact ⟨_, _, _, _, _, _, _, _, _, _, _, Tryd.underlying48, ⟨rfl, rfl, rfl, rfl, rfl, rfl, rfl, rfl, rfl, rfl, rfl⟩, ⟨by kernel_rfl, by kernel_rfl, by kernel_rfl, by kernel_rfl, by kernel_rfl, by kernel_rfl, by kernel_rfl, by kernel_rfl, by kernel_rfl, by kernel_rfl, by kernel_rfl⟩, ⟨Tryd.underlying4, Tryd.underlying4, Tryd.underlying3, Tryd.underlying3, Tryd.underlying3, Tryd.underlying3, Tryd.underlying4, Tryd.underlying4, Tryd.underlying4, Tryd.underlying9, Tryd.underlying9⟩⟩
theorem opn_pm18_cells {H : Type} {enc : TypeId × Value → H} {W : World} {cs : List Value} {d : DataW H} {p : List MemPlace} {fuel : Nat} (hlen : cs.length = 11)
    (hf : DataW.trod enc Tryd.prog W 0 (fun _ => true) true fuel 48 cs = some (d, p)) (hwt : ∀ n ∈ d.weights Tryd.prog 48, n ≤ reachBytes) :
    ∃ (z0 : Bool) (z1 : Bool) (z2 : Int) (z3 : Int) (z4 : Int) (z5 : Int) (z6 : Bool) (z7 : Bool) (z8 : Bool) (z9 : ByteArray) (z10 : ByteArray), cs = [.bool z0, .bool z1, .int .i64 z2, .int .i64 z3, .int .i64 z4, .int .i64 z5, .bool z6, .bool z7, .bool z8, .string z9, .string z10] ∧ I64 z2 ∧ I64 z3 ∧ I64 z4 ∧ I64 z5 ∧ z9.size ≤ maxLen ∧ z10.size ≤ maxLen := by
  obtain ⟨f0, f1, f2, f3, f4, f5, f6, f7, f8, f9, f10, hu, ⟨o0, o1, o2, o3, o4, o5, o6, o7, o8, o9, o10⟩, ⟨c0, c1, c2, c3, c4, c5, c6, c7, c8, c9, c10⟩, ⟨u0, u1, u2, u3, u4, u5, u6, u7, u8, u9, u10⟩⟩ := under_pm18
  obtain ⟨xs, k, hk, hxy, _, hxl, hfl⟩ := DataW.trod_struct hu hf
  match xs, hxl, cs, hlen with
  | [y0, y1, y2, y3, y4, y5, y6, y7, y8, y9, y10], _, [v0, v1, v2, v3, v4, v5, v6, v7, v8, v9, v10], _ =>
    simp only [Prod.mk.injEq] at hxy
    have hd : d = .agg [y0.1, y1.1, y2.1, y3.1, y4.1, y5.1, y6.1, y7.1, y8.1, y9.1, y10.1] := hxy.1
    have g0 := hfl 0 f0 rfl
    have g1 := hfl 1 f1 rfl
    have g2 := hfl 2 f2 rfl
    have g3 := hfl 3 f3 rfl
    have g4 := hfl 4 f4 rfl
    have g5 := hfl 5 f5 rfl
    have g6 := hfl 6 f6 rfl
    have g7 := hfl 7 f7 rfl
    have g8 := hfl 8 f8 rfl
    have g9 := hfl 9 f9 rfl
    have g10 := hfl 10 f10 rfl
    simp [o0, o1, o2, o3, o4, o5, o6, o7, o8, o9, o10, c0, c1, c2, c3, c4, c5, c6, c7, c8, c9, c10] at g0 g1 g2 g3 g4 g5 g6 g7 g8 g9 g10
    obtain ⟨z0, q0, _⟩ := DataW.trod_bool u0 g0
    simp at q0
    subst q0
    obtain ⟨z1, q1, _⟩ := DataW.trod_bool u1 g1
    simp at q1
    subst q1
    obtain ⟨z2, q2, _, w2⟩ := DataW.trod_int u2 g2
    simp at q2
    subst q2
    obtain ⟨z3, q3, _, w3⟩ := DataW.trod_int u3 g3
    simp at q3
    subst q3
    obtain ⟨z4, q4, _, w4⟩ := DataW.trod_int u4 g4
    simp at q4
    subst q4
    obtain ⟨z5, q5, _, w5⟩ := DataW.trod_int u5 g5
    simp at q5
    subst q5
    obtain ⟨z6, q6, _⟩ := DataW.trod_bool u6 g6
    simp at q6
    subst q6
    obtain ⟨z7, q7, _⟩ := DataW.trod_bool u7 g7
    simp at q7
    subst q7
    obtain ⟨z8, q8, _⟩ := DataW.trod_bool u8 g8
    simp at q8
    subst q8
    obtain ⟨z9, q9, _, r9⟩ := DataW.trod_string u9 g9
    simp at q9
    subst q9
    obtain ⟨z10, q10, _, r10⟩ := DataW.trod_string u10 g10
    simp at q10
    subst q10
    exact ⟨z0, z1, z2, z3, z4, z5, z6, z7, z8, z9, z10, rfl, i64_of_wf w2, i64_of_wf w3, i64_of_wf w4, i64_of_wf w5, r9, r10⟩
theorem open_pm18 {H : Type} {enc : TypeId × Value → H} {W : World} {r : Reach} {b0 : Nat} {v : Value} {d : DataW H} {p : List MemPlace} {ts : List TypeId} {ds : List (DataW H)} {j : Nat}
    (hv : Value.okWide Tryd.prog W r b0 48 v) (h : DataW.Trod enc Tryd.prog W 0 (fun _ => true) true 48 v d p)
    (hsz : (DataW.weightsEach Tryd.prog ts ds).all (· ≤ reachBytes) = true) (ht : ts[j]? = some 48) (hd : ds[j]? = some d) :
    ∃ (z0 : Bool) (z1 : Bool) (z2 : Int) (z3 : Int) (z4 : Int) (z5 : Int) (z6 : Bool) (z7 : Bool) (z8 : Bool) (z9 : ByteArray) (z10 : ByteArray), v = .agg #[.bool z0, .bool z1, .int .i64 z2, .int .i64 z3, .int .i64 z4, .int .i64 z5, .bool z6, .bool z7, .bool z8, .string z9, .string z10] ∧ I64 z2 ∧ I64 z3 ∧ I64 z4 ∧ I64 z5 ∧ z9.size ≤ maxLen ∧ z10.size ≤ maxLen := by
  obtain ⟨f0, f1, f2, f3, f4, f5, f6, f7, f8, f9, f10, hu, _⟩ := under_pm18
  obtain ⟨cs, rfl, hcs⟩ := okWide_struct hu hv
  obtain ⟨fuel, hf⟩ := h
  rw [cells_pm18] at hcs
  obtain ⟨z0, z1, z2, z3, z4, z5, z6, z7, z8, z9, z10, he, hO⟩ := opn_pm18_cells (cs := cs.toList) (by simpa using hcs) hf (fun m hm => by
    have := List.all_eq_true.1 hsz _ (DataW.weights_mem_each ht hd _ hm)
    simpa using this)
  exact ⟨z0, z1, z2, z3, z4, z5, z6, z7, z8, z9, z10, by rw [← he], hO⟩
end Go.Proofs.YtligmiajlbjecaaDoor

