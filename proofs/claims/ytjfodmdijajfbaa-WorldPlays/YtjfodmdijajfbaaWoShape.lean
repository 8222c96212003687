/- The shape of a call of a world. -/
import Derived.Test.YtjfodmdijajfbaaSumW2
import Derived.Test.YtjfodmdijajfbaaWrap
namespace Go.Proofs.Ytjfodmdijajfbaa
open Go.ChangeShapes Go.WideShapes Go.ChangeAt Go.RowKit
set_option linter.unusedVariables false
set_option maxRecDepth 100000

theorem cells_wop : Try.prog.cellsOf 34 = 4 := by kernel_rfl
theorem under_wop : ∃ f0 f1 f2 f3, Try.prog.underlying 34 = some (.struct #[f0, f1, f2, f3]) ∧ (f0.offset = 0 ∧ f1.offset = 1 ∧ f2.offset = 2 ∧ f3.offset = 3) ∧
    (Try.prog.cellsOf f0.type = 1 ∧ Try.prog.cellsOf f1.type = 1 ∧ Try.prog.cellsOf f2.type = 1 ∧ Try.prog.cellsOf f3.type = 1) ∧
    (Try.prog.underlying f0.type = some (.int .i64) ∧ Try.prog.underlying f1.type = some (.int .i64) ∧ Try.prog.underlying f2.type = some (.int .i64) ∧ f3.type = 32) := by
  refine ⟨_, _, _, _, Try.underlying34, ⟨rfl, rfl, rfl, rfl⟩, ⟨by kernel_rfl, by kernel_rfl, by kernel_rfl, by kernel_rfl⟩, ⟨?_, ?_, ?_, rfl⟩⟩
  · exact Try.underlying3
  · exact Try.underlying3
  · exact Try.underlying3
theorem open_wopshape {H : Type} {enc : TypeId × Value → H} {W : World} {r : Reach} {b0 : Nat} {v : Value} {d : DataW H} {p : List MemPlace}
    (hv : Value.okWide Try.prog W r b0 34 v) (h : DataW.Trod enc Try.prog W 0 (fun _ => true) true 34 v d p) :
    ∃ k f n b, v = .agg #[.int .i64 k, .int .i64 f, .int .i64 n, b] := by
  obtain ⟨f0, f1, f2, f3, hu, ⟨o0, o1, o2, o3⟩, ⟨c0, c1, c2, c3⟩, ⟨u0, u1, u2, u3⟩⟩ := under_wop
  obtain ⟨cs, rfl, hcs⟩ := okWide_struct hu hv
  obtain ⟨fuel, hf⟩ := h
  rw [cells_wop] at hcs
  have hlen : cs.toList.length = 4 := by simpa using hcs
  obtain ⟨xs, k, hk, hxy, _, hxl, hfl⟩ := DataW.trod_struct hu hf
  have hf' : (Value.agg cs).cells.toList = cs.toList := rfl
  rw [hf'] at hfl
  obtain ⟨csl⟩ := cs
  match xs, hxl, csl, hlen with
  | [y0, y1, y2, y3], _, [v0, v1, v2, v3], _ =>
    have g0 := hfl 0 f0 rfl
    have g1 := hfl 1 f1 rfl
    have g2 := hfl 2 f2 rfl
    simp [o0, o1, o2, c0, c1, c2] at g0 g1 g2
    obtain ⟨z0, q0, _, w0⟩ := DataW.trod_int u0 g0
    obtain ⟨z1, q1, _, w1⟩ := DataW.trod_int u1 g1
    obtain ⟨z2, q2, _, w2⟩ := DataW.trod_int u2 g2
    simp at q0 q1 q2
    subst q0 q1 q2
    exact ⟨_, _, _, _, rfl⟩

end Go.Proofs.Ytjfodmdijajfbaa
