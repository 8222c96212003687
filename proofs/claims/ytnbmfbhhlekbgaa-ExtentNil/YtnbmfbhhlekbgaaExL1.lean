/- The walk of the law on an image that is not there. -/
import Derived.Test.YtnbmfbhhlekbgaaEx8
import Derived.Test.YtnbmfbhhlekbgaaWrap
namespace Go.Proofs.Ytnbmfbhhlekbgaa
open Go.ChangeShapes Go.WideShapes Go.ChangeAt Go.RowKit
set_option linter.unusedVariables false
set_option maxRecDepth 100000

theorem cells_eop : Try.prog.cellsOf 34 = 5 := by kernel_rfl
theorem under_eop : ∃ f0 f1 f2 f3 f4, Try.prog.underlying 34 = some (.struct #[f0, f1, f2, f3, f4]) ∧ (f0.offset = 0 ∧ f1.offset = 1 ∧ f2.offset = 2 ∧ f3.offset = 3 ∧ f4.offset = 4) ∧
    (Try.prog.cellsOf f0.type = 1 ∧ Try.prog.cellsOf f1.type = 1 ∧ Try.prog.cellsOf f2.type = 1 ∧ Try.prog.cellsOf f3.type = 1 ∧ Try.prog.cellsOf f4.type = 1) ∧
    (Try.prog.underlying f0.type = some (.int .i64) ∧ Try.prog.underlying f1.type = some (.int .i64) ∧ Try.prog.underlying f2.type = some (.int .i64) ∧ f3.type = 31 ∧ f4.type = 32) := by
  refine ⟨_, _, _, _, _, Try.underlying34, ⟨rfl, rfl, rfl, rfl, rfl⟩, ⟨by kernel_rfl, by kernel_rfl, by kernel_rfl, by kernel_rfl, by kernel_rfl⟩, ⟨?_, ?_, ?_, rfl, rfl⟩⟩
  · exact Try.underlying3
  · exact Try.underlying3
  · exact Try.underlying3
theorem open_eopshape {H : Type} {enc : TypeId × Value → H} {W : World} {r : Reach} {b0 : Nat} {v : Value} {d : DataW H} {p : List MemPlace}
    (hv : Value.okWide Try.prog W r b0 34 v) (h : DataW.Trod enc Try.prog W 0 (fun _ => true) true 34 v d p) :
    ∃ k a n b l, v = .agg #[.int .i64 k, .int .i64 a, .int .i64 n, b, l] := by
  obtain ⟨f0, f1, f2, f3, f4, hu, ⟨o0, o1, o2, o3, o4⟩, ⟨c0, c1, c2, c3, c4⟩, ⟨u0, u1, u2, u3, u4⟩⟩ := under_eop
  obtain ⟨cs, rfl, hcs⟩ := okWide_struct hu hv
  obtain ⟨fuel, hf⟩ := h
  rw [cells_eop] at hcs
  have hlen : cs.toList.length = 5 := by simpa using hcs
  obtain ⟨xs, k, hk, hxy, _, hxl, hfl⟩ := DataW.trod_struct hu hf
  have hf' : (Value.agg cs).cells.toList = cs.toList := rfl
  rw [hf'] at hfl
  obtain ⟨csl⟩ := cs
  match xs, hxl, csl, hlen with
  | [y0, y1, y2, y3, y4], _, [v0, v1, v2, v3, v4], _ =>
    have g0 := hfl 0 f0 rfl
    have g1 := hfl 1 f1 rfl
    have g2 := hfl 2 f2 rfl
    simp [o0, o1, o2, c0, c1, c2] at g0 g1 g2
    obtain ⟨z0, q0, _, w0⟩ := DataW.trod_int u0 g0
    obtain ⟨z1, q1, _, w1⟩ := DataW.trod_int u1 g1
    obtain ⟨z2, q2, _, w2⟩ := DataW.trod_int u2 g2
    simp at q0 q1 q2
    subst q0 q1 q2
    exact ⟨_, _, _, _, _, rfl⟩

set_option maxHeartbeats 2000000 in
theorem extentNil_walk (k a n : Int) (b l : Value) (w : World) :
    Calls Try.prog 8 #[.agg #[.int .i64 k, .int .i64 a, .int .i64 n, b, l]] w fun e w' => e = .returned (.bool true) ∧ Below w.heap.size w w' := by
  have b0 : Below w.heap.size w (w.alloc (.cells #[.int .i64 k, .int .i64 a, .int .i64 n, b, l] 34)) := (Below.refl _ _).alloc (Nat.le_refl _) _
  have B0 : Blk (w.alloc (.cells #[.int .i64 k, .int .i64 a, .int .i64 n, b, l] 34)) w.heap.size 34 [.int .i64 k, .int .i64 a, .int .i64 n, b, l] := Blk.new' w _ _
  have c1 := B0.cell (by simp [maxLen]) 1 (by simp)
  have c2 := B0.cell (by simp [maxLen]) 2 (by simp)
  have c3 := B0.cell (by simp [maxLen]) 3 (by simp)
  have c4 := B0.cell (by simp [maxLen]) 4 (by simp)
  simp only [List.getElem?_cons_succ, List.getElem?_cons_zero] at c1 c2 c3 c4
  have HB : Hid _ := b0
  clear b0 B0
  go_enter Try.func8, Try.ntmps8
  go_wp2_with (first
    | (go_at_call 33; refine (imRead_nil _ _ _).mono ?_; rintro e w' ⟨rfl, rfl⟩)
    | (go_at_call 26; refine (imDiff_nil _).mono ?_; rintro e w' ⟨rfl, rfl⟩)
    | (go_at_call 34; refine (imWrite_nil _ _ _).mono ?_; rintro e w' ⟨rfl, rfl⟩)
    | (go_at_call 21; refine (imUnmap_nil _ _ _).mono ?_; rintro e w' ⟨rfl, rfl⟩)
    | (go_at_call 29; refine (imChange_nil _ _).mono ?_; rintro e w' ⟨rfl, rfl⟩)
    | (go_at_call 31; refine (imSize_nil _).mono ?_; rintro e w' ⟨rfl, rfl⟩)
    | (go_at_call 32; refine (imUsed_nil _).mono ?_; rintro e w' ⟨rfl, rfl⟩)
    | (go_at_call 20; refine (imHas_nil _ _).mono ?_; rintro e w' ⟨rfl, rfl⟩)
    | (go_at_call 30; refine (lawruns_nil _).mono ?_; rintro e wr ⟨rfl, hbr⟩)
    | (go_at_call 13; refine (imBytes_nil _).mono ?_; rintro e wb ⟨rfl, hbb⟩)
    | (go_at_call 19; refine (imCopy_nil _).mono ?_; rintro e w' ⟨rfl, rfl⟩)
    | (go_at_call 15; refine (imSame_nil _).mono ?_; rintro e w' ⟨rfl, rfl⟩)
    | (go_at_call 11; refine (known5_any _).mono ?_; rintro e wk ⟨rfl, hbk⟩))
  go_ret
  exact ⟨rfl, below_then HB.out (below_then hbr (below_then hbb hbk))⟩
end Go.Proofs.Ytnbmfbhhlekbgaa
