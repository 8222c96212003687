/- pdu: how many bytes a letter has; what its head tells. -/
import Derived.Test.YtfcaaljehhibgaaXPd3
import Derived.Test.YtfcaaljehhibgaaXFieldP2
namespace Go.Proofs.Ytfcaaljehhibgaa
open Go.RowKit
set_option linter.unusedVariables false
set_option linter.unusedSimpArgs false
set_option maxRecDepth 4000

theorem exec_idx {P : Program} {w : World} {a : Act} {o : Oper} {t : TypeId} {x y : Operand} (ho : o.op = .index t x y) {p q u : Value} (hx : a.eval x = p) (hy : a.eval y = q) (h : (Instr.index t p q).run P w = .ok u w) : (execOp a.eval o).run P w = .ok (.value u) w := by
  simp [execOp, ho, hx, hy, h, Result.andThen]
theorem index_agg {T E : TypeId} {n : Nat} {xs : List Value} (hu : Try.prog.underlying T = some (.array n E)) (hE : (Try.prog.info? E).map (·.size) = some 1) (hagg : ∀ w, (isAgg E).run Try.prog w = .ok false w) (hl : xs.length = n) (j : Nat) {v : Value} (hv : xs[j]? = some v) (w : World) :
    (Instr.index T (.agg xs.toArray) (.int .i64 (j : Int))).run Try.prog w = .ok v w := by
  obtain ⟨i, hi, hz⟩ := Option.map_eq_some_iff.1 hE
  have hj : j < n := by
    rcases Nat.lt_or_ge j n with h | h
    · exact h
    · rw [List.getElem?_eq_none (by omega)] at hv; cases hv
  have hb : (0 : Int) ≤ (j : Int) ∧ (j : Int) < n := by omega
  simp [Instr.index, run_underlying hu, asIntOf, part, sizeOf, typeInfo, hi, hz, hagg, hb, go_sem]
  rw [if_pos hj, hv]
  rfl
theorem und_lt : Try.prog.underlying 69 = some (.array 4 34) := by kernel_rfl
theorem sz_u8s : (Try.prog.info? 34).map (·.size) = some 1 := by kernel_rfl
set_option maxHeartbeats 1000000 in
theorem pbytes_any (a0 a1 a2 a3 : Option Addr) (n0 c0 n1 c1 n2 c2 n3 c3 : Nat) (w : World) (hm : n0 + n1 + n2 + n3 ≤ 4000000) :
    Calls Try.prog 31 #[.agg #[.slice a0 n0 c0, .slice a1 n1 c1, .slice a2 n2 c2, .slice a3 n3 c3]] w fun e w' => e = .returned (.int .i64 ((n0 + n1 + n2 + n3 : Nat) : Int)) ∧ Below w.heap.size w w' := by
  have b1 : Below w.heap.size w (w.alloc (.cells #[.slice a0 n0 c0, .slice a1 n1 c1, .slice a2 n2 c2, .slice a3 n3 c3] 69)) := (Below.refl _ _).alloc (Nat.le_refl _) _
  have ld := load_all size_lt agg_lt (Blk.new' w 69 [.slice a0 n0 c0, .slice a1 n1 c1, .slice a2 n2 c2, .slice a3 n3 c3])
  have F : Hid _ := b1
  clear b1
  have v0 : IntKind.i64.wrap ((0 : Int) + (n0 : Int)) = (n0 : Int) := by rw [IntKind.wrap_i64]; omega
  have v1 : IntKind.i64.wrap ((n0 : Int) + (n1 : Int)) = ((n0 + n1 : Nat) : Int) := by rw [IntKind.wrap_i64]; omega
  have v2 : IntKind.i64.wrap (((n0 + n1 : Nat) : Int) + (n2 : Int)) = ((n0 + n1 + n2 : Nat) : Int) := by rw [IntKind.wrap_i64]; omega
  have v3 : IntKind.i64.wrap (((n0 + n1 + n2 : Nat) : Int) + (n3 : Int)) = ((n0 + n1 + n2 + n3 : Nat) : Int) := by rw [IntKind.wrap_i64]; omega
  have V : Hid _ := And.intro v0 (And.intro v1 (And.intro v2 v3))
  clear v0 v1 v2 v3
  go_enter Try.func31, Try.ntmps31
  go_wp2_with (refine wpList_value rfl (exec_load rfl rfl ld) ?_)
  clear ld
  have ix : ∀ (j : Nat) v w', [Value.slice a0 n0 c0, .slice a1 n1 c1, .slice a2 n2 c2, .slice a3 n3 c3][j]? = some v → (Instr.index 69 (.agg #[.slice a0 n0 c0, .slice a1 n1 c1, .slice a2 n2 c2, .slice a3 n3 c3]) (.int .i64 (j : Int))).run Try.prog w' = .ok v w' := fun j v w' h => index_agg und_lt sz_u8s agg_u8s rfl j h w'
  have HI : Hid _ := ix
  clear ix
  refine wp_loop_rounds 5 ?_
  rw [rounds_succ]
  go_wp2_with (refine wpList_value rfl (exec_idx rfl rfl rfl (HI.out 0 _ _ rfl)) ?_)
  rw [rounds_succ]
  have v0 := V.out.1
  go_wp2_with (refine wpList_value rfl (exec_idx rfl rfl rfl (HI.out 1 _ _ rfl)) ?_)
  rw [rounds_succ]
  have v1 := V.out.2.1
  go_wp2_with (refine wpList_value rfl (exec_idx rfl rfl rfl (HI.out 2 _ _ rfl)) ?_)
  rw [rounds_succ]
  have v2 := V.out.2.2.1
  go_wp2_with (refine wpList_value rfl (exec_idx rfl rfl rfl (HI.out 3 _ _ rfl)) ?_)
  rw [rounds_succ]
  have v3 := V.out.2.2.2
  go_wp2_with fail
  go_ret
  refine ⟨?_, F.out⟩
  simp only [Ending.returned.injEq]
  first | rfl | (simp; omega) | skip
end Go.Proofs.Ytfcaaljehhibgaa

