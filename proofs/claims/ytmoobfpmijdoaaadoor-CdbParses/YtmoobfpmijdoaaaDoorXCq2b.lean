/- cdb, the document's: lists of six places and of six numbers. -/
import Derived.Test.YtmoobfpmijdoaaaDoorXCq2
namespace Go.Proofs.YtmoobfpmijdoaaaDoor
open Go.RowKit
set_option linter.unusedVariables false
set_option linter.unusedSimpArgs false
set_option maxRecDepth 8000
theorem bs_places (a0 S0 M0 a1 S1 M1 a2 S2 M2 a3 S3 M3 a4 S4 M4 a5 S5 M5 : Int) (a : Act) (o : Oper) (t0 t1 t2 t3 t4 t5 : Operand) (ho : o.op = .buildSlice 120 6 #[(0, t0), (1, t1), (2, t2), (3, t3), (4, t4), (5, t5)]) (h0 : a.eval t0 = .agg #[.int .i64 a0, .int .i64 S0, .int .i64 M0]) (h1 : a.eval t1 = .agg #[.int .i64 a1, .int .i64 S1, .int .i64 M1]) (h2 : a.eval t2 = .agg #[.int .i64 a2, .int .i64 S2, .int .i64 M2]) (h3 : a.eval t3 = .agg #[.int .i64 a3, .int .i64 S3, .int .i64 M3]) (h4 : a.eval t4 = .agg #[.int .i64 a4, .int .i64 S4, .int .i64 M4]) (h5 : a.eval t5 = .agg #[.int .i64 a5, .int .i64 S5, .int .i64 M5]) (w : World) : (execOp a.eval o).run Tryd.prog w = .ok (.value (.slice (some ⟨w.heap.size, 0, none⟩) 6 6)) (w.alloc (.cells #[.int .i64 a0, .int .i64 S0, .int .i64 M0, .int .i64 a1, .int .i64 S1, .int .i64 M1, .int .i64 a2, .int .i64 S2, .int .i64 M2, .int .i64 a3, .int .i64 S3, .int .i64 M3, .int .i64 a4, .int .i64 S4, .int .i64 M4, .int .i64 a5, .int .i64 S5, .int .i64 M5] 93)) := by
  have e : (Instr.buildSlice 120 6 #[(0, .agg #[.int .i64 a0, .int .i64 S0, .int .i64 M0]), (1, .agg #[.int .i64 a1, .int .i64 S1, .int .i64 M1]), (2, .agg #[.int .i64 a2, .int .i64 S2, .int .i64 M2]), (3, .agg #[.int .i64 a3, .int .i64 S3, .int .i64 M3]), (4, .agg #[.int .i64 a4, .int .i64 S4, .int .i64 M4]), (5, .agg #[.int .i64 a5, .int .i64 S5, .int .i64 M5])]).run Tryd.prog w = .ok (.slice (some ⟨w.heap.size, 0, none⟩) 6 6) (w.alloc (.cells #[.int .i64 a0, .int .i64 S0, .int .i64 M0, .int .i64 a1, .int .i64 S1, .int .i64 M1, .int .i64 a2, .int .i64 S2, .int .i64 M2, .int .i64 a3, .int .i64 S3, .int .i64 M3, .int .i64 a4, .int .i64 S4, .int .i64 M4, .int .i64 a5, .int .i64 S5, .int .i64 M5] 93)) := by
    kernel_rfl
  unfold execOp
  rw [ho]
  simp only [List.map_toArray, List.map_cons, List.map_nil, h0, h1, h2, h3, h4, h5]
  simp [Sem.run_bind, e]
theorem bs_numbers (x0 x1 x2 x3 x4 x5 : Int) (a : Act) (o : Oper) (t0 t1 t2 t3 t4 t5 : Operand) (ho : o.op = .buildSlice 121 6 #[(0, t0), (1, t1), (2, t2), (3, t3), (4, t4), (5, t5)]) (h0 : a.eval t0 = .int .u64 x0) (h1 : a.eval t1 = .int .u64 x1) (h2 : a.eval t2 = .int .u64 x2) (h3 : a.eval t3 = .int .u64 x3) (h4 : a.eval t4 = .int .u64 x4) (h5 : a.eval t5 = .int .u64 x5) (w : World) : (execOp a.eval o).run Tryd.prog w = .ok (.value (.slice (some ⟨w.heap.size, 0, none⟩) 6 6)) (w.alloc (.cells #[.int .u64 x0, .int .u64 x1, .int .u64 x2, .int .u64 x3, .int .u64 x4, .int .u64 x5] 22)) := by
  have e : (Instr.buildSlice 121 6 #[(0, .int .u64 x0), (1, .int .u64 x1), (2, .int .u64 x2), (3, .int .u64 x3), (4, .int .u64 x4), (5, .int .u64 x5)]).run Tryd.prog w = .ok (.slice (some ⟨w.heap.size, 0, none⟩) 6 6) (w.alloc (.cells #[.int .u64 x0, .int .u64 x1, .int .u64 x2, .int .u64 x3, .int .u64 x4, .int .u64 x5] 22)) := by
    kernel_rfl
  unfold execOp
  rw [ho]
  simp only [List.map_toArray, List.map_cons, List.map_nil, h0, h1, h2, h3, h4, h5]
  simp [Sem.run_bind, e]
end Go.Proofs.YtmoobfpmijdoaaaDoor

