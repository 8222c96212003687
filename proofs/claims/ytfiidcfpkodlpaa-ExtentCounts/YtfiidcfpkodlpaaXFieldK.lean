/- What must come of fixed calls of field. -/
import Derived.Test.YtfiidcfpkodlpaaXFieldW1
import Derived.Test.YtfiidcfpkodlpaaXFieldR
namespace Go.Proofs.Ytfiidcfpkodlpaa
open Go.RowKit

theorem make3 (w : World) : (Instr.makeSlice 34 (.int .i64 3) (.int .i64 3)).run Try.prog w = .ok (.slice (some ⟨w.heap.size, 0, none⟩) 3 3) (w.alloc (.cells #[.int .u8 0, .int .u8 0, .int .u8 0] 5)) := by kernel_rfl
theorem known2_list : over [0#8, 0#8, 0#8] 1 (be 2 258#64) = [0#8, 1#8, 2#8] := by decide +kernel


end Go.Proofs.Ytfiidcfpkodlpaa

