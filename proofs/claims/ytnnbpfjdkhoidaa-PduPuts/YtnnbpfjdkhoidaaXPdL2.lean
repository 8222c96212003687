/- The walk of PduLength. -/
import Derived.Test.YtnnbpfjdkhoidaaXPdG
import Derived.Test.YtnnbpfjdkhoidaaXPd9a
import Derived.Test.YtnnbpfjdkhoidaaXPdA
namespace Go.Proofs.Ytnnbpfjdkhoidaa
open Go.RowKit
set_option linter.unusedVariables false
set_option linter.unusedSimpArgs false
set_option maxRecDepth 8000

theorem agg_q (w : World) : (isAgg 27).run Try.prog w = .ok true w := agg_of Try.underlying27 rfl w
theorem size_o29 : (Try.prog.info? 46).map (·.size) = some 3 := by kernel_rfl
theorem agg_o29 (w : World) : (isAgg 46).run Try.prog w = .ok true w := agg_of Try.underlying46 rfl w


end Go.Proofs.Ytnnbpfjdkhoidaa

