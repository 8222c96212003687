/- The walk of PduLength. -/
import Derived.Test.YtfcaaljehhibgaaXPdK
import Derived.Test.YtfcaaljehhibgaaXPd9a
import Derived.Test.YtfcaaljehhibgaaXOpA
namespace Go.Proofs.Ytfcaaljehhibgaa
open Go.RowKit
set_option linter.unusedVariables false
set_option linter.unusedSimpArgs false
set_option maxRecDepth 8000

theorem agg_q (w : World) : (isAgg 50).run Try.prog w = .ok true w := agg_of Try.underlying50 rfl w
theorem size_o29 : (Try.prog.info? 23).map (·.size) = some 3 := by kernel_rfl
theorem agg_o29 (w : World) : (isAgg 23).run Try.prog w = .ok true w := agg_of Try.underlying23 rfl w


end Go.Proofs.Ytfcaaljehhibgaa

