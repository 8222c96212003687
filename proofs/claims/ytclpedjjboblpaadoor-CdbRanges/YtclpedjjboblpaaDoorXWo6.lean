/- Letters that are looked at. -/
import Derived.Test.YtclpedjjboblpaaDoorXWo5
namespace Go.Proofs.YtclpedjjboblpaaDoor
open Go.RowKit
set_option linter.unusedVariables false
set_option maxRecDepth 4000


def lv (x y : Nat) (v : Value) : Value := .agg #[.int .i64 x, .int .i64 y, v]


end Go.Proofs.YtclpedjjboblpaaDoor

