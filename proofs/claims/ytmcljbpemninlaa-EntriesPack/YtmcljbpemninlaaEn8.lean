/- The entry at a place; entries from a place on. -/
import Derived.Test.YtmcljbpemninlaaEn7
namespace Go.Proofs.Ytmcljbpemninlaa
open Go.RowKit
set_option linter.unusedVariables false







end Go.Proofs.Ytmcljbpemninlaa
