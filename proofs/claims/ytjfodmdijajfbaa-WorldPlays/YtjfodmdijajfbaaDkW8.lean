/- A flush. -/
import Derived.Test.YtjfodmdijajfbaaDkW7
namespace Go.Proofs.Ytjfodmdijajfbaa
open Go.RowKit
set_option linter.unusedVariables false






end Go.Proofs.Ytjfodmdijajfbaa
