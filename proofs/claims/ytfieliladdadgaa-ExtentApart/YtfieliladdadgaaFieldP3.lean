/- Walks of the document's Cut. -/
import Derived.Test.YtfieliladdadgaaFieldP2
namespace Go.Proofs.Ytfieliladdadgaa
open Go.RowKit








end Go.Proofs.Ytfieliladdadgaa
