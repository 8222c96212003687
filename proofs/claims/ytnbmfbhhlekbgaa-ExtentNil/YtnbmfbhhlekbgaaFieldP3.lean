/- Walks of the document's Cut. -/
import Derived.Test.YtnbmfbhhlekbgaaFieldP2
namespace Go.Proofs.Ytnbmfbhhlekbgaa
open Go.RowKit








end Go.Proofs.Ytnbmfbhhlekbgaa
