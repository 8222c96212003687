/- Walks of the document's Cut. -/
import Derived.Test.YtncplnejoppekaaDoorFieldP2
namespace Go.Proofs.YtncplnejoppekaaDoor
open Go.RowKit








end Go.Proofs.YtncplnejoppekaaDoor
