/- Walks of the document's Cut. -/
import Derived.Test.YthgiifeifinngaaFieldP2
namespace Go.Proofs.Ythgiifeifinngaa
open Go.RowKit








end Go.Proofs.Ythgiifeifinngaa
