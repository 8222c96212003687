/- Walks of the document's Cut. -/
import Derived.Test.YthcdhpmkhegkpaaXFieldP2
namespace Go.Proofs.Ythcdhpmkhegkpaa
open Go.RowKit








end Go.Proofs.Ythcdhpmkhegkpaa

