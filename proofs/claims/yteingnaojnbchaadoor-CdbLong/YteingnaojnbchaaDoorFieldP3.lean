/- Walks of the document's Cut. -/
import Derived.Test.YteingnaojnbchaaDoorFieldP2
namespace Go.Proofs.YteingnaojnbchaaDoor
open Go.RowKit








end Go.Proofs.YteingnaojnbchaaDoor
