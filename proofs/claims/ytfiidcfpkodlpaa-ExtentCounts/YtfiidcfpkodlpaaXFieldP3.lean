/- Walks of the document's Cut. -/
import Derived.Test.YtfiidcfpkodlpaaXFieldP2
namespace Go.Proofs.Ytfiidcfpkodlpaa
open Go.RowKit








end Go.Proofs.Ytfiidcfpkodlpaa

