/- An entry that is told, out of what stands at its place. -/
import Derived.Test.YtmcljbpemninlaaEn6
namespace Go.Proofs.Ytmcljbpemninlaa
open Go.RowKit
set_option linter.unusedVariables false

/-- what is told of an entry: new bytes -/
def Told (w w' : World) (e : Ent) (r : Ending) : Prop := ∃ x c, r = .returned (.tuple #[.agg #[.int .i64 e.1, .int .i64 e.2.1, .slice x e.2.2.length c], .bool true]) ∧ Row w' x e.2.2 ∧ e.2.2.length ≤ c ∧ (x = none → c = 0) ∧ (∀ z, x = some z → w.heap.size ≤ z.block ∧ z.block < w'.heap.size)


end Go.Proofs.Ytmcljbpemninlaa
