/- Letters that are sent, and doubled. -/
import Derived.Test.YtclpedjjboblpaaDoorXWo6
import Derived.Maps.AppendAt
namespace Go.Proofs.YtclpedjjboblpaaDoor
open Go.RowKit
set_option linter.unusedVariables false
set_option maxRecDepth 4000




section
variable {w w2 w5 : World} {g : Nat} {p : Wp} {m : Wm} {fv fv' : Value} {vs us : List Value} {l : Lt} {ks : List Nat}




end



end Go.Proofs.YtclpedjjboblpaaDoor

