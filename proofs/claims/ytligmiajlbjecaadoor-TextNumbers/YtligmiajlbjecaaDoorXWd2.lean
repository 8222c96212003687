/- Commands are looked for, and taken out. -/
import Derived.Test.YtligmiajlbjecaaDoorXWd1
namespace Go.Proofs.YtligmiajlbjecaaDoor
open Go.RowKit
set_option linter.unusedVariables false
set_option linter.unusedSimpArgs false
set_option maxRecDepth 4000



/-- where the command of the number n stands: -1, if nowhere -/
structure IxIs (l : List Cm) (n : BitVec 32) (i : Int) : Prop where
  is : (i = -1 ∧ ∀ x ∈ l, ¬ x.1 = n) ∨ ∃ k : Nat, i = k ∧ ∃ h : k < l.length, l[k].1 = n ∧ ∀ x ∈ l.take k, ¬ x.1 = n


end Go.Proofs.YtligmiajlbjecaaDoor

