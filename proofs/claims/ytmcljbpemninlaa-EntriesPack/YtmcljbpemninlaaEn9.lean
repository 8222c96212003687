/- Entries from a place on. -/
import Derived.Test.YtmcljbpemninlaaEn8
namespace Go.Proofs.Ytmcljbpemninlaa
open Go.RowKit
set_option linter.unusedVariables false

theorem canE_fits {e : Ent} (h : canE e = true) : I64 e.1 ∧ I64 e.2.1 ∧ e.2.2.length ≤ 140737488351232 := by
  have h1 := canE_term h
  have h2 := canE_len h
  have h3 := canE_kind h
  unfold I64
  omega
theorem take_snoc {α : Type} (l : List α) (k : Nat) (h : k < l.length) : l.take (k + 1) = l.take k ++ [l[k]] := List.take_succ_eq_append_getElem h



end Go.Proofs.Ytmcljbpemninlaa
