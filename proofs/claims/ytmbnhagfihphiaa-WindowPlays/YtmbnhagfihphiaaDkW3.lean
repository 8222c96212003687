/- Walks of what is cloned, and what a disk is in memory. -/
import Derived.Test.YtmbnhagfihphiaaDkW2
namespace Go.Proofs.Ytmbnhagfihphiaa
open Go.RowKit
set_option linter.unusedVariables false


theorem own_empty (w : World) : Own (w.alloc (.cells #[] 5)) w.heap.size (.slice (some ⟨w.heap.size, 0, none⟩) 0 0) [] :=
  ⟨by simp [vals], .inr ⟨w.heap.size, 0, #[], rfl, Nat.le_refl _, (show Blk _ _ _ [] from Blk.new' w _ []), Nat.le_refl _, by simp, by simp, by simp [vals]⟩⟩


end Go.Proofs.Ytmbnhagfihphiaa
