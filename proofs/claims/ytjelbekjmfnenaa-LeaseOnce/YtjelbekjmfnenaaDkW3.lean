/- Walks of what is cloned, and what a disk is in memory. -/
import Derived.Test.YtjelbekjmfnenaaDkW2
namespace Go.Proofs.Ytjelbekjmfnenaa
open Go.RowKit
set_option linter.unusedVariables false

theorem nil_slice (W : World) (a : Option Addr) (l c : Nat) : (binOp .eql 139 (.slice a l c) (.slice none 0 0)).run Try.prog W = .ok (.bool a.isNone) W :=
  Lib.run_eql_slice_nil W 139 5 a l c 0 0 Try.underlying139
theorem own_empty (w : World) : Own (w.alloc (.cells #[] 5)) w.heap.size (.slice (some ⟨w.heap.size, 0, none⟩) 0 0) [] :=
  ⟨by simp [vals], .inr ⟨w.heap.size, 0, #[], rfl, Nat.le_refl _, (show Blk _ _ _ [] from Blk.new' w _ []), Nat.le_refl _, by simp, by simp, by simp [vals]⟩⟩


end Go.Proofs.Ytjelbekjmfnenaa
