/- A write that is done. -/
import Derived.Test.YtjfodmdijajfbaaDkW6
namespace Go.Proofs.Ytjfodmdijajfbaa
open Go.RowKit
set_option linter.unusedVariables false




theorem own_form {w : World} {base size n : Nat} {e : TypeId} {v : Value} {xs : List Value} (h : w.ownsRow base e size v n xs) : ∃ a c, v = .slice a n c := by
  obtain ⟨_, ⟨h1, h2⟩ | ⟨g, cap, cur, h1, _⟩⟩ := h
  · exact ⟨_, _, h2 ▸ h1⟩
  · exact ⟨_, _, h1⟩

section
variable {w w2 w3 w4 w5 : World} {g : Nat} {p : Pl} {d : Dm} {x k1 cb cs cm : Nat} {gv gv' : Value} {vs : List Value} {lb : List (BitVec 8)}






end


end Go.Proofs.Ytjfodmdijajfbaa
