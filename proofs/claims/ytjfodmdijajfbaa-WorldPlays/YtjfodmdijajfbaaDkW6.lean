/- Reads and writes of a disk. -/
import Derived.Test.YtjfodmdijajfbaaDkW5
namespace Go.Proofs.Ytjfodmdijajfbaa
open Go.RowKit
set_option linter.unusedVariables false

theorem hasB_yes {n : Nat} {a k : Int} (h : hasB n a k = true) : ∃ x y : Nat, a = x ∧ k = y ∧ 1 ≤ y ∧ x + y ≤ n := by
  have := of_decide_eq_true h
  exact ⟨a.toNat, k.toNat, by omega, by omega, by omega, by omega⟩
theorem Row.part {w : World} {g n : Nat} {l : List (BitVec 8)} (h : Row w (some ⟨g, 0, none⟩) l) (off k : Nat) : Row w (some ⟨g, off, none⟩) ((l.drop off).take k) := by
  rcases h with rfl | ⟨b, o, hb, hc⟩
  · exact .inl (by simp)
  · cases hb
    refine .inr ⟨g, off, rfl, fun i hi => ?_⟩
    have hi' : i < k ∧ i < l.length - off := by simp at hi; omega
    have := hc (off + i) (by omega)
    rw [Nat.zero_add] at this
    rw [this]
    unfold bt
    rw [List.getD, List.getD, List.getElem?_take, if_pos hi'.1, List.getElem?_drop]








/- what there is not -/











end Go.Proofs.Ytjfodmdijajfbaa
