/- sense: the document's Luns; known. -/
import Derived.Test.YtncplnejoppekaaDoorSe3
namespace Go.Proofs.YtncplnejoppekaaDoor
open Go.RowKit
set_option linter.unusedVariables false
set_option linter.unusedSimpArgs false
set_option maxRecDepth 4000

theorem be_zero : be 4 (BitVec.ofInt 64 0) = List.replicate 4 0#8 := by decide
theorem ow_strs {w : World} {base : Nat} {v : Value} {l : List (BitVec 8)} (h : Own w base v l) : ∃ a len cap, v = .slice a len cap ∧ ∀ X, Below w.heap.size w X → (convert 22 9 (.slice a len cap)).run Tryd.prog X = .ok (.string (str l)) X := by
  obtain ⟨a, cap, hv, _, _, hr, _, _⟩ := h.open
  exact ⟨a, _, cap, hv, fun X hX => (hr.later hX).str _ _ rfl⟩

set_option maxHeartbeats 1000000 in
theorem known16_any (w : World) : Calls Tryd.prog 6 #[] w fun e w' => e = .returned (.bool true) ∧ Below w.heap.size w w' := by
  have K1 : Hid _ := data_yes 0 5 33 0 (.slice none 0 0) w (by decide) (by decide) (by decide)
  go_enter Tryd.func6, Tryd.ntmps6
  go_wp2_with fail
  refine (Calls.mono K1.out) ?_
  rintro e w1 ⟨z, rfl, o1, b1⟩
  obtain ⟨a1, c1, rfl, hle1, -, hr1, -, -⟩ := o1.open
  have J1 : Hid _ := And.intro hr1 b1
  clear o1 b1 hle1 hr1 K1
  have K2 : Hid _ := cap_any 8 w1
  go_wp2_with fail
  refine (Calls.mono K2.out) ?_
  rintro e w2 ⟨z, rfl, o2, b2⟩
  obtain ⟨a2, n2, c2, rfl, hs2⟩ := ow_strs o2
  have hs := hs2 w2 (Below.refl _ _)
  have hr2 := J1.out.1.later b2
  rcases hr2 with e0 | ⟨bb, off, rfl, hc⟩
  · exact absurd e0 (by decide)
  have hz0 := hc 0 (by decide)
  have hz2 := hc 2 (by decide)
  have hz7 := hc 7 (by decide)
  have hz12 := hc 12 (by decide)
  rw [show bt (senB 5 33 0) 0 = 112 by decide] at hz0
  rw [show bt (senB 5 33 0) 2 = 5 by decide] at hz2
  rw [show bt (senB 5 33 0) 7 = 10 by decide] at hz7
  rw [show bt (senB 5 33 0) 12 = 33 by decide] at hz12
  rw [show str (cpB 8) = { data := #[0, 0, 0, 7, 0, 0, 0, 64] } by decide] at hs
  have F : Hid _ := below_then J1.out.2 b2
  clear J1 K2 o2 b2 hs2 hc
  rw [show (senB 5 33 0).length = 18 from rfl]
  rw [show cpE 8 = 0 by decide]
  rw [Nat.add_zero] at hz0
  go_wp2
  go_ret
  exact ⟨rfl, F.out⟩
end Go.Proofs.YtncplnejoppekaaDoor
