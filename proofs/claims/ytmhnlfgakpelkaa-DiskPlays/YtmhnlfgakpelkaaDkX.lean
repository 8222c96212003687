/- Objects that are copied; bytes that can be compared. -/
import Derived.Test.YtmhnlfgakpelkaaDkW13
import Derived.Deep.CutRange
import Derived.Test.YtmhnlfgakpelkaaDraw
namespace Go.Proofs.Ytmhnlfgakpelkaa
open Go.RowKit
set_option linter.unusedVariables false

theorem Sep.copy {B : Nat} {l : List Ob} {o o' : Ob} {w w' : World} (h : Sep B (o :: l) w) (hb : Below w.heap.size w w') (ho : o'.Ok w') (hV : o'.V = o.V) (hw : ∀ k ∈ o'.W, w.heap.size ≤ k) : Sep B (o' :: o :: l) w' := by
  refine h.add hb ho hw (fun k hk p hp hm => ?_)
  rw [hV] at hk
  rcases List.mem_cons.1 hp with rfl | hp
  · exact h.head.apart k hm hk
  · exact ((List.pairwise_cons.1 h.pair).1 p hp).2 k hm hk

theorem Sep.at {B : Nat} {l1 l2 : List Ob} {o : Ob} {w : World} (h : Sep B (l1 ++ o :: l2) w) : Sep B (o :: (l1 ++ l2)) w := h.perm List.perm_middle
theorem Sep.clear {B : Nat} {l : List Ob} {o p : Ob} {w : World} (h : Sep B (o :: l) w) (hp : p ∈ l) : Clear o p := (List.pairwise_cons.1 h.pair).1 p hp
/-- what is answered can be compared, also later -/
def Strs (w : World) (v : Value) (l : List (BitVec 8)) : Prop := ∀ X, Below w.heap.size w X → (convert 22 9 v).run Try.prog X = .ok (.string (str l)) X
theorem Own.strs {w : World} {base : Nat} {v : Value} {l : List (BitVec 8)} (h : Own w base v l) : ∃ a len cap, v = .slice a len cap ∧ ∀ X, Below w.heap.size w X → (convert 22 9 (.slice a len cap)).run Try.prog X = .ok (.string (str l)) X := by
  obtain ⟨a, cap, hv, _, _, hr, _, _⟩ := h.open
  exact ⟨a, _, cap, hv, fun X hX => (hr.later hX).str _ _ rfl⟩
theorem Image_str (g : Nat) (p : Pl) (d : Dm) (w : World) (h : (dk g p d).Ok w) (hw : d.Wf) (L : List (BitVec 8)) (hL : d.safe = L) :
    Calls Try.prog 21 #[.pointer (some ⟨g, 0, none⟩)] w fun e w' => ∃ a len cap, e = .returned (.slice a len cap) ∧ (∀ X, Below w'.heap.size w' X → (convert 22 9 (.slice a len cap)).run Try.prog X = .ok (.string (str L)) X) ∧ Below w'.heap.size w' w' ∧ Below w.heap.size w w' := by
  refine (Image_any g p d w h hw).mono ?_
  rintro e w' ⟨v, rfl, ho, hb⟩
  obtain ⟨a, len, cap, rfl, hc⟩ := ho.strs
  rw [hL] at hc
  exact ⟨a, len, cap, rfl, hc, Below.refl _ _, hb⟩
theorem Now_str (g : Nat) (p : Pl) (d : Dm) (w : World) (h : (dk g p d).Ok w) (hw : d.Wf) (L : List (BitVec 8)) (hL : nowOf d.safe d.gs = L) :
    Calls Try.prog 22 #[.pointer (some ⟨g, 0, none⟩)] w fun e w' => ∃ a len cap, e = .returned (.slice a len cap) ∧ (∀ X, Below w'.heap.size w' X → (convert 22 9 (.slice a len cap)).run Try.prog X = .ok (.string (str L)) X) ∧ Below w'.heap.size w' w' ∧ Below w.heap.size w w' := by
  refine (Now_any g p d w h hw).mono ?_
  rintro e w' ⟨v, rfl, ho, hb⟩
  obtain ⟨a, len, cap, rfl, hc⟩ := ho.strs
  rw [hL] at hc
  exact ⟨a, len, cap, rfl, hc, Below.refl _ _, hb⟩
end Go.Proofs.Ytmhnlfgakpelkaa
