/- A table that is a package variable: from 'it reads as the datum' to its cells. -/
import Derived.Test.YtmoobfpmijdoaaaDoorXWrap
import Derived.LaidLaws
import Derived.LaidHandle
import Derived.OpenShut
namespace Go.Proofs.YtmoobfpmijdoaaaDoor
open Go.ChangeShapes Go.WideShapes Go.ChangeAt Go.RowKit
set_option linter.unusedVariables false
set_option maxRecDepth 100000

section
variable {H : Type}
/-- the cells of a datum of numbers, level by level -/
def cfInt : DataW H → List Value
  | .lit (.int k n) => [.int k n]
  | _ => []
def cfAgg (g : DataW H → List Value) : DataW H → List Value
  | .agg ds => ds.flatMap g
  | _ => []
def cfTwo (g0 g1 : DataW H → List Value) : DataW H → List Value
  | .agg [d0, d1] => g0 d0 ++ g1 d1
  | _ => []
def Flat (enc : TypeId × Value → H) (P : Program) (t : TypeId) (g : DataW H → List Value) : Prop :=
  ∀ (w : World) (base : Nat) (sp : Nat → Bool) (held : Bool) (fuel : Nat) (cs : List Value) (x : DataW H × List MemPlace), DataW.trod enc P w base sp held fuel t cs = some x → cs = g x.1
theorem flat_int {enc : TypeId × Value → H} {P : Program} {t : TypeId} {k : IntKind} (ht : P.underlying t = some (.int k)) : Flat enc P t cfInt := by
  intro w base sp held fuel cs x h
  obtain ⟨n, rfl, rfl, -⟩ := DataW.trod_int ht h
  rfl
theorem chop {α β : Type} (g : β → List α) (c : Nat) : ∀ (n : Nat) (cs : List α) (xs : List β), cs.length = n * c → xs.length = n → (∀ i (h : i < xs.length), (cs.drop (i * c)).take c = g xs[i]) → cs = xs.flatMap g
  | 0, cs, xs, h1, h2, _ => by
    have e1 : cs = [] := List.eq_nil_of_length_eq_zero (by rw [h1]; simp)
    have e2 : xs = [] := List.eq_nil_of_length_eq_zero h2
    rw [e1, e2]; rfl
  | n + 1, cs, [], h1, h2, _ => by simp at h2
  | n + 1, cs, y :: ys, h1, h2, h3 => by
    have h0 := h3 0 (by simp)
    simp at h0
    rw [List.flatMap_cons, ← h0]
    have hl : (cs.drop c).length = n * c := by rw [List.length_drop, h1, Nat.succ_mul]; omega
    have ih := chop g c n (cs.drop c) ys hl (by simpa using h2) (fun i hi => by
      have := h3 (i + 1) (by simpa using hi)
      rw [List.drop_drop]
      rw [show c + i * c = (i + 1) * c by rw [Nat.succ_mul]; omega]
      simpa using this)
    rw [← ih, List.take_append_drop]
theorem flat_array {enc : TypeId × Value → H} {P : Program} {t e : TypeId} {n c : Nat} {g : DataW H → List Value} (ht : P.underlying t = some (.array n e)) (he : Flat enc P e g) (hc : P.cellsOf e = c) (hs : P.cellsOf t = n * c) : Flat enc P t (cfAgg g) := by
  intro w base sp held fuel cs x h
  obtain ⟨xs, m, -, rfl, hl, hxl, hel⟩ := DataW.trod_array ht h
  rw [hc] at hel
  have := chop (fun y : DataW H × List MemPlace => g y.1) c n cs xs (by rw [hl, hs]) hxl (fun i hi => he _ _ _ _ _ _ _ (by rw [hel i (by omega), List.getElem?_eq_getElem hi]))
  rw [this]
  show _ = (xs.map (·.1)).flatMap g
  rw [List.flatMap_map]
theorem flat_two {enc : TypeId × Value → H} {P : Program} {t : TypeId} {f0 f1 : Field} {c0 c1 : Nat} {g0 g1 : DataW H → List Value} (ht : P.underlying t = some (.struct #[f0, f1])) (h0 : Flat enc P f0.type g0) (h1 : Flat enc P f1.type g1)
    (e0 : P.cellsOf f0.type = c0) (e1 : P.cellsOf f1.type = c1) (o0 : f0.offset = 0) (o1 : f1.offset = c0) (hs : P.cellsOf t = c0 + c1) : Flat enc P t (cfTwo g0 g1) := by
  intro w base sp held fuel cs x h
  obtain ⟨xs, m, -, rfl, hl, hxl, hfl⟩ := DataW.trod_struct ht h
  match xs, hxl with
  | [y0, y1], _ =>
    have k0 := h0 _ _ _ _ _ _ _ (hfl 0 f0 rfl)
    have k1 := h1 _ _ _ _ _ _ _ (hfl 1 f1 rfl)
    rw [e0, o0, List.drop_zero] at k0
    rw [e1, o1] at k1
    show cs = g0 y0.1 ++ g1 y1.1
    rw [← k0, ← k1, List.take_of_length_le (l := cs.drop c0) (by rw [List.length_drop]; omega), List.take_append_drop]
end
end Go.Proofs.YtmoobfpmijdoaaaDoor

