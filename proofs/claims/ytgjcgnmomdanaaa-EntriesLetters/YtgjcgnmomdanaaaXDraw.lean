/- A drawn statement, taken step by step: the condition on the world may grow stronger on the way. -/
import Derived.Test.YtgjcgnmomdanaaaXAid
import Derived.Deep.RegionHeldLaw
namespace Go.Proofs.Ytgjcgnmomdanaaa
open Go.RowKit
variable {P : Program} {Q : Exit → Act → World → Prop} {md : Region.Mode} {S : World → Prop}

theorem any_weaken {ops : Array Oper} {S' : World → Prop} (hs : ∀ w, S' w → S w) : ∀ (fuel : Nat) (listed : Array Bool) (a : Act) (w : World), wpAnyH P md ops Q S' fuel listed a w → wpAnyH P md ops Q S fuel listed a w
  | 0, _, _, _, h => h
  | fuel + 1, _, _, _, h => ⟨h.1, fun i hi => wpOp_mono (fun a' w' h' => ⟨hs _ h'.1, any_weaken hs fuel _ a' w' h'.2⟩) (h.2 i hi)⟩
theorem drop_at {α : Type} {L : List α} {i : Nat} {x : α} {r : List α} (h : L.drop i = x :: r) : L.toArray[i]? = some x := by
  have e : (L.drop i)[0]? = some x := by rw [h]; rfl
  rw [List.getElem?_drop] at e
  simpa using e
/-- take number i first -/
theorem any_take {L : List Oper} {i : Nat} {oi : Oper} {r : List Oper} (hL : L.drop i = oi :: r) {v : Value} {fuel : Nat} {listed : Array Bool} {a : Act} {w : World}
    (hs : Region.noSelect L.toArray = true) (hf : Region.free md L.toArray listed i = true) (hr : (Region.ready md L.toArray listed).contains i = true)
    (hQ : ∀ c a w, Q (.panic c) (a.put oi.dst v) w → Q (.panic c) a w) (hw : Region.wanted oi (yielded L.toArray a.tmps) = true) (hy : ∀ w, S w → (execOp a.eval oi).run P w = .ok (.value v) w) (hS : S w)
    (h : wpAnyH P md L.toArray Q S fuel (listed.setIfInBounds i true) (a.put oi.dst v) w) : wpAnyH P md L.toArray Q S (fuel + 1) listed a w :=
  wpAnyH_take (drop_at hL) hs hf hr hQ (.inl ⟨hw, hy⟩) hS h
/-- number i is not wanted -/
theorem any_skip {L : List Oper} {i : Nat} {oi : Oper} {r : List Oper} (hL : L.drop i = oi :: r) {fuel : Nat} {listed : Array Bool} {a : Act} {w : World}
    (hs : Region.noSelect L.toArray = true) (hf : Region.free md L.toArray listed i = true) (hr : (Region.ready md L.toArray listed).contains i = true)
    (hQ : ∀ c a w, Q (.panic c) (a.put oi.dst undef) w → Q (.panic c) a w) (hw : Region.wanted oi (yielded L.toArray a.tmps) = false) (hS : S w)
    (h : wpAnyH P md L.toArray Q S fuel (listed.setIfInBounds i true) (a.put oi.dst undef) w) : wpAnyH P md L.toArray Q S (fuel + 1) listed a w :=
  wpAnyH_take (drop_at hL) hs hf hr hQ (.inr ⟨hw, rfl⟩) hS h
/-- number i is all that may come up -/
theorem any_one {L : List Oper} {i : Nat} {o : Oper} {r : List Oper} (hL : L.drop i = o :: r) {fuel : Nat} {listed : Array Bool} {a : Act} {w : World} (hr : Region.ready md L.toArray listed = [i])
    (h : ∀ K' : Act → World → Prop, Shut (∀ a w, S w → wpAnyH P md L.toArray Q S fuel (listed.setIfInBounds i true) a w → K' a w) → if Region.wanted o (yielded L.toArray a.tmps) = true then Oper.wp P o a w K' Q else K' (a.put o.dst undef) w) :
    wpAnyH P md L.toArray Q S (fuel + 1) listed a w :=
  wpAnyH_ready hr (by simp) (AllReadyH.cons (drop_at hL) (fun K' hK => h K' (fun a w hS hW => hK.out a w hS (fun _ => hW))) AllReadyH.nil)
/-- the same, and the condition is handed on -/
theorem any_on {L : List Oper} {i : Nat} {o : Oper} {r : List Oper} (hL : L.drop i = o :: r) {fuel : Nat} {listed : Array Bool} {a : Act} {w : World} (hr : Region.ready md L.toArray listed = [i])
    (h : ∀ K' : Act → World → Prop, Shut (∀ a w, S w → (S w → wpAnyH P md L.toArray Q S fuel (listed.setIfInBounds i true) a w) → K' a w) → if Region.wanted o (yielded L.toArray a.tmps) = true then Oper.wp P o a w K' Q else K' (a.put o.dst undef) w) :
    wpAnyH P md L.toArray Q S (fuel + 1) listed a w :=
  wpAnyH_ready hr (by simp) (AllReadyH.cons (drop_at hL) h AllReadyH.nil)
end Go.Proofs.Ytgjcgnmomdanaaa

