/- Parts of slices of things. -/
import Derived.Test.YtligmiajlbjecaaDoorXWd3
namespace Go.Proofs.YtligmiajlbjecaaDoor
open Go.RowKit
set_option linter.unusedVariables false
set_option maxRecDepth 4000
section
variable {α : Type} {K : Kd α} {w : World} {q : Option Nat} {l : List α}
theorem GAt.nothing (K : Kd α) (w : World) (a : Addr) (c : Nat) : GAt K w (.slice (some a) 0 c) [] :=
  ⟨some a, c, rfl, by simp, (fun h => by cases h), fun ad h j u hj => by simp [Kd.cs] at hj⟩
theorem GAt.front (hK : K.Ok) {b off n cap k : Nat} (h : GAt K w (.slice (some ⟨b, off, none⟩) n cap) l) (hn : n = l.length) (hk : k ≤ n) : GAt K w (.slice (some ⟨b, off, none⟩) k cap) (l.take k) := by
  obtain ⟨a, c, e, h1, h2, h3⟩ := h
  cases e
  have hl : (l.take k).length = k := by rw [List.length_take]; omega
  refine ⟨_, cap, by rw [hl], by omega, (fun h => by cases h), fun ad had j u hj => ?_⟩
  cases had
  refine h3 _ rfl j u ?_
  rw [← Kd.cs_take hK, List.getElem?_take] at hj
  split at hj
  · exact hj
  · cases hj
theorem GAt.back (hK : K.Ok) {b off n cap k : Nat} (h : GAt K w (.slice (some ⟨b, off, none⟩) n cap) l) (hn : n = l.length) (hk : k ≤ n) : GAt K w (.slice (some ⟨b, off + k * K.s, none⟩) (n - k) (cap - k)) (l.drop k) := by
  obtain ⟨a, c, e, h1, h2, h3⟩ := h
  cases e
  have hl : (l.drop k).length = l.length - k := by rw [List.length_drop]
  refine ⟨_, cap - k, by rw [hl], by omega, (fun h => by cases h), fun ad had j u hj => ?_⟩
  cases had
  rw [← Kd.cs_drop hK, List.getElem?_drop] at hj
  have := h3 _ rfl _ u hj
  rw [Addr.add_lit] at this ⊢
  rw [Nat.add_assoc]
  exact this
theorem new_one (hK : K.Ok) (w : World) (x : α) (cs : List Value) (hc : K.f x = cs) : GAt K (w.alloc (.cells cs.toArray K.E)) (.slice (some ⟨w.heap.size, 0, none⟩) 1 1) [x] := by
  refine ⟨_, 1, rfl, by simp, (fun h => by cases h), fun ad h j u hj => ?_⟩
  cases h
  rw [Addr.add_lit, blk_at (Blk.new' w K.E cs), Nat.zero_add]
  simpa [Kd.cs, hc] using hj
end
end Go.Proofs.YtligmiajlbjecaaDoor

