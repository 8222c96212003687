/- Sectors that are laid one by one: no Go. -/
import Derived.Test.YtmhnlfgakpelkaaDkR3
namespace Go.Proofs.Ytmhnlfgakpelkaa
open Go.RowKit
set_option linter.unusedVariables false

set_option maxRecDepth 4000 in
theorem flat_set {S : List (List (BitVec 8))} (h : ∀ s ∈ S, s.length = 256) (j : Nat) (hj : j < S.length) (s : List (BitVec 8)) (hs : s.length = 256) : (S.set j s).flatten = splice S.flatten (j * 256) s := by
  induction S generalizing j with
  | nil => simp at hj
  | cons x S ih =>
    have hx := h x (by simp)
    have hS : ∀ s ∈ S, s.length = 256 := fun y hy => h y (List.mem_cons_of_mem _ hy)
    cases j with
    | zero =>
      unfold splice
      rw [List.set_cons_zero, List.flatten_cons, List.flatten_cons, Nat.zero_mul, List.take_zero, List.nil_append, Nat.zero_add, hs, ← hx, List.drop_left]
    | succ j =>
      rw [List.set_cons_succ, List.flatten_cons, List.flatten_cons, ih hS j (by simpa using hj)]
      unfold splice
      have e : (j + 1) * 256 = x.length + j * 256 := by rw [hx]; omega
      rw [e, List.take_append, List.drop_append]
      have e1 : x.take (x.length + j * 256) = x := List.take_of_length_le (by omega)
      have e2 : x.drop (x.length + j * 256 + s.length) = [] := List.drop_eq_nil_of_le (by omega)
      rw [e1, e2, show x.length + j * 256 - x.length = j * 256 by omega, show x.length + j * 256 + s.length - x.length = j * 256 + s.length by omega]
      simp
theorem set_each {S : List (List (BitVec 8))} (h : ∀ s ∈ S, s.length = 256) (j : Nat) (s : List (BitVec 8)) (hs : s.length = 256) : ∀ x ∈ S.set j s, x.length = 256 := by
  intro x hx
  rcases List.mem_or_eq_of_mem_set hx with hx | rfl
  · exact h x hx
  · exact hs
/-- k sectors of a group laid over an image -/
def laid (im : List (BitVec 8)) (g : Nat × List (BitVec 8)) (k : Nat) : List (BitVec 8) := splice im (g.1 * 256) ((pad g.2).take (k * 256))
theorem laid_zero (im : List (BitVec 8)) (g : Nat × List (BitVec 8)) : laid im g 0 = im := by unfold laid splice; simp
set_option maxRecDepth 4000 in
theorem laid_succ {im : List (BitVec 8)} {g : Nat × List (BitVec 8)} (h : Fits im.length g) (k : Nat) (hk : k < secs g.2.length) : laid im g (k + 1) = splice (laid im g k) ((g.1 + k) * 256) (secAt g.2 k) := by
  have hp := pad_length g.2
  have h2 := h.2
  have hk1 : (k + 1) * 256 ≤ secs g.2.length * 256 := Nat.mul_le_mul_right _ hk
  have hsl := secAt_length g.2 k hk
  unfold laid
  have e0 : ((pad g.2).take (k * 256)).length = k * 256 := by rw [List.length_take, hp]; omega
  have e1 : (pad g.2).take ((k + 1) * 256) = (pad g.2).take (k * 256) ++ secAt g.2 k := by unfold secAt; rw [Nat.succ_mul, List.take_add]
  have e2 : (g.1 + k) * 256 = g.1 * 256 + ((pad g.2).take (k * 256)).length := by rw [e0]; omega
  rw [e1, e2, splice_two]
  rw [e0, hsl]
  have : (g.1 + secs g.2.length) * 256 = g.1 * 256 + secs g.2.length * 256 := Nat.add_mul _ _ _
  omega
theorem laid_all (im : List (BitVec 8)) (g : Nat × List (BitVec 8)) : laid im g (secs g.2.length) = layG im g := by
  unfold laid layG; rw [← pad_length, List.take_length]
end Go.Proofs.Ytmhnlfgakpelkaa
