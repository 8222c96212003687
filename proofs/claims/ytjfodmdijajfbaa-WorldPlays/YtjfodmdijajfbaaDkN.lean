/- What a crash leaves: no Go. -/
import Derived.Test.YtjfodmdijajfbaaDkM
namespace Go.Proofs.Ytjfodmdijajfbaa
open Go.RowKit

/-- does the group cover the byte? -/
def Cov (g : Nat × List (BitVec 8)) (j : Nat) : Prop := g.1 * 256 ≤ j ∧ j < (g.1 + secs g.2.length) * 256
theorem nowOf_out {safe : List (BitVec 8)} {gs : List (Nat × List (BitVec 8))} (h : ∀ g ∈ gs, Fits safe.length g) (j : Nat) (hj : ∀ g ∈ gs, ¬ Cov g j) : (nowOf safe gs)[j]? = safe[j]? := by
  induction gs generalizing safe with
  | nil => rfl
  | cons g r ih =>
    have hg := h g (by simp)
    have h1 := layG_length hg
    show (nowOf (layG safe g) r)[j]? = _
    rw [ih (fun x hx => by rw [h1]; exact h x (List.mem_cons_of_mem _ hx)) (fun x hx => hj x (List.mem_cons_of_mem _ hx)), layG_at hg]
    exact if_neg (hj g (by simp))
theorem crashTo_out {safe : List (BitVec 8)} {gs : List (Nat × List (BitVec 8))} (h : ∀ g ∈ gs, Fits safe.length g) (kept : List Int) (i : Nat) (hi : i ≤ gs.length) (j : Nat) (hj : ∀ g ∈ gs, ¬ Cov g j) : (crashTo safe gs kept i)[j]? = safe[j]? := by
  induction i with
  | zero => rfl
  | succ i ih =>
    have hm : gs.getD i (0, []) ∈ gs := by rw [List.getD, List.getElem?_eq_getElem (by omega)]; exact List.getElem_mem _
    have hl := crashTo_length h kept i (by omega)
    unfold crashTo
    rw [keepG_at (by rw [hl]; exact h _ hm), if_neg (fun c => hj _ hm ⟨c.1, c.2.1⟩), ih (by omega)]

/-- what is read, group by group as it is safe -/
def backTo (now safe : List (BitVec 8)) (gs : List (Nat × List (BitVec 8))) : Nat → List (BitVec 8)
  | 0 => now
  | i + 1 => splice (backTo now safe gs i) ((gs.getD i (0, [])).1 * 256) ((safe.drop ((gs.getD i (0, [])).1 * 256)).take (secs (gs.getD i (0, [])).2.length * 256))
set_option maxRecDepth 4000 in
theorem span_len {safe : List (BitVec 8)} {g : Nat × List (BitVec 8)} (h : Fits safe.length g) : ((safe.drop (g.1 * 256)).take (secs g.2.length * 256)).length = secs g.2.length * 256 := by
  have := h.2
  rw [List.length_take, List.length_drop]
  generalize secs g.2.length = s at *
  omega
theorem backTo_length {now safe : List (BitVec 8)} {gs : List (Nat × List (BitVec 8))} (hl : now.length = safe.length) (h : ∀ g ∈ gs, Fits safe.length g) (i : Nat) (hi : i ≤ gs.length) : (backTo now safe gs i).length = safe.length := by
  induction i with
  | zero => exact hl
  | succ i ih =>
    have hm : gs.getD i (0, []) ∈ gs := by rw [List.getD, List.getElem?_eq_getElem (by omega)]; exact List.getElem_mem _
    have h0 := ih (by omega)
    unfold backTo
    rw [splice_length _ _ _ (by rw [span_len (h _ hm), h0, ← Nat.add_mul]; exact (h _ hm).2), h0]
set_option maxRecDepth 4000 in
theorem backTo_at {now safe : List (BitVec 8)} {gs : List (Nat × List (BitVec 8))} (hl : now.length = safe.length) (h : ∀ g ∈ gs, Fits safe.length g) (i : Nat) (hi : i ≤ gs.length) (j : Nat) :
    (backTo now safe gs i)[j]? = safe[j]? ∨ ((∀ k, k < i → ¬ Cov (gs.getD k (0, [])) j) ∧ (backTo now safe gs i)[j]? = now[j]?) := by
  induction i with
  | zero => exact .inr ⟨fun k hk => by omega, rfl⟩
  | succ i ih =>
    have hm : gs.getD i (0, []) ∈ gs := by rw [List.getD, List.getElem?_eq_getElem (by omega)]; exact List.getElem_mem _
    have hf := h _ hm
    have h0 := backTo_length hl h i (by omega)
    have hs := span_len hf
    unfold backTo
    generalize hg : gs.getD i (0, []) = g at *
    rw [splice_at _ _ _ _ (by rw [hs, h0, ← Nat.add_mul]; exact hf.2), hs, ← Nat.add_mul]
    by_cases c : g.1 * 256 ≤ j ∧ j < (g.1 + secs g.2.length) * 256
    · refine .inl ?_
      have e : (g.1 + secs g.2.length) * 256 = g.1 * 256 + secs g.2.length * 256 := Nat.add_mul _ _ _
      rw [if_pos c, List.getElem?_take, if_pos (by omega), List.getElem?_drop]
      congr 1; omega
    · rw [if_neg c]
      rcases ih (by omega) with h1 | ⟨h1, h2⟩
      · exact .inl h1
      · refine .inr ⟨fun k hk => ?_, h2⟩
        rcases Nat.lt_or_ge k i with hk' | hk'
        · exact h1 k hk'
        · obtain rfl : k = i := by omega
          rw [hg]; exact c
theorem back_all {safe : List (BitVec 8)} {gs : List (Nat × List (BitVec 8))} (h : ∀ g ∈ gs, Fits safe.length g) (kept : List Int) :
    backTo (nowOf safe gs) (crashed safe gs kept) gs gs.length = crashed safe gs kept := by
  have hc : (crashed safe gs kept).length = safe.length := crashTo_length h kept _ (Nat.le_refl _)
  have hn := nowOf_length h
  have h' : ∀ g ∈ gs, Fits (crashed safe gs kept).length g := by rw [hc]; exact h
  apply List.ext_getElem?
  intro j
  rcases backTo_at (now := nowOf safe gs) (by rw [hn, hc]) h' gs.length (Nat.le_refl _) j with e | ⟨h1, h2⟩
  · exact e
  · have h3 : ∀ g ∈ gs, ¬ Cov g j := by
      intro g hg
      obtain ⟨k, hk, rfl⟩ := List.getElem_of_mem hg
      have := h1 k hk
      rwa [List.getD, List.getElem?_eq_getElem hk] at this
    rw [h2, nowOf_out h j h3]
    exact (crashTo_out h kept _ (Nat.le_refl _) j h3).symm
theorem crashTo_skip {safe : List (BitVec 8)} {gs : List (Nat × List (BitVec 8))} (h : ∀ g ∈ gs, Fits safe.length g) (kept : List Int) (i : Nat) (hi : i < gs.length) (hk : kept.length ≤ i) : crashTo safe gs kept (i + 1) = crashTo safe gs kept i := by
  have hm : gs.getD i (0, []) ∈ gs := by rw [List.getD, List.getElem?_eq_getElem hi]; exact List.getElem_mem _
  have hl := crashTo_length h kept i (by omega)
  rw [crashTo, show kept.getD i 0 = 0 by rw [List.getD, List.getElem?_eq_none hk]; rfl, keepG_none (by rw [hl]; exact h _ hm)]
/-- a crash that keeps nothing -/
theorem crashed_none {safe : List (BitVec 8)} {gs : List (Nat × List (BitVec 8))} (h : ∀ g ∈ gs, Fits safe.length g) : crashed safe gs [] = safe := by
  unfold crashed
  suffices ∀ i, i ≤ gs.length → crashTo safe gs [] i = safe by exact this _ (Nat.le_refl _)
  intro i hi
  induction i with
  | zero => rfl
  | succ i ih => rw [crashTo_skip h [] i (by omega) (by simp), ih (by omega)]
/-- a crash that keeps all -/
theorem crashed_all {safe : List (BitVec 8)} {gs : List (Nat × List (BitVec 8))} (h : ∀ g ∈ gs, Fits safe.length g) (kept : List Int) (hk : ∀ i, i < gs.length → kept.getD i 0 = -1) : crashed safe gs kept = nowOf safe gs := by
  unfold crashed
  have : ∀ i, i ≤ gs.length → crashTo safe gs kept i = nowOf safe (gs.take i) := by
    intro i hi
    induction i with
    | zero => rfl
    | succ i ih =>
      have hm : gs[i]'(by omega) ∈ gs := List.getElem_mem _
      have hl := crashTo_length h kept i (by omega)
      rw [crashTo, hk i (by omega), List.getD, List.getElem?_eq_getElem (by omega)]
      simp only [Option.getD_some]
      rw [keepG_all (by rw [hl]; exact h _ hm), ih (by omega), List.take_succ_eq_append_getElem (by omega), nowOf_snoc]
  rw [this _ (Nat.le_refl _), List.take_length]
end Go.Proofs.Ytjfodmdijajfbaa
