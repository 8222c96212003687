/- Runs, one behind another: no Go. -/
import Derived.Test.YtehbolkjgiedbaaEn22
namespace Go.Proofs.Ytehbolkjgiedbaa
open Go.RowKit Go.Shelf
set_option linter.unusedVariables false

theorem runK_succ (m : Lm) (k : Nat) : m.runK (k + 1) = if m.begB ((m.fl : Int) + (k + 1 : Nat)) = true then m.runK k ++ [((m.fl : Int) + (k + 1 : Nat), m.term ((m.fl : Int) + (k + 1 : Nat)))] else m.runK k := rfl
/-- what comes later stands behind, at higher places -/
theorem runK_pre (m : Lm) {i j : Nat} (h : i ≤ j) : ∃ r, m.runK j = m.runK i ++ r ∧ ∀ x ∈ r, (m.fl : Int) + i < x.1 := by
  induction j with
  | zero => rw [Nat.le_zero.1 h]; exact ⟨[], by simp, by simp⟩
  | succ j ih =>
    by_cases e : i = j + 1
    · rw [e]; exact ⟨[], by simp, by simp⟩
    · obtain ⟨r, h1, h2⟩ := ih (by omega)
      rw [runK_succ]
      split
      · refine ⟨r ++ [((m.fl : Int) + (j + 1 : Nat), m.term ((m.fl : Int) + (j + 1 : Nat)))], by rw [h1, List.append_assoc], fun x hx => ?_⟩
        rcases List.mem_append.1 hx with hx | hx
        · exact h2 x hx
        · rw [List.mem_singleton] at hx; subst hx; show (m.fl : Int) + i < (m.fl : Int) + (j + 1 : Nat); omega
      · exact ⟨r, h1, h2⟩
theorem beg_one (m : Lm) : m.begB ((m.fl : Int) + (0 + 1 : Nat)) = true := by
  rw [show (m.fl : Int) + ((0 + 1 : Nat) : Int) = (m.fl : Int) + 1 by omega]; exact beg_first m
theorem beg_not {m : Lm} {i : Nat} (h : ¬ m.begB ((m.fl : Int) + (i + 1 : Nat)) = true) : 1 ≤ i ∧ m.term ((m.fl : Int) + i) = m.term ((m.fl : Int) + (i + 1 : Nat)) := by
  have hi : 1 ≤ i := by
    rcases Nat.eq_zero_or_pos i with e | e
    · subst e; exact absurd (beg_one m) h
    · exact e
  refine ⟨hi, ?_⟩
  unfold Lm.begB at h
  rw [Bool.or_eq_true, not_or, decide_eq_true_eq, decide_eq_true_eq] at h
  have := h.2
  rw [show (m.fl : Int) + ((i + 1 : Nat) : Int) - 1 = (m.fl : Int) + i by omega] at this
  exact Decidable.not_not.1 this
theorem beg_yes {m : Lm} {i : Nat} (hi : 1 ≤ i) (h : m.begB ((m.fl : Int) + (i + 1 : Nat)) = true) : m.term ((m.fl : Int) + i) ≠ m.term ((m.fl : Int) + (i + 1 : Nat)) := by
  unfold Lm.begB at h
  rw [Bool.or_eq_true, decide_eq_true_eq, decide_eq_true_eq] at h
  rcases h with h | h
  · omega
  · rw [show (m.fl : Int) + ((i + 1 : Nat) : Int) - 1 = (m.fl : Int) + i by omega] at h; exact h
/-- the last run has the term of the last place -/
theorem runK_last (m : Lm) (i : Nat) (h : 1 ≤ i) : ∃ L x, m.runK i = L ++ [(x, m.term ((m.fl : Int) + i))] := by
  induction i with
  | zero => omega
  | succ i ih =>
    rw [runK_succ]
    split
    · exact ⟨_, _, rfl⟩
    · rename_i hb
      obtain ⟨h1, h2⟩ := beg_not hb
      rw [← h2]
      exact ih h1
theorem term_step {m : Lm} (hw : m.Wf) {i : Nat} (h : 1 ≤ i) (hi : i < m.l.length) : m.term ((m.fl : Int) + i) ≤ m.term ((m.fl : Int) + (i + 1 : Nat)) := by
  have hr := (List.pairwise_cons.1 hw.rise).2
  rw [List.pairwise_iff_getElem] at hr
  have := hr (i - 1) i (by simp; omega) (by simpa using hi) (by omega)
  rw [List.getElem_map, List.getElem_map] at this
  rw [(Lm.part_in (m := m) (i := i - 1) (by omega) (by omega)).2, (Lm.part_in (m := m) (i := i) hi (by omega)).2]
  exact this
/-- a run's place; its term -/
def rAt (R : List (Int × Int)) (k : Nat) : Int := (R[k]?.getD (0, 0)).1
def rTm (R : List (Int × Int)) (k : Nat) : Int := (R[k]?.getD (0, 0)).2
theorem rAt_in {R : List (Int × Int)} {k : Nat} (h : k < R.length) : rAt R k = R[k].1 ∧ rTm R k = R[k].2 := by unfold rAt rTm; rw [List.getElem?_eq_getElem h]; exact ⟨rfl, rfl⟩
theorem r_mid (L r : List (Int × Int)) (x t : Int) : rAt (L ++ [(x, t)] ++ r) L.length = x ∧ rTm (L ++ [(x, t)] ++ r) L.length = t := by
  unfold rAt rTm; simp
theorem r_back (L r : List (Int × Int)) (k : Nat) (hk : L.length ≤ k) (h : k < (L ++ r).length) : ∃ x ∈ r, rAt (L ++ r) k = x.1 := by
  rw [List.length_append] at h
  refine ⟨r[k - L.length]'(by omega), List.getElem_mem _, ?_⟩
  rw [(rAt_in (by rw [List.length_append]; omega)).1, List.getElem_append_right hk]
theorem runs_step {m : Lm} (hw : m.Wf) {i : Nat} (hi : i < m.l.length) :
    (m.runK (i + 1)).length - 1 < (m.runK m.l.length).length ∧ rTm (m.runK m.l.length) ((m.runK (i + 1)).length - 1) = m.term ((m.fl : Int) + (i + 1 : Nat)) ∧
    (((m.runK (i + 1)).length - 1 = (m.runK i).length - 1 + 1 ∧ rAt (m.runK m.l.length) ((m.runK i).length - 1 + 1) = (m.fl : Int) + (i + 1 : Nat) ∧ rTm (m.runK m.l.length) ((m.runK i).length - 1) < rTm (m.runK m.l.length) ((m.runK i).length - 1 + 1)) ∨
     ((m.runK (i + 1)).length - 1 = (m.runK i).length - 1 ∧ ((m.runK i).length - 1 + 1 < (m.runK m.l.length).length → rAt (m.runK m.l.length) ((m.runK i).length - 1 + 1) ≠ (m.fl : Int) + (i + 1 : Nat)))) := by
  obtain ⟨r, e1, h1⟩ := runK_pre m (i := i + 1) (j := m.l.length) (by omega)
  obtain ⟨L, x, e2⟩ := runK_last m (i + 1) (by omega)
  have elen : (m.runK (i + 1)).length = L.length + 1 := by rw [e2]; simp
  have hno : (m.runK (i + 1)).length - 1 = (m.runK i).length - 1 → (m.runK i).length - 1 + 1 < (m.runK m.l.length).length → rAt (m.runK m.l.length) ((m.runK i).length - 1 + 1) ≠ (m.fl : Int) + (i + 1 : Nat) := fun hk hlt => by
    rw [e1] at hlt ⊢
    obtain ⟨y, hy, hye⟩ := r_back (m.runK (i + 1)) r ((m.runK i).length - 1 + 1) (by omega) hlt
    have := h1 y hy
    rw [hye]; omega
  refine ⟨by rw [e1, List.length_append, elen]; omega, ?_, ?_⟩
  · rw [elen, e1, e2]; exact (r_mid L r x _).2
  · by_cases hb : m.begB ((m.fl : Int) + (i + 1 : Nat)) = true
    · have e3 := runK_succ m i
      rw [if_pos hb] at e3
      rcases Nat.eq_zero_or_pos i with e | e
      · subst e
        refine .inr ?_
        have hk : (m.runK (0 + 1)).length - 1 = (m.runK 0).length - 1 := by rw [e3]; rfl
        exact ⟨hk, hno hk⟩
      · obtain ⟨L', x', e4⟩ := runK_last m i e
        have el : (m.runK i).length = L'.length + 1 := by rw [e4]; simp
        refine .inl ⟨by rw [e3, List.length_append, el]; simp, ?_, ?_⟩
        · rw [show (m.runK i).length - 1 + 1 = (m.runK i).length by omega, e1, e3]
          exact (r_mid (m.runK i) r _ _).1
        · have t2 : rTm (m.runK m.l.length) ((m.runK i).length - 1 + 1) = m.term ((m.fl : Int) + (i + 1 : Nat)) := by
            rw [show (m.runK i).length - 1 + 1 = (m.runK i).length by omega, e1, e3]
            exact (r_mid (m.runK i) r _ _).2
          have t1 : rTm (m.runK m.l.length) ((m.runK i).length - 1) = m.term ((m.fl : Int) + i) := by
            rw [el, e1, e3, e4, List.append_assoc]
            exact (r_mid L' _ _ _).2
          have := term_step hw e hi
          have := beg_yes e hb
          rw [t1, t2]; omega
    · have e3 := runK_succ m i
      rw [if_neg hb] at e3
      refine .inr ?_
      have hk : (m.runK (i + 1)).length - 1 = (m.runK i).length - 1 := by rw [e3]
      exact ⟨hk, hno hk⟩
theorem runs_first {m : Lm} (h : 1 ≤ m.l.length) : 1 ≤ (m.runK m.l.length).length ∧ rAt (m.runK m.l.length) 0 = (m.fl : Int) + 1 := by
  obtain ⟨r, e1, h1⟩ := runK_pre m (i := 0 + 1) (j := m.l.length) (by omega)
  have e3 := runK_succ m 0
  rw [if_pos (beg_one m)] at e3
  rw [e1, e3]
  refine ⟨by simp [Lm.runK], ?_⟩
  have := (r_mid (m.runK 0) r ((m.fl : Int) + (0 + 1 : Nat)) (m.term ((m.fl : Int) + (0 + 1 : Nat)))).1
  exact this.trans (by omega)
end Go.Proofs.Ytehbolkjgiedbaa
