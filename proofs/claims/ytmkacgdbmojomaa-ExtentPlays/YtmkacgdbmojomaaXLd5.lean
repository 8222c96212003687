/- extent: the changes that are told make of the one image the other one; no Go. -/
import Derived.Test.YtmkacgdbmojomaaXLd3
import Derived.Test.YtmkacgdbmojomaaXEr7
namespace Go.Proofs.Ytmkacgdbmojomaa
open Go.RowKit
set_option linter.unusedVariables false

theorem f_by {m : Im} (h : m.Wf) (i : Nat) : m.f i = if m.by i = [] then none else some (m.by i) := by
  unfold Im.by
  cases hf : m.f i with
  | none => rfl
  | some l =>
    have hl := (h.each i l hf).2
    have : l ≠ [] := fun e => by rw [e] at hl; simp at hl
    show some l = if l = [] then none else some l
    rw [if_neg this]
theorem dfM_mem {m o : Im} {k : Nat} {r : Int × List (BitVec 8)} (h : r ∈ dfM m o k) : ∃ i, i < k ∧ r = ((i : Int), o.by i) := by
  induction k with
  | zero => cases h
  | succ k ih =>
    unfold dfM at h
    rcases List.mem_append.1 h with h | h
    · obtain ⟨i, hi, e⟩ := ih h; exact ⟨i, by omega, e⟩
    · by_cases e : m.by k = o.by k
      · rw [if_pos e] at h; cases h
      · rw [if_neg e] at h; exact ⟨k, by omega, List.mem_singleton.1 h⟩
theorem dfM_can {m o : Im} (ho : o.Wf) (n k : Nat) (hk : k ≤ n) : canAll n (dfM m o k) = true := by
  unfold canAll
  rw [List.all_eq_true]
  intro r hr
  obtain ⟨i, hi, rfl⟩ := dfM_mem hr
  unfold canB
  rw [Bool.and_eq_true]
  refine ⟨spansB_nat (x := i) (y := 1) (by omega), ?_⟩
  rcases by_len ho i with h | h <;> simp [h]
theorem dfM_f {m o : Im} (hm : m.Wf) (ho : o.Wf) (k : Nat) (j : Nat) : (chAll m (dfM m o k)).f j = if j < k then o.f j else m.f j := by
  induction k with
  | zero => rfl
  | succ k ih =>
    unfold dfM
    by_cases e : m.by k = o.by k
    · rw [if_pos e, List.append_nil, ih]
      by_cases hj : j < k
      · rw [if_pos hj, if_pos (by omega)]
      · rw [if_neg hj]
        by_cases hjk : j = k
        · subst hjk; rw [if_pos (by omega), f_by hm, f_by ho, e]
        · rw [if_neg (by omega)]
    · rw [if_neg e, chAll_snoc]
      show (if j = (k : Int).toNat then (if o.by k = [] then none else some (o.by k)) else (chAll m (dfM m o k)).f j) = _
      rw [Int.toNat_natCast, ih]
      by_cases hjk : j = k
      · subst hjk; rw [if_pos (show j = j from rfl), if_pos (show j < j + 1 by omega)]; exact (f_by ho j).symm
      · rw [if_neg hjk]
        by_cases hj : j < k
        · rw [if_pos hj, if_pos (by omega)]
        · rw [if_neg hj, if_neg (by omega)]
theorem dfM_all {m o : Im} (hm : m.Wf) (ho : o.Wf) (hn : o.n = m.n) : cIm m (dfM m o m.n) = o := by
  unfold cIm
  rw [dfM_can ho m.n m.n (Nat.le_refl _), if_pos rfl]
  refine im_ext' (by rw [chAll_n, hn]) (fun j => ?_)
  rw [dfM_f hm ho]
  by_cases hj : j < m.n
  · rw [if_pos hj]
  · rw [if_neg hj]
    have h1 : m.f j = none := by
      cases hf : m.f j with
      | none => rfl
      | some l => exact absurd (hm.each j l hf).1 hj
    have h2 : o.f j = none := by
      cases hf : o.f j with
      | none => rfl
      | some l => have := (ho.each j l hf).1; omega
    rw [h1, h2]
theorem dfM_each {m o : Im} (ho : o.Wf) (hn : o.n ≤ 256) (k : Nat) (hk : k ≤ 256) : ∀ r ∈ dfM m o k, I64 r.1 ∧ r.2.length ≤ 64 := by
  intro r hr
  obtain ⟨i, hi, rfl⟩ := dfM_mem hr
  refine ⟨by unfold I64; show _ ∧ _; constructor <;> simp only <;> omega, ?_⟩
  rcases by_len ho i with h | h <;> simp only [h] <;> omega
theorem wIm_n (m : Im) (a : Int) (l : List (BitVec 8)) : (wIm m a l).n = m.n := by
  unfold wIm; split
  · exact wrN_n _ _ _ _
  · rfl
theorem uIm_n (m : Im) (a k : Int) : (uIm m a k).n = m.n := by
  unfold uIm; split
  · exact unN_n _ _ _
  · rfl
theorem cIm_n (m : Im) (l : List (Int × List (BitVec 8))) : (cIm m l).n = m.n := by
  unfold cIm; split
  · exact chAll_n _ _
  · rfl
theorem st5_n (m : Im) (o : Op5) : (st5 m o).n = m.n := by
  unfold st5
  split
  · exact wIm_n _ _ _
  · split
    · exact uIm_n _ _ _
    · split
      · exact cIm_n _ _
      · rfl
theorem plM_n (n : Nat) (l : List Op5) : (plM n l).n = n := by
  unfold plM
  suffices H : ∀ (l : List Op5) (m : Im), (l.foldl st5 m).n = m.n from H l (im0 n)
  intro l
  induction l with
  | nil => intro m; rfl
  | cons o l ih => intro m; rw [List.foldl_cons, ih, st5_n]
end Go.Proofs.Ytmkacgdbmojomaa

