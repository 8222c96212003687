/- extent: the runs of an image, and how many blocks they hold; no Go. -/
import Derived.Test.YtfiidcfpkodlpaaXErF
namespace Go.Proofs.Ytfiidcfpkodlpaa
open Go.RowKit
set_option linter.unusedVariables false

/-- runs rise, none touches the next, each is all there and ends where nothing is -/
structure RnOk (m : Im) (k : Nat) (l : List (Nat × Nat)) : Prop where
  each : ∀ r ∈ l, 1 ≤ r.2 ∧ r.1 + r.2 ≤ k ∧ (∀ j : Nat, r.1 ≤ j → j < r.1 + r.2 → m.has (j : Int) = true) ∧ (r.1 + r.2 < k → m.has ((r.1 + r.2 : Nat) : Int) = false)
  rise : l.Pairwise (fun a b => a.1 + a.2 < b.1)
theorem rn_ok (m : Im) (k : Nat) : RnOk m k (rnN m k) := by
  induction k with
  | zero => exact ⟨(fun r h => by cases h), .nil⟩
  | succ k ih =>
    rw [rnN_succ]
    by_cases h1 : m.has (k : Int) = true
    · rw [if_pos h1]
      by_cases h2 : m.has ((k : Int) - 1) = true
      · rw [if_pos h2]
        obtain ⟨A, f, c, e, hk, hc⟩ := rn_last m k h2
        rw [e, bump_snoc]
        rw [e] at ih
        obtain ⟨hp1, hp2, hp3⟩ := List.pairwise_append.1 ih.rise
        refine ⟨fun r hr => ?_, List.pairwise_append.2 ⟨hp1, List.pairwise_singleton _ _, fun a ha b hb => ?_⟩⟩
        · rcases List.mem_append.1 hr with hA | hA
          · obtain ⟨q1, q2, q3, q4⟩ := ih.each r (List.mem_append_left _ hA)
            have := hp3 r hA (f, c) (List.mem_singleton.2 rfl)
            simp only at this
            exact ⟨q1, by omega, q3, fun _ => q4 (by omega)⟩
          · rw [List.mem_singleton.1 hA]
            obtain ⟨q1, q2, q3, q4⟩ := ih.each (f, c) (List.mem_append_right _ (List.mem_singleton.2 rfl))
            simp only at q1 q2 q3 q4 ⊢
            refine ⟨by omega, by omega, fun j j1 j2 => ?_, fun h => by omega⟩
            by_cases hj : j = k
            · rw [hj]; exact h1
            · exact q3 j j1 (by omega)
        · rw [List.mem_singleton.1 hb]
          exact hp3 a ha (f, c) (List.mem_singleton.2 rfl)
      · rw [if_neg h2]
        have hlt : ∀ r ∈ rnN m k, r.1 + r.2 < k := fun r hr => by
          obtain ⟨q1, q2, q3, q4⟩ := ih.each r hr
          rcases Nat.lt_or_ge (r.1 + r.2) k with h | h
          · exact h
          · exact absurd (by have := q3 (k - 1) (by omega) (by omega); rwa [show ((k - 1 : Nat) : Int) = (k : Int) - 1 by omega] at this) h2
        refine ⟨fun r hr => ?_, List.pairwise_append.2 ⟨ih.rise, List.pairwise_singleton _ _, fun a ha b hb => ?_⟩⟩
        · rcases List.mem_append.1 hr with hA | hA
          · obtain ⟨q1, q2, q3, q4⟩ := ih.each r hA
            exact ⟨q1, by omega, q3, fun _ => q4 (hlt r hA)⟩
          · rw [List.mem_singleton.1 hA]
            refine ⟨by omega, by simp only; omega, fun j j1 j2 => ?_, fun h => by simp only at h; omega⟩
            simp only at j1 j2
            rw [show j = k by omega]; exact h1
        · rw [List.mem_singleton.1 hb]
          exact hlt a ha
    · rw [if_neg h1]
      refine ⟨fun r hr => ?_, ih.rise⟩
      obtain ⟨q1, q2, q3, q4⟩ := ih.each r hr
      refine ⟨q1, by omega, q3, fun _ => ?_⟩
      rcases Nat.lt_or_ge (r.1 + r.2) k with h | h
      · exact q4 h
      · rw [show r.1 + r.2 = k by omega]; simpa using h1
/-- how many the first i runs hold -/
def cntR (l : List (Nat × Nat)) (i : Nat) : Nat := (expand (l.take i)).length
theorem cntR_zero (l : List (Nat × Nat)) : cntR l 0 = 0 := rfl
theorem cntR_step (l : List (Nat × Nat)) (i : Nat) (hi : i < l.length) : cntR l (i + 1) = cntR l i + l[i].2 := by
  unfold cntR
  rw [← List.take_append_getElem hi, expand_snoc, List.length_append, List.length_range']
theorem cntR_le (l : List (Nat × Nat)) (i : Nat) : cntR l i ≤ cntR l l.length := by
  unfold cntR expand
  rw [List.take_length]
  conv => rhs; rw [← List.take_append_drop i l, List.flatMap_append, List.length_append]
  omega
/-- where the run ahead of i ends, or -1 -/
def lastR (l : List (Nat × Nat)) : Nat → Int
  | 0 => -1
  | i + 1 => match l[i]? with | some r => ((r.1 + r.2 : Nat) : Int) | none => -1
theorem lastR_step (l : List (Nat × Nat)) (i : Nat) (hi : i < l.length) : lastR l (i + 1) = ((l[i].1 + l[i].2 : Nat) : Int) := by
  simp only [lastR, List.getElem?_eq_getElem hi]
theorem lastR_lt {m : Im} {k : Nat} {l : List (Nat × Nat)} (h : RnOk m k l) (i : Nat) (hi : i < l.length) : lastR l i < (l[i].1 : Int) := by
  cases i with
  | zero => show (-1 : Int) < _; omega
  | succ i =>
    rw [lastR_step l i (by omega)]
    have := List.pairwise_iff_getElem.1 h.rise i (i + 1) (by omega) hi (by omega)
    omega
theorem has_used (m : Im) : ((List.range m.n).filter (fun i : Nat => m.has (i : Int))).length = m.used := by
  unfold Im.used
  congr 1
theorem cntR_all (m : Im) : cntR (rnN m m.n) (rnN m m.n).length = m.used := by
  unfold cntR
  rw [List.take_length, expand_rn, has_used]
def cntH (m : Im) (k : Nat) : Nat := ((List.range k).filter (fun i : Nat => m.has (i : Int))).length
theorem cntH_step (m : Im) (k : Nat) : cntH m (k + 1) = cntH m k + (if m.has (k : Int) = true then 1 else 0) := by
  unfold cntH
  rw [List.range_succ, List.filter_append, List.length_append]
  congr 1
  by_cases h : m.has (k : Int) = true <;> simp [h]
theorem cntH_le (m : Im) (k : Nat) : cntH m k ≤ k := by
  unfold cntH
  exact Nat.le_trans (List.length_filter_le _ _) (by simp)
/-- all that is said of the run i -/
theorem rn_at {m : Im} (hw : m.Wf) (i : Nat) (hi : i < (rnN m m.n).length) :
    1 ≤ (rnN m m.n)[i].2 ∧ (rnN m m.n)[i].1 + (rnN m m.n)[i].2 ≤ 256 ∧ lastR (rnN m m.n) i < ((rnN m m.n)[i].1 : Int) ∧ (∀ j : Nat, (rnN m m.n)[i].1 ≤ j → j < (rnN m m.n)[i].1 + (rnN m m.n)[i].2 → m.has (j : Int) = true) ∧ m.has (((rnN m m.n)[i].1 + (rnN m m.n)[i].2 : Nat) : Int) = false := by
  have h := rn_ok m m.n
  obtain ⟨q1, q2, q3, q4⟩ := h.each _ (List.getElem_mem hi)
  refine ⟨q1, Nat.le_trans q2 hw.most, lastR_lt h i hi, q3, ?_⟩
  rcases Nat.lt_or_ge ((rnN m m.n)[i].1 + (rnN m m.n)[i].2) m.n with h1 | h1
  · exact q4 h1
  · generalize (rnN m m.n)[i].1 + (rnN m m.n)[i].2 = x at *
    cases hf : m.f x with
    | none => unfold Im.has; simp [hf]
    | some l => have := (hw.each x l hf).1; omega
/-- where the run i lies -/
theorem ns_at {w : World} {base : Nat} {v : Value} {T : List Tn} {l : List (Nat × Nat)} (h : NsOwn w base v T) (hT : T.map (·.1) = l) : ∃ a cap, v = .slice a l.length cap ∧ l.length ≤ cap ∧ ∀ i (hi : i < l.length), ∃ q k, a = some ⟨q, 0, none⟩ ∧ w.cell? ⟨q, i, none⟩ = some (.slice (some ⟨k, 0, none⟩) 2 2) ∧ w.cell? ⟨k, 0, none⟩ = some (.int .i64 (l[i].1 : Int)) ∧ w.cell? ⟨k, 1, none⟩ = some (.int .i64 (l[i].2 : Int)) := by
  subst hT
  obtain ⟨h1, ⟨h2, h3⟩ | ⟨g, cap, cur, rfl, hb, hh, hc, hm, hs, ht⟩⟩ := h.own
  · refine ⟨none, 0, by rw [h2, List.length_map, h3], by rw [List.length_map]; omega, fun i hi => ?_⟩
    rw [List.length_map] at hi; omega
  · refine ⟨_, cap, by rw [List.length_map], by rw [List.length_map]; exact hc, fun i hi => ?_⟩
    rw [List.length_map] at hi
    obtain ⟨e1, e2⟩ := h.each _ (List.getElem_mem hi)
    refine ⟨g, T[i].2, rfl, ?_, ?_, ?_⟩
    · rw [World.ownsRow.cellAt h.own i (by omega)]
      unfold nsV
      rw [List.getElem?_map, List.getElem?_eq_getElem hi]; rfl
    · have := e2.cell (by simp [maxLen]) 0 (by simp)
      simpa using this
    · have := e2.cell (by simp [maxLen]) 1 (by simp)
      simpa using this
end Go.Proofs.Ytfiidcfpkodlpaa

