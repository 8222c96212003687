/- Where entries of another log are joined: no Go. -/
import Derived.Test.YtehbolkjgiedbaaEnL2
namespace Go.Proofs.Ytehbolkjgiedbaa
open Go.RowKit Go.Shelf
set_option linter.unusedVariables false

theorem beg_first (m : Lm) : m.begB ((m.fl : Int) + 1) = true := by unfold Lm.begB; rw [decide_eq_true rfl]; rfl
/-- where one goes back to lies one run ahead -/
theorem backK_run (m : Lm) (k : Nat) (h : 1 ≤ k) : ∃ k' : Nat, k' < k ∧ m.backK k = (m.fl : Int) + k' ∧ (m.runK k').length + 1 = (m.runK k).length := by
  induction k with
  | zero => omega
  | succ k ih =>
    have hb : m.backK (k + 1) = if m.begB ((m.fl : Int) + (k + 1 : Nat)) = true then (m.fl : Int) + k else m.backK k := rfl
    have hr : m.runK (k + 1) = if m.begB ((m.fl : Int) + (k + 1 : Nat)) = true then m.runK k ++ [((m.fl : Int) + (k + 1 : Nat), m.term ((m.fl : Int) + (k + 1 : Nat)))] else m.runK k := rfl
    by_cases hg : m.begB ((m.fl : Int) + (k + 1 : Nat)) = true
    · rw [if_pos hg] at hb hr
      exact ⟨k, by omega, hb, by rw [hr]; simp⟩
    · rw [if_neg hg] at hb hr
      have hk : 1 ≤ k := by
        rcases Nat.eq_zero_or_pos k with e | e
        · exfalso
          subst e
          have := beg_first m
          exact hg (by rw [show (m.fl : Int) + ((0 + 1 : Nat) : Int) = (m.fl : Int) + 1 by omega]; exact this)
        · exact e
      obtain ⟨k', h1, h2, h3⟩ := ih hk
      exact ⟨k', by omega, by rw [hb, h2], by rw [hr, h3]⟩
theorem upto_tt {m : Lm} {k : Nat} (hk : k ≤ m.l.length) : (m.upto k).tt = m.term ((m.fl : Int) + k) := by
  unfold Lm.tt Lm.top
  have hul : (m.upto k).l.length = k := by show (m.l.take k).length = k; rw [List.length_take]; omega
  have huf : (m.upto k).fl = m.fl := rfl
  rw [hul, huf]
  cases k with
  | zero => rw [(Lm.part_fl (m := m.upto 0) (by show _ = ((m.fl : Nat) : Int); omega)).2, (Lm.part_fl (m := m) (by omega)).2]; rfl
  | succ k =>
    rw [(Lm.part_in (m := m.upto (k + 1)) (i := k) (by omega) (by show _ = ((m.fl : Nat) : Int) + _ + 1; omega)).2, (Lm.part_in (m := m) (i := k) (by omega) (by omega)).2]
    simp only [Lm.upto, List.getElem_take]
theorem good_drop {m : Lm} (hw : m.Wf) {k : Nat} (hk : k ≤ m.l.length) : goodB (m.term ((m.fl : Int) + k)) (m.l.drop k) = true := by
  have hg := hw.good
  have e0 : m.l = m.l.take k ++ m.l.drop k := (List.take_append_drop k m.l).symm
  rw [e0, goodB_append, Bool.and_eq_true] at hg
  have e1 : lastT m.ft (m.l.take k) = m.term ((m.fl : Int) + k) := by rw [← upto_tt hk, (m.upto k).tt_eq]; rfl
  rw [← e1]; exact hg.2
theorem good_take {t : Int} {l : List Ent} (h : goodB t l = true) (q : Nat) : goodB t (l.take q) = true := by
  have e0 : l = l.take q ++ l.drop q := (List.take_append_drop q l).symm
  rw [e0, goodB_append, Bool.and_eq_true] at h
  exact h.1
theorem skip_holds (m : Lm) (p : Int) (l : List Ent) (i : Nat) (hi : i < m.skip p l) : ∃ hl : i < l.length, m.holdsB (p + i + 1) l[i].2.1 = true := by
  induction l generalizing p i with
  | nil => unfold Lm.skip at hi; omega
  | cons e l ih =>
    unfold Lm.skip at hi
    split at hi
    · rename_i hh
      cases i with
      | zero => exact ⟨by simp, by simpa using hh⟩
      | succ i =>
        obtain ⟨h1, h2⟩ := ih (p + 1) i (by omega)
        refine ⟨by simpa using h1, ?_⟩
        rw [show p + ((i + 1 : Nat) : Int) + 1 = p + 1 + i + 1 by omega]
        simpa using h2
    · omega
theorem low_zero {m : Lm} {n : Int} (h : (m.fl : Int) ≤ n) : m.low n = 0 := by unfold Lm.low; omega
theorem pass_eq {m : Lm} {n : Int} (h : (m.fl : Int) ≤ n) (l : List Ent) : m.pass n l = m.skip n l := by
  have e := low_zero h
  unfold Lm.pass
  rw [e]; simp
/-- what is left behind a part of another log is good -/
theorem joins_ok {m h : Lm} (hm : m.Wf) (hh : h.Wf) (hf : m.fl = h.fl) {k q : Nat} (hk : k ≤ h.l.length) (hold : m.holdsB ((m.fl : Int) + k) (h.term ((m.fl : Int) + k)) = true) :
    m.meetsB ((m.fl : Int) + k) (h.term ((m.fl : Int) + k)) ((h.l.drop k).take q).length = true ∧ (m.pass ((m.fl : Int) + k) ((h.l.drop k).take q) < ((h.l.drop k).take q).length → m.fits ((m.fl : Int) + k) ((h.l.drop k).take q)) := by
  have hin := holds_has hold
  refine ⟨(show m.meetsB _ _ _ = m.holdsB _ _ from if_neg (by omega)).trans hold, fun hlt => ?_⟩
  obtain ⟨P, hP⟩ : ∃ P, P = m.pass ((m.fl : Int) + k) ((h.l.drop k).take q) := ⟨_, rfl⟩
  have hP2 := hP
  rw [pass_eq (by omega)] at hP2
  unfold Lm.fits
  rw [← hP] at hlt ⊢
  have hll : ((h.l.drop k).take q).length ≤ h.l.length - k := by rw [List.length_take, List.length_drop]; omega
  have hfu := hh.full
  have ep : ((m.fl : Int) + k + P - m.fl).toNat = k + P := by omega
  rw [ep]
  -- the place up to which it is passed has the other log's term
  have hterm : (m.hasB ((m.fl : Int) + (k + P : Nat)) = true) ∧ m.term ((m.fl : Int) + (k + P : Nat)) = h.term ((h.fl : Int) + (k + P : Nat)) := by
    rcases Nat.eq_zero_or_pos P with e | e
    · rw [e]
      unfold Lm.holdsB at hold
      rw [Bool.and_eq_true] at hold
      exact ⟨hold.1, by rw [← hf]; exact of_decide_eq_true hold.2⟩
    · obtain ⟨hl, hs⟩ := skip_holds m ((m.fl : Int) + k) ((h.l.drop k).take q) (P - 1) (by omega)
      have ee : (m.fl : Int) + k + ((P - 1 : Nat) : Int) + 1 = (m.fl : Int) + (k + P : Nat) := by omega
      rw [ee] at hs
      unfold Lm.holdsB at hs
      rw [Bool.and_eq_true] at hs
      refine ⟨hs.1, (of_decide_eq_true hs.2).trans ?_⟩
      rw [(Lm.part_in (m := h) (i := k + (P - 1)) (by omega) (by omega)).2]
      simp only [List.getElem_take, List.getElem_drop]
  have hkm : k + P ≤ m.l.length := by have := of_decide_eq_true hterm.1; omega
  refine ⟨by rw [List.length_drop]; omega, ?_⟩
  rw [upto_tt hkm, hterm.2]
  have e1 : ((h.l.drop k).take q).drop P = (h.l.drop (k + P)).take (q - P) := by rw [List.drop_take, List.drop_drop]
  rw [e1]
  exact good_take (good_drop hh (by omega)) _
end Go.Proofs.Ytehbolkjgiedbaa
