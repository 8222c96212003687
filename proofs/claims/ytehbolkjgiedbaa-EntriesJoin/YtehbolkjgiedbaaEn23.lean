/- What comes of entries that are joined: no Go. -/
import Derived.Test.YtehbolkjgiedbaaEn22
namespace Go.Proofs.Ytehbolkjgiedbaa
open Go.RowKit Go.Shelf
set_option linter.unusedVariables false

def trm (l : List Ent) : List Int := l.map (fun e : Ent => e.2.1)
theorem trm_append (a b : List Ent) : trm (a ++ b) = trm a ++ trm b := List.map_append
theorem trm_len (a : List Ent) : (trm a).length = a.length := List.length_map _
theorem trm_take (a : List Ent) (n : Nat) : trm (a.take n) = (trm a).take n := List.map_take
/-- two logs have the same terms up to a place -/
structure Alike (X h : Lm) (n : Nat) : Prop where
  lx : n ≤ X.l.length
  lh : n ≤ h.l.length
  eq : (trm X.l).take n = (trm h.l).take n
  fl : X.fl = 0 ∧ h.fl = 0
  ft : X.ft = h.ft
theorem alike_at {X h : Lm} {n : Nat} (a : Alike X h n) {i : Nat} (hi : i < n) : ∃ (h1 : i < X.l.length) (h2 : i < h.l.length), X.l[i].2.1 = h.l[i].2.1 := by
  have lx := a.lx
  have lh := a.lh
  refine ⟨by omega, by omega, ?_⟩
  have := congrArg (fun l => l[i]?) a.eq
  simp only [List.getElem?_take, if_pos hi] at this
  unfold trm at this
  rw [List.getElem?_map, List.getElem?_map, List.getElem?_eq_getElem (by omega), List.getElem?_eq_getElem (by omega)] at this
  exact Option.some.inj this
theorem alike_term {X h : Lm} {n : Nat} (a : Alike X h n) {k : Nat} (hk : k ≤ n) : X.term k = h.term k := by
  have hf := a.fl
  cases k with
  | zero => rw [(Lm.part_fl (m := X) (by rw [hf.1])).2, (Lm.part_fl (m := h) (by rw [hf.2])).2, a.ft]
  | succ k =>
    obtain ⟨h1, h2, e⟩ := alike_at a (i := k) (by omega)
    rw [(Lm.part_in (m := X) h1 (by rw [hf.1]; omega)).2, (Lm.part_in (m := h) h2 (by rw [hf.2]; omega)).2, e]
theorem alike_mk {X h : Lm} {n : Nat} (lx : n ≤ X.l.length) (lh : n ≤ h.l.length) (fl : X.fl = 0 ∧ h.fl = 0) (ft : X.ft = h.ft) (e : ∀ i (h1 : i < X.l.length) (h2 : i < h.l.length), i < n → X.l[i].2.1 = h.l[i].2.1) : Alike X h n := by
  refine ⟨lx, lh, List.ext_getElem? fun i => ?_, fl, ft⟩
  rw [List.getElem?_take, List.getElem?_take]
  split
  · rename_i hi
    unfold trm
    rw [List.getElem?_map, List.getElem?_map, List.getElem?_eq_getElem (by omega), List.getElem?_eq_getElem (by omega)]
    exact congrArg some (e i (by omega) (by omega) hi)
  · rfl
/-- all stand there already -/
theorem skip_all {X h : Lm} {p q : Nat} (a : Alike X h (p + ((h.l.drop p).take q).length)) : X.skip p ((h.l.drop p).take q) = ((h.l.drop p).take q).length := by
  have key : ∀ (D : List Ent) (p : Int), (∀ i (hi : i < D.length), X.holdsB (p + i + 1) D[i].2.1 = true) → X.skip p D = D.length := by
    intro D
    induction D with
    | nil => intro p _; rfl
    | cons e D ih =>
      intro p h
      unfold Lm.skip
      have h0 := h 0 (by simp)
      rw [if_pos (by simpa using h0), ih (p + 1) (fun i hi => ?_)]
      · simp
      · have := h (i + 1) (by simpa using hi)
        rw [show p + 1 + (i : Int) + 1 = p + ((i + 1 : Nat) : Int) + 1 by omega]
        simpa using this
  refine key _ _ (fun i hi => ?_)
  obtain ⟨h1, h2, e⟩ := alike_at a (i := p + i) (by omega)
  unfold Lm.holdsB Lm.hasB
  rw [(Lm.part_in (m := X) (i := p + i) h1 (by rw [a.fl.1]; omega)).2, decide_eq_true (p := (X.fl : Int) ≤ (p : Int) + i + 1 ∧ (p : Int) + i + 1 ≤ (X.fl : Int) + X.l.length) (by rw [a.fl.1]; omega), Bool.true_and]
  refine decide_eq_true ?_
  rw [e]
  simp only [List.getElem_take, List.getElem_drop]
/-- what there is of a log behind a joining -/
structure Joint (X h : Lm) (p : Nat) (D : List Ent) (f : Nat) : Prop where
  wf : X.Wf
  alike : Alike X h (p + D.length)
  part : 0 < f → p < f ∧ f ≤ p + D.length ∧ (X.l.drop (f - 1)).take (p + D.length) = (h.l.drop (f - 1)).take (p + D.length - f + 1) ∧ X.l.length = p + D.length
theorem take_same {α : Type} (L : List α) (a b : Nat) (h : (L.take a).length = b) : L.take b = L.take a := by
  rw [List.length_take] at h
  by_cases hc : a ≤ L.length
  · rw [show b = a by omega]
  · rw [List.take_of_length_le (by omega), List.take_of_length_le (by omega)]
/-- where all are passed over -/
theorem joint_same {m h : Lm} {p q : Nat} (hm : m.Wf) (a : Alike m h p) (hp : m.pass p ((h.l.drop p).take q) = ((h.l.drop p).take q).length) : Joint m h p ((h.l.drop p).take q) 0 := by
  refine ⟨hm, ?_, (fun h => by omega)⟩
  have hlh := a.lh
  have hl : ((h.l.drop p).take q).length ≤ h.l.length - p := by rw [List.length_take, List.length_drop]; omega
  rw [pass_eq (by rw [a.fl.1]; omega)] at hp
  have hs := fun i hi => skip_holds m p ((h.l.drop p).take q) i (by rw [hp]; exact hi)
  have hlm : p + ((h.l.drop p).take q).length ≤ m.l.length := by
    rcases Nat.eq_zero_or_pos ((h.l.drop p).take q).length with e | e
    · have := a.lx; omega
    · obtain ⟨_, hh⟩ := hs (((h.l.drop p).take q).length - 1) (by omega)
      have := holds_has hh
      rw [a.fl.1] at this
      omega
  refine alike_mk hlm (by omega) a.fl a.ft (fun i h1 h2 hi => ?_)
  by_cases hc : i < p
  · exact (alike_at a hc).2.2
  · obtain ⟨j, rfl⟩ : ∃ j, i = p + j := ⟨i - p, by omega⟩
    obtain ⟨hj, hh⟩ := hs j (by omega)
    unfold Lm.holdsB at hh
    rw [Bool.and_eq_true] at hh
    have ht := of_decide_eq_true hh.2
    rw [(Lm.part_in (m := m) (i := p + j) h1 (by rw [a.fl.1]; omega)).2] at ht
    rw [ht]
    simp only [List.getElem_take, List.getElem_drop]
/-- where some come in the place of others -/
theorem joint_new {m h : Lm} {p q : Nat} (hm : m.Wf) (a : Alike m h p) (hp : m.pass p ((h.l.drop p).take q) < ((h.l.drop p).take q).length) (hf : m.fits p ((h.l.drop p).take q)) : Joint (m.joined p ((h.l.drop p).take q)) h p ((h.l.drop p).take q) (p + m.pass p ((h.l.drop p).take q) + 1) := by
  obtain ⟨P, hP⟩ : ∃ P, P = m.pass p ((h.l.drop p).take q) := ⟨_, rfl⟩
  have hP2 := hP
  rw [pass_eq (by rw [a.fl.1]; omega)] at hP2
  have hlh := a.lh
  have hl : ((h.l.drop p).take q).length ≤ h.l.length - p := by rw [List.length_take, List.length_drop]; omega
  unfold Lm.fits at hf
  unfold Lm.joined
  rw [← hP] at hp hf ⊢
  have ep : ((p : Int) + P - m.fl).toNat = p + P := by rw [a.fl.1]; omega
  rw [ep] at hf ⊢
  have hs := fun i hi => skip_holds m p ((h.l.drop p).take q) i (by rw [← hP2]; exact hi)
  have hlm : p + P ≤ m.l.length := by
    rcases Nat.eq_zero_or_pos P with e | e
    · have := a.lx; omega
    · obtain ⟨_, hh⟩ := hs (P - 1) (by omega)
      have := holds_has hh
      rw [a.fl.1] at this
      omega
  have hul : (m.upto (p + P)).l.length = p + P := by show (m.l.take (p + P)).length = _; rw [List.length_take]; omega
  have hw := Lm.with_wf (Lm.upto_wf hm (p + P)) (by rw [hul]; exact hf.1) hf.2
  have hXl : ((m.upto (p + P)).with (((h.l.drop p).take q).drop P)).l = m.l.take (p + P) ++ ((h.l.drop p).take q).drop P := rfl
  have hXn : ((m.upto (p + P)).with (((h.l.drop p).take q).drop P)).l.length = p + ((h.l.drop p).take q).length := by rw [hXl, List.length_append, List.length_drop]; have : (m.l.take (p + P)).length = p + P := hul; omega
  refine ⟨hw, alike_mk (by omega) (by omega) a.fl a.ft (fun i h1 h2 hi => ?_), fun _ => ⟨by omega, by omega, ?_, hXn⟩⟩
  · simp only [hXl]
    by_cases hc : i < p + P
    · rw [List.getElem_append_left (by rw [show (m.l.take (p + P)).length = p + P from hul]; exact hc), List.getElem_take]
      by_cases hc2 : i < p
      · exact (alike_at a hc2).2.2
      · obtain ⟨j, rfl⟩ : ∃ j, i = p + j := ⟨i - p, by omega⟩
        obtain ⟨hj, hh⟩ := hs j (by omega)
        unfold Lm.holdsB at hh
        rw [Bool.and_eq_true] at hh
        have ht := of_decide_eq_true hh.2
        rw [(Lm.part_in (m := m) (i := p + j) (by omega) (by rw [a.fl.1]; omega)).2] at ht
        rw [ht]
        simp only [List.getElem_take, List.getElem_drop]
    · rw [List.getElem_append_right (by rw [show (m.l.take (p + P)).length = p + P from hul]; omega)]
      simp only [List.getElem_drop, List.getElem_take]
      congr 3
      rw [show (m.l.take (p + P)).length = p + P from hul]
      omega
  · have e1 : p + P + 1 - 1 = p + P := by omega
    rw [e1, hXl, List.drop_left' (show (m.l.take (p + P)).length = p + P from hul), List.take_of_length_le (by rw [List.length_drop]; omega)]
    have e2 : ((h.l.drop p).take q).drop P = (h.l.drop (p + P)).take (q - P) := by rw [List.drop_take, List.drop_drop]
    have e3 : ((h.l.drop (p + P)).take (q - P)).length = p + ((h.l.drop p).take q).length - (p + P + 1) + 1 := by rw [← e2, List.length_drop]; omega
    rw [e2]
    exact (take_same _ _ _ e3).symm
end Go.Proofs.Ytehbolkjgiedbaa
