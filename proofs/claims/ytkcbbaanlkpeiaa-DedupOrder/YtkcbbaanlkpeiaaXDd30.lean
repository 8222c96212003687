/- Answers in any order make the same table: no Go. -/
import Derived.Test.YtkcbbaanlkpeiaaXDd25
namespace Go.Proofs.Ytkcbbaanlkpeiaa
open Go.RowKit
set_option linter.unusedVariables false
set_option linter.unusedSimpArgs false

/-- a call: its kind, nexus and number; the answer's numbers; its data, where they lie -/
structure Or where
  kd : Int
  q : Int
  n : Int
  a : Int
  b : Int
  c : Int
  d : Int
  l : List (BitVec 8)
  x : Option Addr
  cp : Nat
def Or.an (r : Or) : An := (r.q, r.n, str (prB r.a r.b r.c r.d r.l))
def Or.e (r : Or) : Int := prE r.a r.b r.c r.d r.l.length
theorem rise_ext : ∀ {l l' : List An}, Rise l → Rise l' → (∀ a, a ∈ l ↔ a ∈ l') → l = l'
  | [], [], _, _, _ => rfl
  | [], b :: u, _, _, h => absurd ((h b).2 (by simp)) (by simp)
  | a :: t, [], _, _, h => absurd ((h a).1 (by simp)) (by simp)
  | a :: t, b :: u, hl, hl', h => by
    have h1 := List.pairwise_cons.1 hl
    have h2 := List.pairwise_cons.1 hl'
    have e : a = b := by
      rcases List.mem_cons.1 ((h a).1 (by simp)) with e | e
      · exact e
      · rcases List.mem_cons.1 ((h b).2 (by simp)) with e' | e'
        · exact e'.symm
        · have := h2.1 a e
          have := h1.1 b e'
          omega
    subst e
    rw [rise_ext h1.2 h2.2 (fun x => ?_)]
    constructor
    · intro hx
      rcases List.mem_cons.1 ((h x).1 (by simp [hx])) with e | e
      · have := h1.1 x hx; rw [e] at this; omega
      · exact e
    · intro hx
      rcases List.mem_cons.1 ((h x).2 (by simp [hx])) with e | e
      · have := h2.1 x hx; rw [e] at this; omega
      · exact e
/-- just these answers are kept, none has gone -/
structure Repr12 (ms : Ms) (P : List Or) (N : Nat) : Prop where
  len : ms.length = 16
  zero : ∀ q, q < 16 → (ms.getD q (0, [])).1 = 0
  rise : ∀ q, q < 16 → Rise (ms.getD q (0, [])).2
  mem : ∀ q, q < 16 → ∀ a, a ∈ (ms.getD q (0, [])).2 ↔ ∃ r ∈ P, r.q = (q : Int) ∧ a = r.an
  few : ∀ q, q < 16 → (ms.getD q (0, [])).2.length ≤ N
theorem Repr12.eq {ms ms' : Ms} {P : List Or} {N N' : Nat} (h : Repr12 ms P N) (h' : Repr12 ms' P N') : ms = ms' := by
  apply List.ext_getElem?
  intro i
  by_cases hi : i < 16
  · have e1 : ms.getD i (0, []) = ms'.getD i (0, []) := by
      refine Prod.ext (by rw [h.zero i hi, h'.zero i hi]) (rise_ext (h.rise i hi) (h'.rise i hi) (fun a => ?_))
      rw [h.mem i hi, h'.mem i hi]
    have l1 : i < ms.length := by rw [h.len]; exact hi
    have l2 : i < ms'.length := by rw [h'.len]; exact hi
    rw [List.getD, List.getD, List.getElem?_eq_getElem l1, List.getElem?_eq_getElem l2] at e1
    rw [List.getElem?_eq_getElem l1, List.getElem?_eq_getElem l2]
    exact congrArg some e1
  · rw [List.getElem?_eq_none (by rw [h.len]; omega), List.getElem?_eq_none (by rw [h'.len]; omega)]
theorem Repr12.congr {ms : Ms} {P P' : List Or} {N : Nat} (h : Repr12 ms P N) (he : ∀ r, r ∈ P ↔ r ∈ P') : Repr12 ms P' N :=
  ⟨h.len, h.zero, h.rise, fun q hq a => by rw [h.mem q hq]; exact ⟨fun ⟨r, h1, h2⟩ => ⟨r, (he r).1 h1, h2⟩, fun ⟨r, h1, h2⟩ => ⟨r, (he r).2 h1, h2⟩⟩, h.few⟩
theorem putE_0 {ms : Ms} {q n E : Int} (h : putE ms q n E = 0) : canP q n = true ∧ E = 0 ∧ frB (ms.getD q.toNat (0, [])) n = true := by
  unfold putE at h
  by_cases h1 : canP q n = true
  · rw [if_pos h1] at h
    by_cases h2 : E = 0
    · rw [if_pos h2] at h
      by_cases h3 : frB (ms.getD q.toNat (0, [])) n = true
      · exact ⟨h1, h2, h3⟩
      · rw [if_neg h3] at h; cases h
    · rw [if_neg h2] at h; exact absurd h h2
  · rw [if_neg h1] at h; cases h
theorem repr_put {ms : Ms} {P : List Or} {N : Nat} {r : Or} (h : Repr12 ms P N) (hN : N < 64) (he : putE ms r.q r.n r.e = 0) : Repr12 (putTo ms r.q r.n (prB r.a r.b r.c r.d r.l) (putE ms r.q r.n r.e)) (r :: P) (N + 1) ∧ ∀ r' ∈ P, ¬ (r'.q = r.q ∧ r'.n = r.n) := by
  obtain ⟨hc, hE, hf⟩ := putE_0 he
  obtain ⟨k, hk, hk16, hn1, hn2⟩ := canP_nat hc
  have hkn : r.q.toNat = k := by omega
  rw [hkn] at hf
  unfold frB at hf
  simp only [Bool.and_eq_true, decide_eq_true_eq, List.all_eq_true] at hf
  have hl : k < ms.length := by rw [h.len]; exact hk16
  have hfew := h.few k hk16
  have hm : mput (ms.getD k (0, [])) (r.q, r.n, str (prB r.a r.b r.c r.d r.l)) = (0, insA (ms.getD k (0, [])).2 r.an) := by
    unfold mput
    rw [if_neg (by rw [insA_len]; omega), h.zero k hk16]
    rfl
  have get : ∀ q, (ms.set k (0, insA (ms.getD k (0, [])).2 r.an)).getD q (0, []) = if q = k then (0, insA (ms.getD k (0, [])).2 r.an) else ms.getD q (0, []) := fun q => by
    by_cases e : q = k
    · subst e; rw [if_pos rfl, List.getD, List.getElem?_set_self hl]; rfl
    · rw [if_neg e, List.getD, List.getElem?_set_ne (fun e' => e e'.symm)]; rfl
  constructor
  · unfold putTo
    rw [if_pos he, hkn, hm]
    refine ⟨by rw [List.length_set]; exact h.len, fun q hq => ?_, fun q hq => ?_, fun q hq a => ?_, fun q hq => ?_⟩
    · rw [get]; split
      · rfl
      · exact h.zero q hq
    · rw [get]; split
      · exact rise_insA (h.rise k hk16) (fun a ha => hf.2 a ha)
      · exact h.rise q hq
    · rw [get]
      by_cases e : q = k
      · subst e
        rw [if_pos rfl]
        simp only [mem_insA, List.mem_cons]
        constructor
        · rintro (rfl | ha)
          · exact ⟨r, .inl rfl, hk, rfl⟩
          · obtain ⟨r', h1, h2⟩ := (h.mem q hq a).1 ha
            exact ⟨r', .inr h1, h2⟩
        · rintro ⟨r', rfl | h1, h2, h3⟩
          · exact .inl h3
          · exact .inr ((h.mem q hq a).2 ⟨r', h1, h2, h3⟩)
      · rw [if_neg e, h.mem q hq]
        constructor
        · rintro ⟨r', h1, h2⟩
          exact ⟨r', by simp [h1], h2⟩
        · rintro ⟨r', h1, h2, h3⟩
          rcases List.mem_cons.1 h1 with rfl | h1
          · exfalso; omega
          · exact ⟨r', h1, h2, h3⟩
    · rw [get]; split
      · rw [insA_len]; omega
      · have := h.few q hq; omega
  · rintro r' hr' ⟨e1, e2⟩
    have ha : r'.an ∈ (ms.getD k (0, [])).2 := (h.mem k hk16 _).2 ⟨r', hr', by omega, rfl⟩
    exact hf.2 _ ha e2
theorem repr_can {ms : Ms} {P : List Or} {N : Nat} {r : Or} (h : Repr12 ms P N) (hc : canP r.q r.n = true) (hE : r.e = 0) (hno : ∀ r' ∈ P, ¬ (r'.q = r.q ∧ r'.n = r.n)) : putE ms r.q r.n r.e = 0 := by
  obtain ⟨k, hk, hk16, hn1, hn2⟩ := canP_nat hc
  have hkn : r.q.toNat = k := by omega
  unfold putE
  rw [if_pos hc, if_pos hE, hkn, if_pos]
  unfold frB
  simp only [Bool.and_eq_true, decide_eq_true_eq, List.all_eq_true]
  refine ⟨by rw [h.zero k hk16]; omega, fun a ha e => ?_⟩
  obtain ⟨r', h1, h2, rfl⟩ := (h.mem k hk16 a).1 ha
  exact hno r' h1 ⟨by omega, e⟩
theorem repr_new : Repr12 (fsm nx0) [] 0 := by
  have e : ∀ q, q < 16 → (fsm nx0).getD q (0, []) = (0, []) := fun q hq => by
    unfold fsm nx0
    rw [List.getD, List.getElem?_map, List.getElem?_replicate, if_pos hq]
    rfl
  exact ⟨by simp [fsm, nx0], fun q hq => by rw [e q hq], fun q hq => by rw [e q hq]; exact List.Pairwise.nil, fun q hq a => by rw [e q hq]; simp, fun q hq => by rw [e q hq]; simp⟩
end Go.Proofs.Ytkcbbaanlkpeiaa

