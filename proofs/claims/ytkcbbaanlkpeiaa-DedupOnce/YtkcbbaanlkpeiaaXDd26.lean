/- What was put stays, or is gone: no Go. -/
import Derived.Test.YtkcbbaanlkpeiaaXDd25
namespace Go.Proofs.Ytkcbbaanlkpeiaa
open Go.RowKit
set_option linter.unusedVariables false
set_option linter.unusedSimpArgs false

/-- what is kept of the nexus of a number that was put -/
structure OnceI (N : Nat) (S : Int) (bs : List (BitVec 8)) (m : Int × List An) : Prop where
  rise : Rise m.2
  fl : ∀ a ∈ m.2, m.1 < a.2.1
  most : m.2.length ≤ 64
  st : ((N : Int), S, str bs) ∈ m.2 ∨ ((∀ a ∈ m.2, a.2.1 ≠ S) ∧ S ≤ m.1 ∧ m.2.length = 64)
theorem OnceI.not_fresh {N : Nat} {S : Int} {bs : List (BitVec 8)} {m : Int × List An} (h : OnceI N S bs m) : frB m S = false := by
  cases e : frB m S with
  | false => rfl
  | true =>
    exfalso
    unfold frB at e
    simp only [Bool.and_eq_true, decide_eq_true_eq, List.all_eq_true] at e
    rcases h.st with k | k
    · exact e.2 _ k rfl
    · have := k.2.1; omega
theorem once_put {N : Nat} {S : Int} {bs : List (BitVec 8)} {m : Int × List An} {x : An} (h : OnceI N S bs m) (hx : frB m x.2.1 = true) : OnceI N S bs (mput m x) := by
  have hne : x.2.1 ≠ S := fun e => by rw [e, h.not_fresh] at hx; cases hx
  unfold frB at hx
  simp only [Bool.and_eq_true, decide_eq_true_eq, List.all_eq_true] at hx
  have hr := rise_insA (x := x) h.rise hx.2
  have hl := insA_len m.2 x
  have hfl : ∀ a ∈ insA m.2 x, m.1 < a.2.1 := fun a ha => by
    rcases mem_insA.1 ha with rfl | ha
    · exact hx.1
    · exact h.fl a ha
  unfold mput
  split
  · rename_i hbig
    have hm := h.most
    generalize hL : insA m.2 x = L at *
    match L, hL with
    | [], hL => simp at hbig
    | y :: r, hL =>
      have hy := List.pairwise_cons.1 hr
      have hlr : r.length = 64 := by simp at hbig hl; omega
      refine ⟨hy.2, fun a ha => hy.1 a ha, by simp only [List.tail_cons]; omega, ?_⟩
      simp only [List.tail_cons, List.headD_cons]
      rcases h.st with k | ⟨k1, k2, k3⟩
      · have hin : ((N : Int), S, str bs) ∈ y :: r := by rw [← hL]; exact mem_insA.2 (.inr k)
        rcases List.mem_cons.1 hin with e | e
        · refine .inr ⟨fun a ha e' => ?_, ?_, hlr⟩
          · have := hy.1 a ha
            rw [← e, e'] at this
            simp only at this
            omega
          · rw [← e]; exact Int.le_refl _
        · exact .inl e
      · refine .inr ⟨fun a ha e' => ?_, ?_, hlr⟩
        · have hin : a ∈ insA m.2 x := by rw [hL]; exact List.mem_cons_of_mem _ ha
          rcases mem_insA.1 hin with rfl | q
          · exact hne e'
          · exact k1 a q e'
        · have := hfl y (by simp)
          omega
  · rename_i hbig
    refine ⟨hr, hfl, by simp only; omega, ?_⟩
    rcases h.st with k | ⟨k1, k2, k3⟩
    · exact .inl (mem_insA.2 (.inr k))
    · omega
theorem once_to {N : Nat} {S : Int} {bs bs' : List (BitVec 8)} {ms : Ms} {q n E : Int} (h : OnceI N S bs (ms.getD N (0, []))) : OnceI N S bs ((putTo ms q n bs' (putE ms q n E)).getD N (0, [])) ∧ ¬ (q = N ∧ n = S ∧ putE ms q n E = 0) := by
  constructor
  · by_cases e0 : putE ms q n E = 0
    · have hc : canP q n = true ∧ frB (ms.getD q.toNat (0, [])) n = true := by
        unfold putE at e0
        by_cases h1 : canP q n = true
        · rw [if_pos h1] at e0
          by_cases h2 : E = 0
          · rw [if_pos h2] at e0
            by_cases h3 : frB (ms.getD q.toNat (0, [])) n = true
            · exact ⟨h1, h3⟩
            · rw [if_neg h3] at e0; cases e0
          · rw [if_neg h2] at e0; exact absurd e0 h2
        · rw [if_neg h1] at e0; cases e0
      unfold putTo
      rw [if_pos e0]
      by_cases hq : q.toNat = N
      · rw [hq] at hc ⊢
        by_cases hl : N < ms.length
        · rw [show (ms.set N (mput (ms.getD N (0, [])) (q, n, str bs'))).getD N (0, []) = mput (ms.getD N (0, [])) (q, n, str bs') by
            rw [List.getD, List.getElem?_set_self hl]; rfl]
          exact once_put h hc.2
        · rw [List.set_eq_of_length_le (by omega)]; exact h
      · rw [show (ms.set q.toNat (mput (ms.getD q.toNat (0, [])) (q, n, str bs'))).getD N (0, []) = ms.getD N (0, []) by
          rw [List.getD, List.getElem?_set_ne hq]; rfl]
        exact h
    · unfold putTo
      rw [if_neg e0]
      exact h
  · rintro ⟨rfl, rfl, e0⟩
    unfold putE at e0
    rw [Int.toNat_natCast, h.not_fresh] at e0
    by_cases h1 : canP (N : Int) n = true
    · rw [if_pos h1] at e0
      by_cases h2 : E = 0
      · rw [if_pos h2] at e0; cases e0
      · rw [if_neg h2] at e0; exact h2 e0
    · rw [if_neg h1] at e0; cases e0
/-- the first one -/
theorem once_first {N : Nat} {S : Int} {bs : List (BitVec 8)} (hS : 1 ≤ S) (hN : N < 16) : OnceI N S bs ((putTo (fsm nx0) N S bs 0).getD N (0, [])) := by
  have e : (fsm nx0).getD N (0, []) = (0, []) := by
    unfold fsm nx0
    rw [List.getD, List.getElem?_map, List.getElem?_replicate, if_pos hN]
    rfl
  have hl : N < (fsm nx0).length := by unfold fsm nx0; simpa using hN
  unfold putTo
  rw [if_pos rfl, Int.toNat_natCast, e, List.getD, List.getElem?_set_self hl, Option.getD_some]
  have e2 : mput (0, []) ((N : Int), S, str bs) = (0, [((N : Int), S, str bs)]) := by
    unfold mput insA
    simp
  rw [e2]
  exact ⟨by simp [Rise], fun a ha => by simp at ha; rw [ha]; show (0 : Int) < S; omega, by simp, .inl (by simp)⟩
theorem putE_new (q n E : Int) : putE (fsm nx0) q n E = if canP q n = true then E else 1 := by
  unfold putE
  by_cases h1 : canP q n = true
  · rw [if_pos h1, if_pos h1]
    by_cases h2 : E = 0
    · obtain ⟨k, rfl, hk, h3, h4⟩ := canP_nat h1
      have e : (fsm nx0).getD (k : Int).toNat (0, []) = (0, []) := by
        unfold fsm nx0
        rw [Int.toNat_natCast, List.getD, List.getElem?_map, List.getElem?_replicate, if_pos hk]
        rfl
      rw [if_pos h2, e]
      have : frB (0, []) n = true := by unfold frB; simp; omega
      rw [if_pos this, h2]
    · rw [if_neg h2]
  · rw [if_neg h1, if_neg h1]
end Go.Proofs.Ytkcbbaanlkpeiaa

