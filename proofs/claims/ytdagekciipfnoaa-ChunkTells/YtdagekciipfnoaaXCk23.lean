/- The walk of ChunkTells. -/
import Derived.Test.YtdagekciipfnoaaXCk21
import Derived.Test.YtdagekciipfnoaaXCk22
import Derived.Test.YtdagekciipfnoaaXSumC
import Derived.Deep.CutRange
namespace Go.Proofs.Ytdagekciipfnoaa
open Go.RowKit Go.Shelf
set_option linter.unusedVariables false
set_option linter.unusedSimpArgs false
set_option maxRecDepth 4000

theorem Row.first {w : World} {a : Option Addr} {l : List (BitVec 8)} (h : Row w a l) (k : Nat) : Row w a (l.take k) := by
  rcases h with rfl | ⟨x, o, rfl, h⟩
  · rw [List.take_nil]; exact .inl rfl
  · refine .inr ⟨x, o, rfl, fun i hi => ?_⟩
    rw [List.length_take] at hi
    rw [h i (by omega)]
    unfold bt
    rw [List.getD, List.getD, List.getElem?_take_of_lt (by omega)]
/-- the piece's bytes, some of which were turned: bits at t and on, those of the mask y -/
structure Tn (H : List (BitVec 8)) (T : List (BitVec 8)) (n t : Nat) (y : BitVec 32) (L : List (BitVec 8)) : Prop where
  ex : ∃ A d, L = A ++ (be 2 (BitVec.ofNat 64 d.length) ++ d) ++ T ∧ A.length = 16 ∧ d.length = n ∧ Crc.sum (A ++ (be 2 (BitVec.ofNat 64 d.length) ++ d)) = Crc.sum H ^^^ Crc.Sn (8 * (18 + n) - t) y
/-- how many bits from t on may be turned -/
def mOf (n t : Nat) : Nat := if t < 128 then 128 - t else 8 * (18 + n) - t
theorem Tn.turn {H T L : List (BitVec 8)} {n t k : Nat} {y : BitVec 32} (h : Tn H T n t y L) (ht : t < 128 ∨ (144 ≤ t ∧ t < 8 * (18 + n))) (hk : k < 32) (hm : k < mOf n t) :
    Tn H T n t (y ^^^ BitVec.twoPow 32 k) (L.set ((t + k) / 8) (L.getD ((t + k) / 8) 0#8 ^^^ (1#8 <<< ((t + k) % 8)))) := by
  obtain ⟨A, d, rfl, hA, rfl, hs⟩ := h.ex
  have hb := be_length 2 (BitVec.ofNat 64 d.length) (by omega)
  have hXl : (A ++ (be 2 (BitVec.ofNat 64 d.length) ++ d)).length = 18 + d.length := by simp only [List.length_append, hA, hb]; omega
  have hlt : t + k < 8 * (18 + d.length) := by unfold mOf at hm; split at hm <;> omega
  have hst := Crc.sum_turn (A ++ (be 2 (BitVec.ofNat 64 d.length) ++ d)) t k hk (by rw [hXl]; exact hlt)
  rw [hXl, hs, BitVec.xor_assoc, ← Crc.Sn_xor] at hst
  have hgd : (A ++ (be 2 (BitVec.ofNat 64 d.length) ++ d) ++ T).getD ((t + k) / 8) 0#8 = (A ++ (be 2 (BitVec.ofNat 64 d.length) ++ d)).getD ((t + k) / 8) 0#8 := by
    rw [List.getD, List.getD, List.getElem?_append_left (by rw [hXl]; omega)]
  rw [hgd, List.set_append_left _ _ (by rw [hXl]; omega)]
  generalize (A ++ (be 2 (BitVec.ofNat 64 d.length) ++ d)).getD ((t + k) / 8) 0#8 ^^^ (1#8 <<< ((t + k) % 8)) = c at *
  rcases Nat.lt_or_ge t 128 with h1 | h1
  · have hq : (t + k) / 8 < 16 := by unfold mOf at hm; rw [if_pos h1] at hm; omega
    have e : (A ++ (be 2 (BitVec.ofNat 64 d.length) ++ d)).set ((t + k) / 8) c = A.set ((t + k) / 8) c ++ (be 2 (BitVec.ofNat 64 d.length) ++ d) := List.set_append_left _ _ (by omega)
    rw [e] at hst ⊢
    exact ⟨_, d, rfl, by rw [List.length_set]; exact hA, rfl, hst⟩
  · have hq : 18 ≤ (t + k) / 8 := by omega
    have e : (A ++ (be 2 (BitVec.ofNat 64 d.length) ++ d)).set ((t + k) / 8) c = A ++ (be 2 (BitVec.ofNat 64 d.length) ++ d.set ((t + k) / 8 - 18) c) := by
      rw [List.set_append_right _ _ (by omega), hA, List.set_append_right _ _ (by omega), hb, Nat.sub_sub]
    have e2 : (d.set ((t + k) / 8 - 18) c).length = d.length := List.length_set
    rw [e] at hst ⊢
    exact ⟨A, d.set ((t + k) / 8 - 18) c, by rw [e2], hA, e2, by rw [e2]; exact hst⟩
theorem Tn.refused {H T L : List (BitVec 8)} {n t : Nat} {y : BitVec 32} (h : Tn H T n t y L) (hn : n ≤ 4096) (hT : T = be 4 (BitVec.ofInt 64 ((Crc.sum H).toNat : Int))) (hy : y ≠ 0#32) : dcE L = 12 := by
  obtain ⟨A, d, rfl, hA, hd, hs⟩ := h.ex
  refine dcE_turned hA (by omega) hT ?_
  intro e
  have := Crc.turned _ _ _ _ hs
  rw [decide_eq_true e, Eq.comm, decide_eq_true_eq] at this
  exact hy this
theorem Tn.len {H T L : List (BitVec 8)} {n t : Nat} {y : BitVec 32} (h : Tn H T n t y L) (hT : T.length = 4) : L.length = 22 + n := by
  obtain ⟨A, d, rfl, hA, hd, hs⟩ := h.ex
  have hb := be_length 2 (BitVec.ofNat 64 d.length) (by omega)
  simp only [List.length_append, hA, hT, hb]
  omega
theorem Tn.start (id num cnt : Int) (s : BitVec 32) (d : List (BitVec 8)) (t : Nat) : Tn (pcH id num cnt s d) (be 4 (BitVec.ofInt 64 ((Crc.sum (pcH id num cnt s d)).toNat : Int))) d.length t 0#32 (pcB id num cnt s d) := by
  refine ⟨be 8 (BitVec.ofInt 64 id) ++ be 2 (BitVec.ofInt 64 num) ++ be 2 (BitVec.ofInt 64 cnt) ++ be 4 (BitVec.ofInt 64 (s.toNat : Int)), d, rfl, ?_, rfl, ?_⟩
  · simp only [List.length_append, be_length _ _ (show 8 ≤ 8 by omega), be_length _ _ (show 2 ≤ 8 by omega), be_length _ _ (show 4 ≤ 8 by omega)]
  · rw [Crc.Sn_zero, BitVec.xor_zero]; rfl
end Go.Proofs.Ytdagekciipfnoaa

