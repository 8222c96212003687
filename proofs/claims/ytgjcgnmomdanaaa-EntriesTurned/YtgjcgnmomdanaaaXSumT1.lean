/- Bits that are turned, within 32 in a row: what they do to the sum. No Go in sight. -/
import Derived.Test.YtgjcgnmomdanaaaXCrc
namespace Go.Proofs.Ytgjcgnmomdanaaa.Crc

theorem low_one (j : Nat) (h : j < 8) : low (1#8 <<< j) = BitVec.twoPow 32 j := by
  have : ∀ j : Fin 8, low (1#8 <<< j.val) = BitVec.twoPow 32 j.val := by decide +kernel
  exact this ⟨j, h⟩
theorem Sn_two (i : Nat) (h : i < 32) : Sn i (BitVec.twoPow 32 i) = 1#32 := by
  have : ∀ i : Fin 32, Sn i.val (BitVec.twoPow 32 i.val) = 1#32 := by decide +kernel
  exact this ⟨i, h⟩

theorem run_turn (r : BitVec 32) (A : List (BitVec 8)) (c x : BitVec 8) (B : List (BitVec 8)) : run r (A ++ (c ^^^ x) :: B) = run r (A ++ c :: B) ^^^ Sn (8 * B.length) (Sn 8 (low x)) := by
  rw [run_append, run_append]
  show run (step (run r A) (c ^^^ x)) B = run (step (run r A) c) B ^^^ _
  have h := step_split (run r A) 0#32 c x
  rw [BitVec.xor_zero] at h
  rw [h, BitVec.xor_comm, run_split, BitVec.xor_comm]
  unfold step
  rw [BitVec.zero_xor]

theorem not_xor (a b : BitVec 32) : ~~~ (a ^^^ b) = ~~~ a ^^^ b := by
  rw [not_eq_xor, not_eq_xor a, BitVec.xor_assoc, BitVec.xor_comm b, BitVec.xor_assoc]

/-- one bit that is turned -/
theorem sum_turn (L : List (BitVec 8)) (at' i : Nat) (hi : i < 32) (h : at' + i < 8 * L.length) :
    sum (L.set ((at' + i) / 8) (L.getD ((at' + i) / 8) 0#8 ^^^ (1#8 <<< ((at' + i) % 8)))) = sum L ^^^ Sn (8 * L.length - at') (BitVec.twoPow 32 i) := by
  generalize hk : at' + i = k at *
  have hq : k / 8 < L.length := by omega
  have hL : L = L.take (k / 8) ++ L.getD (k / 8) 0#8 :: L.drop (k / 8 + 1) := by
    rw [List.getD, List.getElem?_eq_getElem hq]
    show L = L.take (k / 8) ++ L[k / 8] :: L.drop (k / 8 + 1)
    rw [← List.drop_eq_getElem_cons hq, List.take_append_drop]
  have hs : L.set (k / 8) (L.getD (k / 8) 0#8 ^^^ (1#8 <<< (k % 8))) = L.take (k / 8) ++ (L.getD (k / 8) 0#8 ^^^ (1#8 <<< (k % 8))) :: L.drop (k / 8 + 1) := List.set_eq_take_append_cons_drop .. |>.trans (if_pos hq)
  rw [hs]
  unfold sum more
  rw [run_turn, ← hL, not_xor]
  congr 1
  have e1 : Sn 8 (BitVec.twoPow 32 (k % 8)) = Sn (8 - k % 8) 1#32 := by
    rw [← Sn_two (k % 8) (by omega), ← Sn_add]
    congr 1
    omega
  have e2 : Sn (8 * L.length - at') (BitVec.twoPow 32 i) = Sn (8 * L.length - k) 1#32 := by
    rw [← Sn_two i hi, ← Sn_add]
    congr 1
    omega
  rw [low_one _ (by omega), e1, e2, ← Sn_add, List.length_drop]
  congr 1
  omega

/-- the first n of the bits -/
def mask (bits : BitVec 32) : Nat → BitVec 32
  | 0 => 0#32
  | n + 1 => mask bits n ^^^ (if bits.getLsbD n then BitVec.twoPow 32 n else 0#32)
theorem mask_bit (bits : BitVec 32) (n j : Nat) (hj : j < 32) : (mask bits n).getLsbD j = (decide (j < n) && bits.getLsbD j) := by
  induction n with
  | zero => simp [mask]
  | succ n ih =>
    show (mask bits n ^^^ _).getLsbD j = _
    rw [BitVec.getLsbD_xor, ih]
    by_cases h : n = j
    · subst h
      cases hb : bits.getLsbD n <;> simp [hj]
    · have : (if bits.getLsbD n then BitVec.twoPow 32 n else 0#32).getLsbD j = false := by
        cases bits.getLsbD n
        · simp
        · simp [BitVec.getLsbD_twoPow]; omega
      rw [this, Bool.xor_false]
      congr 1
      rw [decide_eq_decide]; omega
theorem mask_no (bits : BitVec 32) (n : Nat) (h : bits.getLsbD n = false) : mask bits (n + 1) = mask bits n := by
  show mask bits n ^^^ _ = _
  rw [h]; simp
theorem mask_yes (bits : BitVec 32) (n : Nat) (h : bits.getLsbD n = true) : mask bits (n + 1) = mask bits n ^^^ BitVec.twoPow 32 n := by
  show mask bits n ^^^ _ = _
  rw [h]; simp
theorem mask_any (bits : BitVec 32) (n : Nat) (hn : n < 32) (h : bits.getLsbD n = true) : mask bits (n + 1) ≠ 0#32 := by
  intro h0
  have := mask_bit bits (n + 1) n hn
  rw [h0, h] at this
  simp at this

/-- turned bits turn the sum -/
theorem turned (a b : BitVec 32) (M : Nat) (x : BitVec 32) (h : b = a ^^^ Sn M x) : decide (a = b) = decide (x = 0#32) := by
  rw [decide_eq_decide]
  constructor
  · intro e
    rw [h] at e
    have : Sn M x = 0#32 := by
      have h2 : a ^^^ a = a ^^^ (a ^^^ Sn M x) := by rw [← e]
      rw [← BitVec.xor_assoc, BitVec.xor_self, BitVec.zero_xor] at h2
      exact h2.symm
    exact Sn_inj_zero _ _ this
  · intro e
    rw [h, e, Sn_zero, BitVec.xor_zero]
end Go.Proofs.Ytgjcgnmomdanaaa.Crc

