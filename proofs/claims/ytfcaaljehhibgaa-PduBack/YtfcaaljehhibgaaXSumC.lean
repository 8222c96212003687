/- Count of the document's; bits that are turned. -/
import Derived.Test.YtfcaaljehhibgaaXMem
import Derived.Test.YtfcaaljehhibgaaXSumW2
namespace Go.Proofs.Ytfcaaljehhibgaa
open Go.RowKit
set_option linter.unusedVariables false

set_option maxHeartbeats 400000 in
theorem ct_any (n : Int) (m : Nat) (w : World) (_h1 : -9223372036854775808 ≤ n ∧ n ≤ 9223372036854775807) (hm : 0 < m) (hm2 : m ≤ 1125899906842624) :
    Calls Try.prog 23 #[.int .i64 n, .int .i64 m] w fun e w' => ∃ k : Nat, e = .returned (.int .i64 k) ∧ k < m ∧ w = w' := by
  have hb := Int.tmod_lt_of_pos n (by omega : (0 : Int) < m)
  have hb2 : -(m : Int) < n.tmod m := by
    have := Int.tmod_lt_of_pos (-n) (by omega : (0 : Int) < m)
    rw [Int.neg_tmod] at this; omega
  by_cases h : n.tmod m < 0
  · go_enter Try.func23, Try.ntmps23
    go_wp2
    go_ret
    refine ⟨(n.tmod m + m).toNat, ret_int ?_, by omega, rfl⟩
    omega
  · go_enter Try.func23, Try.ntmps23
    go_wp2
    go_ret
    exact ⟨(n.tmod m).toNat, ret_int (by omega), by omega, rfl⟩

theorem bit32t (c : BitVec 32) (k : Nat) : bits .and .u32 ((c.toNat : Int) / 2 ^ k) 1 = if c.getLsbD k then 1 else 0 := by
  have e : (c.toNat : Int) / 2 ^ k = ((c >>> k).toNat : Int) := by
    rw [BitVec.toNat_ushiftRight, Nat.shiftRight_eq_div_pow, Int.natCast_ediv]; simp
  have hb : c.getLsbD k = (c >>> k).getLsbD 0 := by rw [BitVec.getLsbD_ushiftRight, Nat.add_zero]
  rw [e, show (1 : Int) = ((1 : Nat) : Int) from rfl, u32_and_nat _ _ (BitVec.isLt _) (by omega), and_one, hb, BitVec.getLsbD, Nat.testBit_zero]
  generalize (c >>> k).toNat = m
  by_cases h : m % 2 = 1
  · simp [h]
  · have : m % 2 = 0 := by omega
    simp [this]

theorem vals_set7 (l : List (BitVec 8)) (i : Nat) (c : BitVec 8) : (vals l).set i (.int .u8 (c.toNat : Int)) = vals (l.set i c) := by
  unfold vals; rw [List.map_set]
theorem two_pow7 (j : Nat) (h : j < 8) : (2 : Int) ^ j % 256 = ((1#8 <<< j).toNat : Int) := by
  have : ∀ j : Fin 8, (2 : Int) ^ j.val % 256 = ((1#8 <<< j.val).toNat : Int) := by decide
  exact this ⟨j, h⟩
theorem turn_val7 (L : List (BitVec 8)) (k : Nat) : bits .xor .u8 (bt L (k / 8)) (2 ^ (k % 8) % 256) = ((L.getD (k / 8) 0#8 ^^^ (1#8 <<< (k % 8))).toNat : Int) := by
  rw [two_pow7 _ (by omega)]
  unfold bt
  rw [u8_xor_nat _ _ (BitVec.isLt _) (BitVec.isLt _), ← BitVec.toNat_xor]
end Go.Proofs.Ytfcaaljehhibgaa

