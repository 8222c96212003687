/- Bits of Go's numbers as bit vectors: what the walk spells, in plain words. -/
import Derived.WalkKit
import Derived.Laws.BitsAllLaws
import Derived.Test.YtfcaaljehhibgaaXCrc
namespace Go.Proofs.Ytfcaaljehhibgaa
open Go.RowKit

theorem ret_int {k : IntKind} {a b : Int} (h : a = b) : Ending.returned (.int k a) = .returned (.int k b) := by rw [h]
theorem ret_bool {a b : Bool} (h : a = b) : Ending.returned (.bool a) = .returned (.bool b) := by rw [h]

theorem xor32 (x y : BitVec 32) : bits .xor .u32 (x.toNat : Int) (y.toNat : Int) = ((x ^^^ y).toNat : Int) := by
  rw [u32_xor_nat _ _ x.isLt y.isLt, BitVec.toNat_xor]
theorem and32 (x y : BitVec 32) : bits .and .u32 (x.toNat : Int) (y.toNat : Int) = ((x &&& y).toNat : Int) := by
  rw [u32_and_nat _ _ x.isLt y.isLt, BitVec.toNat_and]
theorem lit32 (n : Nat) (h : n < 4294967296) : ((BitVec.ofNat 32 n).toNat : Int) = (n : Int) := by
  rw [BitVec.toNat_ofNat, Nat.mod_eq_of_lt (by omega)]
theorem half32 (x : BitVec 32) : (x.toNat : Int) / (2 : Int) = ((x >>> 1).toNat : Int) := by
  rw [BitVec.toNat_ushiftRight, Nat.shiftRight_eq_div_pow]; omega
theorem and_one (n : Nat) : n &&& 1 = n % 2 := by
  exact Nat.and_two_pow_sub_one_eq_mod n 1
theorem and_three (n : Nat) : n &&& 3 = n % 4 := by
  exact Nat.and_two_pow_sub_one_eq_mod n 2
theorem odd32 (x : BitVec 32) : bits .and .u32 (x.toNat : Int) 1 = ((x.toNat % 2 : Nat) : Int) := by
  rw [show (1 : Int) = ((1 : Nat) : Int) from rfl, u32_and_nat _ _ x.isLt (by omega), and_one]
theorem lsb32 (x : BitVec 32) : x.getLsbD 0 = decide (x.toNat % 2 = 1) := by
  rw [BitVec.getLsbD, Nat.testBit_zero]

theorem shift_val (x : BitVec 32) : bits .xor .u32 ((x.toNat : Int) / (2 : Int)) (bits .and .u32 2197175160 (-bits .and .u32 (x.toNat : Int) 1 % 4294967296)) = ((Crc.S x).toNat : Int) := by
  rw [odd32, half32]
  unfold Crc.S
  rw [lsb32]
  obtain h | h : x.toNat % 2 = 0 ∨ x.toNat % 2 = 1 := by omega
  · have e1 : bits .and .u32 2197175160 (-((x.toNat % 2 : Nat) : Int) % 4294967296) = ((0#32).toNat : Int) := by rw [h]; decide
    rw [e1, xor32]; simp [h]
  · have e1 : bits .and .u32 2197175160 (-((x.toNat % 2 : Nat) : Int) % 4294967296) = ((Crc.P).toNat : Int) := by rw [h]; decide
    rw [e1, xor32]; simp [h]

theorem wrap_i64_small (n : Int) (h0 : 0 ≤ n) (h1 : n < 9223372036854775808) : IntKind.i64.wrap n = n := by
  simp [IntKind.wrap, IntKind.bits, IntKind.signed]
  split <;> omega
theorem and3_i64 (a : Int) : bits .and .i64 a 3 = a % 4 := by
  show IntKind.i64.wrap ((BitVec.ofInt 64 a &&& BitVec.ofInt 64 3).toNat : Int) = _
  have h1 : (BitVec.ofInt 64 3).toNat = 3 := by decide
  rw [BitVec.toNat_and, h1, and_three, BitVec.toNat_ofInt]
  rw [wrap_i64_small _ (by omega) (by omega)]
  omega
theorem and1_i64 (a : Int) : bits .and .i64 a 1 = a % 2 := by
  show IntKind.i64.wrap ((BitVec.ofInt 64 a &&& BitVec.ofInt 64 1).toNat : Int) = _
  have h1 : (BitVec.ofInt 64 1).toNat = 1 := by decide
  rw [BitVec.toNat_and, h1, and_one, BitVec.toNat_ofInt]
  rw [wrap_i64_small _ (by omega) (by omega)]
  omega
theorem wrap64_mod4 (a : Int) : wrap64 a % 4 = a % 4 := by
  unfold wrap64; omega
end Go.Proofs.Ytfcaaljehhibgaa

