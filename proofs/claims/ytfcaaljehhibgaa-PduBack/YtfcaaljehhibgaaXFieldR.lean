/- Walks of numbers that go round. -/
import Derived.Test.YtfcaaljehhibgaaXWrap
import Derived.Deep.QuietTactic
import Derived.BigQuiet
namespace Go.Proofs.Ytfcaaljehhibgaa
open Go.RowKit

/-- y less x, going round, from 0 on -/
def gap (x y : BitVec 32) : Int := ((y.toNat : Int) - (x.toNat : Int)) % 4294967296
/-- y less x, going round, from -2^31 to 2^31 - 1 -/
def dst (x y : BitVec 32) : Int := if 2147483648 ≤ gap x y then gap x y - 4294967296 else gap x y
theorem gap_bd (x y : BitVec 32) : 0 ≤ gap x y ∧ gap x y < 4294967296 := by unfold gap; omega
theorem dst_bd (x y : BitVec 32) : -2147483648 ≤ dst x y ∧ dst x y ≤ 2147483647 := by have := gap_bd x y; unfold dst; split <;> omega
theorem dst_wrap (x y : BitVec 32) : wrap64 (wrap32 (((y.toNat : Int) - (x.toNat : Int)) % 4294967296)) = dst x y := by
  show wrap64 (wrap32 (gap x y)) = _
  have := gap_bd x y
  unfold dst wrap64 wrap32
  split <;> omega
theorem dst_high (x y : BitVec 32) (h : 2147483648 ≤ ((y.toNat : Int) - (x.toNat : Int)) % 4294967296) : ((y.toNat : Int) - (x.toNat : Int)) % 4294967296 - 4294967296 = dst x y := by
  unfold dst gap; rw [if_pos h]
theorem dst_low (x y : BitVec 32) (h : ¬ 2147483648 ≤ ((y.toNat : Int) - (x.toNat : Int)) % 4294967296) : ((y.toNat : Int) - (x.toNat : Int)) % 4294967296 = dst x y := by
  unfold dst gap; rw [if_neg h]
theorem dst_back (x y : BitVec 32) : ((x.toNat : Int) + dst x y % 4294967296) % 4294967296 = (y.toNat : Int) := by
  have := x.isLt; have := y.isLt
  unfold dst gap
  split <;> omega
theorem dst_anti (x y : BitVec 32) (h : 0 < dst x y) : ¬ 0 < dst y x := by
  have := x.isLt; have := y.isLt
  unfold dst gap at *
  split at h <;> split <;> omega





theorem wrap_pos (n : Int) (h : 0 < n) (h2 : n ≤ 9223372036854775807) : IntKind.u64.wrap n = n := by
  rw [IntKind.wrap_u64]; omega


end Go.Proofs.Ytfcaaljehhibgaa

