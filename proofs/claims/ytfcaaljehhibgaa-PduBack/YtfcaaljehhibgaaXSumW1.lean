/- Walks of the smallest functions of sums and of the verifier's own. -/
import Derived.Test.YtfcaaljehhibgaaRows
import Derived.Test.YtfcaaljehhibgaaXBits
import Derived.WalkKit
import Derived.WalkSpells
import Derived.WalkLawsBesides
namespace Go.Proofs.Ytfcaaljehhibgaa
open Go.RowKit

set_option maxHeartbeats 400000 in
theorem shift_any (x : BitVec 32) (w : World) :
    Calls Try.prog 76 #[.int .u32 (x.toNat : Int)] w fun e w' => e = .returned (.int .u32 ((Crc.S x).toNat : Int)) ∧ w' = w := by
  go_enter Try.func76, Try.ntmps76
  go_wp2
  go_ret
  exact ⟨ret_int (shift_val x), rfl⟩

/-- how many bytes are missing to a multiple of four -/
def padOf (n : Int) : Int := if n < 0 then 0 else (4 - n % 4) % 4
theorem padOf_neg {n : Int} (h : n < 0) : padOf n = 0 := by unfold padOf; rw [if_pos h]
theorem padOf_pos {n : Int} (h : ¬ n < 0) : padOf n = (4 - n % 4) % 4 := by unfold padOf; rw [if_neg h]

set_option maxHeartbeats 400000 in
theorem pad_any (n : Int) (w : World) :
    Calls Try.prog 39 #[.int .i64 n] w fun e w' => e = .returned (.int .i64 (padOf n)) ∧ w' = w := by
  by_cases h : n < 0
  · have H : Hid (padOf n = 0) := padOf_neg h
    go_enter Try.func39, Try.ntmps39
    go_wp2
    go_ret
    exact ⟨ret_int H.out.symm, rfl⟩
  · have H : Hid (padOf n = (4 - n % 4) % 4) := padOf_pos h
    go_enter Try.func39, Try.ntmps39
    go_wp2
    go_ret
    exact ⟨ret_int (by rw [and3_i64, wrap64_mod4, H.out]; omega), rfl⟩

/-- byte k of bytes, as a number -/
def bt (l : List (BitVec 8)) (k : Nat) : Int := ((l.getD k 0#8).toNat : Int)
theorem bt_bd (l : List (BitVec 8)) (k : Nat) : 0 ≤ bt l k ∧ bt l k ≤ 255 := by
  unfold bt; have := (l.getD k 0#8).isLt; omega

/-- bytes that lie in a row of memory -/
def Row (w : World) (a : Option Addr) (l : List (BitVec 8)) : Prop :=
  l = [] ∨ ∃ b off, a = some ⟨b, off, none⟩ ∧ ∀ i, i < l.length → w.cell? ⟨b, off + i, none⟩ = some (.int .u8 (bt l i))

theorem not32 (x : BitVec 32) : bits .xor .u32 IntKind.u32.max (x.toNat : Int) = ((~~~ x).toNat : Int) := by
  have : IntKind.u32.max = (((BitVec.allOnes 32)).toNat : Int) := by decide
  rw [this, xor32, BitVec.allOnes_xor]
/-- the register behind k bytes -/
def cur (x : BitVec 32) (l : List (BitVec 8)) (k : Nat) : BitVec 32 := Crc.run (~~~ x) (l.take k)
/-- the register behind k bytes and j bits of the next one -/
def mid (x : BitVec 32) (l : List (BitVec 8)) (k j : Nat) : BitVec 32 := Crc.Sn j (cur x l k ^^^ Crc.low (l.getD k 0#8))
theorem cur_0 (x : BitVec 32) (l : List (BitVec 8)) : bits .xor .u32 IntKind.u32.max (x.toNat : Int) = ((cur x l 0).toNat : Int) := by
  rw [not32]; rfl
theorem cur_end (x : BitVec 32) (l : List (BitVec 8)) (k : Nat) (h : l.length ≤ k) : bits .xor .u32 IntKind.u32.max ((cur x l k).toNat : Int) = ((Crc.more x l).toNat : Int) := by
  rw [not32]; unfold cur Crc.more; rw [List.take_of_length_le h]
theorem mid_0 (x : BitVec 32) (l : List (BitVec 8)) (k : Nat) : bits .xor .u32 ((cur x l k).toNat : Int) (bt l k) = ((mid x l k 0).toNat : Int) := by
  have h := (l.getD k 0#8).isLt
  have : bt l k = ((Crc.low (l.getD k 0#8)).toNat : Int) := by
    unfold bt Crc.low; rw [BitVec.toNat_setWidth, Nat.mod_eq_of_lt (by omega)]
  rw [this, xor32]; rfl
theorem mid_8 (x : BitVec 32) (l : List (BitVec 8)) (k : Nat) (h : k < l.length) : mid x l k 8 = cur x l (k + 1) := by
  unfold mid cur
  rw [List.take_succ_eq_append_getElem h, Crc.run_snoc]; simp [List.getD, h, Crc.step]
theorem val_int {k : IntKind} {a b : Int} (h : a = b) : Value.int k a = .int k b := by rw [h]

set_option maxHeartbeats 400000 in
theorem more_any (x : BitVec 32) (a : Option Addr) (len cap : Nat) (l : List (BitVec 8)) (w : World) (hl : l.length = len) (hm : len ≤ maxLen) (hr : Row w a l) :
    Calls Try.prog 75 #[.int .u32 (x.toNat : Int), .slice a len cap] w fun e w' => e = .returned (.int .u32 ((Crc.more x l).toNat : Int)) ∧ w' = w := by
  unfold maxLen at hm
  rcases hr with rfl | ⟨b, off, rfl, hc⟩
  · simp at hl
    subst hl
    go_enter Try.func75, Try.ntmps75
    go_wp2_with fail
    go_loop [5, 12] (fun r i => i = .int .i64 0 ∧ r = .int .u32 ((cur x [] 0).toNat : Int)) (fun _ i => 0)
    case atStart => exact ⟨rfl, val_int (cur_0 x [])⟩
    case round =>
      obtain ⟨rfl, rfl⟩ := hrel
      go_wp2
      go_ret
      exact ⟨ret_int (cur_end x [] 0 (by simp)), rfl⟩
  have hl' : len = l.length := hl.symm
  subst hl'
  go_enter Try.func75, Try.ntmps75
  go_wp2_with fail
  go_loop [5, 12] (fun r i => ∃ k : Nat, k ≤ l.length ∧ i = .int .i64 k ∧ r = .int .u32 ((cur x l k).toNat : Int)) (fun _ i => l.length - (intOf i).toNat)
  case atStart => exact ⟨0, by omega, rfl, val_int (cur_0 x l)⟩
  case round =>
    obtain ⟨k, hk, rfl, rfl⟩ := hrel
    by_cases hlt : k < l.length
    · have hck := hc k (by omega)
      have hbd := bt_bd l k
      go_wp2_with fail
      go_loop [5, 20] (fun r i => ∃ j : Nat, j ≤ 8 ∧ i = .int .i64 j ∧ r = .int .u32 ((mid x l k j).toNat : Int)) (fun _ i => 8 - (intOf i).toNat)
      case atStart => exact ⟨0, by omega, rfl, val_int (mid_0 x l k)⟩
      case round =>
        obtain ⟨j, hj, rfl, rfl⟩ := hrel
        by_cases hjt : j < 8
        · go_wp2_with (go_at_call 76; refine (shift_any _ _).mono ?_; rintro e w' ⟨rfl, rfl⟩)
          go_round
          case rel => exact ⟨j + 1, by omega, by go_num, rfl⟩
          case measure => simp [intOf]; omega
        · have : j = 8 := by omega
          subst this
          rw [mid_8 _ _ _ hlt]
          go_wp2
          go_round
          case rel => exact ⟨k + 1, by omega, by go_num, rfl⟩
          case measure => simp [intOf]; omega
    · go_wp2
      go_ret
      exact ⟨ret_int (cur_end x l k (by omega)), rfl⟩

set_option maxHeartbeats 400000 in
theorem sum_any (a : Option Addr) (len cap : Nat) (l : List (BitVec 8)) (w : World) (hl : l.length = len) (hm : len ≤ maxLen) (hr : Row w a l) :
    Calls Try.prog 70 #[.slice a len cap] w fun e w' => e = .returned (.int .u32 ((Crc.sum l).toNat : Int)) ∧ w' = w := by
  go_enter Try.func70, Try.ntmps70
  go_wp2_with (go_at_call 75; refine (more_any 0#32 a len cap l _ hl hm hr).mono ?_; rintro e w' ⟨rfl, rfl⟩)
  go_ret
  exact ⟨rfl, rfl⟩

end Go.Proofs.Ytfcaaljehhibgaa

