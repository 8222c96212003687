/- Walks of the document's answer for sums. -/
import Derived.Test.YtfcaaljehhibgaaXAid
namespace Go.Proofs.Ytfcaaljehhibgaa
open Go.RowKit

/-- the document's register behind i bits of a byte -/
def rst (r : BitVec 32) (c : BitVec 8) (i : Nat) : BitVec 32 := Crc.Sn i (r ^^^ Crc.low c) ^^^ (Crc.low c >>> i)
theorem rst_0 (r : BitVec 32) (c : BitVec 8) : rst r c 0 = r := by
  unfold rst; show (r ^^^ Crc.low c) ^^^ (Crc.low c >>> 0) = r
  rw [BitVec.ushiftRight_zero, BitVec.xor_assoc, BitVec.xor_self, BitVec.xor_zero]
theorem rst_8 (r : BitVec 32) (c : BitVec 8) : rst r c 8 = Crc.step r c := by
  unfold rst Crc.step
  have : Crc.low c >>> 8 = 0#32 := by
    unfold Crc.low
    apply BitVec.eq_of_getLsbD_eq
    intro j hj
    rw [BitVec.getLsbD_ushiftRight, BitVec.getLsbD_setWidth]
    simp
  rw [this, BitVec.xor_zero]
theorem rst_step (r : BitVec 32) (c : BitVec 8) (i : Nat) : rst r c (i + 1) = (rst r c i >>> 1) ^^^ (if (rst r c i ^^^ (Crc.low c >>> i)).getLsbD 0 then Crc.P else 0#32) := by
  have e : rst r c i ^^^ (Crc.low c >>> i) = Crc.Sn i (r ^^^ Crc.low c) := by
    unfold rst; rw [BitVec.xor_assoc, BitVec.xor_self, BitVec.xor_zero]
  rw [e]
  unfold rst
  rw [Crc.Sn_succ, BitVec.ushiftRight_xor_distrib, ← BitVec.shiftRight_add]
  unfold Crc.S
  rw [BitVec.xor_assoc, BitVec.xor_assoc]
  congr 1
  exact BitVec.xor_comm _ _

theorem sh_low (c : BitVec 8) (k : Nat) : (c.toNat : Int) / 2 ^ k % 4294967296 = ((Crc.low c >>> k).toNat : Int) := by
  have h := (Crc.low c >>> k).isLt
  have e : (c.toNat : Int) / 2 ^ k = ((Crc.low c >>> k).toNat : Int) := by
    unfold Crc.low
    rw [BitVec.toNat_ushiftRight, BitVec.toNat_setWidth, Nat.mod_eq_of_lt (by have := c.isLt; omega), Nat.shiftRight_eq_div_pow, Int.natCast_ediv]; simp
  rw [e]; omega
theorem bit_val (r : BitVec 32) (c : BitVec 8) (k : Nat) : (bits .and .u32 (bits .xor .u32 ((rst r c k).toNat : Int) ((c.toNat : Int) / 2 ^ k % 4294967296)) 1 == 1) = (rst r c k ^^^ (Crc.low c >>> k)).getLsbD 0 := by
  rw [sh_low, xor32, odd32, lsb32, Bool.eq_iff_iff, beq_iff_eq, decide_eq_true_eq]
  omega
theorem rst_yes (r : BitVec 32) (c : BitVec 8) (k : Nat) (h : (bits .and .u32 (bits .xor .u32 ((rst r c k).toNat : Int) ((c.toNat : Int) / 2 ^ k % 4294967296)) 1 == 1) = true) :
    Value.int .u32 (bits .xor .u32 (((rst r c k).toNat : Int) / (2 : Int)) 2197175160) = .int .u32 ((rst r c (k + 1)).toNat : Int) := by
  rw [bit_val] at h
  rw [rst_step, h, if_pos rfl, half32, show (2197175160 : Int) = (Crc.P.toNat : Int) from by decide, xor32]
theorem rst_no (r : BitVec 32) (c : BitVec 8) (k : Nat) (h : (bits .and .u32 (bits .xor .u32 ((rst r c k).toNat : Int) ((c.toNat : Int) / 2 ^ k % 4294967296)) 1 == 1) = false) :
    Value.int .u32 (((rst r c k).toNat : Int) / (2 : Int)) = .int .u32 ((rst r c (k + 1)).toNat : Int) := by
  rw [bit_val] at h
  rw [rst_step, h, if_neg (by simp), half32, BitVec.xor_zero]

set_option maxHeartbeats 400000 in
theorem rstep_any (r : BitVec 32) (c : BitVec 8) (w : World) :
    Calls Try.prog 73 #[.int .u32 (r.toNat : Int), .int .u8 (c.toNat : Int)] w fun e w' => e = .returned (.int .u32 ((Crc.step r c).toNat : Int)) ∧ w = w' := by
  go_enter Try.func73, Try.ntmps73
  go_wp2_with fail
  go_loop [0, 5] (fun a i => ∃ k : Nat, k ≤ 8 ∧ i = .int .i64 k ∧ a = .int .u32 ((rst r c k).toNat : Int)) (fun _ i => 8 - (intOf i).toNat)
  case atStart => exact ⟨0, by omega, rfl, by rw [rst_0]⟩
  case round =>
    obtain ⟨k, hk, rfl, rfl⟩ := hrel
    by_cases hlt : k < 8
    · go_wp2
      · go_round
        case rel => exact ⟨k + 1, by omega, by go_num, rst_yes r c k (by assumption)⟩
        case measure => simp [intOf]; omega
      · go_round
        case rel => exact ⟨k + 1, by omega, by go_num, rst_no r c k (by assumption)⟩
        case measure => simp [intOf]; omega
    · have : k = 8 := by omega
      subst this
      rw [rst_8]
      go_wp2
      go_ret
      exact ⟨rfl, rfl⟩

theorem cur_step (x : BitVec 32) (l : List (BitVec 8)) (k : Nat) (h : k < l.length) : Crc.step (cur x l k) (l.getD k 0#8) = cur x l (k + 1) := mid_8 x l k h

set_option maxHeartbeats 400000 in
theorem rmore_any (x : BitVec 32) (a : Option Addr) (len cap : Nat) (l : List (BitVec 8)) (w : World) (hl : l.length = len) (hm : len ≤ maxLen) (hr : Row w a l) :
    Calls Try.prog 66 #[.int .u32 (x.toNat : Int), .slice a len cap] w fun e w' => e = .returned (.int .u32 ((Crc.more x l).toNat : Int)) ∧ w = w' := by
  unfold maxLen at hm
  rcases hr with rfl | ⟨b, off, rfl, hc⟩
  · simp at hl
    subst hl
    go_enter Try.func66, Try.ntmps66
    go_wp2_with fail
    refine wp_loop_rounds 1 ?_
    rw [rounds_succ]
    go_wp2
    go_ret
    exact ⟨ret_int (by rw [cur_0 x []]; exact cur_end x [] 0 (by simp)), rfl⟩
  have hl' : len = l.length := hl.symm
  subst hl'
  go_enter Try.func66, Try.ntmps66
  go_wp2_with fail
  go_loop [5, 6] (fun r i => ∃ k : Nat, k ≤ l.length ∧ i = .int .i64 k ∧ r = .int .u32 ((cur x l k).toNat : Int)) (fun _ i => l.length - (intOf i).toNat)
  case atStart => exact ⟨0, by omega, rfl, val_int (cur_0 x l)⟩
  case round =>
    obtain ⟨k, hk, rfl, rfl⟩ := hrel
    by_cases hlt : k < l.length
    · have hck := hc k (by omega)
      have hbd := bt_bd l k
      have H : Hid _ := cur_step x l k hlt
      go_wp2_with (go_at_call 73; unfold bt; refine (rstep_any _ _ _).mono ?_; rw [H.out]; rintro e w' ⟨rfl, rfl⟩)
      go_round
      case rel => exact ⟨k + 1, by omega, by go_num, rfl⟩
      case measure => simp [intOf]; omega
    · go_wp2
      go_ret
      exact ⟨ret_int (cur_end x l k (by omega)), rfl⟩

set_option maxHeartbeats 400000 in
theorem rsum_any (a : Option Addr) (len cap : Nat) (l : List (BitVec 8)) (w : World) (hl : l.length = len) (hm : len ≤ maxLen) (hr : Row w a l) :
    Calls Try.prog 50 #[.slice a len cap] w fun e w' => e = .returned (.int .u32 ((Crc.sum l).toNat : Int)) ∧ w = w' := by
  go_enter Try.func50, Try.ntmps50
  go_wp2_with (go_at_call 66; refine (rmore_any 0#32 a len cap l _ hl hm hr).mono ?_; rintro e w' ⟨rfl, rfl⟩)
  go_ret
  exact ⟨rfl, rfl⟩

/-- the document's digest: a block of four bytes -/
def DR (s : BitVec 32) : Obj := .cells #[.int .u8 ((s.toNat : Int) % 256), .int .u8 ((s.toNat : Int) / 256 % 256), .int .u8 ((s.toNat : Int) / 65536 % 256), .int .u8 ((s.toNat : Int) / 16777216)] 5
theorem DR_row (w : World) (s : BitVec 32) : Row (w.alloc (DR s)) (some ⟨w.heap.size, 0, none⟩) (Crc.bytes4 s) := by
  obtain ⟨h0, h1, h2, h3⟩ := bytes4_bt s
  refine Row.new w _ _ _ _ ?_
  intro i hi
  match i, hi with
  | 0, _ => rw [h0]; rfl
  | 1, _ => rw [h1]; rfl
  | 2, _ => rw [h2]; rfl
  | 3, _ => rw [h3]; rfl

set_option maxHeartbeats 400000 in
theorem rdigest_any (a : Option Addr) (len cap : Nat) (l : List (BitVec 8)) (w : World) (hl : l.length = len) (hm : len ≤ maxLen) (hr : Row w a l) :
    Calls Try.prog 32 #[.slice a len cap] w fun e w' => ∃ B, e = .returned (.slice (some ⟨B, 0, none⟩) 4 4) ∧ w.heap.size ≤ B ∧ Row w' (some ⟨B, 0, none⟩) (Crc.bytes4 (Crc.sum l)) ∧ Below w.heap.size w w' := by
  have hd := DR_row w (Crc.sum l)
  have HD : Hid _ := hd
  clear hd
  go_enter Try.func32, Try.ntmps32
  go_wp2_with (go_at_call 50; refine (rsum_any a len cap l _ hl hm hr).mono ?_; rintro e w' ⟨rfl, rfl⟩)
  go_ret
  exact ⟨w.heap.size, rfl, Nat.le_refl _, HD.out, (Below.refl _ _).alloc (Nat.le_refl _) _⟩

set_option maxHeartbeats 400000 in
theorem rpad_any (n : Int) (w : World) (h2 : n ≤ 9223372036854775807) :
    Calls Try.prog 36 #[.int .i64 n] w fun e w' => e = .returned (.int .i64 (padOf n)) ∧ w = w' := by
  by_cases h : n < 0
  · have H : Hid (padOf n = 0) := padOf_neg h
    go_enter Try.func36, Try.ntmps36
    go_wp2
    go_ret
    exact ⟨ret_int H.out.symm, rfl⟩
  · have H : Hid (padOf n = (4 - n % 4) % 4) := padOf_pos h
    go_enter Try.func36, Try.ntmps36
    go_wp2
    go_ret
    exact ⟨ret_int (by rw [H.out]; omega), rfl⟩


/-- a register behind k bytes 0 -/
def zer (a : BitVec 32) (k : Nat) : BitVec 32 := Crc.Sn (8 * k) a
theorem zer_step (a : BitVec 32) (k : Nat) : Crc.step (zer a k) 0#8 = zer a (k + 1) := by
  unfold Crc.step zer
  rw [show Crc.low 0#8 = 0#32 by decide, BitVec.xor_zero, ← Crc.Sn_add, Nat.mul_add, Nat.add_comm]

end Go.Proofs.Ytfcaaljehhibgaa

