/- Walks of the document's answer for bits of a byte. -/
import Derived.Test.YtkajedabcedifabFieldRef
namespace Go.Proofs.Ytkajedabcedifab
open Go.RowKit

set_option maxHeartbeats 400000 in
theorem rbits_any (low size : Int) (w : World) :
    Calls Try.prog 56 #[.int .i64 low, .int .i64 size] w fun e w' => e = .returned (.bool (bitsB low size)) ∧ w = w' := by
  by_cases h1 : 0 ≤ low
  · by_cases h2 : low ≤ 8
    · by_cases h3 : 1 ≤ size
      · have H : Hid (decide (size ≤ 8 - low) = bitsB low size) := by
          show decide _ = decide _; rw [decide_eq_decide]; omega
        go_enter Try.func56, Try.ntmps56
        go_wp2
        go_ret
        exact ⟨ret_bool H.out, rfl⟩
      · have H : Hid (false = bitsB low size) := by show false = decide _; rw [eq_comm, decide_eq_false_iff_not]; omega
        go_enter Try.func56, Try.ntmps56
        go_wp2
        go_ret
        exact ⟨ret_bool H.out, rfl⟩
    · have H : Hid (false = bitsB low size) := by show false = decide _; rw [eq_comm, decide_eq_false_iff_not]; omega
      go_enter Try.func56, Try.ntmps56
      go_wp2
      go_ret
      exact ⟨ret_bool H.out, rfl⟩
  · have H : Hid (false = bitsB low size) := by show false = decide _; rw [eq_comm, decide_eq_false_iff_not]; omega
    go_enter Try.func56, Try.ntmps56
    go_wp2
    go_ret
    exact ⟨ret_bool H.out, rfl⟩

set_option maxHeartbeats 400000 in
theorem rSet_no1 (c : BitVec 8) (low size n : Int) (w : World) (h : bitsB low size = false) :
    Calls Try.prog 19 #[.int .u8 (c.toNat : Int), .int .i64 low, .int .i64 size, .int .i64 n] w fun e w' => e = .returned (.tuple #[.int .u8 0, .int .i64 1]) ∧ w = w' := by
  go_enter Try.func19, Try.ntmps19
  go_wp2_with (go_at_call 56; refine (rbits_any _ _ _).mono ?_; rintro e w' ⟨rfl, rfl⟩)
  go_ret2
  exact ⟨rfl, rfl⟩
set_option maxHeartbeats 400000 in
theorem rBits_no (c : BitVec 8) (low size : Int) (w : World) (h : bitsB low size = false) :
    Calls Try.prog 21 #[.int .u8 (c.toNat : Int), .int .i64 low, .int .i64 size] w fun e w' => e = .returned (.tuple #[.int .i64 0, .int .i64 1]) ∧ w = w' := by
  go_enter Try.func21, Try.ntmps21
  go_wp2_with (go_at_call 56; refine (rbits_any _ _ _).mono ?_; rintro e w' ⟨rfl, rfl⟩)
  go_ret2
  exact ⟨rfl, rfl⟩

/-- the number in k bits from low on -/
def bTo (c : BitVec 8) (low k : Nat) : Int := (((c >>> low) &&& msk k).toNat : Int)
theorem msk_mod (x : BitVec 8) (k : Nat) (h : k ≤ 8) : (x &&& msk k).toNat = x.toNat % 2 ^ k := by
  have h1 : 2 ^ k - 1 < 2 ^ 8 := by
    have : 2 ^ k ≤ 2 ^ 8 := Nat.pow_le_pow_right (by decide) h
    have := Nat.two_pow_pos k
    omega
  unfold msk
  rw [BitVec.toNat_and, BitVec.toNat_ofNat, Nat.mod_eq_of_lt h1, Nat.and_two_pow_sub_one_eq_mod]
theorem bTo_0 (c : BitVec 8) (low : Nat) : bTo c low 0 = 0 := by
  unfold bTo; rw [msk_mod _ _ (by omega)]; simp [Nat.mod_one]
theorem bTo_succ (c : BitVec 8) (low k : Nat) (h : k < 8) : bTo c low (k + 1) = bTo c low k + if c.getLsbD (low + k) then 2 ^ k else 0 := by
  unfold bTo
  rw [msk_mod _ _ (by omega), msk_mod _ _ (by omega), Nat.mod_pow_succ]
  have e : c.getLsbD (low + k) = decide ((c >>> low).toNat / 2 ^ k % 2 = 1) := by
    rw [← BitVec.getLsbD_ushiftRight, BitVec.getLsbD, Nat.testBit_eq_decide_div_mod_eq]
  rw [e]
  generalize (c >>> low).toNat = m
  by_cases hm : m / 2 ^ k % 2 = 1
  · simp [hm]
  · have : m / 2 ^ k % 2 = 0 := by omega
    simp [this]
theorem bTo_bd (c : BitVec 8) (low k : Nat) : 0 ≤ bTo c low k ∧ bTo c low k ≤ 255 := by
  unfold bTo; have := ((c >>> low) &&& msk k).isLt; omega
theorem bit8_test (c : BitVec 8) (m : Nat) : (bits .and .u8 ((c.toNat : Int) / 2 ^ m) 1 == 1) = c.getLsbD m := by
  rw [bit8]; cases c.getLsbD m <;> rfl
theorem bTo_yes (c : BitVec 8) (low k : Nat) (hk : k < 8) (h : (bits .and .u8 ((c.toNat : Int) / 2 ^ (low + k)) 1 == 1) = true) : wrap64 (bTo c low k + wrap64 (2 ^ k)) = bTo c low (k + 1) := by
  rw [bit8_test] at h
  have h1 := bTo_bd c low k
  have h2 := pow_le k (by omega)
  rw [bTo_succ c low k hk, h, if_pos rfl]
  unfold wrap64; omega
theorem bTo_no (c : BitVec 8) (low k : Nat) (hk : k < 8) (h : (bits .and .u8 ((c.toNat : Int) / 2 ^ (low + k)) 1 == 1) = false) : bTo c low k = bTo c low (k + 1) := by
  rw [bit8_test] at h
  rw [bTo_succ c low k hk, h]; simp

set_option maxHeartbeats 400000 in
theorem rBits_yes (c : BitVec 8) (low size : Nat) (w : World) (h1 : 1 ≤ size) (h2 : low + size ≤ 8) :
    Calls Try.prog 21 #[.int .u8 (c.toNat : Int), .int .i64 low, .int .i64 size] w fun e w' => e = .returned (.tuple #[.int .i64 (((c >>> low) &&& msk size).toNat : Int), .int .i64 0]) ∧ w = w' := by
  have hb : bitsB low size = true := by unfold bitsB; rw [decide_eq_true_eq]; omega
  go_enter Try.func21, Try.ntmps21
  go_wp2_with (go_at_call 56; refine (rbits_any _ _ _).mono ?_; rintro e w' ⟨rfl, rfl⟩)
  go_loop [8, 9] (fun n i => ∃ k : Nat, k ≤ size ∧ i = .int .i64 k ∧ n = .int .i64 (bTo c low k)) (fun _ i => size - (intOf i).toNat)
  case atStart => exact ⟨0, by omega, rfl, by rw [bTo_0]⟩
  case round =>
    obtain ⟨k, hk, rfl, rfl⟩ := hrel
    by_cases hlt : k < size
    · go_wp2
      · go_round
        case rel => exact ⟨k + 1, by omega, by go_num, val_int (bTo_yes c low k (by omega) (by assumption))⟩
        case measure => simp [intOf]; omega
      · go_round
        case rel => exact ⟨k + 1, by omega, by go_num, val_int (bTo_no c low k (by omega) (by assumption))⟩
        case measure => simp [intOf]; omega
    · have : k = size := by omega
      subst this
      go_wp2
      go_ret2
      exact ⟨rfl, rfl⟩

theorem mod_ones (n k : Nat) : ((n % 2 ^ k : Nat) : Int) ≤ onesN k := by
  have := Nat.mod_lt n (Nat.two_pow_pos k)
  have e : ((2 ^ k : Nat) : Int) = (2 : Int) ^ k := by simp
  unfold onesN; omega
/-- a byte with the first k bits of a number in it -/
def sTo (c : BitVec 8) (low n k : Nat) : BitVec 8 := set8 c low k (n % 2 ^ k)
theorem sTo_bit (c : BitVec 8) (low n k i : Nat) (h : low + k ≤ 8) (hi : i < 8) : (sTo c low n k).getLsbD i = if low ≤ i ∧ i < low + k then n.testBit (i - low) else c.getLsbD i := by
  unfold sTo
  rw [set8_bit c low k _ i h (mod_ones n k) hi]
  by_cases hc : low ≤ i ∧ i < low + k
  · rw [if_pos hc, if_pos hc, Nat.testBit_mod_two_pow]
    have : decide (i - low < k) = true := by simp; omega
    rw [this, Bool.true_and]
  · rw [if_neg hc, if_neg hc]
theorem sTo_step (c : BitVec 8) (low n k : Nat) (h : low + k < 8) : sTo c low n (k + 1) = (sTo c low n k &&& ~~~ BitVec.twoPow 8 (low + k)) ||| (if n.testBit k then BitVec.twoPow 8 (low + k) else 0#8) := by
  apply BitVec.eq_of_getLsbD_eq
  intro i hi
  rw [sTo_bit c low n (k + 1) i (by omega) hi, BitVec.getLsbD_or, BitVec.getLsbD_and, BitVec.getLsbD_not, sTo_bit c low n k i (by omega) hi, BitVec.getLsbD_twoPow]
  by_cases h1 : i = low + k
  · subst h1
    rw [if_pos (by omega)]
    have : low + k - low = k := by omega
    rw [this]
    cases n.testBit k <;> simp [hi]
  · have e1 : ¬ low + k = i := by omega
    have e2 : (if n.testBit k then BitVec.twoPow 8 (low + k) else 0#8).getLsbD i = false := by
      cases n.testBit k
      · simp
      · simp [BitVec.getLsbD_twoPow]; omega
    rw [e2]
    by_cases h2 : low ≤ i ∧ i < low + k
    · rw [if_pos (by omega), if_pos h2]; simp [hi, e1]
    · rw [if_neg (by omega), if_neg h2]; simp [hi, e1]
theorem sTo_0 (c : BitVec 8) (low n : Nat) (h : low ≤ 8) : sTo c low n 0 = c := by
  apply BitVec.eq_of_getLsbD_eq
  intro i hi
  rw [sTo_bit c low n 0 i (by omega) hi, if_neg (by omega)]
theorem one8 (m : Nat) (h : m < 8) : (2 : Int) ^ m % 256 = ((BitVec.twoPow 8 m).toNat : Int) := by
  match m, h with
  | 0, _ | 1, _ | 2, _ | 3, _ | 4, _ | 5, _ | 6, _ | 7, _ => decide
theorem andNot8 (x y : BitVec 8) : bits .andNot .u8 (x.toNat : Int) (y.toNat : Int) = ((x &&& ~~~ y).toNat : Int) := by
  rw [u8_andNot_nat _ _ x.isLt y.isLt, BitVec.toNat_and, BitVec.toNat_not]
theorem or8 (x y : BitVec 8) : bits .or .u8 (x.toNat : Int) (y.toNat : Int) = ((x ||| y).toNat : Int) := by
  rw [u8_or_nat _ _ x.isLt y.isLt, BitVec.toNat_or]
theorem n_test (n k : Nat) : (bits .and .i64 ((n : Int) / 2 ^ k) 1 == 1) = n.testBit k := by
  rw [and1_i64, Nat.testBit_eq_decide_div_mod_eq]
  have e : (n : Int) / 2 ^ k = ((n / 2 ^ k : Nat) : Int) := by rw [Int.natCast_ediv]; simp
  rw [e, Bool.eq_iff_iff, beq_iff_eq, decide_eq_true_eq]
  omega
theorem sTo_yes (c : BitVec 8) (low n k : Nat) (hk : low + k < 8) (h : (bits .and .i64 ((n : Int) / 2 ^ k) 1 == 1) = true) :
    Value.int .u8 (bits .or .u8 (bits .andNot .u8 ((sTo c low n k).toNat : Int) (2 ^ (low + k) % 256)) (2 ^ (low + k) % 256)) = .int .u8 ((sTo c low n (k + 1)).toNat : Int) := by
  rw [n_test] at h
  rw [one8 _ hk, andNot8, or8, sTo_step c low n k hk, h, if_pos rfl]
theorem sTo_no (c : BitVec 8) (low n k : Nat) (hk : low + k < 8) (h : (bits .and .i64 ((n : Int) / 2 ^ k) 1 == 1) = false) :
    Value.int .u8 (bits .andNot .u8 ((sTo c low n k).toNat : Int) (2 ^ (low + k) % 256)) = .int .u8 ((sTo c low n (k + 1)).toNat : Int) := by
  rw [n_test] at h
  rw [one8 _ hk, andNot8, sTo_step c low n k hk, h]; simp
theorem pow_wrap (size : Nat) (h : size ≤ 8) : wrap64 ((2 : Int) ^ size) = onesN size + 1 := by
  have := pow_le size h; unfold wrap64 onesN; omega

set_option maxHeartbeats 400000 in
theorem rSet_no2 (c : BitVec 8) (low size : Nat) (n : Int) (w : World) (h1 : 1 ≤ size) (h2 : low + size ≤ 8) (h3 : n < 0 ∨ onesN size < n) :
    Calls Try.prog 19 #[.int .u8 (c.toNat : Int), .int .i64 low, .int .i64 size, .int .i64 n] w fun e w' => e = .returned (.tuple #[.int .u8 0, .int .i64 3]) ∧ w = w' := by
  have hb : bitsB low size = true := by unfold bitsB; rw [decide_eq_true_eq]; omega
  have hw := pow_wrap size (by omega)
  rcases h3 with h3 | h3
  · go_enter Try.func19, Try.ntmps19
    go_wp2_with (go_at_call 56; refine (rbits_any _ _ _).mono ?_; rintro e w' ⟨rfl, rfl⟩)
    go_ret2
    exact ⟨rfl, rfl⟩
  · have h4 : ¬ n < 0 := by have := onesN_bd size (by omega); omega
    go_enter Try.func19, Try.ntmps19
    go_wp2_with (go_at_call 56; refine (rbits_any _ _ _).mono ?_; rintro e w' ⟨rfl, rfl⟩)
    go_ret2
    exact ⟨rfl, rfl⟩

set_option maxHeartbeats 400000 in
theorem rSet_yes (c : BitVec 8) (low size n : Nat) (w : World) (h1 : 1 ≤ size) (h2 : low + size ≤ 8) (h3 : (n : Int) ≤ onesN size) :
    Calls Try.prog 19 #[.int .u8 (c.toNat : Int), .int .i64 low, .int .i64 size, .int .i64 n] w fun e w' => e = .returned (.tuple #[.int .u8 ((set8 c low size n).toNat : Int), .int .i64 0]) ∧ w = w' := by
  have hb : bitsB low size = true := by unfold bitsB; rw [decide_eq_true_eq]; omega
  have hw := pow_wrap size (by omega)
  have hend : sTo c low n size = set8 c low size n := by
    unfold sTo
    rw [Nat.mod_eq_of_lt]
    have e : ((2 ^ size : Nat) : Int) = (2 : Int) ^ size := by simp
    unfold onesN at h3; omega
  have HE : Hid _ := hend
  clear hend
  go_enter Try.func19, Try.ntmps19
  go_wp2_with (go_at_call 56; refine (rbits_any _ _ _).mono ?_; rintro e w' ⟨rfl, rfl⟩)
  clear hw
  go_loop [0, 10] (fun a i => ∃ k : Nat, k ≤ size ∧ i = .int .i64 k ∧ a = .int .u8 ((sTo c low n k).toNat : Int)) (fun _ i => size - (intOf i).toNat)
  case atStart => exact ⟨0, by omega, rfl, by rw [sTo_0 c low n (by omega)]⟩
  case round =>
    obtain ⟨k, hk, rfl, rfl⟩ := hrel
    by_cases hlt : k < size
    · go_wp2
      · go_round
        case rel => exact ⟨k + 1, by omega, by go_num, sTo_yes c low n k (by omega) (by assumption)⟩
        case measure => simp [intOf]; omega
      · go_round
        case rel => exact ⟨k + 1, by omega, by go_num, sTo_no c low n k (by omega) (by assumption)⟩
        case measure => simp [intOf]; omega
    · have : k = size := by omega
      subst this
      rw [HE.out]
      go_wp2
      go_ret2
      exact ⟨rfl, rfl⟩
end Go.Proofs.Ytkajedabcedifab
