/- What must come of fixed calls of field. -/
import Derived.Test.YtfcaaljehhibgaaXFieldW1
import Derived.Test.YtfcaaljehhibgaaXFieldR
namespace Go.Proofs.Ytfcaaljehhibgaa
open Go.RowKit

theorem make3 (w : World) : (Instr.makeSlice 34 (.int .i64 3) (.int .i64 3)).run Try.prog w = .ok (.slice (some ⟨w.heap.size, 0, none⟩) 3 3) (w.alloc (.cells #[.int .u8 0, .int .u8 0, .int .u8 0] 5)) := by kernel_rfl
theorem known2_list : over [0#8, 0#8, 0#8] 1 (be 2 258#64) = [0#8, 1#8, 2#8] := by decide +kernel


end Go.Proofs.Ytfcaaljehhibgaa

/- Walks of Set and Bits. -/
namespace Go.Proofs.Ytfcaaljehhibgaa
open Go.RowKit

theorem below_draw (w : World) (n : Nat) : Below w.heap.size w (w.drewN n) := ⟨rfl, rfl, rfl, Nat.le_refl _, fun _ _ => rfl⟩
/-- whether size bits from low on lie in a byte -/
def bitsB (low size : Int) : Bool := decide (0 ≤ low ∧ 1 ≤ size ∧ low ≤ 8 - size)

/-- so many ones -/
def onesN (size : Nat) : Int := 2 ^ size - 1
def msk (size : Nat) : BitVec 8 := BitVec.ofNat 8 (2 ^ size - 1)
theorem pow_le (size : Nat) (h : size ≤ 8) : (2 : Int) ^ size ≤ 256 ∧ 1 ≤ (2 : Int) ^ size := by
  match size, h with
  | 0, _ | 1, _ | 2, _ | 3, _ | 4, _ | 5, _ | 6, _ | 7, _ | 8, _ => decide
theorem ones_wrap (size : Nat) (h : size ≤ 8) : wrap64 (wrap64 ((2 : Int) ^ size) - 1) = onesN size := by
  have := pow_le size h
  unfold wrap64 onesN; omega
theorem onesN_bd (size : Nat) (h : size ≤ 8) : 0 ≤ onesN size ∧ onesN size ≤ 255 := by
  have := pow_le size h; unfold onesN; omega


theorem ofInt64_8 (x : BitVec 8) : BitVec.ofInt 64 (x.toNat : Int) = x.setWidth 64 := by
  rw [BitVec.ofInt_natCast, BitVec.ofNat_toNat]
theorem wrap_8 (x : BitVec 8) : IntKind.i64.wrap (((x.setWidth 64).toNat : Nat) : Int) = (x.toNat : Int) := by
  have := x.isLt
  rw [BitVec.toNat_setWidth, Nat.mod_eq_of_lt (by omega), wrap_i64_small _ (by omega) (by omega)]
theorem or_i64 (x y : BitVec 8) : bits .or .i64 (x.toNat : Int) (y.toNat : Int) = ((x ||| y).toNat : Int) := by
  show IntKind.i64.wrap ((BitVec.ofInt 64 (x.toNat : Int) ||| BitVec.ofInt 64 (y.toNat : Int)).toNat : Int) = _
  rw [ofInt64_8, ofInt64_8, ← BitVec.setWidth_or, wrap_8]
theorem and_i64 (x y : BitVec 8) : bits .and .i64 (x.toNat : Int) (y.toNat : Int) = ((x &&& y).toNat : Int) := by
  show IntKind.i64.wrap ((BitVec.ofInt 64 (x.toNat : Int) &&& BitVec.ofInt 64 (y.toNat : Int)).toNat : Int) = _
  rw [ofInt64_8, ofInt64_8, ← BitVec.setWidth_and, wrap_8]
theorem andNot_i64 (x y : BitVec 8) : bits .andNot .i64 (x.toNat : Int) (y.toNat : Int) = ((x &&& ~~~ y).toNat : Int) := by
  show IntKind.i64.wrap ((BitVec.ofInt 64 (x.toNat : Int) &&& ~~~ BitVec.ofInt 64 (y.toNat : Int)).toNat : Int) = _
  have e : x.setWidth 64 &&& ~~~ (y.setWidth 64) = (x &&& ~~~ y).setWidth 64 := by
    apply BitVec.eq_of_getLsbD_eq
    intro j hj
    simp only [BitVec.getLsbD_and, BitVec.getLsbD_not, BitVec.getLsbD_setWidth]
    by_cases h : j < 8
    · simp [h, hj]
    · simp [BitVec.getLsbD_of_ge x j (by omega)]
  rw [ofInt64_8, ofInt64_8, e, wrap_8]

/-- a byte with a number in some of its bits -/
def set8 (c : BitVec 8) (low size n : Nat) : BitVec 8 := (c &&& ~~~ (msk size <<< low)) ||| (BitVec.ofNat 8 n <<< low)
theorem msk_val (size low : Nat) (h : low + size ≤ 8) : onesN size * 2 ^ low = ((msk size <<< low).toNat : Int) := by
  have : ∀ size : Fin 9, ∀ low : Fin 9, low.val + size.val ≤ 8 → onesN size.val * 2 ^ low.val = ((msk size.val <<< low.val).toNat : Int) := by decide
  exact this ⟨size, by omega⟩ ⟨low, by omega⟩ h
theorem ones_val (size : Nat) (h : size ≤ 8) : onesN size = ((msk size).toNat : Int) := by
  have := msk_val size 0 (by omega)
  simpa using this
theorem n_val (n size low : Nat) (hn : (n : Int) ≤ onesN size) (h : low + size ≤ 8) : (n : Int) * 2 ^ low = ((BitVec.ofNat 8 n <<< low).toNat : Int) := by
  have h1 : n < 2 ^ size := by unfold onesN at hn; have : ((2 ^ size : Nat) : Int) = (2 : Int) ^ size := by simp
                               omega
  have h2 : n * 2 ^ low < 2 ^ 8 := by
    calc n * 2 ^ low < 2 ^ size * 2 ^ low := Nat.mul_lt_mul_of_pos_right h1 (Nat.two_pow_pos _)
      _ = 2 ^ (size + low) := (Nat.pow_add _ _ _).symm
      _ ≤ 2 ^ 8 := Nat.pow_le_pow_right (by decide) (by omega)
  have h3 : n < 2 ^ 8 := Nat.lt_of_lt_of_le h1 (Nat.pow_le_pow_right (by decide) (by omega))
  rw [BitVec.toNat_shiftLeft, BitVec.toNat_ofNat, Nat.mod_eq_of_lt h3, Nat.shiftLeft_eq, Nat.mod_eq_of_lt h2]
  simp

theorem small8 (x : BitVec 8) : wrap64 (x.toNat : Int) = (x.toNat : Int) := by
  have := x.isLt; unfold wrap64; omega
theorem set_val (c : BitVec 8) (low size n : Nat) (h2 : low + size ≤ 8) (h3 : (n : Int) ≤ onesN size) :
    bits .or .i64 (bits .andNot .i64 (c.toNat : Int) (wrap64 (onesN size * 2 ^ low))) (wrap64 ((n : Int) * 2 ^ low)) % 256 = ((set8 c low size n).toNat : Int) := by
  rw [msk_val size low h2, n_val n size low h3 h2, small8, small8, andNot_i64, or_i64]
  have := (set8 c low size n).isLt
  unfold set8 at *
  omega
theorem bits_val (c : BitVec 8) (low size : Nat) (h2 : low + size ≤ 8) : bits .and .i64 ((c.toNat : Int) / 2 ^ low) (onesN size) = (((c >>> low) &&& msk size).toNat : Int) := by
  have e : (c.toNat : Int) / 2 ^ low = ((c >>> low).toNat : Int) := by
    rw [BitVec.toNat_ushiftRight, Nat.shiftRight_eq_div_pow, Int.natCast_ediv]; simp
  rw [e, ones_val size (by omega), and_i64]
theorem ret_two {k k' : IntKind} {a b c : Int} (h : a = b) : Ending.returned (.tuple #[.int k a, .int k' c]) = .returned (.tuple #[.int k b, .int k' c]) := by rw [h]






theorem bitsB_ex {low size : Int} (h : bitsB low size = true) : ∃ q s : Nat, low = q ∧ size = s ∧ 1 ≤ s ∧ q + s ≤ 8 := by
  unfold bitsB at h; rw [decide_eq_true_eq] at h
  exact ⟨low.toNat, size.toNat, by omega, by omega, by omega, by omega⟩
theorem msk_bit (size j : Nat) (h : size ≤ 8) : (msk size).getLsbD j = decide (j < size) := by
  unfold msk
  rw [BitVec.getLsbD_ofNat, Nat.testBit_two_pow_sub_one]
  by_cases h8 : j < 8
  · simp [h8]
  · simp [h8]; omega
theorem n_bit (n size j : Nat) (hn : (n : Int) ≤ onesN size) (h : size ≤ j) : n.testBit j = false := by
  have h1 : n < 2 ^ size := by unfold onesN at hn; have : ((2 ^ size : Nat) : Int) = (2 : Int) ^ size := by simp
                               omega
  exact Nat.testBit_lt_two_pow (Nat.lt_of_lt_of_le h1 (Nat.pow_le_pow_right (by decide) h))
theorem set8_bit (c : BitVec 8) (low size n i : Nat) (h : low + size ≤ 8) (hn : (n : Int) ≤ onesN size) (hi : i < 8) :
    (set8 c low size n).getLsbD i = if low ≤ i ∧ i < low + size then n.testBit (i - low) else c.getLsbD i := by
  unfold set8
  rw [BitVec.getLsbD_or, BitVec.getLsbD_and, BitVec.getLsbD_not, BitVec.getLsbD_shiftLeft, BitVec.getLsbD_shiftLeft, msk_bit size _ (by omega), BitVec.getLsbD_ofNat]
  by_cases h1 : low ≤ i
  · by_cases h2 : i < low + size
    · have e1 : ¬ i < low := by omega
      have e2 : i - low < size := by omega
      have e3 : i - low < 8 := by omega
      simp [h1, h2, e1, e2, e3, hi]
    · have e1 : ¬ i < low := by omega
      have e2 : ¬ i - low < size := by omega
      have e4 := n_bit n size (i - low) hn (by omega)
      simp [h1, h2, e1, e2, e4, hi]
  · have e1 : i < low := by omega
    simp [h1, e1, hi]
theorem set8_back (c : BitVec 8) (low size n : Nat) (h : low + size ≤ 8) (hn : (n : Int) ≤ onesN size) : ((((set8 c low size n) >>> low) &&& msk size).toNat : Int) = (n : Int) := by
  have e : ((set8 c low size n) >>> low) &&& msk size = BitVec.ofNat 8 n := by
    apply BitVec.eq_of_getLsbD_eq
    intro j hj
    rw [BitVec.getLsbD_and, BitVec.getLsbD_ushiftRight, msk_bit size j (by omega), BitVec.getLsbD_ofNat]
    by_cases h2 : j < size
    · rw [set8_bit c low size n (low + j) h hn (by omega), if_pos (by omega)]
      simp [h2, hj]
    · have e4 := n_bit n size j hn (by omega)
      simp [h2, e4]
  have h1 : n < 2 ^ 8 := by
    have h0 : n < 2 ^ size := by unfold onesN at hn; have : ((2 ^ size : Nat) : Int) = (2 : Int) ^ size := by simp
                                 omega
    exact Nat.lt_of_lt_of_le h0 (Nat.pow_le_pow_right (by decide) (by omega))
  rw [e, BitVec.toNat_ofNat, Nat.mod_eq_of_lt h1]
theorem bit8 (c : BitVec 8) (k : Nat) : bits .and .u8 ((c.toNat : Int) / 2 ^ k) 1 = if c.getLsbD k then 1 else 0 := by
  have e : (c.toNat : Int) / 2 ^ k = ((c >>> k).toNat : Int) := by
    rw [BitVec.toNat_ushiftRight, Nat.shiftRight_eq_div_pow, Int.natCast_ediv]; simp
  have hb : c.getLsbD k = (c >>> k).getLsbD 0 := by rw [BitVec.getLsbD_ushiftRight, Nat.add_zero]
  rw [e, show (1 : Int) = ((1 : Nat) : Int) from rfl, u8_and_nat _ _ (BitVec.isLt _) (by omega), and_one, hb, BitVec.getLsbD, Nat.testBit_zero]
  generalize (c >>> k).toNat = m
  by_cases h : m % 2 = 1
  · simp [h]
  · have : m % 2 = 0 := by omega
    simp [this]

theorem num_snoc (l : List (BitVec 8)) (c : BitVec 8) : num (l ++ [c]) = ((num l) <<< 8) ||| c.setWidth 64 := by
  unfold num; rw [List.foldl_append]; rfl
theorem be_snoc (k : Nat) (x : BitVec 64) (h : k + 1 ≤ 8) : be (k + 1) x = be k (x >>> 8) ++ [x.setWidth 8] := by
  have e : ∀ j, (x >>> 8) >>> j = x >>> (8 + j) := fun j => (BitVec.shiftRight_add x 8 j).symm
  match k, h with
  | 0, _ | 1, _ | 2, _ | 3, _ | 4, _ | 5, _ | 6, _ | 7, _ => simp [be, be8, e]
theorem low_high (x : BitVec 64) : ((x >>> 8) <<< 8) ||| (x.setWidth 8).setWidth 64 = x := by
  apply BitVec.eq_of_getLsbD_eq
  intro j hj
  rw [BitVec.getLsbD_or, BitVec.getLsbD_shiftLeft, BitVec.getLsbD_ushiftRight, BitVec.getLsbD_setWidth, BitVec.getLsbD_setWidth]
  by_cases h : j < 8
  · simp [h, hj]
  · have : 8 + (j - 8) = j := by omega
    simp [h, hj, this]
theorem num_be (k : Nat) (hk : k ≤ 8) (x : BitVec 64) (h : fitsB k x = true) : num (be k x) = x := by
  induction k generalizing x with
  | zero =>
    unfold fitsB at h
    rw [decide_eq_true_eq] at h
    have h0 : x.toNat = 0 := by simpa using h
    have : x = 0#64 := BitVec.eq_of_toNat_eq h0
    rw [this]; rfl
  | succ k ih =>
    rw [be_snoc k x hk, num_snoc, ih (by omega) (x >>> 8) ?_, low_high]
    unfold fitsB at *
    rw [decide_eq_true_eq] at *
    rw [BitVec.toNat_ushiftRight, Nat.shiftRight_eq_div_pow, Nat.div_div_eq_div_mul, ← Nat.pow_add]
    rw [show 8 * (k + 1) = 8 + 8 * k by omega] at h
    exact h
theorem over_mid (l : List (BitVec 8)) (p : Nat) (b : List (BitVec 8)) (h : p + b.length ≤ l.length) : numTo (over l p b) p b.length = num b := by
  unfold numTo over
  rw [List.drop_left' (by simp; omega), List.take_left' rfl]
theorem over_other (l : List (BitVec 8)) (p : Nat) (b : List (BitVec 8)) (i : Nat) (h : p + b.length ≤ l.length) (hi : i < p ∨ p + b.length ≤ i) : bt (over l p b) i = bt l i := by
  unfold bt over
  rcases hi with hi | hi
  · rw [List.getD, List.getD, List.getElem?_append_left (by simp; omega), List.getElem?_take, if_pos hi]
  · rw [List.getD, List.getD, List.getElem?_append_right (by simp; omega), List.getElem?_append_right (by simp; omega), List.getElem?_drop]
    have e : p + b.length + (i - (l.take p).length - b.length) = i := by rw [List.length_take]; omega
    rw [e]
end Go.Proofs.Ytfcaaljehhibgaa
