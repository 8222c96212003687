/- Walks of joined sums. -/
import Derived.Test.YtkajedabcedifaaSumW2
namespace Go.Proofs.Ytkajedabcedifaa
open Go.RowKit

theorem wt_step (y : BitVec 32) (k : Nat) : (bits .and .u32 ((y.toNat : Int) / 2 ^ (31 - k)) 1 == 1) = y.getLsbD (31 - k) := by
  have e : (y.toNat : Int) / 2 ^ (31 - k) = ((y >>> (31 - k)).toNat : Int) := by
    rw [BitVec.toNat_ushiftRight, Nat.shiftRight_eq_div_pow, Int.natCast_ediv]; simp
  rw [e, odd32]
  have h := lsb32 (y >>> (31 - k))
  rw [BitVec.getLsbD_ushiftRight, Nat.add_zero] at h
  rw [h, Bool.eq_iff_iff]
  simp only [beq_iff_eq, decide_eq_true_eq]
  omega

theorem times_yes (x y : BitVec 32) (k : Nat) (h : (bits .and .u32 ((y.toNat : Int) / 2 ^ (31 - k)) 1 == 1) = true) :
    Value.int .u32 (bits .xor .u32 ((Crc.Tn k y x).toNat : Int) ((Crc.Sn k x).toNat : Int)) = .int .u32 ((Crc.Tn (k + 1) y x).toNat : Int) := by
  rw [wt_step] at h
  rw [xor32]
  show _ = Value.int .u32 ((Crc.Tn k y x ^^^ (if y.getLsbD (31 - k) then Crc.Sn k x else 0#32)).toNat : Int)
  rw [h]; rfl
theorem times_no (x y : BitVec 32) (k : Nat) (h : (bits .and .u32 ((y.toNat : Int) / 2 ^ (31 - k)) 1 == 1) = false) :
    Value.int .u32 ((Crc.Tn k y x).toNat : Int) = .int .u32 ((Crc.Tn (k + 1) y x).toNat : Int) := by
  rw [wt_step] at h
  show _ = Value.int .u32 ((Crc.Tn k y x ^^^ (if y.getLsbD (31 - k) then Crc.Sn k x else 0#32)).toNat : Int)
  rw [h]; simp

set_option maxHeartbeats 400000 in
theorem times_any (x y : BitVec 32) (w : World) :
    Calls Try.prog 25 #[.int .u32 (x.toNat : Int), .int .u32 (y.toNat : Int)] w fun e w' => e = .returned (.int .u32 ((Crc.Tn 32 y x).toNat : Int)) ∧ w' = w := by
  go_enter Try.func25, Try.ntmps25
  go_wp2_with fail
  go_loop [0, 5, 7] (fun a p i => ∃ k : Nat, k ≤ 32 ∧ i = .int .i64 k ∧ a = .int .u32 ((Crc.Sn k x).toNat : Int) ∧ p = .int .u32 ((Crc.Tn k y x).toNat : Int)) (fun _ _ i => 32 - (intOf i).toNat)
  case atStart => exact ⟨0, by omega, rfl, rfl, rfl⟩
  case round =>
    obtain ⟨k, hk, rfl, rfl, rfl⟩ := hrel
    by_cases hlt : k < 32
    · go_wp2_with (go_at_call 29; refine (shift_any _ _).mono ?_; rintro e w' ⟨rfl, rfl⟩)
      · go_round
        case rel => exact ⟨k + 1, by omega, by go_num, rfl, times_yes x y k (by assumption)⟩
        case measure => simp [intOf]; omega
      · go_round
        case rel => exact ⟨k + 1, by omega, by go_num, rfl, times_no x y k (by assumption)⟩
        case measure => simp [intOf]; omega
    · go_wp2
      go_ret
      have : k = 32 := by omega
      subst this
      exact ⟨rfl, rfl⟩

/-- a power of x, as a register -/
def pw (q : Nat) : BitVec 32 := Crc.Sn q Crc.e
theorem pw_mul (p q : Nat) : Crc.Tn 32 (pw q) (pw p) = pw (q + p) := by
  unfold pw; rw [Crc.T_pow, ← Crc.Sn_add]
theorem pw_eq {p q : Nat} (h : p = q) : Value.int .u32 ((pw p).toNat : Int) = .int .u32 ((pw q).toNat : Int) := by rw [h]

theorem odd_yes (m : Nat) (h : m % 2 = 1) : (bits .and .i64 (m : Int) 1 == 1) = true := by
  rw [and1_i64]; simp; omega
theorem odd_no (m : Nat) (h : m % 2 = 0) : (bits .and .i64 (m : Int) 1 == 1) = false := by
  rw [and1_i64]; simp; omega
theorem past_odd (n lo s m : Nat) (h : lo + s * m = n) (h1 : m % 2 = 1) : (s + lo) + (s + s) * (m / 2) = n := by
  have e : m = 2 * (m / 2) + 1 := by omega
  have : s * m = (s + s) * (m / 2) + s := by
    conv => lhs; rw [e]
    rw [Nat.mul_add, Nat.mul_one, ← Nat.mul_assoc, Nat.mul_comm s 2, Nat.two_mul]
  omega
theorem past_even (n lo s m : Nat) (h : lo + s * m = n) (h1 : m % 2 = 0) : lo + (s + s) * (m / 2) = n := by
  have e : m = 2 * (m / 2) := by omega
  have : s * m = (s + s) * (m / 2) := by
    conv => lhs; rw [e]
    rw [← Nat.mul_assoc, Nat.mul_comm s 2, Nat.two_mul]
  omega

set_option maxHeartbeats 400000 in
theorem past_any (n : Nat) (w : World) (hn : n ≤ 65536) :
    Calls Try.prog 26 #[.int .i64 n] w fun e w' => e = .returned (.int .u32 ((pw (8 * n)).toNat : Int)) ∧ w' = w := by
  go_enter Try.func26, Try.ntmps26
  go_wp2_with fail
  go_loop [0, 3, 4] (fun i p q => ∃ m lo s : Nat, m ≤ 65536 ∧ i = .int .i64 m ∧ Hid (lo + s * m = n) ∧ p = .int .u32 ((pw (8 * lo)).toNat : Int) ∧ q = .int .u32 ((pw (8 * s)).toNat : Int)) (fun i _ _ => (intOf i).toNat)
  case atStart => exact ⟨n, 0, 1, hn, rfl, (by show 0 + 1 * n = n; omega), rfl, rfl⟩
  case round =>
    obtain ⟨m, lo, s, hm, rfl, hq, rfl, rfl⟩ := hrel
    by_cases h0 : 0 < m
    · obtain h2 | h2 : m % 2 = 1 ∨ m % 2 = 0 := by omega
      · have ho := odd_yes m h2
        have H := past_odd n lo s m hq.out h2
        have H' : Hid _ := H
        have h2' : Hid _ := h2
        clear H h2
        go_wp2_with (go_at_call 25; refine (times_any _ _ _).mono ?_; rintro e w' ⟨rfl, rfl⟩; rw [pw_mul])
        go_round
        case rel => exact ⟨m / 2, s + lo, s + s, by omega, by go_num, H'.out, pw_eq (by omega), pw_eq (by omega)⟩
        case measure => simp [intOf]; omega
      · have ho := odd_no m h2
        have H := past_even n lo s m hq.out h2
        have H' : Hid _ := H
        have h2' : Hid _ := h2
        clear H h2
        go_wp2_with (go_at_call 25; refine (times_any _ _ _).mono ?_; rintro e w' ⟨rfl, rfl⟩; rw [pw_mul])
        go_round
        case rel => exact ⟨m / 2, lo, s + s, by omega, by go_num, H'.out, rfl, pw_eq (by omega)⟩
        case measure => simp [intOf]; omega
    · have : m = 0 := by omega
      subst this
      have hlo : lo = n := by have := hq.out; omega
      subst hlo
      go_wp2
      go_ret
      exact ⟨rfl, rfl⟩

set_option maxHeartbeats 400000 in
theorem join_no (a b : BitVec 32) (n : Int) (w : World) (h : n < 0 ∨ 65536 < n) :
    Calls Try.prog 10 #[.int .u32 (a.toNat : Int), .int .u32 (b.toNat : Int), .int .i64 n] w fun e w' => e = .returned (.tuple #[.int .u32 0, .int .i64 1]) ∧ w' = w := by
  rcases h with h | h
  · go_enter Try.func10, Try.ntmps10
    go_wp2
    go_ret2
    exact ⟨rfl, rfl⟩
  · have h' : ¬ n < 0 := by omega
    go_enter Try.func10, Try.ntmps10
    go_wp2
    go_ret2
    exact ⟨rfl, rfl⟩

theorem join_val (a b : BitVec 32) (n : Nat) : bits .xor .u32 ((Crc.Tn 32 (pw (8 * n)) a).toNat : Int) (b.toNat : Int) = ((Crc.join a b n).toNat : Int) := by
  rw [xor32]; unfold pw Crc.join; rw [Crc.T_pow]

set_option maxHeartbeats 400000 in
theorem join_yes (a b : BitVec 32) (n : Nat) (w : World) (h : n ≤ 65536) :
    Calls Try.prog 10 #[.int .u32 (a.toNat : Int), .int .u32 (b.toNat : Int), .int .i64 n] w fun e w' => e = .returned (.tuple #[.int .u32 ((Crc.join a b n).toNat : Int), .int .i64 0]) ∧ w' = w := by
  have H : Hid _ := join_val a b n
  go_enter Try.func10, Try.ntmps10
  go_wp2_with fail
  refine (past_any n _ h).mono ?_
  rintro e w' ⟨rfl, rfl⟩
  go_wp2_with fail
  refine (times_any _ _ _).mono ?_
  rintro e w' ⟨rfl, rfl⟩
  go_wp2
  go_ret2
  exact ⟨by rw [← H.out]; rfl, rfl⟩
end Go.Proofs.Ytkajedabcedifaa
