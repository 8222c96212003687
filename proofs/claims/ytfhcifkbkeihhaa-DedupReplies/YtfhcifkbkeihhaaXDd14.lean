/- There and back: the answer of its bytes. -/
import Derived.Test.YtfhcifkbkeihhaaXDd13
namespace Go.Proofs.Ytfhcifkbkeihhaa
open Go.RowKit
set_option linter.unusedVariables false
set_option linter.unusedSimpArgs false
set_option maxRecDepth 4000

theorem num_mod12 (k : Nat) (hk : k ≤ 8) (x : BitVec 64) : (num (be k x)).toNat = x.toNat % 2 ^ (8 * k) := by
  induction k generalizing x with
  | zero =>
    have : be 0 x = [] := by simp [be, be8]
    rw [this]
    simp [num, Nat.mod_one]
  | succ k ih =>
    rw [be_snoc k x hk, num_snoc, BitVec.toNat_or, BitVec.toNat_shiftLeft, ih (by omega), BitVec.toNat_setWidth, BitVec.toNat_setWidth, BitVec.toNat_ushiftRight, Nat.shiftRight_eq_div_pow]
    have hA : x.toNat / 2 ^ 8 % 2 ^ (8 * k) < 2 ^ 56 := Nat.lt_of_lt_of_le (Nat.mod_lt _ (Nat.two_pow_pos _)) (Nat.pow_le_pow_right (by omega) (by omega))
    have hm : x.toNat % 2 ^ (8 * (k + 1)) = x.toNat % 256 + 256 * (x.toNat / 2 ^ 8 % 2 ^ (8 * k)) := by
      rw [show 8 * (k + 1) = 8 + 8 * k by omega, Nat.pow_add, Nat.mod_mul]
    rw [hm]
    generalize x.toNat / 2 ^ 8 % 2 ^ (8 * k) = A at *
    rw [Nat.shiftLeft_eq, Nat.mod_eq_of_lt (show A * 2 ^ 8 < 2 ^ 64 by omega), Nat.mod_eq_of_lt (show x.toNat % 2 ^ 8 < 2 ^ 64 by omega), ← Nat.shiftLeft_eq, ← Nat.shiftLeft_add_eq_or_of_lt (show x.toNat % 2 ^ 8 < 2 ^ 8 by omega), Nat.shiftLeft_eq]
    omega
theorem rd_num12 (s : Nat) (n : Int) (Y : List (BitVec 8)) (h1 : s = 1 ∨ s = 6) (h0 : 0 ≤ n) (hb : n < 2 ^ (8 * s)) : rdNum (be s (BitVec.ofInt 64 n) ++ Y) 0 s = (Y, 0, n) := by
  have hbl := be_length s (BitVec.ofInt 64 n) (by omega)
  have hnE : numE (be s (BitVec.ofInt 64 n) ++ Y).length s = 0 := by
    unfold numE
    have hw : widthB s = true := by unfold widthB; rw [decide_eq_true_eq]; omega
    rw [hw, if_neg (by decide), List.length_append, hbl, if_neg (by omega)]
  have e : ((numTo (be s (BitVec.ofInt 64 n) ++ Y) 0 s).toNat : Int) = n % 18446744073709551616 % 2 ^ (8 * s) := by
    unfold numTo
    rw [List.drop_zero, List.take_left' hbl, num_mod12 s (by omega), Int.natCast_emod, ← toU64]
    simp
  unfold rdNum
  rw [if_pos rfl, if_pos hnE, Int.toNat_natCast, List.drop_left' hbl, e]
  have : wrap64 (n % 18446744073709551616 % 2 ^ (8 * s)) = n := by
    unfold wrap64
    rcases h1 with rfl | rfl <;> simp only [Nat.reduceMul, Int.reducePow] at hb ⊢ <;> omega
  rw [this]
theorem rd_bytes12 (l Y : List (BitVec 8)) (h : l.length ≤ 4096) : rdBytes ((be 2 (BitVec.ofNat 64 l.length) ++ l) ++ Y) 0 2 = (Y, 0, l) := by
  have hbl := be_length 2 (BitVec.ofNat 64 l.length) (by omega)
  have hnum : (numTo ((be 2 (BitVec.ofNat 64 l.length) ++ l) ++ Y) 0 2).toNat = l.length := by
    unfold numTo
    rw [List.drop_zero, List.append_assoc, List.take_left' hbl, num_mod12 2 (by omega), BitVec.toNat_ofNat, Nat.mod_eq_of_lt (a := l.length) (by omega), Nat.mod_eq_of_lt (by omega)]
  have hE : cutE ((be 2 (BitVec.ofNat 64 l.length) ++ l) ++ Y) 2 = 0 := by
    unfold cutE
    have e : ((2 : Int)).toNat = 2 := rfl
    rw [if_neg (by decide), e, hnum, List.length_append, List.length_append, hbl, if_neg (by omega), if_neg (by omega), if_neg (by omega)]
  have hN : cutN ((be 2 (BitVec.ofNat 64 l.length) ++ l) ++ Y) 2 = 2 + l.length := by
    unfold cutN
    have e : ((2 : Int)).toNat = 2 := rfl
    rw [if_pos hE, e, hnum]
  unfold rdBytes
  have e : ((2 : Int)).toNat = 2 := rfl
  rw [if_pos rfl, if_pos hE, hN, e]
  have e1 : ((be 2 (BitVec.ofNat 64 l.length) ++ l) ++ Y).drop (2 + l.length) = Y := List.drop_left' (by rw [List.length_append, hbl])
  have e2 : (((be 2 (BitVec.ofNat 64 l.length) ++ l) ++ Y).drop 2).take (2 + l.length - 2) = l := by
    rw [List.append_assoc, List.drop_left' hbl, List.take_left' (by omega)]
  rw [e1, e2]
theorem rd_one12 {n : Int} (h : byteOk n) (Y : List (BitVec 8)) : rdNum (be 1 (BitVec.ofInt 64 n) ++ Y) 0 1 = (Y, 0, n) := by
  have := rd_num12 1 n Y (.inl rfl) h.1 (by have := h.2; simp only [Nat.reduceMul, Int.reducePow]; omega)
  exact this
/-- the bytes of an answer are that answer -/
theorem there_back {a b c d : Int} {l : List (BitVec 8)} (h : prE a b c d l.length = 0) : grE (prB a b c d l) = 0 ∧ grR (prB a b c d l) = (a, b, c, d, l) := by
  have h4 : fourOk a b c d := by
    unfold prE at h
    by_cases k : fourOk a b c d
    · exact k
    · rw [if_neg k] at h; cases h
  have hl : l.length ≤ 4096 := by
    unfold prE at h
    rw [if_pos h4] at h
    by_cases k : l.length ≤ 4096
    · exact k
    · rw [if_neg k] at h; cases h
  have eB : prB a b c d l = be 1 (BitVec.ofInt 64 a) ++ (be 1 (BitVec.ofInt 64 b) ++ (be 1 (BitVec.ofInt 64 c) ++ (be 1 (BitVec.ofInt 64 d) ++ ((be 2 (BitVec.ofNat 64 l.length) ++ l) ++ [])))) := by
    unfold prB
    rw [if_pos h]
    simp [fourB]
  rw [eB]
  generalize hX : be 1 (BitVec.ofInt 64 a) ++ (be 1 (BitVec.ofInt 64 b) ++ (be 1 (BitVec.ofInt 64 c) ++ (be 1 (BitVec.ofInt 64 d) ++ ((be 2 (BitVec.ofNat 64 l.length) ++ l) ++ [])))) = X
  have g1 : gr1 X = (be 1 (BitVec.ofInt 64 b) ++ (be 1 (BitVec.ofInt 64 c) ++ (be 1 (BitVec.ofInt 64 d) ++ ((be 2 (BitVec.ofNat 64 l.length) ++ l) ++ []))), 0, a) := by rw [← hX]; exact rd_one12 h4.1 _
  have g2 : gr2 X = (be 1 (BitVec.ofInt 64 c) ++ (be 1 (BitVec.ofInt 64 d) ++ ((be 2 (BitVec.ofNat 64 l.length) ++ l) ++ [])), 0, b) := by unfold gr2; rw [g1]; exact rd_one12 h4.2.1 _
  have g3 : gr3 X = (be 1 (BitVec.ofInt 64 d) ++ ((be 2 (BitVec.ofNat 64 l.length) ++ l) ++ []), 0, c) := by unfold gr3; rw [g2]; exact rd_one12 h4.2.2.1 _
  have g4 : gr4 X = ((be 2 (BitVec.ofNat 64 l.length) ++ l) ++ [], 0, d) := by unfold gr4; rw [g3]; exact rd_one12 h4.2.2.2 _
  have g5 : gr5 X = ([], 0, l) := by unfold gr5; rw [g4]; exact rd_bytes12 l [] hl
  have g6 : gr6 X = 0 := by unfold gr6; rw [g5]; rfl
  have gE : grE X = 0 := by unfold grE; rw [if_pos g6, g5, if_pos hl]
  refine ⟨gE, ?_⟩
  unfold grR
  rw [if_pos gE, g1, g2, g3, g4, g5]
end Go.Proofs.Ytfhcifkbkeihhaa

