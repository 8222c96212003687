/- There and back: the piece of its bytes. -/
import Derived.Test.YtdagekciipfnoaaXCk3
namespace Go.Proofs.Ytdagekciipfnoaa
open Go.RowKit
set_option linter.unusedVariables false
set_option linter.unusedSimpArgs false
set_option maxRecDepth 4000

theorem num_mod7 (k : Nat) (hk : k ≤ 8) (x : BitVec 64) : (num (be k x)).toNat = x.toNat % 2 ^ (8 * k) := by
  induction k generalizing x with
  | zero =>
    have : be 0 x = [] := by simp [be, be8]
    rw [this]
    simp [num, Nat.mod_one]
  | succ k ih =>
    rw [be_snoc k x hk, num_snoc, BitVec.toNat_or, BitVec.toNat_shiftLeft, ih (by omega), BitVec.toNat_setWidth, BitVec.toNat_setWidth, BitVec.toNat_ushiftRight, Nat.shiftRight_eq_div_pow]
    have hA : x.toNat / 2 ^ 8 % 2 ^ (8 * k) < 2 ^ 56 := Nat.lt_of_lt_of_le (Nat.mod_lt _ (Nat.two_pow_pos _)) (Nat.pow_le_pow_right (by omega) (by omega))
    have hm : x.toNat % 2 ^ (8 * (k + 1)) = x.toNat % 256 + 256 * (x.toNat / 2 ^ 8 % 2 ^ (8 * k)) := by
      rw [show 8 * (k + 1) = 8 + 8 * k by omega, Nat.pow_add, Nat.mod_mul]
    rw [hm]
    generalize x.toNat / 2 ^ 8 % 2 ^ (8 * k) = A at *
    rw [Nat.shiftLeft_eq, Nat.mod_eq_of_lt (show A * 2 ^ 8 < 2 ^ 64 by omega), Nat.mod_eq_of_lt (show x.toNat % 2 ^ 8 < 2 ^ 64 by omega), ← Nat.shiftLeft_eq, ← Nat.shiftLeft_add_eq_or_of_lt (show x.toNat % 2 ^ 8 < 2 ^ 8 by omega), Nat.shiftLeft_eq]
    omega
theorem rd_num7 (s : Nat) (n : Int) (Y : List (BitVec 8)) (h1 : s = 2 ∨ s = 4 ∨ s = 8) (h0 : 0 ≤ n) (hb : n < 2 ^ (8 * s)) (hb2 : n ≤ 9223372036854775807) : rdNum (be s (BitVec.ofInt 64 n) ++ Y) 0 s = (Y, 0, n) := by
  have hbl := be_length s (BitVec.ofInt 64 n) (by omega)
  have hnE : numE (be s (BitVec.ofInt 64 n) ++ Y).length s = 0 := by
    unfold numE
    have hw : widthB s = true := by unfold widthB; rw [decide_eq_true_eq]; omega
    rw [hw, if_neg (by decide), List.length_append, hbl, if_neg (by omega)]
  have e : ((numTo (be s (BitVec.ofInt 64 n) ++ Y) 0 s).toNat : Int) = n % 18446744073709551616 % 2 ^ (8 * s) := by
    unfold numTo
    rw [List.drop_zero, List.take_left' hbl, num_mod7 s (by omega), Int.natCast_emod, ← toU64]
    simp
  unfold rdNum
  rw [if_pos rfl, if_pos hnE, Int.toNat_natCast, List.drop_left' hbl, e]
  have : wrap64 (n % 18446744073709551616 % 2 ^ (8 * s)) = n := by
    unfold wrap64
    rcases h1 with rfl | rfl | rfl <;> simp only [Nat.reduceMul, Int.reducePow] at hb ⊢ <;> omega
  rw [this]
theorem rd_bytes7 (l Y : List (BitVec 8)) (h : l.length ≤ 4096) : rdBytes ((be 2 (BitVec.ofNat 64 l.length) ++ l) ++ Y) 0 2 = (Y, 0, l) := by
  have hbl := be_length 2 (BitVec.ofNat 64 l.length) (by omega)
  have hnum : (numTo ((be 2 (BitVec.ofNat 64 l.length) ++ l) ++ Y) 0 2).toNat = l.length := by
    unfold numTo
    rw [List.drop_zero, List.append_assoc, List.take_left' hbl, num_mod7 2 (by omega), BitVec.toNat_ofNat, Nat.mod_eq_of_lt (a := l.length) (by omega), Nat.mod_eq_of_lt (by omega)]
  have hE : cutE ((be 2 (BitVec.ofNat 64 l.length) ++ l) ++ Y) 2 = 0 := by
    unfold cutE
    have e : ((2 : Int)).toNat = 2 := rfl
    rw [if_neg (by decide), e, hnum, List.length_append, List.length_append, hbl, if_neg (by omega), if_neg (by omega), if_neg (by omega)]
  have hN : cutN ((be 2 (BitVec.ofNat 64 l.length) ++ l) ++ Y) 2 = 2 + l.length := by
    unfold cutN
    have e : ((2 : Int)).toNat = 2 := rfl
    rw [if_pos hE, e, hnum]
  unfold rdBytes
  have e : ((2 : Int)).toNat = 2 := rfl
  rw [if_pos rfl, if_pos hE, hN, e]
  have e1 : ((be 2 (BitVec.ofNat 64 l.length) ++ l) ++ Y).drop (2 + l.length) = Y := List.drop_left' (by rw [List.length_append, hbl])
  have e2 : (((be 2 (BitVec.ofNat 64 l.length) ++ l) ++ Y).drop 2).take (2 + l.length - 2) = l := by
    rw [List.append_assoc, List.drop_left' hbl, List.take_left' (by omega)]
  rw [e1, e2]
/-- the bytes of a piece are that piece -/
theorem piece_back {id num cnt : Int} {s : BitVec 32} {d : List (BitVec 8)} (hid : idB id = true) (hc : cnt ≤ 256) (hn0 : 0 ≤ num) (hn : num < cnt) (hd : d.length ≤ 4096) : dcE (pcB id num cnt s d) = 0 ∧ dcR (pcB id num cnt s d) = (id, num, cnt, (s.toNat : Int), d) := by
  have hid' : 1 ≤ id ∧ id ≤ 1152921504606846976 := by unfold idB at hid; simpa using hid
  have hs := s.isLt
  obtain ⟨H, hH⟩ : ∃ H, H = pcH id num cnt s d := ⟨_, rfl⟩
  have hs2 := (Crc.sum H).isLt
  have hHl : H.length = 18 + d.length := by rw [hH]; exact pcH_len _ _ _ _ _
  have eB : pcB id num cnt s d = be 8 (BitVec.ofInt 64 id) ++ (be 2 (BitVec.ofInt 64 num) ++ (be 2 (BitVec.ofInt 64 cnt) ++ (be 4 (BitVec.ofInt 64 (s.toNat : Int)) ++ ((be 2 (BitVec.ofNat 64 d.length) ++ d) ++ (be 4 (BitVec.ofInt 64 ((Crc.sum H).toNat : Int)) ++ []))))) := by
    unfold pcB
    rw [← hH]
    conv => lhs; rw [hH]
    unfold pcH
    simp [hH, pcH]
  have eT : (pcB id num cnt s d).take ((pcB id num cnt s d).length - 4) = H := by
    have : pcB id num cnt s d = H ++ be 4 (BitVec.ofInt 64 ((Crc.sum H).toNat : Int)) := by unfold pcB; rw [← hH]
    rw [pcB_len, this]
    exact List.take_left' (by omega)
  generalize hX : pcB id num cnt s d = X at *
  have g1 : dc1 X = (be 2 (BitVec.ofInt 64 num) ++ (be 2 (BitVec.ofInt 64 cnt) ++ (be 4 (BitVec.ofInt 64 (s.toNat : Int)) ++ ((be 2 (BitVec.ofNat 64 d.length) ++ d) ++ (be 4 (BitVec.ofInt 64 ((Crc.sum H).toNat : Int)) ++ [])))), 0, id) := by unfold dc1; rw [eB]; exact rd_num7 8 id _ (by omega) (by omega) (by simp only [Nat.reduceMul, Int.reducePow]; omega) (by omega)
  have g2 : dc2 X = (be 2 (BitVec.ofInt 64 cnt) ++ (be 4 (BitVec.ofInt 64 (s.toNat : Int)) ++ ((be 2 (BitVec.ofNat 64 d.length) ++ d) ++ (be 4 (BitVec.ofInt 64 ((Crc.sum H).toNat : Int)) ++ []))), 0, num) := by unfold dc2; rw [g1]; exact rd_num7 2 num _ (by omega) (by omega) (by simp only [Nat.reduceMul, Int.reducePow]; omega) (by omega)
  have g3 : dc3 X = (be 4 (BitVec.ofInt 64 (s.toNat : Int)) ++ ((be 2 (BitVec.ofNat 64 d.length) ++ d) ++ (be 4 (BitVec.ofInt 64 ((Crc.sum H).toNat : Int)) ++ [])), 0, cnt) := by unfold dc3; rw [g2]; exact rd_num7 2 cnt _ (by omega) (by omega) (by simp only [Nat.reduceMul, Int.reducePow]; omega) (by omega)
  have g4 : dc4 X = ((be 2 (BitVec.ofNat 64 d.length) ++ d) ++ (be 4 (BitVec.ofInt 64 ((Crc.sum H).toNat : Int)) ++ []), 0, (s.toNat : Int)) := by unfold dc4; rw [g3]; exact rd_num7 4 _ _ (by omega) (by omega) (by simp only [Nat.reduceMul, Int.reducePow]; omega) (by omega)
  have g5 : dc5 X = (be 4 (BitVec.ofInt 64 ((Crc.sum H).toNat : Int)) ++ [], 0, d) := by unfold dc5; rw [g4]; exact rd_bytes7 d _ hd
  have g6 : dc6 X = ([], 0, ((Crc.sum H).toNat : Int)) := by unfold dc6; rw [g5]; exact rd_num7 4 _ _ (by omega) (by omega) (by simp only [Nat.reduceMul, Int.reducePow]; omega) (by omega)
  have g7 : dc7 X = 0 := by unfold dc7; rw [g6]; rfl
  have hcan : canC id num cnt d.length = true := by unfold canC; rw [hid, decide_eq_true hc, decide_eq_true hn, decide_eq_true hd]; rfl
  have gE : dcE X = 0 := by unfold dcE; rw [if_pos g7, g6, eT, if_pos rfl, g1, g2, g3, g5, if_pos hcan]
  refine ⟨gE, ?_⟩
  unfold dcR
  rw [if_pos gE, g1, g2, g3, g4, g5]
end Go.Proofs.Ytdagekciipfnoaa

