/- What was written is read back. -/
import Derived.Test.YtkajedabcedifabFieldX3
import Derived.Test.YtkajedabcedifabFieldQ3
import Derived.Test.YtkajedabcedifabFieldS
import Derived.Test.YtkajedabcedifabFieldOps
namespace Go.Proofs.Ytkajedabcedifab
open Go.RowKit

/-- one operation -/
structure OpV where
  k : Int
  s : Int
  n : Int
  ap : Option Addr
  lp : Nat
  cp : Nat
  l : List (BitVec 8)
instance : Inhabited OpV := ⟨⟨0, 0, 0, none, 0, 0, []⟩⟩

theorem Ops.fn {w : World} {a : Option Addr} {len cap : Nat} (O : Ops (fun u => ∃ ap lp cp l, u = .slice ap lp cp ∧ Arg 140737488351232 w ap lp cp l) w a len cap) :
    ∃ f : Nat → OpV, (∀ i, i < len → Arg 140737488351232 w (f i).ap (f i).lp (f i).cp (f i).l) ∧ (len ≠ 0 → ∃ b off, a = some ⟨b, off, none⟩ ∧ ∀ i, i < len → OpAt w b (off + i * 4) (f i).k (f i).s (f i).n (.slice (f i).ap (f i).lp (f i).cp)) := by
  by_cases h0 : len = 0
  · exact ⟨fun _ => default, fun i hi => by omega, fun h => absurd h0 h⟩
  · obtain ⟨b, off, ha, hx⟩ := O.each h0
    have hx' : ∀ i, i < len → ∃ o : OpV, OpAt w b (off + i * 4) o.k o.s o.n (.slice o.ap o.lp o.cp) ∧ Arg 140737488351232 w o.ap o.lp o.cp o.l := by
      intro i hi
      obtain ⟨k, s, n, p, h1, ap, lp, cp, l, rfl, h2⟩ := hx i hi
      exact ⟨⟨k, s, n, ap, lp, cp, l⟩, h1, h2⟩
    obtain ⟨f, hf⟩ := Go.Deep.choose_lt hx'
    exact ⟨f, fun i hi => (hf i hi).2, fun _ => ⟨b, off, ha, fun i hi => (hf i hi).1⟩⟩

/-- what the first k operations wrote -/
def wrAll (f : Nat → OpV) : Nat → List (BitVec 8) × Int
  | 0 => ([], 0)
  | k + 1 => if (f k).k = 4 then wrBytes (wrAll f k).1 (wrAll f k).2 (f k).s (f k).l else wrNum (wrAll f k).1 (wrAll f k).2 (f k).s (f k).n
/-- what one operation writes -/
def enc (o : OpV) : List (BitVec 8) := if o.k = 4 then be o.s.toNat (BitVec.ofNat 64 o.l.length) ++ o.l else be o.s.toNat (BitVec.ofInt 64 o.n)
def okOp (o : OpV) : Prop := if o.k = 4 then addE o.s o.l.length = 0 else wnE o.s o.n = 0

theorem wrAll_succ (f : Nat → OpV) (k : Nat) : wrAll f (k + 1) = if (f k).k = 4 then wrBytes (wrAll f k).1 (wrAll f k).2 (f k).s (f k).l else wrNum (wrAll f k).1 (wrAll f k).2 (f k).s (f k).n := rfl

theorem wrAll_len (f : Nat → OpV) (k : Nat) : (wrAll f k).1.length ≤ k * 65544 := by
  induction k with
  | zero => simp [wrAll]
  | succ k ih =>
    rw [wrAll_succ]
    split
    · unfold wrBytes
      split
      · split
        · rename_i h
          obtain ⟨s, hs, hs4, h6, _⟩ := addE_0 h
          rw [hs, Int.toNat_natCast]
          simp only [List.length_append]
          rw [be_length _ _ (by omega)]
          omega
        · simp
      · simp
    · unfold wrNum
      split
      · split
        · rename_i h
          obtain ⟨s, hs, h1, h8, _⟩ := wnE_0 h
          rw [hs, Int.toNat_natCast]
          simp only [List.length_append]
          rw [be_length _ _ (by omega)]
          omega
        · simp
      · simp

theorem wrAll_step (f : Nat → OpV) (k : Nat) (h : (wrAll f (k + 1)).2 = 0) : (wrAll f k).2 = 0 ∧ (wrAll f (k + 1)).1 = (wrAll f k).1 ++ enc (f k) ∧ okOp (f k) := by
  rw [wrAll_succ] at h ⊢
  unfold enc okOp
  split at h
  · rename_i hk
    rw [if_pos hk, if_pos hk, if_pos hk]
    unfold wrBytes at h ⊢
    split at h
    · rename_i hE
      split at h
      · rename_i hA
        rw [if_pos hE, if_pos hA]
        exact ⟨hE, rfl, hA⟩
      · exact absurd h (by assumption)
    · exact absurd h (by assumption)
  · rename_i hk
    rw [if_neg hk, if_neg hk, if_neg hk]
    unfold wrNum at h ⊢
    split at h
    · rename_i hE
      split at h
      · rename_i hA
        rw [if_pos hE, if_pos hA]
        exact ⟨hE, rfl, hA⟩
      · exact absurd h (by assumption)
    · exact absurd h (by assumption)

theorem wrAll_tail (f : Nat → OpV) (m d : Nat) (h : (wrAll f (m + d)).2 = 0) : (wrAll f m).2 = 0 ∧ ∃ Y, (wrAll f (m + d)).1 = (wrAll f m).1 ++ Y := by
  induction d with
  | zero => exact ⟨h, [], by simp⟩
  | succ d ih =>
    obtain ⟨h1, h2, _⟩ := wrAll_step f (m + d) h
    obtain ⟨h3, Y, h4⟩ := ih h1
    exact ⟨h3, Y ++ enc (f (m + d)), by rw [show m + (d + 1) = m + d + 1 by omega, h2, h4, List.append_assoc]⟩
/-- what follows behind the first k -/
theorem wrAll_next (f : Nat → OpV) (m k : Nat) (hk : k < m) (h : (wrAll f m).2 = 0) {X : List (BitVec 8)} (hX : (wrAll f m).1 = (wrAll f k).1 ++ X) : ∃ Y, X = enc (f k) ++ Y ∧ okOp (f k) ∧ (wrAll f m).1 = (wrAll f (k + 1)).1 ++ Y := by
  obtain ⟨d, rfl⟩ : ∃ d, m = (k + 1) + d := ⟨m - (k + 1), by omega⟩
  obtain ⟨h1, Y, h2⟩ := wrAll_tail f (k + 1) d h
  obtain ⟨_, h3, h4⟩ := wrAll_step f k h1
  rw [h3, List.append_assoc] at h2
  rw [h2] at hX
  exact ⟨Y, (List.append_cancel_left hX).symm, h4, by rw [h3, List.append_assoc]; exact h2⟩

theorem num_be_mod (k : Nat) (hk : k ≤ 8) (x : BitVec 64) : (num (be k x)).toNat = x.toNat % 2 ^ (8 * k) := by
  induction k generalizing x with
  | zero =>
    have : be 0 x = [] := by simp [be, be8]
    rw [this]
    simp [num, Nat.mod_one]
  | succ k ih =>
    rw [be_snoc k x hk, num_snoc, BitVec.toNat_or, BitVec.toNat_shiftLeft, ih (by omega), BitVec.toNat_setWidth, BitVec.toNat_setWidth, BitVec.toNat_ushiftRight, Nat.shiftRight_eq_div_pow]
    have hA : x.toNat / 2 ^ 8 % 2 ^ (8 * k) < 2 ^ 56 := Nat.lt_of_lt_of_le (Nat.mod_lt _ (Nat.two_pow_pos _)) (Nat.pow_le_pow_right (by omega) (by omega))
    have hm : x.toNat % 2 ^ (8 * (k + 1)) = x.toNat % 256 + 256 * (x.toNat / 2 ^ 8 % 2 ^ (8 * k)) := by
      rw [show 8 * (k + 1) = 8 + 8 * k by omega, Nat.pow_add, Nat.mod_mul]
    rw [hm]
    generalize x.toNat / 2 ^ 8 % 2 ^ (8 * k) = A at *
    rw [Nat.shiftLeft_eq, Nat.mod_eq_of_lt (show A * 2 ^ 8 < 2 ^ 64 by omega), Nat.mod_eq_of_lt (show x.toNat % 2 ^ 8 < 2 ^ 64 by omega), ← Nat.shiftLeft_eq, ← Nat.shiftLeft_add_eq_or_of_lt (show x.toNat % 2 ^ 8 < 2 ^ 8 by omega), Nat.shiftLeft_eq]
    omega

theorem read_bytes (o : OpV) (Y : List (BitVec 8)) (h4 : o.k = 4) (h : okOp o) : rdBytes (enc o ++ Y) 0 o.s = (Y, 0, o.l) := by
  unfold okOp at h
  unfold enc
  rw [if_pos h4] at h ⊢
  obtain ⟨s, hs, hs4, h6, hf⟩ := addE_0 h
  rw [hs, Int.toNat_natCast]
  have hbl := be_length s (BitVec.ofNat 64 o.l.length) (by omega)
  have hnum : (numTo ((be s (BitVec.ofNat 64 o.l.length) ++ o.l) ++ Y) 0 s).toNat = o.l.length := by
    unfold numTo
    rw [List.drop_zero, List.append_assoc, List.take_left' hbl, num_be s (by omega) _ hf, BitVec.toNat_ofNat, Nat.mod_eq_of_lt (by omega)]
  have hE : cutE ((be s (BitVec.ofNat 64 o.l.length) ++ o.l) ++ Y) s = 0 := by
    unfold cutE
    have hb : lwB s = true := by unfold lwB; rw [decide_eq_true_eq]; omega
    rw [hb]
    simp only [Bool.true_eq_false, if_false, Int.toNat_natCast, hnum]
    rw [List.length_append, List.length_append, hbl, if_neg (by omega), if_neg (by omega), if_neg (by omega)]
  have hN : cutN ((be s (BitVec.ofNat 64 o.l.length) ++ o.l) ++ Y) s = s + o.l.length := by
    unfold cutN
    rw [if_pos hE, Int.toNat_natCast, hnum]
  unfold rdBytes
  rw [if_pos rfl, if_pos hE, hN, Int.toNat_natCast]
  have e1 : ((be s (BitVec.ofNat 64 o.l.length) ++ o.l) ++ Y).drop (s + o.l.length) = Y := List.drop_left' (by rw [List.length_append, hbl])
  have e2 : (((be s (BitVec.ofNat 64 o.l.length) ++ o.l) ++ Y).drop s).take (s + o.l.length - s) = o.l := by
    rw [List.append_assoc, List.drop_left' hbl, List.take_left' (by omega)]
  rw [e1, e2]

/-- the number that is read back -/
theorem read_num (o : OpV) (Y : List (BitVec 8)) (h4 : o.k ≠ 4) (h : okOp o) (hn : -9223372036854775808 ≤ o.n ∧ o.n ≤ 9223372036854775807) :
    ∃ s : Nat, o.s = s ∧ 1 ≤ s ∧ s ≤ 8 ∧ ∃ r : Int, rdNum (enc o ++ Y) 0 o.s = (Y, 0, r) ∧ (r = o.n ∨ (r ≠ o.n ∧ o.n < 0 ∧ s < 8 ∧ r = o.n + 2 ^ (8 * s))) := by
  unfold okOp at h
  unfold enc
  rw [if_neg h4] at h ⊢
  obtain ⟨s, hs, h1, h8, hb⟩ := wnE_0 h
  have hbl := be_length s (BitVec.ofInt 64 o.n) h8
  have hnE : numE (be s (BitVec.ofInt 64 o.n) ++ Y).length s = 0 := by
    unfold numE
    have hw : widthB s = true := by unfold widthB; rw [decide_eq_true_eq]; omega
    rw [hw, if_neg (by decide), List.length_append, hbl, if_neg (by omega)]
  refine ⟨s, hs, h1, h8, wrap64 ((numTo (be s (BitVec.ofInt 64 o.n) ++ Y) 0 s).toNat : Int), ?_, ?_⟩
  · rw [hs, Int.toNat_natCast]
    unfold rdNum
    rw [if_pos rfl, if_pos hnE, Int.toNat_natCast, List.drop_left' hbl]
  · have e : ((numTo (be s (BitVec.ofInt 64 o.n) ++ Y) 0 s).toNat : Int) = o.n % 18446744073709551616 % 2 ^ (8 * s) := by
      unfold numTo
      rw [List.drop_zero, List.take_left' hbl, num_be_mod s h8, Int.natCast_emod, ← toU64]
      simp
    rw [e]
    unfold wrap64
    by_cases h7 : s < 8
    · have hb' := hb h7
      clear hb
      have hc : s = 1 ∨ s = 2 ∨ s = 3 ∨ s = 4 ∨ s = 5 ∨ s = 6 ∨ s = 7 := by omega
      rcases hc with rfl | rfl | rfl | rfl | rfl | rfl | rfl <;> simp only [Nat.reduceMul, Nat.reduceSub, Int.reducePow] at hb' ⊢ <;> omega
    · obtain rfl : s = 8 := by omega
      simp only [Nat.reduceMul, Int.reducePow]
      omega
end Go.Proofs.Ytkajedabcedifab
