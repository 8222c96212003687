/- An entry as bytes: no Go. -/
import Derived.Test.YtgjcgnmomdanaaaXEn1
import Derived.Test.YtgjcgnmomdanaaaXFieldX1
import Derived.Test.YtgjcgnmomdanaaaXFieldP2
namespace Go.Proofs.Ytgjcgnmomdanaaa
open Go.RowKit
set_option linter.unusedVariables false

theorem num_mod9 (k : Nat) (hk : k ≤ 8) (x : BitVec 64) : (num (be k x)).toNat = x.toNat % 2 ^ (8 * k) := by
  induction k generalizing x with
  | zero =>
    have : be 0 x = [] := by simp [be, be8]
    rw [this]
    simp [num, Nat.mod_one]
  | succ k ih =>
    rw [be_snoc k x hk, num_snoc, BitVec.toNat_or, BitVec.toNat_shiftLeft, ih (by omega), BitVec.toNat_setWidth, BitVec.toNat_setWidth, BitVec.toNat_ushiftRight, Nat.shiftRight_eq_div_pow]
    have hA : x.toNat / 2 ^ 8 % 2 ^ (8 * k) < 2 ^ 56 := Nat.lt_of_lt_of_le (Nat.mod_lt _ (Nat.two_pow_pos _)) (Nat.pow_le_pow_right (by omega) (by omega))
    have hm : x.toNat % 2 ^ (8 * (k + 1)) = x.toNat % 256 + 256 * (x.toNat / 2 ^ 8 % 2 ^ (8 * k)) := by
      rw [show 8 * (k + 1) = 8 + 8 * k by omega, Nat.pow_add, Nat.mod_mul]
    rw [hm]
    generalize x.toNat / 2 ^ 8 % 2 ^ (8 * k) = A at *
    rw [Nat.shiftLeft_eq, Nat.mod_eq_of_lt (show A * 2 ^ 8 < 2 ^ 64 by omega), Nat.mod_eq_of_lt (show x.toNat % 2 ^ 8 < 2 ^ 64 by omega), ← Nat.shiftLeft_eq, ← Nat.shiftLeft_add_eq_or_of_lt (show x.toNat % 2 ^ 8 < 2 ^ 8 by omega), Nat.shiftLeft_eq]
    omega
theorem num_low9 (l : List (BitVec 8)) (h : l.length ≤ 7) : ∀ i, 56 ≤ i → (num l).getLsbD i = false := by
  suffices H : ∀ k l, List.length l = k → k ≤ 7 → ∀ i, 8 * k ≤ i → (num l).getLsbD i = false from fun i hi => H l.length l rfl h i (by omega)
  intro k
  induction k with
  | zero => intro l hl _ i _; rw [List.eq_nil_of_length_eq_zero hl]; simp [num]
  | succ k ih =>
    intro l hl hk i hi
    obtain ⟨l', c, rfl⟩ : ∃ l' c, l = l' ++ [c] := ⟨l.dropLast, l.getLast (by intro e; simp [e] at hl), (List.dropLast_concat_getLast _).symm⟩
    have hl' : l'.length = k := by simpa using hl
    rw [num_snoc, BitVec.getLsbD_or, BitVec.getLsbD_shiftLeft, ih l' hl' (by omega) (i - 8) (by omega), BitVec.getLsbD_setWidth, BitVec.getLsbD_of_ge c i (by omega)]
    simp
theorem be_num9 : ∀ (k : Nat) (l : List (BitVec 8)), l.length = k → k ≤ 8 → be k (num l) = l
  | 0, l, hl, _ => by rw [List.eq_nil_of_length_eq_zero hl]; rfl
  | k + 1, l, hl, hk => by
    obtain ⟨l', c, rfl⟩ : ∃ l' c, l = l' ++ [c] := ⟨l.dropLast, l.getLast (by intro e; simp [e] at hl), (List.dropLast_concat_getLast _).symm⟩
    have hl' : l'.length = k := by simpa using hl
    have e1 : num (l' ++ [c]) >>> 8 = num l' := by
      apply BitVec.eq_of_getLsbD_eq
      intro i hi
      rw [num_snoc, BitVec.getLsbD_ushiftRight, BitVec.getLsbD_or, BitVec.getLsbD_shiftLeft, BitVec.getLsbD_setWidth, BitVec.getLsbD_of_ge c (8 + i) (by omega)]
      by_cases h56 : i < 56
      · simp [show 8 + i < 64 by omega, show 8 + i - 8 = i by omega]
      · rw [num_low9 l' (by omega) i (by omega)]
        simp [show 8 + i - 8 = i by omega, num_low9 l' (by omega) i (by omega)]
    have e2 : (num (l' ++ [c])).setWidth 8 = c := by
      apply BitVec.eq_of_getLsbD_eq
      intro i hi
      rw [num_snoc, BitVec.getLsbD_setWidth, BitVec.getLsbD_or, BitVec.getLsbD_shiftLeft, BitVec.getLsbD_setWidth]
      simp [hi, show i < 64 by omega]
    rw [be_snoc k _ hk, e1, e2, be_num9 k l' hl' (by omega)]
/-- k bytes make a number below 2^8k -/
theorem num_lt9 (k : Nat) (l : List (BitVec 8)) (hl : l.length = k) (hk : k ≤ 8) : (num l).toNat < 2 ^ (8 * k) := by
  have := num_mod9 k hk (num l)
  rw [be_num9 k l hl hk] at this
  rw [this]
  exact Nat.mod_lt _ (Nat.two_pow_pos _)
theorem rd_num9 (s : Nat) (n : Int) (Y : List (BitVec 8)) (h1 : s = 1 ∨ s = 6) (h0 : 0 ≤ n) (hb : n < 2 ^ (8 * s)) : rdNum (be s (BitVec.ofInt 64 n) ++ Y) 0 s = (Y, 0, n) := by
  have hbl := be_length s (BitVec.ofInt 64 n) (by omega)
  have hnE : numE (be s (BitVec.ofInt 64 n) ++ Y).length s = 0 := by
    unfold numE
    have hw : widthB s = true := by unfold widthB; rw [decide_eq_true_eq]; omega
    rw [hw, if_neg (by decide), List.length_append, hbl, if_neg (by omega)]
  have e : ((numTo (be s (BitVec.ofInt 64 n) ++ Y) 0 s).toNat : Int) = n % 18446744073709551616 % 2 ^ (8 * s) := by
    unfold numTo
    rw [List.drop_zero, List.take_left' hbl, num_mod9 s (by omega), Int.natCast_emod, ← toU64]
    simp
  unfold rdNum
  rw [if_pos rfl, if_pos hnE, Int.toNat_natCast, List.drop_left' hbl, e]
  have : wrap64 (n % 18446744073709551616 % 2 ^ (8 * s)) = n := by
    unfold wrap64
    rcases h1 with rfl | rfl <;> simp only [Nat.reduceMul, Int.reducePow] at hb ⊢ <;> omega
  rw [this]
theorem addE9 (n : Nat) (h : n ≤ 4080) : addE 2 n = 0 := by
  unfold addE
  rw [if_neg (by decide), if_neg]
  rintro (h1 | h1)
  · omega
  · have h2 : fitsB 2 (BitVec.ofNat 64 n) = true := by
      unfold fitsB
      rw [decide_eq_true_eq, BitVec.toNat_ofNat, Nat.mod_eq_of_lt (by omega)]
      exact Nat.div_eq_of_lt (by omega)
    have e : ((2 : Int)).toNat = 2 := rfl
    rw [e, h2] at h1; cases h1
theorem rd_bytes9 (l Y : List (BitVec 8)) (h : l.length ≤ 4080) : rdBytes ((be 2 (BitVec.ofNat 64 l.length) ++ l) ++ Y) 0 2 = (Y, 0, l) := by
  have hbl := be_length 2 (BitVec.ofNat 64 l.length) (by omega)
  have hnum : (numTo ((be 2 (BitVec.ofNat 64 l.length) ++ l) ++ Y) 0 2).toNat = l.length := by
    unfold numTo
    rw [List.drop_zero, List.append_assoc, List.take_left' hbl, num_mod9 2 (by omega), BitVec.toNat_ofNat, Nat.mod_eq_of_lt (a := l.length) (by omega), Nat.mod_eq_of_lt (by omega)]
  have hE : cutE ((be 2 (BitVec.ofNat 64 l.length) ++ l) ++ Y) 2 = 0 := by
    unfold cutE
    have e : ((2 : Int)).toNat = 2 := rfl
    rw [if_neg (by decide), e, hnum, List.length_append, List.length_append, hbl, if_neg (by omega), if_neg (by omega), if_neg (by omega)]
  have hN : cutN ((be 2 (BitVec.ofNat 64 l.length) ++ l) ++ Y) 2 = 2 + l.length := by
    unfold cutN
    have e : ((2 : Int)).toNat = 2 := rfl
    rw [if_pos hE, e, hnum]
  unfold rdBytes
  have e : ((2 : Int)).toNat = 2 := rfl
  rw [if_pos rfl, if_pos hE, hN, e]
  have e1 : ((be 2 (BitVec.ofNat 64 l.length) ++ l) ++ Y).drop (2 + l.length) = Y := List.drop_left' (by rw [List.length_append, hbl])
  have e2 : (((be 2 (BitVec.ofNat 64 l.length) ++ l) ++ Y).drop 2).take (2 + l.length - 2) = l := by
    rw [List.append_assoc, List.drop_left' hbl, List.take_left' (by omega)]
  rw [e1, e2]

/-- the bytes of an entry -/
def packE (e : Ent) : List (BitVec 8) := (be 1 (BitVec.ofInt 64 (e.1 + 64)) ++ be 6 (BitVec.ofInt 64 e.2.1)) ++ (be 2 (BitVec.ofNat 64 e.2.2.length) ++ e.2.2)
theorem canE_k {e : Ent} (h : canE e = true) : 0 ≤ e.1 ∧ e.1 ≤ 2 := by
  rcases canE_kind h with h | h
  · omega
  · omega
theorem wr_k {e : Ent} (h : canE e = true) : wrNum [] 0 1 (e.1 + 64) = (be 1 (BitVec.ofInt 64 (e.1 + 64)), 0) := by
  have := canE_k h
  unfold wrNum
  have e1 : wnE 1 (e.1 + 64) = 0 := by
    unfold wnE; rw [if_neg (by decide), if_neg (by decide)]
    have e2 : ((1 : Int)).toNat = 1 := rfl
    rw [e2, if_neg]
    simp only [Nat.reduceMul, Nat.reduceSub, Int.reducePow]
    omega
  rw [if_pos rfl, if_pos e1]; rfl
theorem wr_t {e : Ent} (h : canE e = true) (L : List (BitVec 8)) : wrNum L 0 6 e.2.1 = (L ++ be 6 (BitVec.ofInt 64 e.2.1), 0) := by
  have := canE_term h
  unfold wrNum
  have e1 : wnE 6 e.2.1 = 0 := by
    unfold wnE; rw [if_neg (by decide), if_neg (by decide)]
    have e2 : ((6 : Int)).toNat = 6 := rfl
    rw [e2, if_neg]
    simp only [Nat.reduceMul, Nat.reduceSub, Int.reducePow]
    omega
  rw [if_pos rfl, if_pos e1]; rfl
theorem wr_c {e : Ent} (h : canE e = true) (L : List (BitVec 8)) : wrBytes L 0 2 e.2.2 = (L ++ (be 2 (BitVec.ofNat 64 e.2.2.length) ++ e.2.2), 0) := by
  unfold wrBytes
  rw [if_pos rfl, if_pos (addE9 _ (canE_len h))]; rfl
theorem packE_len (e : Ent) : (packE e).length = 9 + e.2.2.length := by
  unfold packE; simp only [List.length_append, be_length _ _ (show 1 ≤ 8 by omega), be_length _ _ (show 6 ≤ 8 by omega), be_length _ _ (show 2 ≤ 8 by omega)]; omega
/-- what is read: kind and 64, term, command, the error -/
def rk (b : List (BitVec 8)) : List (BitVec 8) × Int × Int := rdNum b 0 1
def rt (b : List (BitVec 8)) : List (BitVec 8) × Int × Int := rdNum (rk b).1 (rk b).2.1 6
def rc (b : List (BitVec 8)) : List (BitVec 8) × Int × List (BitVec 8) := rdBytes (rt b).1 (rt b).2.1 2
def rE (b : List (BitVec 8)) : Int := rdEnd (rc b).1 (rc b).2.1
def rEnt (b : List (BitVec 8)) : Ent := ((rk b).2.2 - 64, (rt b).2.2, (rc b).2.2)
/-- the entry of bytes, and the error -/
def unp (b : List (BitVec 8)) : Ent × Int := if rE b = 0 then (if canE (rEnt b) = true then (rEnt b, 0) else ((0, 0, []), 1)) else ((0, 0, []), rE b)
theorem numE_case (L : List (BitVec 8)) (s : Nat) (h : 1 ≤ s ∧ s ≤ 8) : numE L.length (s : Int) = if L.length < s then 10 else 0 := by
  unfold numE
  have hw : widthB s = true := by unfold widthB; rw [decide_eq_true_eq]; omega
  rw [hw, if_neg (by decide)]
  by_cases hl : L.length < s
  · rw [if_pos hl, if_pos (by omega)]
  · rw [if_neg hl, if_neg (by omega)]
theorem rdNum_bd (L : List (BitVec 8)) (E : Int) (s : Nat) (h : s = 1 ∨ s = 6) : 0 ≤ (rdNum L E s).2.2 ∧ (rdNum L E s).2.2 < 2 ^ (8 * s) := by
  have hp : (0 : Int) < 2 ^ (8 * s) := by rcases h with rfl | rfl <;> simp
  unfold rdNum
  split
  · split
    · rename_i h1 h2
      obtain ⟨s', e1, _, _, h3⟩ := numE_0 h2
      have es : s' = s := by omega
      subst es
      rw [Int.toNat_natCast]
      have hlt : (numTo L 0 s').toNat < 2 ^ (8 * s') := num_lt9 s' _ (by rw [List.drop_zero, List.length_take]; omega) (by omega)
      show 0 ≤ wrap64 _ ∧ wrap64 _ < _
      generalize (numTo L 0 s').toNat = x at *
      unfold wrap64
      rcases h with rfl | rfl <;> simp only [Nat.reduceMul, Nat.reducePow, Int.reducePow] at hlt ⊢ <;> omega
    · exact ⟨Int.le_refl _, hp⟩
  · exact ⟨Int.le_refl _, hp⟩
theorem unp_pack {e : Ent} (h : canE e = true) : unp (packE e) = (e, 0) := by
  have hk := canE_k h
  have ht := canE_term h
  have hl := canE_len h
  have e1 : rk (packE e) = (be 6 (BitVec.ofInt 64 e.2.1) ++ (be 2 (BitVec.ofNat 64 e.2.2.length) ++ e.2.2), 0, e.1 + 64) := by
    unfold rk packE
    rw [List.append_assoc]
    exact rd_num9 1 (e.1 + 64) _ (.inl rfl) (by omega) (by simp only [Nat.reduceMul, Int.reducePow]; omega)
  have e2 : rt (packE e) = (be 2 (BitVec.ofNat 64 e.2.2.length) ++ e.2.2, 0, e.2.1) := by
    unfold rt; rw [e1]
    exact rd_num9 6 e.2.1 _ (.inr rfl) (by omega) (by simp only [Nat.reduceMul, Int.reducePow]; omega)
  have e3 : rc (packE e) = ([], 0, e.2.2) := by
    unfold rc; rw [e2]
    have := rd_bytes9 e.2.2 [] hl
    rw [List.append_nil] at this
    exact this
  have e4 : rE (packE e) = 0 := by unfold rE; rw [e3]; rfl
  have e5 : rEnt (packE e) = e := by unfold rEnt; rw [e1, e2, e3]; show (e.1 + 64 - 64, e.2.1, e.2.2) = e; rw [Int.add_sub_cancel]
  unfold unp
  rw [if_pos e4, e5, if_pos h]
theorem ofInt_wrap9 (x : BitVec 64) : BitVec.ofInt 64 (wrap64 (x.toNat : Int)) = x := by
  apply BitVec.eq_of_toNat_eq
  rw [BitVec.toNat_ofInt]
  have := x.isLt
  unfold wrap64
  omega
theorem rd_yes9 {L : List (BitVec 8)} {E : Int} {s : Nat} (h : (rdNum L E s).2.1 = 0) (hs : s ≤ 8) : E = 0 ∧ s ≤ L.length ∧ (rdNum L E s).1 = L.drop s ∧ be s (BitVec.ofInt 64 (rdNum L E s).2.2) = L.take s := by
  unfold rdNum at h ⊢
  split at h
  · rename_i h1
    split at h
    · rename_i h2
      obtain ⟨s', e1, _, _, h3⟩ := numE_0 h2
      have es : s' = s := by omega
      subst es
      rw [if_pos h1, if_pos h2, Int.toNat_natCast]
      refine ⟨h1, h3, rfl, ?_⟩
      show be s' (BitVec.ofInt 64 (wrap64 _)) = _
      rw [ofInt_wrap9]
      unfold numTo
      rw [List.drop_zero]
      exact be_num9 s' _ (by rw [List.length_take]; omega) hs
    · rename_i h2; exact absurd h h2
  · rename_i h1; exact absurd h h1
theorem pack_unp {b : List (BitVec 8)} (h : (unp b).2 = 0) : (unp b).1 = rEnt b ∧ canE (rEnt b) = true ∧ packE (rEnt b) = b := by
  unfold unp at h ⊢
  split at h
  · rename_i h1
    split at h
    · rename_i h2
      rw [if_pos h1, if_pos h2]
      refine ⟨rfl, h2, ?_⟩
      have h3 : (rc b).2.1 = 0 ∧ (rc b).1 = [] := by
        unfold rE rdEnd at h1
        split at h1
        · rename_i h3
          split at h1
          · cases h1
          · rename_i h4; exact ⟨h3, List.eq_nil_of_length_eq_zero (by omega)⟩
        · rename_i h3; exact absurd h1 h3
      have h4 : (rt b).2.1 = 0 ∧ cutE (rt b).1 2 = 0 := by
        have := h3.1
        unfold rc rdBytes at this
        split at this
        · rename_i h4
          split at this
          · rename_i h5; exact ⟨h4, h5⟩
          · rename_i h5; exact absurd this h5
        · rename_i h4; exact absurd this h4
      obtain ⟨a1, a2, a3, a4⟩ := rd_yes9 (s := 6) (show (rdNum (rk b).1 (rk b).2.1 (6 : Nat)).2.1 = 0 from h4.1) (by omega)
      obtain ⟨b1, b2, b3, b4⟩ := rd_yes9 (s := 1) (show (rdNum b 0 (1 : Nat)).2.1 = 0 from a1) (by omega)
      have hR : rc b = ((rt b).1.drop (cutN (rt b).1 2), 0, ((rt b).1.drop 2).take (cutN (rt b).1 2 - 2)) := by
        unfold rc rdBytes; rw [if_pos h4.1, if_pos h4.2]; rfl
      obtain ⟨s, n, es, _, hn, _, hsn, hN⟩ := cutE_0 h4.2
      have es2 : s = 2 := by omega
      subst es2
      have hnil := h3.2
      rw [hR, hN] at hnil
      have hlen : (rt b).1.length = 2 + n := by
        have := congrArg List.length hnil
        rw [List.length_drop, List.length_nil] at this; omega
      have hc : (rc b).2.2 = (rt b).1.drop 2 := by
        rw [hR, hN]
        show ((rt b).1.drop 2).take (2 + n - 2) = _
        exact List.take_of_length_le (by rw [List.length_drop]; omega)
      have hcl : (rc b).2.2.length = n := by rw [hc, List.length_drop]; omega
      have hbe : be 2 (BitVec.ofNat 64 (rc b).2.2.length) = (rt b).1.take 2 := by
        have e1 : BitVec.ofNat 64 (rc b).2.2.length = numTo (rt b).1 0 2 := by
          apply BitVec.eq_of_toNat_eq
          rw [hcl, BitVec.toNat_ofNat, hn]
          exact Nat.mod_eq_of_lt (numTo (rt b).1 0 2).isLt
        rw [e1]
        unfold numTo
        rw [List.drop_zero]
        exact be_num9 2 _ (by rw [List.length_take]; omega) (by omega)
      unfold packE
      show (be 1 (BitVec.ofInt 64 ((rk b).2.2 - 64 + 64)) ++ be 6 (BitVec.ofInt 64 (rt b).2.2)) ++ (be 2 (BitVec.ofNat 64 (rc b).2.2.length) ++ (rc b).2.2) = b
      rw [Int.sub_add_cancel, hbe, hc, List.take_append_drop]
      have c1 : be 1 (BitVec.ofInt 64 (rk b).2.2) = b.take 1 := b4
      have c2 : be 6 (BitVec.ofInt 64 (rt b).2.2) = (rk b).1.take 6 := a4
      have c3 : (rt b).1 = (rk b).1.drop 6 := a3
      have c4 : (rk b).1 = b.drop 1 := b3
      rw [c1, c2, c3, List.append_assoc, List.take_append_drop, c4, List.take_append_drop]
    · cases h
  · rename_i h1; exact absurd h h1
end Go.Proofs.Ytgjcgnmomdanaaa

/- An entry written and packed: the program's. -/
namespace Go.Proofs.Ytgjcgnmomdanaaa
open Go.RowKit
set_option linter.unusedVariables false
set_option maxRecDepth 4000

theorem wr_kL {k t : Int} {l : List (BitVec 8)} (h : canE (k, t, l) = true) (L : List (BitVec 8)) : wrNum L 0 1 (k + 64) = (L ++ be 1 (BitVec.ofInt 64 (k + 64)), 0) := by
  have := canE_k h
  have hk : 0 ≤ k ∧ k ≤ 2 := this
  unfold wrNum
  have e1 : wnE 1 (k + 64) = 0 := by
    unfold wnE; rw [if_neg (by decide), if_neg (by decide)]
    have e2 : ((1 : Int)).toNat = 1 := rfl
    rw [e2, if_neg]
    simp only [Nat.reduceMul, Nat.reduceSub, Int.reducePow]
    omega
  rw [if_pos rfl, if_pos e1]; rfl
theorem WrAt.below {w w' : World} {base g T : Nat} {v : Value} {L : List (BitVec 8)} {E : Int} (h : WrAt w base g T v L E) (ht : Turned (Mine g v) w w') : Below base w w' :=
  ht.below base h.base_w (fun k hk => by
    rcases hk with rfl | hk
    · exact h.base_g
    · obtain ⟨l, ho, -⟩ := h.own; exact (World.ownsRow.lt ho k hk).1)
theorem ebl3 {w : World} {g : Nat} {T : TypeId} {a b c : Value} (M : Blk w g T [a, b, c]) : (w.cell? ⟨g, 0, none⟩ = some a ∧ w.cell? ⟨g, 1, none⟩ = some b ∧ w.cell? ⟨g, 2, none⟩ = some c) ∧ w.frozen? ⟨g, 0, none⟩ = false ∧ w.frozen? ⟨g, 1, none⟩ = false ∧ w.frozen? ⟨g, 2, none⟩ = false :=
  ⟨⟨M.cell (by simp [maxLen]) 0 (by simp), M.cell (by simp [maxLen]) 1 (by simp), M.cell (by simp [maxLen]) 2 (by simp)⟩, M.frozen (by simp [maxLen]) 0, M.frozen (by simp [maxLen]) 1, M.frozen (by simp [maxLen]) 2⟩
/-- what Pack answers: the error, the bytes -/
def pkE (e : Ent) : Int := if canE e = true then 0 else 1
def pkB (e : Ent) : List (BitVec 8) := if canE e = true then packE e else []
set_option maxHeartbeats 400000 in
theorem wBytes_ok2 (base g : Nat) (v : Value) (L : List (BitVec 8)) (ap : Option Addr) (plen pcap : Nat) (lp : List (BitVec 8)) (w : World) (hW : WrAt w base g 88 v L 0) (hL : L.length + 65544 ≤ 140737488351232)
    (hpl : lp.length = plen) (hple : plen ≤ pcap) (hpn : ap = none → pcap = 0) (hp4 : plen ≤ 4080) (hrow : ∀ w', w.grownBy w' v.ownBlock → Row w' ap lp) :
    Calls Try.prog 47 #[.pointer (some ⟨g, 0, none⟩), .int .i64 2, .slice ap plen pcap] w fun e w' => e = .returned (.tuple #[]) ∧ ∃ v', WrAt w' base g 88 v' (L ++ (be 2 (BitVec.ofNat 64 plen) ++ lp)) 0 ∧ Newer w v v' ∧ Turned (Mine g v) w w' := by
  have hB := hW.blk
  have c0 := hB.cell (by simp [maxLen]) 0 (by simp)
  have c1 := hB.cell (by simp [maxLen]) 1 (by simp)
  simp only [List.getElem?_cons_zero, List.getElem?_cons_succ] at c0 c1
  have hn := addE9 plen hp4
  obtain ⟨l, ho, hl⟩ := hW.own
  have hl' := hl rfl
  subst hl'
  obtain ⟨av, nv, cv, rfl⟩ := own_slice ho
  have hN := addTo_at _ base l 2 ap plen pcap lp w ho hW.base_w (by omega) (by omega) hpl hple hpn (by omega) hrow
  have K : Hid _ := And.intro hW (And.intro hB ho)
  clear hW hB ho hl hrow
  go_enter Try.func47, Try.ntmps47
  go_wp2_with fail
  refine (addError_any 2 ap plen pcap w (by omega)).mono ?_
  rw [hn]
  rintro e w' ⟨rfl, rfl⟩
  go_wp2_with fail
  refine Calls.mono hN ?_
  rintro e w1 ⟨v1, rfl, ho1, hg1, hn1⟩
  obtain ⟨a1, n1, cap1, rfl⟩ := own_slice ho1
  have hB1 := K.out.2.1.grown hg1 (fun e => own_apart K.out.2.2 K.out.2.1 K.out.1.other g e.symm rfl)
  have d0 := hB1.cell (by simp [maxLen]) 0 (by simp)
  have f0 := hB1.frozen (by simp [maxLen]) 0
  simp only [List.getElem?_cons_zero] at d0
  have P : Hid _ := WrAt.put K.out.1 ho1 hg1 hn1
  clear ho1 hg1 hn1 hB1 hN
  go_wp2
  go_end0
  exact ⟨rfl, _, P.out.1, P.out.2.1, P.out.2.2⟩

set_option maxHeartbeats 2000000 in
theorem wrEntry_any (base g : Nat) (v : Value) (L : List (BitVec 8)) (k t : Int) (l : List (BitVec 8)) (x : Option Addr) (c : Nat) (w : World) (he : canE (k, t, l) = true) (hW : WrAt w base g 88 v L 0) (hL : L.length + 70000 ≤ 140737488351232) (hc : l.length ≤ c) (hn : x = none → c = 0) (hr : ∀ W, Below base w W → Row W x l) :
    Calls Try.prog 46 #[.pointer (some ⟨g, 0, none⟩), .agg #[.int .i64 k, .int .i64 t, .slice x l.length c]] w fun r w' => r = .returned (.tuple #[]) ∧ ∃ v', WrAt w' base g 88 v' (L ++ packE (k, t, l)) 0 ∧ Below base w w' := by
  have hk0 : 0 ≤ k := (canE_k he).1
  have hk2 : k ≤ 2 := (canE_k he).2
  have hcl : l.length ≤ 4080 := canE_len he
  have b0 := box3_below w (.int .i64 k) (.int .i64 t) (.slice x l.length c) 49
  have B0 : Blk (w.alloc (.cells #[.int .i64 k, .int .i64 t, .slice x l.length c] 49)) w.heap.size 49 [.int .i64 k, .int .i64 t, .slice x l.length c] := Blk.new' w _ _
  have hgl := hW.blk.lt
  have hvl : ∀ j, v.ownBlock = some j → j < w.heap.size := fun j hj => by obtain ⟨_, ho, -⟩ := hW.own; exact (World.ownsRow.lt ho j hj).2
  have hbw := hW.base_w
  have W0 := hW.stays (turned_below b0) (fun h => h) (fun _ _ h => h)
  have hsz : w.heap.size < (w.alloc (.cells #[.int .i64 k, .int .i64 t, .slice x l.length c] 49)).heap.size := B0.lt
  have HW : Hid (canE (k, t, l) = true ∧ (∀ W, Below base w W → Row W x l) ∧ base ≤ w.heap.size ∧ g < w.heap.size ∧ ∀ j, v.ownBlock = some j → j < w.heap.size) := ⟨he, hr, hbw, hgl, hvl⟩
  go_enter Try.func46, Try.ntmps46
  obtain ⟨⟨c0, c1, c2⟩, -⟩ := ebl3 B0
  clear hW he hr hgl hvl
  go_wp2_with fail
  generalize w.alloc (.cells #[.int .i64 k, .int .i64 t, .slice x l.length c] 49) = wb at *
  have N1 := wNum_any base g v L 0 1 (k + 64) wb W0 (by omega)
  rw [wr_kL HW.out.1 L] at N1
  have H0 : Hid (Below w.heap.size w wb ∧ WrAt wb base g 88 v L 0 ∧ Blk wb w.heap.size 49 [.int .i64 k, .int .i64 t, .slice x l.length c]) := ⟨b0, W0, B0⟩
  clear b0 W0 B0 c0 c1 c2
  refine N1.mono ?_
  rintro r w2 ⟨rfl, v2, W2, n2, t2⟩
  have hm : ¬ Mine g v w.heap.size := by
    rintro (h | h)
    · have := HW.out.2.2.2.1; omega
    · have := HW.out.2.2.2.2 _ h; omega
  have B2 := H0.out.2.2.turned t2 hm
  have hm2 : ¬ Mine g v2 w.heap.size := by
    rintro (h | h)
    · have := HW.out.2.2.2.1; omega
    · rcases n2 _ h with h' | h'
      · have := HW.out.2.2.2.2 _ h'; omega
      · omega
  have hv2 : ∀ j, v2.ownBlock = some j → j < w.heap.size ∨ w.heap.size < j := fun j hj => by
    rcases n2 _ hj with h' | h'
    · exact .inl (HW.out.2.2.2.2 _ h')
    · exact .inr (by omega)
  have hs2 := t2.size
  have b2 : Below base w w2 := (H0.out.1.mono HW.out.2.2.1).trans (H0.out.2.1.below t2)
  obtain ⟨⟨c0, c1, c2⟩, -⟩ := ebl3 B2
  have N2 := wNum_any base g v2 _ 0 6 t w2 W2 (by rw [List.length_append, be_length _ _ (by omega)]; omega)
  rw [wr_t (e := (k, t, l)) HW.out.1] at N2
  have H2 : Hid (Below base w w2 ∧ WrAt w2 base g 88 v2 (L ++ be 1 (BitVec.ofInt 64 (k + 64))) 0 ∧ Blk w2 w.heap.size 49 [.int .i64 k, .int .i64 t, .slice x l.length c]) := ⟨b2, W2, B2⟩
  clear H0 t2 hm W2 B2 b2 n2
  go_wp2_with fail
  clear c0 c1 c2
  refine N2.mono ?_
  rintro r w3 ⟨rfl, v3, W3, n3, t3⟩
  have B3 := H2.out.2.2.turned t3 hm2
  have b3 : Below base w w3 := H2.out.1.trans (H2.out.2.1.below t3)
  obtain ⟨⟨c0, c1, c2⟩, -⟩ := ebl3 B3
  have hv3 : ∀ j, v3.ownBlock = some j → base ≤ j := fun j hj => by obtain ⟨_, ho, -⟩ := W3.own; exact (World.ownsRow.lt ho j hj).1
  have N3 := wBytes_ok2 base g v3 _ x l.length c l w3 W3 (by rw [List.length_append, List.length_append, be_length _ _ (by omega), be_length _ _ (by omega)]; omega) rfl hc hn hcl (fun w' hg => HW.out.2.1 w' (b3.grown hg (Nat.le_trans HW.out.2.2.1 b3.size) (fun j hj => hv3 j hj)))
  have H3 : Hid (Below base w w3 ∧ WrAt w3 base g 88 v3 (L ++ be 1 (BitVec.ofInt 64 (k + 64)) ++ be 6 (BitVec.ofInt 64 t)) 0) := ⟨b3, W3⟩
  clear H2 t3 hm2 W3 B3 b3 n3 hv2 hv3
  go_wp2_with fail
  clear c0 c1 c2
  refine N3.mono ?_
  rintro r w4 ⟨rfl, v4, W4, -, t4⟩
  have b4 : Below base w w4 := H3.out.1.trans (H3.out.2.below t4)
  have eL : L ++ be 1 (BitVec.ofInt 64 (k + 64)) ++ be 6 (BitVec.ofInt 64 t) ++ (be 2 (BitVec.ofNat 64 l.length) ++ l) = L ++ packE (k, t, l) := by unfold packE; simp only [List.append_assoc]
  have W4' : WrAt w4 base g 88 v4 (L ++ packE (k, t, l)) 0 := eL ▸ W4
  have F : Hid _ := And.intro W4' b4
  clear W4 W4' b4 t4 H3 eL N3
  go_wp2
  go_end0
  exact ⟨rfl, v4, F.out.1, F.out.2⟩


end Go.Proofs.Ytgjcgnmomdanaaa

/- Whether an entry can be, by the document. -/
namespace Go.Proofs.Ytgjcgnmomdanaaa
open Go.RowKit
set_option linter.unusedVariables false
set_option maxRecDepth 4000

set_option maxHeartbeats 400000 in
theorem can9_any (n : Int) (w : World) :
    Calls Try.prog 53 #[.int .i64 n] w fun e w' => e = .returned (.bool (numB n)) ∧ w = w' := by
  have HB : Hid (numB n = decide (0 ≤ n ∧ n ≤ 1099511627776)) := rfl
  by_cases c1 : 0 ≤ n
  · obtain ⟨M, hM⟩ : ∃ M : Int, M = 1099511627776 := ⟨_, rfl⟩
    go_enter Try.func53, Try.ntmps53
    go_wp2
    go_ret
    exact ⟨ret_bool (by rw [HB.out]; first | (refine decide_eq_decide.2 ?_; omega) | (refine (decide_eq_true ?_).symm; omega)), rfl⟩
  · go_enter Try.func53, Try.ntmps53
    go_wp2
    go_ret
    exact ⟨ret_bool (by rw [HB.out]; first | (refine decide_eq_decide.2 ?_; omega) | (refine (decide_eq_false ?_).symm; omega)), rfl⟩
set_option maxHeartbeats 400000 in
theorem mask9_any (n : Int) (w : World) :
    Calls Try.prog 77 #[.int .i64 n] w fun e w' => e = .returned (.bool (maskB n)) ∧ w = w' := by
  have HB : Hid (maskB n = decide (1 ≤ n ∧ n ≤ 31)) := rfl
  by_cases c1 : 1 ≤ n
  · go_enter Try.func77, Try.ntmps77
    go_wp2
    go_ret
    exact ⟨ret_bool (by rw [HB.out]; first | (refine decide_eq_decide.2 ?_; omega) | (refine (decide_eq_true ?_).symm; omega)), rfl⟩
  · go_enter Try.func77, Try.ntmps77
    go_wp2
    go_ret
    exact ⟨ret_bool (by rw [HB.out]; first | (refine decide_eq_decide.2 ?_; omega) | (refine (decide_eq_false ?_).symm; omega)), rfl⟩
set_option maxHeartbeats 2000000 in
theorem right9_any (k t : Int) (l : List (BitVec 8)) (x : Option Addr) (c : Nat) (w : World) (hr : Row w x l) (hlen : l.length ≤ 140737488355328) :
    Calls Try.prog 54 #[.agg #[.int .i64 k, .int .i64 t, .slice x l.length c]] w fun e w' => e = .returned (.bool (canE (k, t, l))) ∧ Below w.heap.size w w' := by
  have b1 := box3_below w (.int .i64 k) (.int .i64 t) (.slice x l.length c) 49
  obtain ⟨c0, c1, c2⟩ := box3_cells w (.int .i64 k) (.int .i64 t) (.slice x l.length c) 49
  have r1 := hr.later b1
  have F : Hid _ := b1
  have hnum : Hid (numB t = decide (0 ≤ t ∧ t ≤ 1099511627776)) := rfl
  obtain ⟨R, hR⟩ : ∃ R, R = canE (k, t, l) := ⟨_, rfl⟩
  rw [← hR]
  unfold canE at hR
  simp only at hR
  clear b1 hr
  by_cases k0 : k < 0
  · have HR : Hid (R = false) := (by rw [hR, decide_eq_false (p := k = 0 ∨ k = 1) (by omega), decide_eq_false (p := k = 2) (by omega)]; simp : R = false)
    clear hR r1
    go_enter Try.func54, Try.ntmps54
    go_wp2
    go_ret
    exact ⟨ret_bool HR.out.symm, F.out⟩
  · by_cases k3 : 2 < k
    · have HR : Hid (R = false) := (by rw [hR, decide_eq_false (p := k = 0 ∨ k = 1) (by omega), decide_eq_false (p := k = 2) (by omega)]; simp : R = false)
      clear hR r1
      go_enter Try.func54, Try.ntmps54
      go_wp2
      go_ret
      exact ⟨ret_bool HR.out.symm, F.out⟩
    · by_cases t1 : t < 1
      · have HR : Hid (R = false) := by rw [hR, decide_eq_false (p := 1 ≤ t ∧ t ≤ 1099511627776) (by omega)]; rfl
        clear hR r1
        go_enter Try.func54, Try.ntmps54
        go_wp2
        go_ret
        exact ⟨ret_bool HR.out.symm, F.out⟩
      · by_cases t2 : 1099511627776 < t
        · have HR : Hid (R = false) := by rw [hR, decide_eq_false (p := 1 ≤ t ∧ t ≤ 1099511627776) (by omega)]; rfl
          have q : numB t = false := hnum.out.trans (decide_eq_false (by omega))
          have HC : Hid _ := can9_any t
          rw [q] at HC
          clear hR r1 t2 q
          go_enter Try.func54, Try.ntmps54
          go_wp2_with fail
          refine (HC.out _).mono ?_
          rintro e w2 ⟨rfl, rfl⟩
          go_wp2
          go_ret
          exact ⟨ret_bool HR.out.symm, F.out⟩
        · have q : numB t = true := hnum.out.trans (decide_eq_true (by omega))
          have HC : Hid _ := can9_any t
          rw [q] at HC
          rw [decide_eq_true (p := 1 ≤ t ∧ t ≤ 1099511627776) (by omega)] at hR
          clear t2 q
          by_cases l1 : 4080 < l.length
          · have HR : Hid (R = false) := by rw [hR, decide_eq_false (p := l.length ≤ 4080) (by omega)]; rfl
            have q2 : decide ((l.length : Int) > 4080) = true := decide_eq_true (by omega)
            clear hR r1
            generalize (l.length : Int) = L at *
            go_enter Try.func54, Try.ntmps54
            go_wp2_with fail
            refine (HC.out _).mono ?_
            rintro e w2 ⟨rfl, rfl⟩
            go_wp2
            go_ret
            exact ⟨ret_bool HR.out.symm, F.out⟩
          · have q2 : decide ((l.length : Int) > 4080) = false := decide_eq_false (by omega)
            rw [decide_eq_true (p := l.length ≤ 4080) (by omega)] at hR
            by_cases k2 : k = 2
            · subst k2
              by_cases l2 : l.length = 1
              · have HR : Hid (R = maskB (bt l 0)) := by rw [hR, decide_eq_true l2]; exact (by simp : (true && true && (decide ((2 : Int) = 0 ∨ (2 : Int) = 1) || decide ((2 : Int) = 2) && (true && maskB (bt l 0)))) = maskB (bt l 0))
                obtain ⟨b, off, rfl, hc⟩ : ∃ b off, x = some ⟨b, off, none⟩ ∧ ∀ i, i < l.length → (w.alloc (.cells #[.int .i64 2, .int .i64 t, .slice x l.length c] 49)).cell? ⟨b, off + i, none⟩ = some (.int .u8 (bt l i)) := by
                  rcases r1 with e | h
                  · rw [e] at l2; simp at l2
                  · exact h
                have d0 := hc 0 (by omega)
                rw [Nat.add_zero] at d0
                have hb := bt_bd l 0
                rw [l2] at c2 d0 F c0 c1 q2 ⊢
                generalize bt l 0 = B at *
                clear hR hc hlen l1 l2 k0 k3
                go_enter Try.func54, Try.ntmps54
                go_wp2_with fail
                refine (HC.out _).mono ?_
                rintro e w2 ⟨rfl, rfl⟩
                go_wp2_with (go_at_call 77; refine (mask9_any B _).mono ?_; rintro e w' ⟨rfl, rfl⟩)
                go_ret
                exact ⟨ret_bool HR.out.symm, F.out⟩
              · have HR : Hid (R = false) := by rw [hR, decide_eq_false l2]; exact (by simp : (true && true && (decide ((2 : Int) = 0 ∨ (2 : Int) = 1) || decide ((2 : Int) = 2) && (false && maskB (bt l 0)))) = false)
                have q3 : ((l.length : Int) == 1) = false := by rw [beq_eq_false_iff_ne]; omega
                have q4 : ¬ (l.length : Int) = 1 := by omega
                clear hR r1 l2 hlen l1
                go_enter Try.func54, Try.ntmps54
                go_wp2_with fail
                refine (HC.out _).mono ?_
                rintro e w2 ⟨rfl, rfl⟩
                go_wp2
                go_ret
                exact ⟨ret_bool HR.out.symm, F.out⟩
            · have HR : Hid (R = true) := by rw [hR, decide_eq_true (p := k = 0 ∨ k = 1) (by omega)]; rfl
              have q3 : (k == 2) = false := by rw [beq_eq_false_iff_ne]; exact k2
              clear hR r1
              generalize (l.length : Int) = L at *
              go_enter Try.func54, Try.ntmps54
              go_wp2_with fail
              refine (HC.out _).mono ?_
              rintro e w2 ⟨rfl, rfl⟩
              go_wp2
              go_ret
              exact ⟨ret_bool HR.out.symm, F.out⟩
end Go.Proofs.Ytgjcgnmomdanaaa
