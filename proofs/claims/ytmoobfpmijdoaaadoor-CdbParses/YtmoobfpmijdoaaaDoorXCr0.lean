/- The data of an Unmap, without Go. -/
import Derived.Test.YtmoobfpmijdoaaaDoorXCd9
namespace Go.Proofs.YtmoobfpmijdoaaaDoor
open Go.RowKit
set_option linter.unusedVariables false
set_option linter.unusedSimpArgs false
set_option maxRecDepth 4000

theorem num_ltR (x : List (BitVec 8)) : ∀ (acc : BitVec 64) (k : Nat), acc.toNat < 2 ^ (8 * k) → k + x.length ≤ 8 → (x.foldl (fun (n : BitVec 64) (c : BitVec 8) => (n <<< 8) ||| c.setWidth 64) acc).toNat < 2 ^ (8 * (k + x.length)) := by
  induction x with
  | nil => intro acc k h _; simpa using h
  | cons c x ih =>
    intro acc k h hk
    rw [List.foldl_cons, List.length_cons, show k + (x.length + 1) = (k + 1) + x.length by omega]
    rw [List.length_cons] at hk
    refine ih _ (k + 1) ?_ (by omega)
    rw [BitVec.toNat_or]
    have e : (2 : Nat) ^ (8 * (k + 1)) = 2 ^ (8 * k) * 256 := by rw [show 8 * (k + 1) = 8 * k + 8 by omega, Nat.pow_add]
    refine Nat.or_lt_two_pow ?_ ?_
    · rw [BitVec.toNat_shiftLeft, Nat.shiftLeft_eq]
      refine Nat.lt_of_le_of_lt (Nat.mod_le _ _) ?_
      rw [e]; omega
    · rw [BitVec.toNat_setWidth]
      refine Nat.lt_of_le_of_lt (Nat.mod_le _ _) ?_
      have := c.isLt
      have h1 : 1 ≤ (2 : Nat) ^ (8 * k) := Nat.one_le_two_pow
      rw [e]; omega
theorem num_smallR (x : List (BitVec 8)) (h : x.length ≤ 4) : (num x).toNat < 4294967296 := by
  have := num_ltR x 0#64 0 (by simp) (by omega)
  refine Nat.lt_of_lt_of_le this ?_
  rw [Nat.zero_add]
  exact Nat.pow_le_pow_right (by omega) (show 8 * x.length ≤ 32 by omega)
/-- a range: where it begins, how many blocks -/
abbrev Rg := BitVec 64 × Int
def Rg.ok (x : Rg) : Bool := decide (0 ≤ x.2 ∧ x.2 < 4294967296)
def Rg.enc (x : Rg) : List (BitVec 8) := (be 8 x.1 ++ be 4 (BitVec.ofInt 64 x.2)) ++ be 4 0#64
def rgFlat (l : List Rg) : List (BitVec 8) := l.flatMap Rg.enc
def rgHead (n : Nat) : List (BitVec 8) := (be 2 (BitVec.ofNat 64 (6 + 16 * n)) ++ be 2 (BitVec.ofNat 64 (16 * n))) ++ be 4 0#64
theorem enc_len (x : Rg) : x.enc.length = 16 := by simp [Rg.enc, be_length]
theorem head_len (n : Nat) : (rgHead n).length = 8 := by simp [rgHead, be_length]
theorem flat_len (l : List Rg) : (rgFlat l).length = 16 * l.length := by
  induction l with
  | nil => rfl
  | cons x l ih => unfold rgFlat at *; rw [List.flatMap_cons, List.length_append, enc_len, ih, List.length_cons]; omega
theorem flat_snoc (l : List Rg) (x : Rg) : rgFlat (l ++ [x]) = rgFlat l ++ x.enc := by simp [rgFlat]
/-- what a writer has, behind some ranges of n -/
def pst (n : Nat) (l : List Rg) : List (BitVec 8) × Int := if l.all Rg.ok = true then (rgHead n ++ rgFlat l, 0) else ([], 3)
/-- what PutRanges answers -/
def prR (l : List Rg) : List (BitVec 8) × Int := if l.length ≤ 32 ∧ l.all Rg.ok = true then (rgHead l.length ++ rgFlat l, 0) else ([], 3)
theorem pst_len (n : Nat) (l : List Rg) : (pst n l).1.length ≤ 8 + 16 * l.length := by
  unfold pst
  split
  · simp only [List.length_append, head_len, flat_len]; omega
  · simp
theorem wrNum_4 {L : List (BitVec 8)} (n : Int) (h0 : 0 ≤ n) : wrNum L 0 4 n = if n < 4294967296 then (L ++ be 4 (BitVec.ofInt 64 n), 0) else ([], 3) := by
  have e : wnE 4 n = if n < 4294967296 then 0 else 3 := by
    unfold wnE
    rw [show widthB 4 = true from rfl, if_neg (by decide), if_neg (by decide)]
    by_cases h : n < 4294967296
    · have : ¬ (n < -(2 ^ (8 * (4 : Int).toNat - 1)) ∨ 2 ^ (8 * (4 : Int).toNat) - 1 < n) := by simp; omega
      rw [if_neg this, if_pos h]
    · have : (n < -(2 ^ (8 * (4 : Int).toNat - 1)) ∨ 2 ^ (8 * (4 : Int).toNat) - 1 < n) := by simp; omega
      rw [if_pos this, if_neg h]
  unfold wrNum
  rw [if_pos rfl, e]
  by_cases h : n < 4294967296
  · rw [if_pos h, if_pos rfl, if_pos h]
    rfl
  · rw [if_neg h, if_neg (by decide), if_neg h]
theorem wrNum_2 {L : List (BitVec 8)} (n : Int) (h0 : 0 ≤ n) (h1 : n < 65536) : wrNum L 0 2 n = (L ++ be 2 (BitVec.ofInt 64 n), 0) := by
  have e : wnE 2 n = 0 := by
    unfold wnE
    rw [show widthB 2 = true from rfl, if_neg (by decide), if_neg (by decide)]
    have : ¬ (n < -(2 ^ (8 * (2 : Int).toNat - 1)) ∨ 2 ^ (8 * (2 : Int).toNat) - 1 < n) := by simp; omega
    rw [if_neg this]
  unfold wrNum
  rw [if_pos rfl, if_pos e]
  rfl
theorem wrNum_bad {L : List (BitVec 8)} (s n : Int) : wrNum L 3 s n = ([], 3) := by unfold wrNum; rw [if_neg (by decide)]
/-- one range more -/
theorem pst_step (n : Nat) (l : List Rg) (x : Rg) (h0 : 0 ≤ x.2) :
    ∃ L1 E1 L2 E2, wrNum (pst n l).1 (pst n l).2 8 (wrap64 (x.1.toNat : Int)) = (L1, E1) ∧ wrNum L1 E1 4 x.2 = (L2, E2) ∧ wrNum L2 E2 4 0 = pst n (l ++ [x]) ∧ L1.length ≤ (pst n l).1.length + 8 ∧ L2.length ≤ (pst n l).1.length + 12 := by
  by_cases h : l.all Rg.ok = true
  · have e0 : pst n l = (rgHead n ++ rgFlat l, 0) := if_pos h
    rw [e0]
    by_cases hx : x.2 < 4294967296
    · have ha : (l ++ [x]).all Rg.ok = true := by
        rw [List.all_append, h]; simp [Rg.ok, h0, hx]
      have e1 : pst n (l ++ [x]) = (rgHead n ++ rgFlat (l ++ [x]), 0) := if_pos ha
      refine ⟨(rgHead n ++ rgFlat l) ++ be 8 x.1, 0, ((rgHead n ++ rgFlat l) ++ be 8 x.1) ++ be 4 (BitVec.ofInt 64 x.2), 0, ?_, ?_, ?_, ?_, ?_⟩
      · simp only [wrNum_8, ofInt_wrapC]
      · rw [wrNum_4 x.2 h0, if_pos hx]
      · rw [wrNum_4 0 (by omega), if_pos (by decide), e1, flat_snoc]; simp [Rg.enc]
      · simp [be_length]; omega
      · simp [be_length]; omega
    · have ha : ¬ (l ++ [x]).all Rg.ok = true := by
        rw [List.all_append]; simp [Rg.ok]; intro _ _; omega
      have e1 : pst n (l ++ [x]) = ([], 3) := if_neg ha
      refine ⟨(rgHead n ++ rgFlat l) ++ be 8 x.1, 0, [], 3, ?_, ?_, ?_, ?_, ?_⟩
      · simp only [wrNum_8, ofInt_wrapC]
      · rw [wrNum_4 x.2 h0, if_neg hx]
      · rw [wrNum_bad, e1]
      · simp [be_length]; omega
      · simp
  · have e0 : pst n l = ([], 3) := if_neg h
    have ha : ¬ (l ++ [x]).all Rg.ok = true := by
      rw [List.all_append]; simp [h]
    have e1 : pst n (l ++ [x]) = ([], 3) := if_neg ha
    rw [e0]
    exact ⟨[], 3, [], 3, by rw [wrNum_bad], by rw [wrNum_bad], by rw [wrNum_bad, e1], by simp, by simp⟩
theorem pst_ok {n : Nat} {l : List Rg} {x : Rg} (h : l.all Rg.ok = true) (h0 : 0 ≤ x.2) (h1 : x.2 < 4294967296) : (l ++ [x]).all Rg.ok = true := by
  rw [List.all_append, h]; simp [Rg.ok, h0, h1]
theorem prR_pst {l : List Rg} (h : l.length ≤ 32) : wrEnd (pst l.length l).1 (pst l.length l).2 = (prR l).1 ∧ (pst l.length l).2 = (prR l).2 := by
  by_cases ho : l.all Rg.ok = true
  · rw [show pst l.length l = (rgHead l.length ++ rgFlat l, 0) from if_pos ho, show prR l = (rgHead l.length ++ rgFlat l, 0) from if_pos ⟨h, ho⟩]
    exact ⟨if_pos rfl, rfl⟩
  · rw [show pst l.length l = ([], 3) from if_neg ho, show prR l = ([], 3) from if_neg (fun e => ho e.2)]
    exact ⟨if_neg (by decide), rfl⟩
theorem prR_many {l : List Rg} (h : 32 < l.length) : prR l = ([], 3) := if_neg (by omega)
theorem prR_bad {l : List Rg} {x : Rg} (hx : x ∈ l) (h : x.ok = false) : prR l = ([], 3) := if_neg (fun e => by
  have := List.all_eq_true.1 e.2 x hx
  rw [h] at this; cases this)
theorem rd_k {l : List (BitVec 8)} (k : Nat) (h0 : 1 ≤ k) (h1 : k ≤ 8) (h : k ≤ l.length) : rdNum l 0 (k : Int) = (l.drop k, 0, wrap64 ((numTo l 0 k).toNat : Int)) := by
  unfold rdNum
  rw [if_pos rfl, if_pos (by unfold numE widthB; rw [if_neg (by simp; omega), if_neg (by omega)])]
  rfl
theorem wrap_4 (l : List (BitVec 8)) (k : Nat) (hk : k ≤ 4) : wrap64 ((numTo l 0 k).toNat : Int) = ((numTo l 0 k).toNat : Int) ∧ (numTo l 0 k).toNat < 4294967296 := by
  have hn : (numTo l 0 k).toNat < 4294967296 := by
    unfold numTo
    exact num_smallR _ (by rw [List.length_take]; omega)
  refine ⟨?_, hn⟩
  unfold wrap64
  omega
/-- the range at the beginning of bytes; whether its last four are 0 -/
def rg1 (d : List (BitVec 8)) : Rg := (numTo d 0 8, ((numTo (d.drop 8) 0 4).toNat : Int))
def rz1 (d : List (BitVec 8)) : Bool := decide (((numTo ((d.drop 8).drop 4) 0 4).toNat : Int) = 0)
def rgL (d : List (BitVec 8)) (k : Nat) : List Rg := (List.range k).map fun i => rg1 (d.drop (16 * i))
def rzL (d : List (BitVec 8)) (k : Nat) : Bool := (List.range k).all fun i => rz1 (d.drop (16 * i))
theorem rgL_len (d : List (BitVec 8)) (k : Nat) : (rgL d k).length = k := by simp [rgL]
theorem rgL_succ (d : List (BitVec 8)) (k : Nat) : rgL d (k + 1) = rgL d k ++ [rg1 (d.drop (16 * k))] := by simp [rgL, List.range_succ]
theorem rzL_succ (d : List (BitVec 8)) (k : Nat) : rzL d (k + 1) = (rzL d k && rz1 (d.drop (16 * k))) := by simp [rzL, List.range_succ]
theorem rzL_less {d : List (BitVec 8)} {k n : Nat} (h : k ≤ n) (hn : rzL d n = true) : rzL d k = true := by
  unfold rzL at *
  rw [List.all_eq_true] at *
  intro i hi
  exact hn i (by simp at *; omega)
def rgN (l : List (BitVec 8)) : Nat := (numTo (l.drop 2) 0 2).toNat / 16
/-- whether the head is right -/
def rgHd (l : List (BitVec 8)) : Bool := decide (((numTo l 0 2).toNat : Int) = (l.length : Int) - 2 ∧ ((numTo (l.drop 2) 0 2).toNat : Int) = (l.length : Int) - 8 ∧ ((numTo (l.drop 2) 0 2).toNat : Int) % 16 = 0 ∧ ((numTo ((l.drop 2).drop 2) 0 4).toNat : Int) = 0)
/-- what Ranges answers -/
def rgR (l : List (BitVec 8)) : List Rg × Int :=
  if l.length < 8 then ([], 10) else if rgHd l = true ∧ rzL (l.drop 8) (rgN l) = true then (if rgN l ≤ 32 then (rgL (l.drop 8) (rgN l), 0) else ([], 3)) else ([], 11)
theorem rgHd_len {l : List (BitVec 8)} (h : rgHd l = true) (h8 : ¬ l.length < 8) : l.length = 8 + 16 * rgN l := by
  have := of_decide_eq_true h
  unfold rgN
  omega
theorem rgN_few (l : List (BitVec 8)) : rgN l ≤ 4096 := by
  unfold rgN
  have : (numTo (l.drop 2) 0 2).toNat < 65536 := by
    unfold numTo
    have := num_ltR ((List.drop 0 (l.drop 2)).take 2) 0#64 0 (by simp) (by rw [List.length_take]; omega)
    refine Nat.lt_of_lt_of_le this ?_
    rw [Nat.zero_add]
    exact Nat.pow_le_pow_right (n := 2) (i := 8 * ((List.drop 0 (l.drop 2)).take 2).length) (j := 16) (by omega) (by rw [List.length_take]; omega)
  omega
theorem enc_rg1 {d : List (BitVec 8)} (h : d.length = 16) (hz : rz1 d = true) : (rg1 d).enc = d := by
  have e0 : be 8 (numTo d 0 8) = d.take 8 := by
    unfold numTo; rw [List.drop_zero]; exact be_numC 8 _ (by rw [List.length_take]; omega) (by omega)
  have e1 : BitVec.ofInt 64 ((numTo (d.drop 8) 0 4).toNat : Int) = numTo (d.drop 8) 0 4 := by
    apply BitVec.eq_of_toNat_eq
    rw [BitVec.toNat_ofInt]
    have := (numTo (d.drop 8) 0 4).isLt
    omega
  have e2 : be 4 (numTo (d.drop 8) 0 4) = (d.drop 8).take 4 := by
    unfold numTo; rw [List.drop_zero]; exact be_numC 4 _ (by rw [List.length_take, List.length_drop]; omega) (by omega)
  have z : numTo ((d.drop 8).drop 4) 0 4 = 0#64 := by
    have := of_decide_eq_true hz
    apply BitVec.eq_of_toNat_eq
    show _ = 0
    omega
  have e3 : be 4 (numTo ((d.drop 8).drop 4) 0 4) = (d.drop 8).drop 4 := by
    have : ((d.drop 8).drop 4).take 4 = (d.drop 8).drop 4 := List.take_of_length_le (by simp only [List.length_drop]; omega)
    unfold numTo; rw [List.drop_zero, this]; exact be_numC 4 _ (by simp only [List.length_drop]; omega) (by omega)
  unfold Rg.enc rg1
  rw [e0, e1, e2, ← z, e3, List.append_assoc, List.take_append_drop, List.take_append_drop]
theorem flat_rgL : ∀ (n : Nat) (d : List (BitVec 8)), d.length = 16 * n → rzL d n = true → rgFlat (rgL d n) = d
  | 0, d, h, _ => by
    have : d = [] := List.eq_nil_of_length_eq_zero (by omega)
    subst this; rfl
  | n + 1, d, h, hz => by
    rw [rzL_succ, Bool.and_eq_true] at hz
    have hd : (d.drop (16 * n)).length = 16 := by rw [List.length_drop]; omega
    have hl : ∀ i, i < n → ∀ k, k ≤ 16 → True := fun _ _ _ _ => trivial
    have ih := flat_rgL n (d.take (16 * n)) (by rw [List.length_take]; omega) (by
      have := hz.1
      unfold rzL at *
      rw [List.all_eq_true] at *
      intro i hi
      have h1 := this i hi
      have hi' : i < n := by simpa using hi
      have e : ((d.take (16 * n)).drop (16 * i)).take 16 = (d.drop (16 * i)).take 16 := by
        rw [List.drop_take, List.take_take]; congr 1; omega
      have e4 : ∀ x y : List (BitVec 8), x.take 16 = y.take 16 → rz1 x = rz1 y := fun x y hxy => by
        unfold rz1 numTo
        have e5 : ∀ x : List (BitVec 8), List.take 4 (List.drop 0 (List.drop 4 (List.drop 8 x))) = ((x.take 16).drop 12) := fun x => by
          rw [List.drop_zero, List.drop_drop, List.drop_take]
        rw [e5, e5, hxy]
      rw [e4 _ _ e]
      exact h1)
    have e6 : rgL (d.take (16 * n)) n = rgL d n := by
      unfold rgL
      apply List.map_congr_left
      intro i hi
      have hi' : i < n := by simpa using hi
      have e : ((d.take (16 * n)).drop (16 * i)).take 16 = (d.drop (16 * i)).take 16 := by
        rw [List.drop_take, List.take_take]; congr 1; omega
      have e4 : ∀ x y : List (BitVec 8), x.take 16 = y.take 16 → rg1 x = rg1 y := fun x y hxy => by
        unfold rg1 numTo
        have e5 : ∀ x : List (BitVec 8), List.take 4 (List.drop 0 (List.drop 8 x)) = ((x.take 16).drop 8).take 4 := fun x => by
          rw [List.drop_zero, List.drop_take, List.take_take]; rfl
        have e7 : ∀ x : List (BitVec 8), List.take 8 (List.drop 0 x) = (x.take 16).take 8 := fun x => by
          rw [List.drop_zero, List.take_take]; rfl
        rw [e5 x, e5 y, e7 x, e7 y, hxy]
      exact e4 _ _ e
    rw [e6] at ih
    rw [rgL_succ, flat_snoc, ih, enc_rg1 hd hz.2, List.take_append_drop]
theorem be2_num {l : List (BitVec 8)} (p n : Nat) (h : 2 ≤ (l.drop p).length) (e : ((numTo (l.drop p) 0 2).toNat : Int) = (n : Int)) : be 2 (BitVec.ofNat 64 n) = (l.drop p).take 2 := by
  have e1 : BitVec.ofNat 64 n = numTo (l.drop p) 0 2 := by
    apply BitVec.eq_of_toNat_eq
    have := (numTo (l.drop p) 0 2).isLt
    rw [BitVec.toNat_ofNat]
    omega
  rw [e1]
  unfold numTo
  rw [List.drop_zero]
  exact be_numC 2 _ (by rw [List.length_take]; omega) (by omega)
/-- there and back -/
theorem pr_rg {b : List (BitVec 8)} {p : List Rg} (h : rgR b = (p, 0)) : prR p = (b, 0) := by
  unfold rgR at h
  split at h
  · simp at h
  · rename_i h8
    split at h
    · rename_i hh
      split at h
      · rename_i h32
        simp only [Prod.mk.injEq, and_true] at h
        subst h
        obtain ⟨hd, hz⟩ := hh
        have hl := rgHd_len hd h8
        have hh := of_decide_eq_true hd
        have hok : (rgL (b.drop 8) (rgN b)).all Rg.ok = true := by
          rw [List.all_eq_true]
          intro x hx
          unfold rgL at hx
          obtain ⟨i, -, rfl⟩ := List.mem_map.1 hx
          have := (wrap_4 (((b.drop 8).drop (16 * i)).drop 8) 4 (by omega)).2
          unfold Rg.ok rg1
          rw [decide_eq_true_eq]
          simp only
          omega
        unfold prR
        rw [if_pos ⟨by rw [rgL_len]; exact h32, hok⟩, rgL_len, flat_rgL _ _ (by rw [List.length_drop]; omega) hz]
        have a1 := be2_num (l := b) 0 (6 + 16 * rgN b) (by simp only [List.length_drop]; omega) (by rw [List.drop_zero]; omega)
        have a2 := be2_num (l := b) 2 (16 * rgN b) (by simp only [List.length_drop]; omega) (by omega)
        have a3 : be 4 0#64 = ((b.drop 2).drop 2).take 4 := by
          have z : (0#64) = numTo ((b.drop 2).drop 2) 0 4 := by
            apply BitVec.eq_of_toNat_eq
            have := hh.2.2.2
            show 0 = _
            omega
          rw [z]
          unfold numTo
          rw [List.drop_zero]
          exact be_numC 4 _ (by simp only [List.length_take, List.length_drop]; omega) (by omega)
        unfold rgHead
        rw [a1, a2, a3, List.drop_zero]
        have e8 : b.drop 8 = ((b.drop 2).drop 2).drop 4 := by simp only [List.drop_drop]
        rw [e8, List.append_assoc, List.append_assoc, List.take_append_drop, List.take_append_drop, List.take_append_drop]
      · simp at h
    · simp at h
theorem numTo_be (k : Nat) (hk : k ≤ 8) (x : BitVec 64) (h : fitsB k x = true) (r : List (BitVec 8)) : numTo (be k x ++ r) 0 k = x := by
  unfold numTo
  rw [List.drop_zero, List.take_left' (be_length k x hk)]
  exact num_be k hk x h
theorem fits_of (k : Nat) (x : BitVec 64) (h : x.toNat < 2 ^ (8 * k)) : fitsB k x = true := by
  unfold fitsB
  rw [decide_eq_true_eq]
  exact Nat.div_eq_of_lt h
theorem drop_be (k : Nat) (hk : k ≤ 8) (x : BitVec 64) (r : List (BitVec 8)) : (be k x ++ r).drop k = r := List.drop_left' (be_length k x hk)
theorem fits8R (x : BitVec 64) : fitsB 8 x = true := fits_of 8 x x.isLt
theorem rg1_enc (x : Rg) (h : x.ok = true) (r : List (BitVec 8)) : rg1 (x.enc ++ r) = x ∧ rz1 (x.enc ++ r) = true := by
  have hx := of_decide_eq_true h
  have e : x.enc ++ r = be 8 x.1 ++ (be 4 (BitVec.ofInt 64 x.2) ++ (be 4 0#64 ++ r)) := by simp [Rg.enc]
  have t : (BitVec.ofInt 64 x.2).toNat = x.2.toNat := by rw [BitVec.toNat_ofInt]; omega
  rw [e]
  refine ⟨?_, ?_⟩
  · unfold rg1
    rw [drop_be 8 (by omega), numTo_be 8 (by omega) _ (fits8R x.1), numTo_be 4 (by omega) _ (fits_of 4 _ (by rw [t]; omega)), t]
    exact Prod.ext rfl (by simp only; omega)
  · unfold rz1
    rw [drop_be 8 (by omega), drop_be 4 (by omega), numTo_be 4 (by omega) _ (by decide)]
    rfl
theorem rg_flat : ∀ (l : List Rg), l.all Rg.ok = true → rgL (rgFlat l) l.length = l ∧ rzL (rgFlat l) l.length = true := by
  intro l h
  have key : ∀ i (hi : i < l.length), ∃ r, (rgFlat l).drop (16 * i) = l[i].enc ++ r := by
    intro i hi
    refine ⟨rgFlat (l.drop (i + 1)), ?_⟩
    have e : l = l.take i ++ l[i] :: l.drop (i + 1) := by rw [← List.drop_eq_getElem_cons hi, List.take_append_drop]
    have e2 : rgFlat l = rgFlat (l.take i) ++ (l[i].enc ++ rgFlat (l.drop (i + 1))) := by
      have e9 : rgFlat l = rgFlat (l.take i ++ l[i] :: l.drop (i + 1)) := congrArg rgFlat e
      rw [e9]
      unfold rgFlat
      rw [List.flatMap_append, List.flatMap_cons]
    rw [e2, List.drop_left' (by rw [flat_len, List.length_take]; omega)]
  refine ⟨?_, ?_⟩
  · apply List.ext_getElem
    · rw [rgL_len]
    · intro i h1 h2
      obtain ⟨r, hr⟩ := key i h2
      simp only [rgL, List.getElem_map, List.getElem_range]
      rw [hr, (rg1_enc _ (List.all_eq_true.1 h _ (List.getElem_mem h2)) r).1]
  · unfold rzL
    rw [List.all_eq_true]
    intro i hi
    have hi' : i < l.length := by simpa using hi
    obtain ⟨r, hr⟩ := key i hi'
    rw [hr, (rg1_enc _ (List.all_eq_true.1 h _ (List.getElem_mem hi')) r).2]
theorem rg_pr {l : List Rg} {x : List (BitVec 8)} (h : prR l = (x, 0)) : rgR x = (l, 0) := by
  unfold prR at h
  split at h
  · rename_i hh
    obtain ⟨h32, hok⟩ := hh
    simp only [Prod.mk.injEq, and_true] at h
    have e : x = be 2 (BitVec.ofNat 64 (6 + 16 * l.length)) ++ (be 2 (BitVec.ofNat 64 (16 * l.length)) ++ (be 4 0#64 ++ rgFlat l)) := by rw [← h]; simp [rgHead]
    have n1 : (BitVec.ofNat 64 (6 + 16 * l.length)).toNat = 6 + 16 * l.length := by rw [BitVec.toNat_ofNat]; omega
    have n2 : (BitVec.ofNat 64 (16 * l.length)).toNat = 16 * l.length := by rw [BitVec.toNat_ofNat]; omega
    have a1 : numTo x 0 2 = BitVec.ofNat 64 (6 + 16 * l.length) := by rw [e, numTo_be 2 (by omega) _ (fits_of 2 _ (by rw [n1]; omega))]
    have d2 : x.drop 2 = be 2 (BitVec.ofNat 64 (16 * l.length)) ++ (be 4 0#64 ++ rgFlat l) := by rw [e, drop_be 2 (by omega)]
    have a2 : numTo (x.drop 2) 0 2 = BitVec.ofNat 64 (16 * l.length) := by rw [d2, numTo_be 2 (by omega) _ (fits_of 2 _ (by rw [n2]; omega))]
    have d4 : (x.drop 2).drop 2 = be 4 0#64 ++ rgFlat l := by rw [d2, drop_be 2 (by omega)]
    have a3 : numTo ((x.drop 2).drop 2) 0 4 = 0#64 := by rw [d4, numTo_be 4 (by omega) _ (by decide)]
    have d8 : x.drop 8 = rgFlat l := by
      have : x.drop 8 = ((x.drop 2).drop 2).drop 4 := by simp only [List.drop_drop]
      rw [this, d4, drop_be 4 (by omega)]
    have hl : x.length = 8 + 16 * l.length := by rw [← h]; simp [head_len, flat_len]
    have hN : rgN x = l.length := by unfold rgN; rw [a2, n2]; omega
    have hH : rgHd x = true := by
      unfold rgHd
      rw [a1, a2, a3, n1, n2, hl, decide_eq_true_eq]
      simp
      omega
    obtain ⟨f1, f2⟩ := rg_flat l hok
    unfold rgR
    rw [if_neg (by omega), if_pos ⟨hH, by rw [d8, hN]; exact f2⟩, if_pos (by omega), d8, hN, f1]
  · simp at h
end Go.Proofs.YtmoobfpmijdoaaaDoor

