/- pdu: what a written letter is to a reader. -/
import Derived.Test.YtnnbpfjdkhoidaaXPdP
import Derived.Test.YtnnbpfjdkhoidaaXPd7
namespace Go.Proofs.Ytnnbpfjdkhoidaa
open Go.RowKit
set_option linter.unusedVariables false
set_option linter.unusedSimpArgs false
set_option maxRecDepth 8000

theorem pdH_cnt (op : Int) (now : Bool) (fl b2 b3 : Int) (n : Nat) (lun tk w0 w1 w2 w3 w4 w5 w6 : Int) (hn : n < 16777216) : cnt (pdH op now fl b2 b3 n lun tk w0 w1 w2 w3 w4 w5 w6) = n := by
  have e : ((pdH op now fl b2 b3 n lun tk w0 w1 w2 w3 w4 w5 w6).drop 5).take 3 = be 3 (BitVec.ofInt 64 (n : Int)) := by
    unfold pdH
    simp only [be, be8, List.nil_append, List.append_assoc, List.drop, List.cons_append, List.take, Nat.sub_self, Nat.reduceSub]
  have hf : fitsB 3 (BitVec.ofInt 64 (n : Int)) = true := by
    unfold fitsB
    rw [decide_eq_true_eq, BitVec.toNat_ofInt]
    apply Nat.div_eq_of_lt
    simp
    omega
  unfold cnt numTo
  rw [e, num_be 3 (by omega) _ hf, BitVec.toNat_ofInt]
  omega
theorem nz_nulls (k : Nat) : nz (nulls k) = false := by
  unfold nz nulls
  rw [List.any_eq_false]
  intro x hx
  rw [(List.mem_replicate.1 hx).2]
  simp
/-- a head that can be -/
structure HdOk17 (H d : List (BitVec 8)) (mo : Int) : Prop where
  len : H.length = 48
  cnt : cnt H = d.length
  b4 : bt H 4 = 0
  b0 : bt H 0 < 128
  most : (d.length : Int) ≤ mo
  few : d.length < 16777216
theorem take_front {α : Type} (a b : List α) (n : Nat) (h : a.length = n) : (a ++ b).take n = a := by rw [← h]; simp
theorem drop_front {α : Type} (a b : List α) (n : Nat) (h : a.length = n) : (a ++ b).drop n = b := by rw [← h]; simp
theorem put_parts (hs ds : Bool) (H d R : List (BitVec 8)) (mo : Int) (h : HdOk17 H d mo) :
    lH (putB hs ds H d ++ R) = H ∧ lD1 hs (putB hs ds H d ++ R) = dgB hs H ∧ lB hs (putB hs ds H d ++ R) = bdy d ∧ dN ds (putB hs ds H d ++ R) = dgN (ds && decide (0 < d.length)) ∧ lD3 hs ds (putB hs ds H d ++ R) = dgB (ds && decide (0 < d.length)) (bdy d) := by
  have e0 : lH (putB hs ds H d ++ R) = H := by unfold lH putB; rw [List.append_assoc]; exact take_front _ _ 48 h.len
  have e1 : lD1 hs (putB hs ds H d ++ R) = dgB hs H := by
    unfold lD1 putB
    rw [List.append_assoc, drop_front _ _ 48 h.len, List.append_assoc]
    exact take_front _ _ _ (dgB_len _ _)
  have e2 : (putB hs ds H d ++ R).drop (hN hs) = bdy d ++ (dgB (ds && decide (0 < d.length)) (bdy d) ++ R) := by
    unfold putB hN
    rw [List.append_assoc, ← List.drop_drop, drop_front _ _ 48 h.len, List.append_assoc, drop_front _ _ _ (dgB_len _ _), List.append_assoc]
  have e3 : lB hs (putB hs ds H d ++ R) = bdy d := by unfold lB; rw [e0, h.cnt, e2]; exact take_front _ _ _ (bdy_len d h.few)
  have e4 : dN ds (putB hs ds H d ++ R) = dgN (ds && decide (0 < d.length)) := by unfold dN; rw [e0, h.cnt]
  refine ⟨e0, e1, e3, e4, ?_⟩
  unfold lD3
  rw [e4, e0, h.cnt, ← List.drop_drop, e2, drop_front _ _ _ (bdy_len d h.few)]
  exact take_front _ _ _ (dgB_len _ _)
theorem put_whole (hs ds : Bool) (H d R : List (BitVec 8)) (mo : Int) (h : HdOk17 H d mo) : wkM hs ds mo (putB hs ds H d ++ R) = (0, true) := by
  obtain ⟨e0, e1, e3, e4, e5⟩ := put_parts hs ds H d R mo h
  have hl := putB_len hs ds H d h.few
  have hll : (putB hs ds H d ++ R).length = (putB hs ds H d).length + R.length := List.length_append
  have hE : hfE hs mo H (dgB hs H) = 0 := by
    unfold hfE
    rw [if_neg (by unfold dgB; cases hs <;> simp), if_neg (by have := h.b4; have := h.b0; omega), if_neg (by rw [h.cnt]; have := h.most; omega)]
  have hF : bfE ds H (bdy d) (dgB (ds && decide (0 < d.length)) (bdy d)) = 0 := by
    unfold bfE
    rw [h.cnt, if_neg (by unfold dgB; cases (ds && decide (0 < d.length)) <;> simp), if_neg]
    have : (bdy d).drop d.length = nulls (bodyN d.length - d.length) := by unfold bdy; exact drop_front _ _ _ rfl
    rw [this, nz_nulls]
    decide
  unfold wkM
  rw [e0, e1, e3, e4, e5, h.cnt, hE, hF, if_neg (by unfold hN; have := h.len; omega), if_neg (by simp), if_neg (by unfold hN; have := h.len; omega)]
theorem put_data (hs ds : Bool) (H d R : List (BitVec 8)) (mo : Int) (h : HdOk17 H d mo) : (lB hs (putB hs ds H d ++ R)).take (cnt (lH (putB hs ds H d ++ R))) = d ∧ hN hs + bodyN (cnt (lH (putB hs ds H d ++ R))) + dN ds (putB hs ds H d ++ R) = (putB hs ds H d).length := by
  obtain ⟨e0, e1, e3, e4, e5⟩ := put_parts hs ds H d R mo h
  rw [e0, e3, e4, h.cnt]
  refine ⟨by unfold bdy; exact take_front _ _ _ rfl, ?_⟩
  rw [putB_len hs ds H d h.few, h.len]
  unfold hN
  omega
end Go.Proofs.Ytnnbpfjdkhoidaa

