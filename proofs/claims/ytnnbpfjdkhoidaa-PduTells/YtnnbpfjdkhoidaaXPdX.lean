/- pdu: a letter of which some bits are turned. No Go. -/
import Derived.Test.YtnnbpfjdkhoidaaXPdW
import Derived.Test.YtnnbpfjdkhoidaaXSumT1
namespace Go.Proofs.Ytnnbpfjdkhoidaa
open Go.RowKit
set_option linter.unusedVariables false
set_option linter.unusedSimpArgs false
set_option maxRecDepth 8000

/-- Y is X with the bits of the mask y turned, from t on -/
structure TnL (X : List (BitVec 8)) (t : Nat) (y : BitVec 32) (Y : List (BitVec 8)) : Prop where
  len : Y.length = X.length
  sum : Crc.sum Y = Crc.sum X ^^^ Crc.Sn (8 * X.length - t) y
theorem TnL.start (X : List (BitVec 8)) (t : Nat) : TnL X t 0#32 X := by
  refine ⟨rfl, ?_⟩
  have : Crc.Sn (8 * X.length - t) 0#32 = 0#32 := by
    have h := Crc.Sn_xor (8 * X.length - t) 0#32 0#32
    simpa using h
  rw [this]
  simp
theorem TnL.turn {X Y : List (BitVec 8)} {t k : Nat} {y : BitVec 32} (h : TnL X t y Y) (hk : k < 32) (hm : t + k < 8 * X.length) :
    TnL X t (y ^^^ BitVec.twoPow 32 k) (Y.set ((t + k) / 8) (Y.getD ((t + k) / 8) 0#8 ^^^ (1#8 <<< ((t + k) % 8)))) := by
  have hst := Crc.sum_turn Y t k hk (by rw [h.len]; exact hm)
  rw [h.len, h.sum, BitVec.xor_assoc, ← Crc.Sn_xor] at hst
  exact ⟨by rw [List.length_set]; exact h.len, hst⟩
theorem set_mid (P Y Q : List (BitVec 8)) (t k : Nat) (h : t + k < 8 * Y.length) :
    (P ++ (Y ++ Q)).set ((8 * P.length + t + k) / 8) ((P ++ (Y ++ Q)).getD ((8 * P.length + t + k) / 8) 0#8 ^^^ (1#8 <<< ((8 * P.length + t + k) % 8))) = P ++ (Y.set ((t + k) / 8) (Y.getD ((t + k) / 8) 0#8 ^^^ (1#8 <<< ((t + k) % 8))) ++ Q) := by
  have e1 : (8 * P.length + t + k) / 8 = P.length + (t + k) / 8 := by omega
  have e2 : (8 * P.length + t + k) % 8 = (t + k) % 8 := by omega
  have hq : (t + k) / 8 < Y.length := by omega
  rw [e1, e2]
  have hg : (P ++ (Y ++ Q)).getD (P.length + (t + k) / 8) 0#8 = Y.getD ((t + k) / 8) 0#8 := by
    rw [List.getD, List.getD, List.getElem?_append_right (by omega), Nat.add_sub_cancel_left, List.getElem?_append_left hq]
  rw [hg, List.set_append_right _ _ (by omega), Nat.add_sub_cancel_left, List.set_append_left _ _ hq]
theorem bytes4_eq {a b : BitVec 32} (h : Crc.bytes4 a = Crc.bytes4 b) : a = b := by
  obtain ⟨a0, a1, a2, a3⟩ := bytes4_bt a
  obtain ⟨b0, b1, b2, b3⟩ := bytes4_bt b
  rw [h] at a0 a1 a2 a3
  apply BitVec.eq_of_toNat_eq
  omega
theorem TnL.other {X Y : List (BitVec 8)} {t : Nat} {y : BitVec 32} (h : TnL X t y Y) (hy : y ≠ 0#32) : Crc.bytes4 (Crc.sum X) ≠ Crc.bytes4 (Crc.sum Y) := by
  intro e
  have := Crc.turned _ _ _ _ h.sum
  rw [decide_eq_true (bytes4_eq e), Eq.comm, decide_eq_true_eq] at this
  exact hy this
/-- bits of the head are turned -/
theorem head_turned {H Y R : List (BitVec 8)} {t : Nat} {y : BitVec 32} (ds : Bool) (mo : Int) (h : TnL H t y Y) (hl : H.length = 48) (hy : y ≠ 0#32) : wkM true ds mo (Y ++ (dgB true H ++ R)) = (12, false) := by
  have e0 : lH (Y ++ (dgB true H ++ R)) = Y := by unfold lH; exact take_front _ _ 48 (by rw [h.len, hl])
  have e1 : lD1 true (Y ++ (dgB true H ++ R)) = dgB true H := by
    unfold lD1
    rw [drop_front _ _ 48 (by rw [h.len, hl])]
    exact take_front _ _ _ (dgB_len _ _)
  have hE : hfE true mo Y (dgB true H) = 12 := by
    unfold hfE
    rw [if_pos]
    have := h.other hy
    simp [dgB, this]
  unfold wkM
  rw [e0, e1, hE, if_neg (by rw [List.length_append, List.length_append, dgB_len, h.len, hl]; unfold hN; omega), if_pos (by decide)]
/-- bits of the data are turned -/
theorem data_turned {H d Y : List (BitVec 8)} {t : Nat} {y : BitVec 32} (mo : Int) (h : HdOk17 H d mo) (hY : TnL (bdy d) t y Y) (hd : 0 < d.length) (hy : y ≠ 0#32) : wkM true true mo (H ++ (dgB true H ++ (Y ++ dgB true (bdy d)))) = (12, true) := by
  have hb := bdy_len d h.few
  have e0 : lH (H ++ (dgB true H ++ (Y ++ dgB true (bdy d)))) = H := by unfold lH; exact take_front _ _ 48 h.len
  have e1 : lD1 true (H ++ (dgB true H ++ (Y ++ dgB true (bdy d)))) = dgB true H := by
    unfold lD1
    rw [drop_front _ _ 48 h.len]
    exact take_front _ _ _ (dgB_len _ _)
  have e2 : (H ++ (dgB true H ++ (Y ++ dgB true (bdy d)))).drop (hN true) = Y ++ dgB true (bdy d) := by
    unfold hN
    rw [← List.drop_drop, drop_front _ _ 48 h.len, drop_front _ _ _ (dgB_len _ _)]
  have e3 : lB true (H ++ (dgB true H ++ (Y ++ dgB true (bdy d)))) = Y := by unfold lB; rw [e0, h.cnt, e2]; exact take_front _ _ _ (by rw [hY.len, hb])
  have e4 : dN true (H ++ (dgB true H ++ (Y ++ dgB true (bdy d)))) = 4 := by unfold dN; rw [e0, h.cnt, decide_eq_true hd]; rfl
  have e5 : lD3 true true (H ++ (dgB true H ++ (Y ++ dgB true (bdy d)))) = dgB true (bdy d) := by
    unfold lD3
    rw [e4, e0, h.cnt, ← List.drop_drop, e2, drop_front _ _ _ (by rw [hY.len, hb])]
    exact List.take_of_length_le (by rw [dgB_len]; decide)
  have hE : hfE true mo H (dgB true H) = 0 := by
    unfold hfE
    rw [if_neg (by simp [dgB]), if_neg (by have := h.b4; have := h.b0; omega), if_neg (by rw [h.cnt]; have := h.most; omega)]
  have hF : bfE true H Y (dgB true (bdy d)) = 12 := by
    unfold bfE
    rw [if_pos]
    have := hY.other hy
    simp [dgB, this, h.cnt, hd]
  have hl : (H ++ (dgB true H ++ (Y ++ dgB true (bdy d)))).length = 48 + (4 + (bodyN d.length + 4)) := by
    rw [List.length_append, List.length_append, List.length_append, dgB_len, dgB_len, hY.len, hb, h.len]; rfl
  unfold wkM
  rw [e0, e1, e3, e4, e5, h.cnt, hE, hF, if_neg (by rw [hl]; unfold hN dgN; simp; omega), if_neg (by simp), if_neg (by rw [hl]; unfold hN dgN; simp; omega)]
end Go.Proofs.Ytnnbpfjdkhoidaa

