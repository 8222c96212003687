/- Bytes of which some bits are turned. No Go. -/
import Derived.Test.YtgjcgnmomdanaaaXSumW2
import Derived.Test.YtgjcgnmomdanaaaXSumT1
namespace Go.Proofs.Ytgjcgnmomdanaaa
open Go.RowKit
set_option linter.unusedVariables false
set_option linter.unusedSimpArgs false
set_option maxRecDepth 8000

/-- Y is X with the bits of the mask y turned, from t on -/
structure TnL (X : List (BitVec 8)) (t : Nat) (y : BitVec 32) (Y : List (BitVec 8)) : Prop where
  len : Y.length = X.length
  sum : Crc.sum Y = Crc.sum X ^^^ Crc.Sn (8 * X.length - t) y
theorem TnL.start (X : List (BitVec 8)) (t : Nat) : TnL X t 0#32 X := by
  refine ⟨rfl, ?_⟩
  have : Crc.Sn (8 * X.length - t) 0#32 = 0#32 := by
    have h := Crc.Sn_xor (8 * X.length - t) 0#32 0#32
    simpa using h
  rw [this]
  simp
theorem TnL.turn {X Y : List (BitVec 8)} {t k : Nat} {y : BitVec 32} (h : TnL X t y Y) (hk : k < 32) (hm : t + k < 8 * X.length) :
    TnL X t (y ^^^ BitVec.twoPow 32 k) (Y.set ((t + k) / 8) (Y.getD ((t + k) / 8) 0#8 ^^^ (1#8 <<< ((t + k) % 8)))) := by
  have hst := Crc.sum_turn Y t k hk (by rw [h.len]; exact hm)
  rw [h.len, h.sum, BitVec.xor_assoc, ← Crc.Sn_xor] at hst
  exact ⟨by rw [List.length_set]; exact h.len, hst⟩
theorem set_mid (P Y Q : List (BitVec 8)) (t k : Nat) (h : t + k < 8 * Y.length) :
    (P ++ (Y ++ Q)).set ((8 * P.length + t + k) / 8) ((P ++ (Y ++ Q)).getD ((8 * P.length + t + k) / 8) 0#8 ^^^ (1#8 <<< ((8 * P.length + t + k) % 8))) = P ++ (Y.set ((t + k) / 8) (Y.getD ((t + k) / 8) 0#8 ^^^ (1#8 <<< ((t + k) % 8))) ++ Q) := by
  have e1 : (8 * P.length + t + k) / 8 = P.length + (t + k) / 8 := by omega
  have e2 : (8 * P.length + t + k) % 8 = (t + k) % 8 := by omega
  have hq : (t + k) / 8 < Y.length := by omega
  rw [e1, e2]
  have hg : (P ++ (Y ++ Q)).getD (P.length + (t + k) / 8) 0#8 = Y.getD ((t + k) / 8) 0#8 := by
    rw [List.getD, List.getD, List.getElem?_append_right (by omega), Nat.add_sub_cancel_left, List.getElem?_append_left hq]
  rw [hg, List.set_append_right _ _ (by omega), Nat.add_sub_cancel_left, List.set_append_left _ _ hq]
theorem bytes4_eq {a b : BitVec 32} (h : Crc.bytes4 a = Crc.bytes4 b) : a = b := by
  obtain ⟨a0, a1, a2, a3⟩ := bytes4_bt a
  obtain ⟨b0, b1, b2, b3⟩ := bytes4_bt b
  rw [h] at a0 a1 a2 a3
  apply BitVec.eq_of_toNat_eq
  omega
theorem TnL.other {X Y : List (BitVec 8)} {t : Nat} {y : BitVec 32} (h : TnL X t y Y) (hy : y ≠ 0#32) : Crc.bytes4 (Crc.sum X) ≠ Crc.bytes4 (Crc.sum Y) := by
  intro e
  have := Crc.turned _ _ _ _ h.sum
  rw [decide_eq_true (bytes4_eq e), Eq.comm, decide_eq_true_eq] at this
  exact hy this
end Go.Proofs.Ytgjcgnmomdanaaa

