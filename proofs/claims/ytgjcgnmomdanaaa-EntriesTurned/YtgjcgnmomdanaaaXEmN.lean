/- A message of which some bits are turned is refused. No Go. -/
import Derived.Test.YtgjcgnmomdanaaaXEmE
import Derived.Test.YtgjcgnmomdanaaaXTnX
namespace Go.Proofs.Ytgjcgnmomdanaaa
open Go.RowKit Go.Shelf
set_option linter.unusedVariables false
set_option maxRecDepth 8000

/-- a packed message in three parts: ahead, the part whose bits are turned, behind -/
structure MsP (m : Mg) (P X Q : List (BitVec 8)) : Prop where
  eq : pmB m = P ++ (X ++ Q)
  part : (P = [] ∧ X = bodyM m ∧ Q = be 4 ((Crc.sum (bodyM m)).setWidth 64)) ∨ (P = bodyM m ∧ X = be 4 ((Crc.sum (bodyM m)).setWidth 64) ∧ Q = [])
theorem num_be4' {Y : List (BitVec 8)} (h : Y.length = 4) : be 4 (num Y) = Y := be_num9 4 Y h (by omega)
theorem umK_ne {A S : List (BitVec 8)} (hS : S.length = 4) (hne : be 4 ((Crc.sum A).setWidth 64) ≠ S) : umK (A ++ S) = false := by
  unfold umK
  have e1 : (A ++ S).length - 4 = A.length := by rw [List.length_append, hS, Nat.add_sub_cancel]
  have e2 : umA (A ++ S) = A := by unfold umA; rw [e1, List.take_left' rfl]
  rw [e1, e2, decide_eq_false_iff_not]
  unfold numTo
  rw [List.drop_left' rfl, List.take_of_length_le (by omega)]
  intro h
  apply hne
  have e3 : (Crc.sum A).setWidth 64 = num S := by
    apply BitVec.eq_of_toNat_eq
    rw [BitVec.toNat_setWidth, Nat.mod_eq_of_lt (by have := (Crc.sum A).isLt; omega)]
    omega
  rw [e3, num_be4' hS]
theorem sum_inj {a b : BitVec 32} (h : be 4 (a.setWidth 64) = be 4 (b.setWidth 64)) : a = b := by
  have e := congrArg num h
  rw [num_be4, num_be4] at e
  have e2 := congrArg BitVec.toNat e
  rw [BitVec.toNat_setWidth, BitVec.toNat_setWidth, Nat.mod_eq_of_lt (by have := a.isLt; omega), Nat.mod_eq_of_lt (by have := b.isLt; omega)] at e2
  exact BitVec.eq_of_toNat_eq e2
theorem TnL.sum_ne {X Y : List (BitVec 8)} {t : Nat} {y : BitVec 32} (h : TnL X t y Y) (hy : y ≠ 0#32) : Crc.sum Y ≠ Crc.sum X := by
  intro e
  exact h.other hy (by rw [e])
theorem msg_turned {m : Mg} {P X Y Q : List (BitVec 8)} {t : Nat} {y : BitVec 32} (hm : pmE m = 0) (h : MsP m P X Q) (hY : TnL X t y Y) (hy : y ≠ 0#32) : umE (P ++ (Y ++ Q)) ≠ 0 := by
  have hl := hY.len
  have hne := hY.sum_ne hy
  have hK : umK (P ++ (Y ++ Q)) = false ∧ 4 ≤ (P ++ (Y ++ Q)).length := by
    have hb4 : (be 4 ((Crc.sum (bodyM m)).setWidth 64)).length = 4 := be_length _ _ (by omega)
    rcases h.part with ⟨rfl, rfl, rfl⟩ | ⟨rfl, rfl, rfl⟩
    · refine ⟨?_, by simp only [List.nil_append, List.length_append]; omega⟩
      rw [List.nil_append]
      exact umK_ne hb4 (fun e => hne (sum_inj e))
    · refine ⟨?_, by simp only [List.length_append]; omega⟩
      rw [List.append_nil]
      refine umK_ne (by omega) (fun e => hne ?_)
      rw [e]
  unfold umE
  split
  · decide
  · rw [if_neg (by omega), if_pos hK.1]
    decide
theorem pm_len {m : Mg} (hm : pmE m = 0) : (pmB m).length = (bodyM m).length + 4 ∧ (pmB m).length ≤ 65536 ∧ 45 ≤ (pmB m).length := by
  obtain ⟨h1, h2, h3⟩ := pm_ok hm
  have hB : pmB m = bodyM m ++ be 4 ((Crc.sum (bodyM m)).setWidth 64) := by unfold pmB; rw [if_pos hm]
  have h4 : (be 4 ((Crc.sum (bodyM m)).setWidth 64)).length = 4 := be_length _ _ (by omega)
  have hK := bodyM_lenK m
  have hge := lenK_ge m m.es.length
  rw [hB, List.length_append, h4]
  omega
theorem ms_parts {m : Mg} (hm : pmE m = 0) (b : Bool) : ∃ lo hi P X Q, MsP m P X Q ∧ P.length = lo ∧ lo + X.length = hi ∧ (lo : Int) = (if b = true then ((pmB m).length : Int) - 4 else 0) ∧ (hi : Int) = (if b = true then ((pmB m).length : Int) else ((pmB m).length : Int) - 4) ∧ (pmB m).length = lo + X.length + Q.length := by
  obtain ⟨h1, h2, h3⟩ := pm_len hm
  have hB : pmB m = bodyM m ++ be 4 ((Crc.sum (bodyM m)).setWidth 64) := by unfold pmB; rw [if_pos hm]
  have h4 : (be 4 ((Crc.sum (bodyM m)).setWidth 64)).length = 4 := be_length _ _ (by omega)
  cases b
  · refine ⟨0, (bodyM m).length, [], bodyM m, be 4 ((Crc.sum (bodyM m)).setWidth 64), ⟨by rw [List.nil_append, hB], .inl ⟨rfl, rfl, rfl⟩⟩, rfl, by omega, by simp, by simp; omega, by omega⟩
  · refine ⟨(bodyM m).length, (bodyM m).length + 4, bodyM m, be 4 ((Crc.sum (bodyM m)).setWidth 64), [], ⟨by rw [List.append_nil, hB], .inr ⟨rfl, rfl, rfl⟩⟩, rfl, by omega, by simp; omega, by simp; omega, by simp; omega⟩
end Go.Proofs.Ytgjcgnmomdanaaa

