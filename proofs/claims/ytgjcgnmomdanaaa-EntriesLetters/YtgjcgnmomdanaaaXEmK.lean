/- What is read of a message's parts: numbers, entries, a count (no Go). -/
import Derived.Test.YtgjcgnmomdanaaaXEmF
import Derived.Test.YtgjcgnmomdanaaaXEm1
namespace Go.Proofs.Ytgjcgnmomdanaaa
open Go.RowKit Go.Shelf
set_option linter.unusedVariables false
set_option maxRecDepth 8000

theorem rn_1 {n : Int} (h : byB n = true) (Y : List (BitVec 8)) : rn (be 1 (BitVec.ofInt 64 n) ++ Y, 0) 1 = (Y, 0) ∧ rnV (be 1 (BitVec.ofInt 64 n) ++ Y, 0) 1 = n := by
  unfold byB at h
  rw [decide_eq_true_eq] at h
  have e : rdNum (be 1 (BitVec.ofInt 64 n) ++ Y) 0 1 = (Y, 0, n) := rd_num9 1 n Y (.inl rfl) h.1 (by simp only [Nat.reduceMul, Int.reducePow]; omega)
  unfold rn rnV
  rw [e]
  exact ⟨rfl, rfl⟩
theorem rn_6 {n : Int} (h : numB n = true) (Y : List (BitVec 8)) : rn (be 6 (BitVec.ofInt 64 n) ++ Y, 0) 6 = (Y, 0) ∧ rnV (be 6 (BitVec.ofInt 64 n) ++ Y, 0) 6 = n := by
  unfold numB at h
  rw [decide_eq_true_eq] at h
  have e : rdNum (be 6 (BitVec.ofInt 64 n) ++ Y) 0 6 = (Y, 0, n) := rd_num9 6 n Y (.inr rfl) h.1 (by simp only [Nat.reduceMul, Int.reducePow]; omega)
  unfold rn rnV
  rw [e]
  exact ⟨rfl, rfl⟩
theorem rEnt_pack {e : Ent} (h : canE e = true) (Y : List (BitVec 8)) : rEntE (packE e ++ Y, 0) = e ∧ rNext (packE e ++ Y, 0) = (Y, 0) := by
  have hk := canE_k h
  have ht := canE_term h
  have hl := canE_len h
  have e1 : rkE (packE e ++ Y, 0) = (be 6 (BitVec.ofInt 64 e.2.1) ++ ((be 2 (BitVec.ofNat 64 e.2.2.length) ++ e.2.2) ++ Y), 0, e.1 + 64) := by
    unfold rkE packE
    rw [List.append_assoc, List.append_assoc]
    exact rd_num9 1 (e.1 + 64) _ (.inl rfl) (by omega) (by simp only [Nat.reduceMul, Int.reducePow]; omega)
  have e2 : rtE (packE e ++ Y, 0) = ((be 2 (BitVec.ofNat 64 e.2.2.length) ++ e.2.2) ++ Y, 0, e.2.1) := by
    unfold rtE; rw [e1]
    exact rd_num9 6 e.2.1 _ (.inr rfl) (by omega) (by simp only [Nat.reduceMul, Int.reducePow]; omega)
  have e3 : rcE (packE e ++ Y, 0) = (Y, 0, e.2.2) := by
    unfold rcE; rw [e2]
    exact rd_bytes9 e.2.2 Y hl
  refine ⟨?_, ?_⟩
  · unfold rEntE; rw [e1, e2, e3]; show (e.1 + 64 - 64, e.2.1, e.2.2) = e; rw [Int.add_sub_cancel]
  · unfold rNext; rw [e3]
theorem rents_pack (es : List Ent) (hc : ∀ e ∈ es, canE e = true) (Y : List (BitVec 8)) (k : Nat) (hk : k ≤ es.length) : rents (es.flatMap packE ++ Y, 0) k = ((es.drop k).flatMap packE ++ Y, 0) ∧ rentsV (es.flatMap packE ++ Y, 0) k = es.take k := by
  induction k with
  | zero => exact ⟨rfl, rfl⟩
  | succ k ih =>
    obtain ⟨i1, i2⟩ := ih (by omega)
    have hd : es.drop k = es[k] :: es.drop (k + 1) := List.drop_eq_getElem_cons (by omega)
    have h1 := rEnt_pack (hc es[k] (List.getElem_mem (by omega))) ((es.drop (k + 1)).flatMap packE ++ Y)
    have i3 : rents (es.flatMap packE ++ Y, 0) k = (packE es[k] ++ ((es.drop (k + 1)).flatMap packE ++ Y), 0) := by rw [i1, hd, List.flatMap_cons, List.append_assoc]
    refine ⟨?_, ?_⟩
    · show rNext (rents _ k) = _
      rw [i3, h1.2]
    · show rentsV _ k ++ [rEntE (rents _ k)] = _
      rw [i2, i3, h1.1, List.take_succ_eq_append_getElem (by omega)]
theorem rd_num2 (n : Nat) (Y : List (BitVec 8)) (hb : n ≤ 4096) : rdNum (be 2 (BitVec.ofInt 64 n) ++ Y) 0 2 = (Y, 0, (n : Int)) := by
  have hbl := be_length 2 (BitVec.ofInt 64 n) (by omega)
  have hnE : numE (be 2 (BitVec.ofInt 64 n) ++ Y).length 2 = 0 := by
    unfold numE
    have hw : widthB 2 = true := by decide
    rw [hw, if_neg (by decide), List.length_append, hbl, if_neg (by omega)]
  have e : ((numTo (be 2 (BitVec.ofInt 64 n) ++ Y) 0 2).toNat : Int) = (n : Int) % 18446744073709551616 % 2 ^ (8 * 2) := by
    unfold numTo
    rw [List.drop_zero, List.take_left' hbl, num_mod9 2 (by omega), Int.natCast_emod, ← toU64]
    simp
  unfold rdNum
  have e2 : ((2 : Int)).toNat = 2 := rfl
  rw [if_pos rfl, if_pos hnE, e2, List.drop_left' hbl, e]
  have : wrap64 ((n : Int) % 18446744073709551616 % 2 ^ (8 * 2)) = n := by
    unfold wrap64
    simp only [Nat.reduceMul, Int.reducePow]
    omega
  rw [this]
theorem rdC_2 (n : Nat) (Y : List (BitVec 8)) (hb : n ≤ 4096) (hY : n ≤ Y.length) : rdCount (be 2 (BitVec.ofInt 64 n) ++ Y) 0 2 4096 = (Y, 0, (n : Int)) := by
  unfold rdCount
  rw [rd_num2 n Y hb, if_pos rfl, if_neg (by show ¬ ((n : Int) < 0 ∨ (4096 : Int) < n); omega), if_neg (by show ¬ ((Y.length : Int) < n); omega)]
theorem rdB_4 (l Y : List (BitVec 8)) (h : l.length ≤ 65536) : rdBytes ((be 4 (BitVec.ofNat 64 l.length) ++ l) ++ Y) 0 4 = (Y, 0, l) := by
  have hbl := be_length 4 (BitVec.ofNat 64 l.length) (by omega)
  have hnum : (numTo ((be 4 (BitVec.ofNat 64 l.length) ++ l) ++ Y) 0 4).toNat = l.length := by
    unfold numTo
    rw [List.drop_zero, List.append_assoc, List.take_left' hbl, num_mod9 4 (by omega), BitVec.toNat_ofNat, Nat.mod_eq_of_lt (a := l.length) (by omega), Nat.mod_eq_of_lt (by omega)]
  have hE : cutE ((be 4 (BitVec.ofNat 64 l.length) ++ l) ++ Y) 4 = 0 := by
    unfold cutE
    have e : ((4 : Int)).toNat = 4 := rfl
    rw [if_neg (by decide), e, hnum, List.length_append, List.length_append, hbl, if_neg (by omega), if_neg (by omega), if_neg (by omega)]
  have hN : cutN ((be 4 (BitVec.ofNat 64 l.length) ++ l) ++ Y) 4 = 4 + l.length := by
    unfold cutN
    have e : ((4 : Int)).toNat = 4 := rfl
    rw [if_pos hE, e, hnum]
  unfold rdBytes
  have e : ((4 : Int)).toNat = 4 := rfl
  rw [if_pos rfl, if_pos hE, hN, e]
  have e1 : ((be 4 (BitVec.ofNat 64 l.length) ++ l) ++ Y).drop (4 + l.length) = Y := List.drop_left' (by rw [List.length_append, hbl])
  have e2 : (((be 4 (BitVec.ofNat 64 l.length) ++ l) ++ Y).drop 4).take (4 + l.length - 4) = l := by
    rw [List.append_assoc, List.drop_left' hbl, List.take_left' (by omega)]
  rw [e1, e2]
theorem read_seq {s s1 s2 s3 s4 s5 s6 s7 s8 s9 sc se : Rs} {kd fr too y tm ta tt cm rd : Int} {n : Nat} {es : List Ent} {dt : List (BitVec 8)}
    (a1 : rn s 1 = s1 ∧ rnV s 1 = kd) (a2 : rn s1 1 = s2 ∧ rnV s1 1 = fr) (a3 : rn s2 1 = s3 ∧ rnV s2 1 = too) (a4 : rn s3 1 = s4 ∧ rnV s3 1 = y)
    (b1 : rn s4 6 = s5 ∧ rnV s4 6 = tm) (b2 : rn s5 6 = s6 ∧ rnV s5 6 = ta) (b3 : rn s6 6 = s7 ∧ rnV s6 6 = tt) (b4 : rn s7 6 = s8 ∧ rnV s7 6 = cm) (b5 : rn s8 6 = s9 ∧ rnV s8 6 = rd)
    (c : rdCount s9.1 s9.2 2 4096 = (sc.1, sc.2, (n : Int))) (p : rents sc n = se ∧ rentsV sc n = es) (d : rdBytes se.1 se.2 4 = ([], 0, dt)) :
    rmM s = ⟨kd, fr, too, tm, ta, tt, cm, rd, y == 1, es, dt⟩ ∧ rmS s = ([], 0) ∧ rmY s = y := by
  have e4 : rn4 s 4 = s4 := by unfold rn4 rn4 rn4 rn4 rn4; rw [a1.1, a2.1, a3.1, a4.1]
  have e1 : rn4 s 1 = s1 := by unfold rn4 rn4; exact a1.1
  have e2 : rn4 s 2 = s2 := by unfold rn4 rn4 rn4; rw [a1.1, a2.1]
  have e3 : rn4 s 3 = s3 := by unfold rn4 rn4 rn4 rn4; rw [a1.1, a2.1, a3.1]
  have f0 : rn9 s 0 = s4 := e4
  have f1 : rn9 s 1 = s5 := by unfold rn9; rw [f0, b1.1]
  have f2 : rn9 s 2 = s6 := by unfold rn9; rw [f1, b2.1]
  have f3 : rn9 s 3 = s7 := by unfold rn9; rw [f2, b3.1]
  have f4 : rn9 s 4 = s8 := by unfold rn9; rw [f3, b4.1]
  have f5 : rn9 s 5 = s9 := by unfold rn9; rw [f4, b5.1]
  have g1 : rcnt s = sc := by unfold rcnt; rw [f5, c]
  have g2 : rcntV s = (n : Int) := by unfold rcntV; rw [f5, c]
  have g3 : rme s = se := by unfold rme; rw [g1, g2, Int.toNat_natCast, p.1]
  have g4 : rmb s = ([], 0, dt) := by unfold rmb; rw [g3, d]
  have g5 : rmY s = y := by unfold rmY; rw [e3, a4.2]
  refine ⟨?_, ?_, g5⟩
  · unfold rmM; rw [g5, g4, g1, g2, Int.toNat_natCast, p.2, e1, e2, f0, f1, f2, f3, f4, a1.2, a2.2, a3.2, b1.2, b2.2, b3.2, b4.2, b5.2]
  · unfold rmS; rw [g4]
theorem read_body (m : Mg) (hc : canM m = true) (hl : m.es.length ≤ 4096) (hd : m.dt.length ≤ 65536) :
    rmM (be 1 (BitVec.ofInt 64 m.kd) ++ (be 1 (BitVec.ofInt 64 m.fr) ++ (be 1 (BitVec.ofInt 64 m.too) ++ (be 1 (BitVec.ofInt 64 (yesN m)) ++ (be 6 (BitVec.ofInt 64 m.tm) ++ (be 6 (BitVec.ofInt 64 m.at_) ++ (be 6 (BitVec.ofInt 64 m.att) ++ (be 6 (BitVec.ofInt 64 m.cm) ++ (be 6 (BitVec.ofInt 64 m.rd) ++ (be 2 (BitVec.ofInt 64 (m.es.length : Int)) ++ (m.es.flatMap packE ++ (be 4 (BitVec.ofNat 64 m.dt.length) ++ m.dt))))))))))), 0) = ⟨m.kd, m.fr, m.too, m.tm, m.at_, m.att, m.cm, m.rd, yesN m == 1, m.es, m.dt⟩ ∧
    rmS (be 1 (BitVec.ofInt 64 m.kd) ++ (be 1 (BitVec.ofInt 64 m.fr) ++ (be 1 (BitVec.ofInt 64 m.too) ++ (be 1 (BitVec.ofInt 64 (yesN m)) ++ (be 6 (BitVec.ofInt 64 m.tm) ++ (be 6 (BitVec.ofInt 64 m.at_) ++ (be 6 (BitVec.ofInt 64 m.att) ++ (be 6 (BitVec.ofInt 64 m.cm) ++ (be 6 (BitVec.ofInt 64 m.rd) ++ (be 2 (BitVec.ofInt 64 (m.es.length : Int)) ++ (m.es.flatMap packE ++ (be 4 (BitVec.ofNat 64 m.dt.length) ++ m.dt))))))))))), 0) = ([], 0) ∧
    rmY (be 1 (BitVec.ofInt 64 m.kd) ++ (be 1 (BitVec.ofInt 64 m.fr) ++ (be 1 (BitVec.ofInt 64 m.too) ++ (be 1 (BitVec.ofInt 64 (yesN m)) ++ (be 6 (BitVec.ofInt 64 m.tm) ++ (be 6 (BitVec.ofInt 64 m.at_) ++ (be 6 (BitVec.ofInt 64 m.att) ++ (be 6 (BitVec.ofInt 64 m.cm) ++ (be 6 (BitVec.ofInt 64 m.rd) ++ (be 2 (BitVec.ofInt 64 (m.es.length : Int)) ++ (m.es.flatMap packE ++ (be 4 (BitVec.ofNat 64 m.dt.length) ++ m.dt))))))))))), 0) = yesN m := by
  unfold canM at hc
  simp only [Bool.and_eq_true] at hc
  obtain ⟨⟨⟨⟨h1, h2⟩, h3⟩, ⟨⟨⟨⟨h4, h5⟩, h6⟩, h7⟩, h8⟩⟩, h9⟩ := hc
  have hy : byB (yesN m) = true := by unfold byB yesN; split <;> decide
  have hes : ∀ e ∈ m.es, canE e = true := fun e he => List.all_eq_true.1 h9 e he
  have hlen : m.es.length ≤ (m.es.flatMap packE ++ (be 4 (BitVec.ofNat 64 m.dt.length) ++ m.dt)).length := by
    have h0 : ∀ l : List Ent, l.length ≤ (l.flatMap packE).length := fun l => by
      induction l with
      | nil => exact Nat.le_refl _
      | cons e l ih => rw [List.flatMap_cons, List.length_append, List.length_cons, packE_len]; omega
    rw [List.length_append]
    exact Nat.le_trans (h0 m.es) (Nat.le_add_right _ _)
  have d1 := rdB_4 m.dt [] hd
  rw [List.append_nil] at d1
  have p1 := rents_pack m.es hes (be 4 (BitVec.ofNat 64 m.dt.length) ++ m.dt) m.es.length (Nat.le_refl _)
  rw [List.drop_length, List.flatMap_nil, List.nil_append, List.take_length] at p1
  exact read_seq (rn_1 h1 _) (rn_1 h2 _) (rn_1 h3 _) (rn_1 hy _) (rn_6 h4 _) (rn_6 h5 _) (rn_6 h6 _) (rn_6 h7 _) (rn_6 h8 _) (sc := (m.es.flatMap packE ++ (be 4 (BitVec.ofNat 64 m.dt.length) ++ m.dt), 0)) (rdC_2 m.es.length _ hl hlen) p1 d1
end Go.Proofs.Ytgjcgnmomdanaaa

