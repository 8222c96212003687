/- Packed and unpacked again, and back: no Go. -/
import Derived.Test.YtgjcgnmomdanaaaXEmK
namespace Go.Proofs.Ytgjcgnmomdanaaa
open Go.RowKit Go.Shelf
set_option linter.unusedVariables false
set_option maxRecDepth 8000

theorem num_be4 (x : BitVec 32) : num (be 4 (x.setWidth 64)) = x.setWidth 64 := by
  apply BitVec.eq_of_toNat_eq
  have := x.isLt
  rw [num_mod9 4 (by omega), BitVec.toNat_setWidth, Nat.mod_eq_of_lt (a := x.toNat) (by omega), Nat.mod_eq_of_lt (by omega)]
theorem pks_lenK (m : Mg) (k : Nat) (hk : k ≤ m.es.length) : (pks m.es k).length + (45 + m.dt.length) = m.lenK k := by
  induction k with
  | zero => simp [pks, Mg.lenK]
  | succ k ih =>
    have := ih (by omega)
    rw [pks_succ m.es k hk, List.length_append, packE_len, Mg.lenK, List.getElem?_eq_getElem (by omega), Option.getD_some]
    omega
theorem bodyM_lenK (m : Mg) : (bodyM m).length + 4 = m.lenK m.es.length := by
  have := pks_lenK m m.es.length (Nat.le_refl _)
  unfold bodyM
  simp only [List.length_append, bN_len 1 (by omega) [202, m.kd, m.fr, m.too, yesN m] 5 (by simp), bN_len 6 (by omega) [m.tm, m.at_, m.att, m.cm, m.rd] 5 (by simp), be_length _ _ (show 2 ≤ 8 by omega), be_length _ _ (show 4 ≤ 8 by omega)]
  omega
def partsM (m : Mg) : List (BitVec 8) := be 1 (BitVec.ofInt 64 m.kd) ++ (be 1 (BitVec.ofInt 64 m.fr) ++ (be 1 (BitVec.ofInt 64 m.too) ++ (be 1 (BitVec.ofInt 64 (yesN m)) ++ (be 6 (BitVec.ofInt 64 m.tm) ++ (be 6 (BitVec.ofInt 64 m.at_) ++ (be 6 (BitVec.ofInt 64 m.att) ++ (be 6 (BitVec.ofInt 64 m.cm) ++ (be 6 (BitVec.ofInt 64 m.rd) ++ (be 2 (BitVec.ofInt 64 (m.es.length : Int)) ++ (m.es.flatMap packE ++ (be 4 (BitVec.ofNat 64 m.dt.length) ++ m.dt)))))))))))
theorem be_202 : be 1 (BitVec.ofInt 64 202) = [202#8] := by decide
theorem bodyM_parts (m : Mg) : bodyM m = 202#8 :: partsM m := by
  have e1 : bN 1 [202, m.kd, m.fr, m.too, yesN m] 5 = be 1 (BitVec.ofInt 64 202) ++ (be 1 (BitVec.ofInt 64 m.kd) ++ (be 1 (BitVec.ofInt 64 m.fr) ++ (be 1 (BitVec.ofInt 64 m.too) ++ (be 1 (BitVec.ofInt 64 (yesN m)) ++ [])))) := rfl
  have e2 : bN 6 [m.tm, m.at_, m.att, m.cm, m.rd] 5 = be 6 (BitVec.ofInt 64 m.tm) ++ (be 6 (BitVec.ofInt 64 m.at_) ++ (be 6 (BitVec.ofInt 64 m.att) ++ (be 6 (BitVec.ofInt 64 m.cm) ++ (be 6 (BitVec.ofInt 64 m.rd) ++ [])))) := rfl
  have e3 : pks m.es m.es.length = m.es.flatMap packE := by unfold pks; rw [List.take_length]
  unfold bodyM partsM
  rw [e1, e2, e3, be_202]
  simp only [List.append_nil, List.append_assoc, List.cons_append, List.nil_append]
theorem yesN_eq (m : Mg) : (yesN m == 1) = m.yes := by unfold yesN; cases m.yes <;> rfl
theorem yesN_le (m : Mg) : ¬ 1 < yesN m := by unfold yesN; split <;> omega
theorem pm_ok {m : Mg} (h : pmE m = 0) : m.es.length ≤ 4096 ∧ m.lenK m.es.length ≤ 65536 ∧ canM m = true := by
  unfold pmE at h
  split at h
  · exact absurd h (by decide)
  · split at h
    · exact absurd h (by decide)
    · split at h
      · rename_i a b c; exact ⟨by omega, by omega, c⟩
      · exact absurd h (by decide)
theorem um_pm {m : Mg} (h : pmE m = 0) : umE (pmB m) = 0 ∧ umM (pmB m) = m := by
  obtain ⟨h1, h2, h3⟩ := pm_ok h
  have hB : pmB m = bodyM m ++ be 4 ((Crc.sum (bodyM m)).setWidth 64) := by unfold pmB; rw [if_pos h]
  have h4 : (be 4 ((Crc.sum (bodyM m)).setWidth 64)).length = 4 := be_length _ _ (by omega)
  have hlen : (pmB m).length = (bodyM m).length + 4 := by rw [hB, List.length_append, h4]
  have hK := bodyM_lenK m
  have hge := lenK_ge m m.es.length
  have hA : umA (pmB m) = bodyM m := by
    unfold umA
    rw [hlen, hB, Nat.add_sub_cancel, List.take_left' rfl]
  have hS : umK (pmB m) = true := by
    unfold umK
    rw [hA, decide_eq_true_eq]
    unfold numTo
    rw [hlen, Nat.add_sub_cancel, hB, List.drop_left' rfl, List.take_of_length_le (by omega), num_be4, BitVec.toNat_setWidth, Nat.mod_eq_of_lt (by have := (Crc.sum (bodyM m)).isLt; omega)]
  have hH : umHd (pmB m) = false := by
    unfold umHd
    rw [hA, bodyM_parts, decide_eq_false_iff_not]
    rintro (e | e)
    · cases e
    · exact e rfl
  have hs : umS (pmB m) = (partsM m, 0) := by
    unfold umS
    rw [hA, bodyM_parts]
    rfl
  obtain ⟨r1, r2, r3⟩ := read_body m h3 h1 (by omega)
  have r1' : rmM (umS (pmB m)) = m := by
    rw [hs]
    refine Eq.trans r1 ?_
    rw [yesN_eq]
  have r2' : rmS (umS (pmB m)) = ([], 0) := by rw [hs]; exact r2
  have r3' : rmY (umS (pmB m)) = yesN m := by rw [hs]; exact r3
  have hE : umE (pmB m) = 0 := by
    unfold umE
    rw [if_neg (by omega), if_neg (by omega), hS, if_neg (by decide), hH, if_neg (by decide)]
    unfold umR
    rw [r2', r3', r1', if_neg (yesN_le m), if_pos h3]
    rfl
  refine ⟨hE, ?_⟩
  unfold umM
  rw [if_pos hE, r1']
/- back -/
theorem rd_back (L : List (BitVec 8)) (E : Int) (s : Nat) (hs : s ≤ 8) (h : (rdNum L E s).2.1 = 0) : E = 0 ∧ L = be s (BitVec.ofInt 64 (rdNum L E s).2.2) ++ (rdNum L E s).1 := by
  obtain ⟨a1, a2, a3, a4⟩ := rd_yes9 h hs
  refine ⟨a1, ?_⟩
  rw [a3, a4, List.take_append_drop]
theorem rn_back {s : Rs} {k : Nat} (hk : k ≤ 8) (h : (rn s (k : Int)).2 = 0) : s.2 = 0 ∧ s.1 = be k (BitVec.ofInt 64 (rnV s (k : Int))) ++ (rn s (k : Int)).1 := rd_back s.1 s.2 k hk h
theorem rdB_back (L : List (BitVec 8)) (E : Int) (s : Nat) (h : (rdBytes L E (s : Int)).2.1 = 0) : E = 0 ∧ L = (be s (BitVec.ofNat 64 (rdBytes L E (s : Int)).2.2.length) ++ (rdBytes L E (s : Int)).2.2) ++ (rdBytes L E (s : Int)).1 := by
  have h4 : E = 0 ∧ cutE L (s : Int) = 0 := by
    unfold rdBytes at h
    split at h
    · rename_i h4
      split at h
      · rename_i h5; exact ⟨h4, h5⟩
      · rename_i h5; exact absurd h h5
    · rename_i h4; exact absurd h h4
  obtain ⟨h0, hc⟩ := h4
  obtain ⟨s', n, es, hss, hn, _, hsn, hN⟩ := cutE_0 hc
  have es2 : s' = s := by omega
  subst es2
  have hR : rdBytes L E (s' : Int) = (L.drop (s' + n), 0, (L.drop s').take (s' + n - s')) := by
    unfold rdBytes; rw [if_pos h0, if_pos hc, hN, Int.toNat_natCast]
  have hl : ((L.drop s').take (s' + n - s')).length = n := by rw [List.length_take, List.length_drop]; omega
  refine ⟨h0, ?_⟩
  rw [hR]
  show L = (be s' (BitVec.ofNat 64 ((L.drop s').take (s' + n - s')).length) ++ (L.drop s').take (s' + n - s')) ++ L.drop (s' + n)
  rw [hl]
  have e1 : BitVec.ofNat 64 n = numTo L 0 s' := by
    apply BitVec.eq_of_toNat_eq
    rw [BitVec.toNat_ofNat, hn]
    exact Nat.mod_eq_of_lt (numTo L 0 s').isLt
  have hbe : be s' (BitVec.ofNat 64 n) = L.take s' := by
    rw [e1]
    unfold numTo
    rw [List.drop_zero]
    exact be_num9 s' _ (by rw [List.length_take]; omega) (by omega)
  rw [hbe, List.append_assoc, Nat.add_sub_cancel_left, ← List.drop_drop, List.take_append_drop, List.take_append_drop]
theorem rNext_back {s : Rs} (h : (rNext s).2 = 0) : s.2 = 0 ∧ s.1 = packE (rEntE s) ++ (rNext s).1 := by
  obtain ⟨a1, a2⟩ := rdB_back (rtE s).1 (rtE s).2.1 2 h
  obtain ⟨b1, b2⟩ := rd_back (rkE s).1 (rkE s).2.1 6 (by omega) a1
  obtain ⟨c1, c2⟩ := rd_back s.1 s.2 1 (by omega) b1
  refine ⟨c1, ?_⟩
  refine c2.trans ?_
  unfold packE
  show be 1 (BitVec.ofInt 64 (rkE s).2.2) ++ (rkE s).1 = ((be 1 (BitVec.ofInt 64 ((rkE s).2.2 - 64 + 64)) ++ be 6 (BitVec.ofInt 64 (rtE s).2.2)) ++ (be 2 (BitVec.ofNat 64 (rcE s).2.2.length) ++ (rcE s).2.2)) ++ (rcE s).1
  rw [Int.sub_add_cancel]
  have e1 : (rkE s).1 = be 6 (BitVec.ofInt 64 (rtE s).2.2) ++ (rtE s).1 := b2
  have e2 : (rtE s).1 = (be 2 (BitVec.ofNat 64 (rcE s).2.2.length) ++ (rcE s).2.2) ++ (rcE s).1 := a2
  generalize (rcE s).2.2 = dt at *
  generalize (rcE s).1 = Y at *
  rw [e1, e2]
  simp only [List.append_assoc]
theorem rents_back {s : Rs} (k : Nat) (h : (rents s k).2 = 0) : s.2 = 0 ∧ s.1 = (rentsV s k).flatMap packE ++ (rents s k).1 := by
  induction k with
  | zero => exact ⟨h, rfl⟩
  | succ k ih =>
    obtain ⟨a1, a2⟩ := rNext_back (s := rents s k) h
    obtain ⟨b1, b2⟩ := ih a1
    refine ⟨b1, ?_⟩
    show s.1 = (rentsV s k ++ [rEntE (rents s k)]).flatMap packE ++ (rNext (rents s k)).1
    rw [List.flatMap_append, List.flatMap_cons, List.flatMap_nil, List.append_nil, List.append_assoc, ← a2]
    exact b2
theorem rdC_back (L : List (BitVec 8)) (E : Int) (h : (rdCount L E 2 4096).2.1 = 0) : E = 0 ∧ L = be 2 (BitVec.ofInt 64 (rdCount L E 2 4096).2.2) ++ (rdCount L E 2 4096).1 := by
  unfold rdCount at h ⊢
  split at h
  · rename_i h1
    split at h
    · exact absurd h (by decide)
    · rename_i h2
      split at h
      · exact absurd h (by decide)
      · rename_i h3
        rw [if_pos h1, if_neg h2, if_neg h3]
        exact rd_back L E 2 (by omega) h1
  · rename_i h1; exact absurd h h1
theorem back_seq {s : Rs} (h : rmS s = ([], 0)) (hy : ¬ 1 < rmY s) : s.2 = 0 ∧ s.1 = partsM (rmM s) := by
  have hd : (rdBytes (rme s).1 (rme s).2 4).2.1 = 0 := congrArg Prod.snd h
  have hd1 : (rdBytes (rme s).1 (rme s).2 4).1 = [] := congrArg Prod.fst h
  obtain ⟨p1, p2⟩ := rdB_back (rme s).1 (rme s).2 4 hd
  obtain ⟨q1, q2⟩ := rents_back (s := rcnt s) (rcntV s).toNat p1
  obtain ⟨t1, t2⟩ := rdC_back (rn9 s 5).1 (rn9 s 5).2 q1
  obtain ⟨u1, v1⟩ := rn_back (s := rn9 s 4) (k := 6) (by omega) t1
  obtain ⟨u2, v2⟩ := rn_back (s := rn9 s 3) (k := 6) (by omega) u1
  obtain ⟨u3, v3⟩ := rn_back (s := rn9 s 2) (k := 6) (by omega) u2
  obtain ⟨u4, v4⟩ := rn_back (s := rn9 s 1) (k := 6) (by omega) u3
  obtain ⟨u5, v5⟩ := rn_back (s := rn9 s 0) (k := 6) (by omega) u4
  obtain ⟨u6, v6⟩ := rn_back (s := rn4 s 3) (k := 1) (by omega) u5
  obtain ⟨u7, v7⟩ := rn_back (s := rn4 s 2) (k := 1) (by omega) u6
  obtain ⟨u8, v8⟩ := rn_back (s := rn4 s 1) (k := 1) (by omega) u7
  obtain ⟨u9, v9⟩ := rn_back (s := s) (k := 1) (by omega) u8
  refine ⟨u9, ?_⟩
  have hyn : yesN (rmM s) = rnV (rn4 s 3) 1 := by
    have b : 0 ≤ rmY s := (rdNum_bd (rn4 s 3).1 (rn4 s 3).2 1 (.inl rfl)).1
    unfold yesN
    show (if (rmY s == 1) = true then (1 : Int) else 0) = rmY s
    generalize rmY s = y at *
    by_cases hy1 : y = 1
    · subst hy1; rfl
    · rw [if_neg (by simpa using hy1)]; omega
  have hn : (((rmM s).es.length : Nat) : Int) = rcntV s := by
    show (((rentsV (rcnt s) (rcntV s).toNat).length : Nat) : Int) = _
    rw [rentsV_len]
    have := rcntV_bd s
    omega
  unfold partsM
  rw [hyn, hn]
  have w1 : s.1 = be 1 (BitVec.ofInt 64 (rmM s).kd) ++ (rn4 s 1).1 := v9
  have w2 : (rn4 s 1).1 = be 1 (BitVec.ofInt 64 (rmM s).fr) ++ (rn4 s 2).1 := v8
  have w3 : (rn4 s 2).1 = be 1 (BitVec.ofInt 64 (rmM s).too) ++ (rn4 s 3).1 := v7
  have w4 : (rn4 s 3).1 = be 1 (BitVec.ofInt 64 (rnV (rn4 s 3) 1)) ++ (rn9 s 0).1 := v6
  have w5 : (rn9 s 0).1 = be 6 (BitVec.ofInt 64 (rmM s).tm) ++ (rn9 s 1).1 := v5
  have w6 : (rn9 s 1).1 = be 6 (BitVec.ofInt 64 (rmM s).at_) ++ (rn9 s 2).1 := v4
  have w7 : (rn9 s 2).1 = be 6 (BitVec.ofInt 64 (rmM s).att) ++ (rn9 s 3).1 := v3
  have w8 : (rn9 s 3).1 = be 6 (BitVec.ofInt 64 (rmM s).cm) ++ (rn9 s 4).1 := v2
  have w9 : (rn9 s 4).1 = be 6 (BitVec.ofInt 64 (rmM s).rd) ++ (rn9 s 5).1 := v1
  have wc : (rn9 s 5).1 = be 2 (BitVec.ofInt 64 (rcntV s)) ++ (rcnt s).1 := t2
  have wp : (rcnt s).1 = (rmM s).es.flatMap packE ++ (rme s).1 := q2
  have wd : (rme s).1 = (be 4 (BitVec.ofNat 64 (rmM s).dt.length) ++ (rmM s).dt) ++ (rdBytes (rme s).1 (rme s).2 4).1 := p2
  rw [hd1, List.append_nil] at wd
  rw [← wd, ← wp, ← wc, ← w9, ← w8, ← w7, ← w6, ← w5, ← w4, ← w3, ← w2, ← w1]
theorem pm_um {b : List (BitVec 8)} (h : umE b = 0) : pmE (umM b) = 0 ∧ pmB (umM b) = b := by
  have hM : umM b = rmM (umS b) := by unfold umM; rw [if_pos h]
  have hx : b.length ≤ 65536 ∧ 4 ≤ b.length ∧ umK b = true ∧ umHd b = false ∧ umR (umS b) = 0 := by
    unfold umE at h
    split at h
    · exact absurd h (by decide)
    · split at h
      · exact absurd h (by decide)
      · split at h
        · exact absurd h (by decide)
        · split at h
          · exact absurd h (by decide)
          · rename_i a1 a2 a3 a4
            exact ⟨by omega, by omega, by simpa using a3, by simpa using a4, h⟩
  obtain ⟨x1, x2, x3, x4, x5⟩ := hx
  have hy : rmS (umS b) = ([], 0) ∧ ¬ 1 < rmY (umS b) ∧ canM (rmM (umS b)) = true := by
    unfold umR at x5
    split at x5
    · rename_i h1
      split at x5
      · exact absurd x5 (by decide)
      · rename_i h2
        split at x5
        · rename_i h3
          refine ⟨?_, h2, h3⟩
          unfold rdEnd at h1
          split at h1
          · rename_i h4
            split at h1
            · exact absurd h1 (by decide)
            · rename_i h5
              exact Prod.ext (List.eq_nil_of_length_eq_zero (by omega)) h4
          · rename_i h4; exact absurd h1 h4
        · exact absurd x5 (by decide)
    · rename_i h1; exact absurd x5 h1
  obtain ⟨y1, y2, y3⟩ := hy
  obtain ⟨-, z2⟩ := back_seq y1 y2
  have hA : umA b = bodyM (rmM (umS b)) := by
    rw [bodyM_parts, ← z2]
    show umA b = 202#8 :: (umA b).drop 1
    unfold umHd at x4
    rw [decide_eq_false_iff_not] at x4
    cases hu : umA b with
    | nil => exact absurd (.inl hu) x4
    | cons c l =>
      rw [hu] at x4
      have e : bt (c :: l) 0 = 202 := by
        by_cases e : bt (c :: l) 0 = 202
        · exact e
        · exact absurd (.inr e) x4
      have e2 : c = 202#8 := by
        have e3 : (c.toNat : Int) = 202 := e
        apply BitVec.eq_of_toNat_eq
        show c.toNat = 202
        omega
      rw [e2]; rfl
  have hbl : b = umA b ++ be 4 ((Crc.sum (umA b)).setWidth 64) := by
    have e1 : be 4 ((Crc.sum (umA b)).setWidth 64) = b.drop (b.length - 4) := by
      unfold umK at x3
      rw [decide_eq_true_eq] at x3
      have e2 : (Crc.sum (umA b)).setWidth 64 = numTo b (b.length - 4) 4 := by
        apply BitVec.eq_of_toNat_eq
        rw [BitVec.toNat_setWidth, Nat.mod_eq_of_lt (by have := (Crc.sum (umA b)).isLt; omega)]
        omega
      rw [e2]
      unfold numTo
      have e3 : (b.drop (b.length - 4)).take 4 = b.drop (b.length - 4) := List.take_of_length_le (by rw [List.length_drop]; omega)
      rw [e3]
      exact be_num9 4 _ (by rw [List.length_drop]; omega) (by omega)
    rw [e1]
    unfold umA
    exact (List.take_append_drop _ _).symm
  have hK := bodyM_lenK (rmM (umS b))
  have hAl : (umA b).length = b.length - 4 := by unfold umA; rw [List.length_take]; omega
  have hP : pmE (rmM (umS b)) = 0 := by
    have := rmM_es (umS b)
    unfold pmE
    rw [if_neg (by omega), if_neg (by rw [← hK, ← hA]; omega), if_pos y3]
  rw [hM]
  refine ⟨hP, ?_⟩
  unfold pmB
  rw [if_pos hP, ← hA]
  exact hbl.symm
end Go.Proofs.Ytgjcgnmomdanaaa

