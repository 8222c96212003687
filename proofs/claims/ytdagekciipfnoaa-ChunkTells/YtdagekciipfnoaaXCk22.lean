/- Bytes that are no piece: turned, cut, longer. -/
import Derived.Test.YtdagekciipfnoaaXCk20
import Derived.Test.YtdagekciipfnoaaXSumT1
namespace Go.Proofs.Ytdagekciipfnoaa
open Go.RowKit Go.Shelf
set_option linter.unusedVariables false
set_option linter.unusedSimpArgs false
set_option maxRecDepth 4000

theorem rdNum_inv {L : List (BitVec 8)} {E : Int} {s : Nat} (h : (rdNum L E s).2.1 = 0) : E = 0 ∧ s ≤ L.length ∧ (rdNum L E s).1 = L.drop s := by
  unfold rdNum at h ⊢
  by_cases e : E = 0
  · rw [if_pos e] at h ⊢
    by_cases n : numE L.length s = 0
    · rw [if_pos n] at h ⊢
      obtain ⟨s', hs, _, _, h3⟩ := numE_0 n
      exact ⟨e, by omega, by rw [Int.toNat_natCast]⟩
    · rw [if_neg n] at h; exact absurd h n
  · rw [if_neg e] at h; exact absurd h e
theorem rdBytes_inv {L : List (BitVec 8)} {E : Int} (h : (rdBytes L E 2).2.1 = 0) : E = 0 ∧ 2 + (numTo L 0 2).toNat ≤ L.length ∧ (rdBytes L E 2).1 = L.drop (2 + (numTo L 0 2).toNat) := by
  unfold rdBytes at h ⊢
  have e2 : (2 : Int).toNat = 2 := rfl
  by_cases e : E = 0
  · rw [if_pos e] at h ⊢
    by_cases n : cutE L 2 = 0
    · rw [if_pos n] at h ⊢
      have hN : cutN L 2 = 2 + (numTo L 0 2).toNat := by unfold cutN; rw [if_pos n, e2]
      refine ⟨e, ?_, by rw [hN]⟩
      unfold cutE at n
      rw [e2] at n
      split at n
      · cases n
      · split at n
        · cases n
        · split at n
          · cases n
          · split at n
            · cases n
            · omega
    · rw [if_neg n] at h; exact absurd h n
  · rw [if_neg e] at h; exact absurd h e
theorem rdEnd_inv {L : List (BitVec 8)} {E : Int} (h : rdEnd L E = 0) : E = 0 ∧ L.length = 0 := by
  unfold rdEnd at h
  by_cases e : E = 0
  · rw [if_pos e] at h
    by_cases n : 0 < L.length
    · rw [if_pos n] at h; cases h
    · exact ⟨e, by omega⟩
  · rw [if_neg e] at h; exact absurd h e
/-- bytes that are read to their end are as long as they say -/
theorem dc7_size {X : List (BitVec 8)} (h : dc7 X = 0) : X.length = 22 + (numTo (X.drop 16) 0 2).toNat := by
  obtain ⟨h6, l6⟩ := rdEnd_inv h
  obtain ⟨h5, l5, e6⟩ := rdNum_inv (s := 4) h6
  obtain ⟨h4, l4, e5⟩ := rdBytes_inv h5
  obtain ⟨h3, l3, e4⟩ := rdNum_inv (s := 4) h4
  obtain ⟨h2, l2, e3⟩ := rdNum_inv (s := 2) h3
  obtain ⟨h1, l1, e2⟩ := rdNum_inv (s := 2) h2
  obtain ⟨-, l0, e1⟩ := rdNum_inv (s := 8) h1
  have e1' : (dc1 X).1 = X.drop 8 := e1
  have e2' : (dc2 X).1 = X.drop 10 := by show (rdNum (dc1 X).1 (dc1 X).2.1 2).1 = _; rw [show (rdNum (dc1 X).1 (dc1 X).2.1 2).1 = (dc1 X).1.drop 2 from e2, e1', List.drop_drop]
  have e3' : (dc3 X).1 = X.drop 12 := by show (rdNum (dc2 X).1 (dc2 X).2.1 2).1 = _; rw [show (rdNum (dc2 X).1 (dc2 X).2.1 2).1 = (dc2 X).1.drop 2 from e3, e2', List.drop_drop]
  have e4' : (dc4 X).1 = X.drop 16 := by show (rdNum (dc3 X).1 (dc3 X).2.1 4).1 = _; rw [show (rdNum (dc3 X).1 (dc3 X).2.1 4).1 = (dc3 X).1.drop 4 from e4, e3', List.drop_drop]
  have e5' : (dc5 X).1 = X.drop (16 + (2 + (numTo (X.drop 16) 0 2).toNat)) := by show (rdBytes (dc4 X).1 (dc4 X).2.1 2).1 = _; rw [show (rdBytes (dc4 X).1 (dc4 X).2.1 2).1 = _ from e5, e4', List.drop_drop]
  have e6' : (dc6 X).1 = (dc5 X).1.drop 4 := e6
  rw [e6', e5', List.drop_drop, List.length_drop] at l6
  rw [e5', List.length_drop] at l5
  omega
theorem dcE_no {X : List (BitVec 8)} (h : X.length ≠ 22 + (numTo (X.drop 16) 0 2).toNat) : dcE X ≠ 0 := by
  have h7 : dc7 X ≠ 0 := fun e => h (dc7_size e)
  unfold dcE
  rw [if_neg h7]
  exact h7
theorem piece_7 {P : List (BitVec 8)} (h : dcE P = 0) : dc7 P = 0 := by
  unfold dcE at h
  by_cases e : dc7 P = 0
  · exact e
  · rw [if_neg e] at h; exact absurd h e
theorem dcE_cut {P : List (BitVec 8)} (h : dcE P = 0) (c : Nat) (hc : c < P.length) : dcE (P.take c) ≠ 0 := by
  have hs := dc7_size (piece_7 h)
  refine dcE_no ?_
  intro e
  rw [List.length_take] at e
  have e2 : numTo ((P.take c).drop 16) 0 2 = numTo (P.drop 16) 0 2 := by
    unfold numTo
    rw [List.drop_zero, List.drop_zero, List.drop_take, List.take_take, Nat.min_eq_left (by omega)]
  rw [e2] at e
  omega
theorem dcE_long {P : List (BitVec 8)} (h : dcE P = 0) (x : BitVec 8) : dcE (P ++ [x]) ≠ 0 := by
  have hs := dc7_size (piece_7 h)
  refine dcE_no ?_
  intro e
  rw [List.length_append] at e
  have e2 : numTo ((P ++ [x]).drop 16) 0 2 = numTo (P.drop 16) 0 2 := by
    unfold numTo
    rw [List.drop_zero, List.drop_zero, List.drop_append_of_le_length (by omega), List.take_append_of_le_length (by rw [List.length_drop]; omega)]
  rw [e2] at e
  simp at e
  omega
theorem rdNum_go {L : List (BitVec 8)} {s : Nat} (h0 : 1 ≤ s) (h1 : s ≤ 8) (h : s ≤ L.length) : rdNum L 0 s = (L.drop s, 0, wrap64 ((numTo L 0 s).toNat : Int)) := by
  have hw : widthB s = true := by unfold widthB; rw [decide_eq_true_eq]; omega
  have hn : numE L.length s = 0 := by unfold numE; rw [hw, if_neg (by decide), if_neg (by omega)]
  unfold rdNum
  rw [if_pos rfl, if_pos hn, Int.toNat_natCast]
/-- bytes of which what stands ahead of the length, or the data, is another -/
theorem dcE_turned {A d T : List (BitVec 8)} {S : BitVec 32} (hA : A.length = 16) (hd : d.length ≤ 4096) (hT : T = be 4 (BitVec.ofInt 64 (S.toNat : Int))) (hS : S ≠ Crc.sum (A ++ (be 2 (BitVec.ofNat 64 d.length) ++ d))) : dcE (A ++ (be 2 (BitVec.ofNat 64 d.length) ++ d) ++ T) = 12 := by
  have hb := be_length 2 (BitVec.ofNat 64 d.length) (by omega)
  have ht : T.length = 4 := by rw [hT]; exact be_length _ _ (by omega)
  obtain ⟨D, hD⟩ : ∃ D, D = be 2 (BitVec.ofNat 64 d.length) ++ d := ⟨_, rfl⟩
  have hDl : D.length = 2 + d.length := by rw [hD, List.length_append, hb]
  rw [← hD] at hS ⊢
  obtain ⟨X, hX⟩ : ∃ X, X = A ++ D ++ T := ⟨_, rfl⟩
  rw [← hX]
  have hl : X.length = 22 + d.length := by rw [hX, List.length_append, List.length_append]; omega
  have g1 : (dc1 X).1 = X.drop 8 ∧ (dc1 X).2.1 = 0 := by unfold dc1; rw [show (8 : Int) = ((8 : Nat) : Int) from rfl, rdNum_go (by omega) (by omega) (by omega)]; exact ⟨rfl, rfl⟩
  have g2 : (dc2 X).1 = X.drop 10 ∧ (dc2 X).2.1 = 0 := by unfold dc2; rw [g1.1, g1.2, show (2 : Int) = ((2 : Nat) : Int) from rfl, rdNum_go (by omega) (by omega) (by rw [List.length_drop]; omega)]; exact ⟨by rw [List.drop_drop], rfl⟩
  have g3 : (dc3 X).1 = X.drop 12 ∧ (dc3 X).2.1 = 0 := by unfold dc3; rw [g2.1, g2.2, show (2 : Int) = ((2 : Nat) : Int) from rfl, rdNum_go (by omega) (by omega) (by rw [List.length_drop]; omega)]; exact ⟨by rw [List.drop_drop], rfl⟩
  have g4 : (dc4 X).1 = X.drop 16 ∧ (dc4 X).2.1 = 0 := by unfold dc4; rw [g3.1, g3.2, show (4 : Int) = ((4 : Nat) : Int) from rfl, rdNum_go (by omega) (by omega) (by rw [List.length_drop]; omega)]; exact ⟨by rw [List.drop_drop], rfl⟩
  have hdr : X.drop 16 = D ++ T := by rw [hX, List.append_assoc]; exact List.drop_left' hA
  have g5 : dc5 X = (T, 0, d) := by unfold dc5; rw [g4.1, g4.2, hdr, hD]; exact rd_bytes7 d T hd
  have hs2 := S.isLt
  have g6 : dc6 X = ([], 0, (S.toNat : Int)) := by
    unfold dc6; rw [g5, hT]
    have := rd_num7 4 (S.toNat : Int) [] (by omega) (by omega) (by simp only [Nat.reduceMul, Int.reducePow]; omega) (by omega)
    rw [List.append_nil] at this
    exact this
  have g7 : dc7 X = 0 := by unfold dc7; rw [g6]; rfl
  have eT : X.take (X.length - 4) = A ++ D := by
    rw [hl, hX]; exact List.take_left' (by rw [List.length_append]; omega)
  unfold dcE
  rw [if_pos g7, g6, eT, if_neg]
  intro e
  apply hS
  apply BitVec.eq_of_toNat_eq
  have : ((S.toNat : Nat) : Int) = ((Crc.sum (A ++ D)).toNat : Int) := e
  omega
end Go.Proofs.Ytdagekciipfnoaa

