/- What a command answers when it is refused, and whom it tells (no Go). -/
import Derived.Test.YtlopkfenbeahgaaXRv20
namespace Go.Proofs.Ytlopkfenbeahgaa
open Go.RowKit
set_option linter.unusedVariables false
set_option linter.unusedSimpArgs false

def Ref (m : Rs) (r : Ans) : Prop := r.1.1 ≠ 0 → r.2 = (m, [])
theorem Ref.good {m : Rs} {x y z : Int} {p : Rs × List (Int × Int)} : Ref m ((0, x, y, z), p) := fun h => absurd rfl h
theorem Ref.same {m : Rs} {x : Int × Int × Int × Int} : Ref m (x, m, []) := fun _ => rfl
theorem do_ref (m : Rs) (n : Int) (c : Cm) : Ref m (doM m n c) := by
  unfold doM
  split
  · exact Ref.same
  split
  · unfold regM; split
    · exact Ref.good
    · exact Ref.same
  split
  · exact Ref.good
  split
  · split
    · exact Ref.same
    split
    · unfold rsvM; repeat' split
      all_goals first | exact Ref.same | exact Ref.good
    split
    · unfold relM; repeat' split
      all_goals first | exact Ref.same | exact Ref.good
    split
    · exact Ref.good
    · unfold preM; repeat' split
      all_goals first | exact Ref.same | exact Ref.good
  · exact Ref.same
theorem tellF_own (i : Nat) (cd : Int) (l : List Int) (rs : List (Nat × Int)) : (tellF (i : Int) cd l rs).getD i 0 = l.getD i 0 := by
  unfold tellF
  induction rs generalizing l with
  | nil => rfl
  | cons r rs ih =>
    rw [List.foldl_cons, ih]
    split
    · rfl
    · rename_i hne
      have : r.1 ≠ i := fun e => hne (by rw [e])
      simp [List.getD, List.getElem?_set_ne this]
theorem tkF_own (i : Nat) (key : Int) (s : Rs × List Int) (rs : List (Nat × Int)) : (tkF (i : Int) key s rs).2.getD i 0 = s.2.getD i 0 := by
  unfold tkF
  induction rs generalizing s with
  | nil => rfl
  | cons r rs ih =>
    rw [List.foldl_cons, ih]
    split
    · rename_i ht
      have : r.1 ≠ i := fun e => by
        unfold tkB at ht
        simp [e] at ht
      simp [List.getD, List.getElem?_set_ne this]
    · rfl
theorem do_nts (m : Rs) (n : Int) (c : Cm) : ∃ l : List Int, (doM m n c).2.2 = ntL l 16 ∧ l.getD n.toNat 0 = 0 := by
  have z : ∃ l : List Int, ([] : List (Int × Int)) = ntL l 16 ∧ l.getD n.toNat 0 = 0 := ⟨[], by decide, by simp⟩
  have hz : z16.getD n.toNat 0 = 0 := by
    unfold z16
    rcases Nat.lt_or_ge n.toNat 16 with h | h
    · generalize n.toNat = j at *
      have : ∀ j : Fin 16, z16.getD j 0 = 0 := by decide
      exact this ⟨j, h⟩
    · simp [List.getD, List.getElem?_eq_none (show [(0 : Int), 0, 0, 0, 0, 0, 0, 0, 0, 0, 0, 0, 0, 0, 0, 0].length ≤ n.toNat from h)]
  unfold doM
  split
  · exact z
  split
  · unfold regM; split
    · unfold ignM; split
      · unfold leaveM; split
        · split
          · refine ⟨_, rfl, ?_⟩
            unfold lvN; split
            · rw [tellF_own]; exact hz
            · exact hz
          · exact z
        · exact z
      · exact z
    · exact z
  split
  · unfold ignA ignM; simp only; split
    · unfold leaveM; split
      · split
        · refine ⟨_, rfl, ?_⟩
          unfold lvN; split
          · rw [tellF_own]; exact hz
          · exact hz
        · exact z
      · exact z
    · exact z
  split
  · split
    · exact z
    split
    · unfold rsvM; repeat' split
      all_goals exact z
    split
    · unfold relM; split
      · exact z
      split
      · exact z
      · refine ⟨_, rfl, ?_⟩
        unfold rlN; split
        · rw [tellF_own]; exact hz
        · exact hz
    split
    · unfold clrM
      refine ⟨_, rfl, ?_⟩
      rw [tellF_own]; exact hz
    · unfold preM; split
      · exact z
      split
      · unfold tovM
        refine ⟨_, rfl, ?_⟩
        split
        · rw [tkF_own]; exact hz
        · rw [tellF_own, tkF_own]; exact hz
      split
      · exact z
      split
      · exact z
      · refine ⟨_, rfl, ?_⟩
        rw [tkF_own]; exact hz
  · exact z
/-- notes rise, and none is for the one who asked -/
theorem ntL_rise (l : List Int) (n : Int) (h : l.getD n.toNat 0 = 0) : (∀ k (hk : k < (ntL l 16).length), (ntL l 16)[k].1 ≠ n ∧ 0 ≤ (ntL l 16)[k].1 ∧ (ntL l 16)[k].1 < 16) ∧ (∀ k (hk : k + 1 < (ntL l 16).length), (ntL l 16)[k].1 < (ntL l 16)[k + 1].1) := by
  constructor
  · intro k hk
    have hm := List.getElem_mem hk
    generalize (ntL l 16)[k] = x at *
    unfold ntL at hm
    obtain ⟨j, hj, rfl⟩ := List.mem_map.1 hm
    obtain ⟨h1, h2⟩ := List.mem_filter.1 hj
    have h3 := List.mem_range.1 h1
    refine ⟨fun e => ?_, by simp only; omega, by simp only; omega⟩
    have e' : n.toNat = j := by rw [← e]; simp
    rw [e'] at h
    rw [h] at h2
    simp at h2
  · intro k hk
    have hp : (ntL l 16).Pairwise (fun a b => a.1 < b.1) := by
      unfold ntL
      rw [List.pairwise_map]
      refine List.Pairwise.imp ?_ (List.Pairwise.filter _ List.pairwise_lt_range)
      intro a b hab
      simp only
      omega
    exact List.pairwise_iff_getElem.1 hp k (k + 1) (by omega) hk (by omega)
end Go.Proofs.Ytlopkfenbeahgaa

