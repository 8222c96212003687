/- extent: what a list of changes leaves at a place. -/
import Derived.Test.YtfiidcfpkodlpaaXEx2
namespace Go.Proofs.Ytfiidcfpkodlpaa
open Go.RowKit
set_option linter.unusedVariables false

theorem chAll_keep (m : Im) (l : List (Int × List (BitVec 8))) (j : Nat) (h : ∀ s ∈ l, s.1.toNat ≠ j) : (chAll m l).f j = m.f j := by
  unfold chAll
  induction l generalizing m with
  | nil => rfl
  | cons s l ih =>
    rw [List.foldl_cons, ih _ (fun t ht => h t (List.mem_cons_of_mem _ ht))]
    unfold chI putI
    simp only
    rw [if_neg (fun e => h s List.mem_cons_self e.symm)]
theorem chAll_append (m : Im) (l k : List (Int × List (BitVec 8))) : chAll m (l ++ k) = chAll (chAll m l) k := by unfold chAll; rw [List.foldl_append]
/-- the last one that names a place tells what lies there -/
theorem chAll_last (m : Im) (l : List (Int × List (BitVec 8))) (hc : canAll m.n l = true) (i : Nat) (hi : i < l.length) (hl : ∀ k (hk : k < l.length), i < k → l[k].1 ≠ l[i].1) : (chAll m l).f l[i].1.toNat = if l[i].2 = [] then none else some l[i].2 := by
  have hcan : ∀ r ∈ l, 0 ≤ r.1 := fun r hr => by
    obtain ⟨x, hx, -⟩ := canB_yes (List.all_eq_true.1 hc r hr)
    omega
  have e : l = (l.take i ++ [l[i]]) ++ l.drop (i + 1) := by rw [List.take_append_getElem hi, List.take_append_drop]
  have h1 : chAll m l = chAll (chI (chAll m (l.take i)) l[i].1.toNat l[i].2) (l.drop (i + 1)) := by
    rw [← chAll_snoc, ← chAll_append, ← e]
  rw [h1, chAll_keep]
  · unfold chI putI
    simp
  · intro s hs
    obtain ⟨k, hk, rfl⟩ := List.getElem_of_mem hs
    rw [List.length_drop] at hk
    rw [List.getElem_drop]
    have h2 := hl (i + 1 + k) (by omega) (by omega)
    have h3 := hcan _ (List.getElem_mem (show i + 1 + k < l.length by omega))
    have h4 := hcan _ (List.getElem_mem hi)
    omega
end Go.Proofs.Ytfiidcfpkodlpaa

