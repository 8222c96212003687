/- Changes of other blocks may come in either order. -/
import Derived.Test.YtfieliladdadgaaEx11
namespace Go.Proofs.Ytfieliladdadgaa
open Go.RowKit
set_option linter.unusedVariables false

/-- what the changes of one block make of it -/
def lastOf (v : Option (List (BitVec 8))) (l : List (Int × List (BitVec 8))) (j : Nat) : Option (List (BitVec 8)) := l.foldl (fun v r => if j = r.1.toNat then (if r.2 = [] then none else some r.2) else v) v
theorem chAll_f (m : Im) (l : List (Int × List (BitVec 8))) (j : Nat) : (chAll m l).f j = lastOf (m.f j) l j := by
  unfold chAll lastOf
  induction l generalizing m with
  | nil => rfl
  | cons r l ih =>
    rw [List.foldl_cons, List.foldl_cons, ih]
    rfl
theorem lastOf_other {l : List (Int × List (BitVec 8))} {j : Nat} (h : ∀ r ∈ l, j ≠ r.1.toNat) (v : Option (List (BitVec 8))) : lastOf v l j = v := by
  unfold lastOf
  induction l generalizing v with
  | nil => rfl
  | cons r l ih =>
    rw [List.foldl_cons, if_neg (h r (by simp))]
    exact ih (fun q hq => h q (List.mem_cons_of_mem _ hq)) v
theorem im_ext {a b : Im} (hn : a.n = b.n) (hf : ∀ j, a.f j = b.f j) : a = b := by
  obtain ⟨n, f⟩ := a
  obtain ⟨n', f'⟩ := b
  simp only at hn hf
  subst hn
  have : f = f' := funext hf
  rw [this]
theorem ch_apart (m : Im) (a b : List (Int × List (BitVec 8))) (ha : ∀ r ∈ a, 0 ≤ r.1) (hb : ∀ r ∈ b, 0 ≤ r.1) (h : ∀ r ∈ a, ∀ q ∈ b, r.1 ≠ q.1) : chAll (chAll m a) b = chAll (chAll m b) a := by
  refine im_ext ?_ (fun j => ?_)
  · rw [chAll_n, chAll_n, chAll_n, chAll_n]
  · rw [chAll_f, chAll_f, chAll_f, chAll_f]
    by_cases hj : ∃ r ∈ a, j = r.1.toNat
    · obtain ⟨r, hr, e⟩ := hj
      have hno : ∀ q ∈ b, j ≠ q.1.toNat := fun q hq e2 => h r hr q hq (by have := ha r hr; have := hb q hq; omega)
      rw [lastOf_other hno, lastOf_other hno]
    · have hno : ∀ r ∈ a, j ≠ r.1.toNat := fun r hr e => hj ⟨r, hr, e⟩
      rw [lastOf_other hno, lastOf_other hno]
/-- whether they can be does not hang on what is there -/
theorem canAll_n {m : Im} (a l : List (Int × List (BitVec 8))) : canAll (chAll m a).n l = canAll m.n l := by rw [chAll_n]
end Go.Proofs.Ytfieliladdadgaa
