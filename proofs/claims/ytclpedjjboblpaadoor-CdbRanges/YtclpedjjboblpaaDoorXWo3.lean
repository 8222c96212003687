/- Clocks that tick; cuts. -/
import Derived.Test.YtclpedjjboblpaaDoorXWo2
namespace Go.Proofs.YtclpedjjboblpaaDoor
open Go.RowKit
set_option linter.unusedVariables false
set_option maxRecDepth 30000

/-- the least of some clocks -/
def minC : List Nat → Nat
  | [] => 0
  | a :: r => r.foldl min a
theorem minC_le {l : List Nat} : ∀ c ∈ l, minC l ≤ c := by
  have key : ∀ (r : List Nat) (a : Nat), r.foldl min a ≤ a ∧ ∀ c ∈ r, r.foldl min a ≤ c := by
    intro r
    induction r with
    | nil => intro a; exact ⟨Nat.le_refl _, fun c h => by cases h⟩
    | cons b r ih =>
      intro a
      obtain ⟨h1, h2⟩ := ih (min a b)
      refine ⟨Nat.le_trans h1 (Nat.min_le_left _ _), fun c hc => ?_⟩
      rcases List.mem_cons.1 hc with rfl | hc
      · exact Nat.le_trans h1 (Nat.min_le_right _ _)
      · exact h2 c hc
  cases l with
  | nil => intro c h; cases h
  | cons a r =>
    intro c hc
    obtain ⟨h1, h2⟩ := key r a
    rcases List.mem_cons.1 hc with rfl | hc
    · exact h1
    · exact h2 c hc
theorem minC_mem {l : List Nat} (h : l ≠ []) : minC l ∈ l := by
  have key : ∀ (r : List Nat) (a : Nat), r.foldl min a = a ∨ r.foldl min a ∈ r := by
    intro r
    induction r with
    | nil => intro a; exact .inl rfl
    | cons b r ih =>
      intro a
      rcases ih (min a b) with h1 | h1
      · simp only [List.foldl_cons]
        rw [h1]
        rcases Nat.le_total a b with hab | hab
        · rw [Nat.min_eq_left hab]; exact .inl rfl
        · rw [Nat.min_eq_right hab]; exact .inr (List.mem_cons_self ..)
      · exact .inr (List.mem_cons_of_mem _ h1)
  cases l with
  | nil => exact absurd rfl h
  | cons a r =>
    rcases key r a with h1 | h1
    · show r.foldl min a ∈ a :: r; rw [h1]; exact List.mem_cons_self ..
    · exact List.mem_cons_of_mem _ h1

theorem minC_snoc (r : List Nat) (b : Nat) (h : r ≠ []) : minC (r ++ [b]) = min (minC r) b := by
  cases r with
  | nil => exact absurd rfl h
  | cons a r => unfold minC; simp
theorem head_min (l : List Nat) (h : 0 < l.length) : l[0] = minC (l.take 1) := by
  match l, h with
  | a :: r, _ => rfl

theorem minC_late {m : Wm} (hw : m.Wf) : minC m.ck ≤ 1099511627776 := hw.late _ (minC_mem (fun e => by have := hw.one; rw [e] at this; simp at this))
/-- may the clock of a machine tick? -/
def Wm.may (m : Wm) (i : Int) : Bool := hasW m.ck.length i && (decide (m.ck.getD i.toNat 0 < 1099511627776) && decide (m.ck.getD i.toNat 0 + 1 ≤ m.rho + minC m.ck))

end Go.Proofs.YtclpedjjboblpaaDoor

