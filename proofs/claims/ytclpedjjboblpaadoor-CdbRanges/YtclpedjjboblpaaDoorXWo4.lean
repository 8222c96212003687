/- Clocks that tick, machines that are cut off, what is counted. -/
import Derived.Test.YtclpedjjboblpaaDoorXWo3
namespace Go.Proofs.YtclpedjjboblpaaDoor
open Go.RowKit
set_option linter.unusedVariables false
set_option maxRecDepth 4000

theorem turned_set (w : World) (g i : Nat) (v : Value) : Turned (fun k => k = g) w (w.setCell ⟨g, i, none⟩ v) := turned_grown (grown_set w g i v) (fun k hk => by cases hk; rfl)
theorem wo_ne {g : Nat} {p : Wp} (h : (g :: p.c :: p.q.toList).Nodup) : g ≠ p.c ∧ p.q ≠ some g ∧ p.q ≠ some p.c := by
  simp only [List.nodup_cons, List.mem_cons, Option.mem_toList, not_or] at h
  exact ⟨h.1.1, fun e => h.1.2 e, fun e => h.2.1 e⟩


def Wm.tick (m : Wm) (i : Int) : Wm := if m.may i then { m with ck := m.ck.set i.toNat (m.ck.getD i.toNat 0 + 1) } else m
def Wm.tickE (m : Wm) (i : Int) : Int := if hasW m.ck.length i then (if m.may i then 0 else 5) else 1
theorem may_has {m : Wm} {i : Int} (h : m.may i = true) : hasW m.ck.length i = true := by unfold Wm.may at h; simp at h; exact h.1
theorem tick_wf {m : Wm} (h : m.Wf) (i : Int) : (m.tick i).Wf := by
  unfold Wm.tick
  split
  · rename_i hm
    refine ⟨by simpa using h.one, by simpa using h.five, h.full, by simpa using h.mask, by simpa using h.each, h.rho1, h.rho2, fun c hc => ?_⟩
    rcases List.mem_or_eq_of_mem_set hc with hc | rfl
    · exact h.late c hc
    · unfold Wm.may at hm
      simp at hm
      have := hm.2.1
      simp only [List.getD] at this ⊢
      omega
  · exact h

theorem and_bit : ∀ x : Nat, x < 32 → bits .and .i64 (x : Int) 1 = ((x % 2 : Nat) : Int) := by decide
/-- on which side a machine is -/
def sideN (cut i : Nat) : Nat := cut / 2 ^ i % 2

/-- are two machines cut off from each other? -/
def Wm.apart (m : Wm) (a b : Int) : Bool := hasW m.ck.length a && (hasW m.ck.length b && decide (sideN m.cut a.toNat ≠ sideN m.cut b.toNat))

def Wm.cutE (m : Wm) (k : Int) : Int := if 0 ≤ k ∧ k < 2 ^ m.ck.length then 0 else 1
def Wm.cutTo (m : Wm) (k : Int) : Wm := if 0 ≤ k ∧ k < 2 ^ m.ck.length then { m with cut := k.toNat } else m
theorem cut_wf {m : Wm} (h : m.Wf) (k : Int) : (m.cutTo k).Wf := by
  unfold Wm.cutTo
  split
  · rename_i hk
    refine ⟨h.one, h.five, h.full, ?_, h.each, h.rho1, h.rho2, h.late⟩
    show k.toNat < 2 ^ m.ck.length
    have : ((2 ^ m.ck.length : Nat) : Int) = 2 ^ m.ck.length := by rw [Int.natCast_pow]; rfl
    omega
  · exact h

end Go.Proofs.YtclpedjjboblpaaDoor

