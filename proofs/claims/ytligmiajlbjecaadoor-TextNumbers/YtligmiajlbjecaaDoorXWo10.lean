/- Letters that are lost, doubled. -/
import Derived.Test.YtligmiajlbjecaaDoorXWo9
namespace Go.Proofs.YtligmiajlbjecaaDoor
open Go.RowKit
set_option linter.unusedVariables false
set_option maxRecDepth 4000

def Wm.del (m : Wm) (k : Nat) : Wm := { m with fl := m.fl.take k ++ m.fl.drop (k + 1) }
theorem del_wf {m : Wm} (h : m.Wf) (k : Nat) : (m.del k).Wf := by
  refine ⟨h.one, h.five, ?_, h.mask, ?_, h.rho1, h.rho2, h.late⟩
  · have := h.full
    simp only [Wm.del, List.length_append, List.length_take, List.length_drop]; omega
  · intro l hl
    rcases List.mem_append.1 hl with hl | hl
    · exact h.each l (List.mem_of_mem_take hl)
    · exact h.each l (List.mem_of_mem_drop hl)
theorem Blk.step {w w' : World} {o o' : Ob} {k : Nat} {T : TypeId} {xs : List Value} (h : Blk w k T xs) (s : Step w w' o o') (hk : k ∉ o.W) : Blk w' k T xs := h.turned s.turned hk

def Wm.lose (m : Wm) (k : Nat) : Wm := { m.del k with lo := m.lo + 1 }
def Wm.come (m : Wm) (k : Nat) : Wm := { m.del k with tk := m.tk + 1 }
theorem lose_wf {m : Wm} (h : m.Wf) (k : Nat) : (m.lose k).Wf := by
  have := del_wf h k
  exact ⟨this.one, this.five, this.full, this.mask, this.each, this.rho1, this.rho2, this.late⟩
theorem come_wf {m : Wm} (h : m.Wf) (k : Nat) : (m.come k).Wf := by
  have := del_wf h k
  exact ⟨this.one, this.five, this.full, this.mask, this.each, this.rho1, this.rho2, this.late⟩



def Wm.twice (m : Wm) (k : Nat) : Wm := { m with fl := m.fl ++ (m.fl[k]?).toList }
theorem twice_wf {m : Wm} (h : m.Wf) (k : Nat) (hf : m.fl.length < 10000) : (m.twice k).Wf := by
  refine ⟨h.one, h.five, ?_, h.mask, ?_, h.rho1, h.rho2, h.late⟩
  · simp only [Wm.twice, List.length_append]; cases m.fl[k]? <;> simp <;> omega
  · intro l hl
    rcases List.mem_append.1 hl with hl | hl
    · exact h.each l hl
    · cases e : m.fl[k]? with
      | none => rw [e] at hl; cases hl
      | some y => rw [e] at hl; simp at hl; subst hl; exact h.each _ (List.mem_of_getElem? e)


end Go.Proofs.YtligmiajlbjecaaDoor

