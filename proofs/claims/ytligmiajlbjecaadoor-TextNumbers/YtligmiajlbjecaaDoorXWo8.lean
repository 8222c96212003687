/- Letters that are sent. -/
import Derived.Test.YtligmiajlbjecaaDoorXWo5
namespace Go.Proofs.YtligmiajlbjecaaDoor
open Go.RowKit
set_option linter.unusedVariables false
set_option maxRecDepth 4000

def Wm.sendE (m : Wm) (x y : Int) (l : List (BitVec 8)) : Int := if m.cl = true then 5 else if ¬ (hasW m.ck.length x = true ∧ hasW m.ck.length y = true) then 1 else if 65536 < l.length then 3 else if 10000 ≤ m.fl.length then 4 else 0
def Wm.send (m : Wm) (x y : Int) (l : List (BitVec 8)) : Wm := if m.sendE x y l = 0 then { m with fl := m.fl ++ [(x.toNat, y.toNat, l)] } else m
theorem send_wf {m : Wm} (h : m.Wf) (x y : Int) (l : List (BitVec 8)) : (m.send x y l).Wf := by
  unfold Wm.send
  split
  · rename_i he
    unfold Wm.sendE at he
    split at he
    · cases he
    · split at he
      · cases he
      · rename_i h1
        split at he
        · cases he
        · rename_i h2
          split at he
          · cases he
          · rename_i h3
            have h1' : hasW m.ck.length x = true ∧ hasW m.ck.length y = true := Decidable.of_not_not h1
            obtain ⟨a, rfl, ha⟩ := at_ck h1'.1
            obtain ⟨b, rfl, hb⟩ := at_ck h1'.2
            refine ⟨h.one, h.five, by simp; omega, h.mask, ?_, h.rho1, h.rho2, h.late⟩
            intro q hq
            rcases List.mem_append.1 hq with hq | hq
            · exact h.each q hq
            · rw [List.mem_singleton] at hq; subst hq; simp only [Int.toNat_natCast]; exact ⟨ha, hb, by omega⟩
  · exact h






end Go.Proofs.YtligmiajlbjecaaDoor

