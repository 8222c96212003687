/- A world that is made; clocks, cuts, and what is told. -/
import Derived.Test.YtclpedjjboblpaaDoorXWo1
import Derived.Test.YtclpedjjboblpaaDoorXDkW1
namespace Go.Proofs.YtclpedjjboblpaaDoor
open Go.RowKit
set_option linter.unusedVariables false


theorem info_i64 : (Tryd.prog.info? 2).map (fun i => (i.zero, i.size, i.bytes)) = some (some (.int .i64 0), 1, 8) := by kernel_rfl

theorem made_cks (u : World) (N : Nat) : Blk (u.alloc (.cells (madeCells #[.int .i64 0] N) 2)) u.heap.size 2 (cks (List.replicate N 0)) := by
  have e : (madeCells #[Value.int .i64 0] N) = (List.replicate N (Value.int .i64 0)).toArray := by
    apply Array.ext
    · simp [madeCells]
    · intro i h1 h2; simp [madeCells, Nat.mod_one]
  have e2 : cks (List.replicate N 0) = List.replicate N (Value.int .i64 0) := by unfold cks; simp
  rw [e2, e]; exact Blk.new' u _ _


/-- a new world -/
def Wm.new (n r : Nat) : Wm := ⟨[], 0, List.replicate n 0, r, 0, 0, false⟩
theorem Wm.new_wf {n r : Nat} (h : 1 ≤ n ∧ n ≤ 5) (hr : 1 ≤ r ∧ r ≤ 1000) : (Wm.new n r).Wf :=
  ⟨by simpa [Wm.new] using h.1, by simpa [Wm.new] using h.2, by simp [Wm.new], by simp [Wm.new]; exact Nat.two_pow_pos _, (fun l h => by cases h), hr.1, hr.2, fun c h => by have := List.eq_of_mem_replicate h; omega⟩

theorem at_ck {m : Wm} {i : Int} (h : hasW m.ck.length i = true) : ∃ x : Nat, i = x ∧ x < m.ck.length := by
  have := of_decide_eq_true h
  exact ⟨i.toNat, by omega, by omega⟩
/-- the clock of a machine, 0 of none -/
def Wm.clock (m : Wm) (i : Int) : Nat := if hasW m.ck.length i then m.ck.getD i.toNat 0 else 0

theorem ck_late {m : Wm} (hw : m.Wf) (x : Nat) : m.ck.getD x 0 ≤ 1099511627776 := by
  rw [List.getD]
  cases h : m.ck[x]? with
  | none => simp
  | some c => exact hw.late c (List.mem_of_getElem? h)

end Go.Proofs.YtclpedjjboblpaaDoor

