/- The table of commands: from the row's condition to the memory. -/
import Derived.Test.YtmoobfpmijdoaaaDoorXCdA
import Derived.Test.YtmoobfpmijdoaaaDoorXCd1
namespace Go.Proofs.YtmoobfpmijdoaaaDoor
open Go.ChangeShapes Go.WideShapes Go.ChangeAt Go.RowKit
set_option linter.unusedVariables false
set_option maxRecDepth 100000

theorem cmd_named : Tryd.prog.globalNamed "caisson/cdb.commands" = some 1 := by kernel_rfl
theorem cmd_type : (Tryd.prog.globals[1]?).map (·.type) = some 116 := by kernel_rfl
theorem flat_cmd {H : Type} (enc : TypeId × Value → H) : Flat enc Tryd.prog 116 (cfAgg (cfTwo cfInt (cfAgg (cfTwo cfInt cfInt)))) :=
  flat_array (c := 13) Tryd.underlying116 (flat_two (c0 := 1) (c1 := 12) Tryd.underlying81 (flat_int Tryd.underlying5) (flat_array (c := 2) Tryd.underlying79 (flat_two (c0 := 1) (c1 := 1) Tryd.underlying78 (flat_int Tryd.underlying5) (flat_int Tryd.underlying5) (by kernel_rfl) (by kernel_rfl) rfl rfl (by kernel_rfl)) (by kernel_rfl) (by kernel_rfl)) (by kernel_rfl) (by kernel_rfl) rfl rfl (by kernel_rfl)) (by kernel_rfl) (by kernel_rfl)
theorem tbl_of_laid {W : World} (h : laidMetH Tryd.prog [("caisson/cdb.commands", Rows.laid_caisson_cdb_commands)] W) : TblAt W := by
  have h' : laidMet Tryd.prog [("caisson/cdb.commands", Rows.laid_caisson_cdb_commands)] W := h
  obtain ⟨ps, ⟨g, t, cs, fuel, p, q, hg, ht, hvar, hd, _, _⟩, _⟩ := h'
  obtain rfl := Option.some.inj (cmd_named.symm.trans hg)
  obtain rfl := Option.some.inj (cmd_type.symm.trans ht)
  have e := flat_cmd _ _ _ _ _ _ _ _ hd
  have e2 : cs.toList = tblC := e.trans (by rfl)
  intro j v hj
  rw [← e2] at hj
  have := World.var?_cell cmd_named hvar j
  rw [this]
  simpa using hj
end Go.Proofs.YtmoobfpmijdoaaaDoor

