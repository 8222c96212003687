/- The tables of commands and of sizes: from the row's condition to the memory. -/
import Derived.Test.YtmoobfpmijdoaaaDoorXCdB
import Derived.Test.YtmoobfpmijdoaaaDoorXCdC
namespace Go.Proofs.YtmoobfpmijdoaaaDoor
open Go.ChangeShapes Go.WideShapes Go.ChangeAt Go.RowKit
set_option linter.unusedVariables false
set_option maxRecDepth 100000

theorem siz_named : Tryd.prog.globalNamed "caisson/cdb.sizes" = some 0 := by kernel_rfl
theorem siz_type : (Tryd.prog.globals[0]?).map (·.type) = some 90 := by kernel_rfl
theorem flat_siz {H : Type} (enc : TypeId × Value → H) : Flat enc Tryd.prog 90 (cfAgg cfInt) :=
  flat_array (c := 1) Tryd.underlying90 (flat_int Tryd.underlying5) (by kernel_rfl) (by kernel_rfl)
theorem both_of_laid {W : World} (h : laidMetH Tryd.prog [("caisson/cdb.commands", Rows.laid_caisson_cdb_commands), ("caisson/cdb.sizes", Rows.laid_caisson_cdb_sizes)] W) : TblAt W ∧ SizAt W := by
  have h' : laidMet Tryd.prog [("caisson/cdb.commands", Rows.laid_caisson_cdb_commands), ("caisson/cdb.sizes", Rows.laid_caisson_cdb_sizes)] W := h
  obtain ⟨ps, ⟨g, t, cs, fuel, p, q, hg, ht, hvar, hd, ⟨g2, t2, cs2, fuel2, p2, q2, hg2, ht2, hvar2, hd2, _, _⟩, _⟩, _⟩ := h'
  constructor
  · obtain rfl := Option.some.inj (cmd_named.symm.trans hg)
    obtain rfl := Option.some.inj (cmd_type.symm.trans ht)
    have e := flat_cmd _ _ _ _ _ _ _ _ hd
    have e2 : cs.toList = tblC := e.trans (by rfl)
    intro j v hj
    rw [← e2] at hj
    have := World.var?_cell cmd_named hvar j
    rw [this]
    simpa using hj
  · obtain rfl := Option.some.inj (siz_named.symm.trans hg2)
    obtain rfl := Option.some.inj (siz_type.symm.trans ht2)
    have e := flat_siz _ _ _ _ _ _ _ _ hd2
    have e2 : cs2.toList = sizC := e.trans (by rfl)
    intro j v hj
    rw [← e2] at hj
    have := World.var?_cell siz_named hvar2 j
    rw [this]
    simpa using hj
theorem tbl_of_laid2 {W : World} (h : laidMetH Tryd.prog [("caisson/cdb.commands", Rows.laid_caisson_cdb_commands), ("caisson/cdb.sizes", Rows.laid_caisson_cdb_sizes)] W) : TblAt W := (both_of_laid h).1
theorem siz_of_laid2 {W : World} (h : laidMetH Tryd.prog [("caisson/cdb.commands", Rows.laid_caisson_cdb_commands), ("caisson/cdb.sizes", Rows.laid_caisson_cdb_sizes)] W) : SizAt W := (both_of_laid h).2
end Go.Proofs.YtmoobfpmijdoaaaDoor

