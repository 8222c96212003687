/- cdb, the document's: Build, where all fields go in. -/
import Derived.Test.YtmoobfpmijdoaaaDoorXCq2b
import Derived.Handy
namespace Go.Proofs.YtmoobfpmijdoaaaDoor
open Go.RowKit
set_option linter.unusedVariables false
set_option linter.unusedSimpArgs false
set_option maxRecDepth 8000

theorem rput_any (a b : Int) (h : PlOk a b) (x : BitVec 64) (h0 : b = 0 → x = 0#64) (h1 : b ≠ 0 → tkB b x = true) (base : Nat) (z : Value) (l : List (BitVec 8)) (w : World) (hb : base ≤ w.heap.size) (hO : Own w base z l) (hl : l.length = 16) :
    Calls Tryd.prog 70 #[z, .agg #[.int .i64 a, .int .i64 (szB b : Int), .int .i64 (b % 8)], .int .u64 (x.toNat : Int)] w fun e w' => ∃ z', e = .returned (.tuple #[z', .int .i64 0]) ∧ Own w' base z' (layF l a b x) ∧ Below w.heap.size w w' := by
  obtain ⟨ad, c, rfl, hle, -, hr, hn, -⟩ := hO.open
  by_cases hz : b = 0
  · subst hz
    have ex := h0 rfl
    subst ex
    rw [hl]
    refine (rput_none a ad c w).mono ?_
    rintro e w' ⟨rfl, hw⟩
    refine ⟨_, rfl, ?_, hw⟩
    have e1 : layF l a 0 0#64 = l := rfl
    rw [e1, ← hl]
    exact Own.later hO hw
  · rw [hl]
    refine (rput_yes a b h hz x (h1 hz) ad c l w hl (by omega) hr hn).mono ?_
    rintro e w' ⟨z, rfl, h2, h3⟩
    exact ⟨z, rfl, Own.lower h2 hb, h3⟩
theorem size_rp : (Tryd.prog.info? 93).map (·.size) = some 3 := by kernel_rfl
theorem agg_rp (w : World) : (isAgg 93).run Tryd.prog w = .ok true w := by rfl
/-- a value that a field takes -/
def FOk (b : Int) (x : BitVec 64) : Prop := (b = 0 → x = 0#64) ∧ (b ≠ 0 → tkB b x = true)
end Go.Proofs.YtmoobfpmijdoaaaDoor

