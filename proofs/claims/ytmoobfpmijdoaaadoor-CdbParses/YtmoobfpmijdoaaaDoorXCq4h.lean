/- cdb, the document's: Parse, what it wants without Go. -/
import Derived.Test.YtmoobfpmijdoaaaDoorXCq3
import Derived.Test.YtmoobfpmijdoaaaDoorXCq3f
namespace Go.Proofs.YtmoobfpmijdoaaaDoor
open Go.RowKit
set_option linter.unusedVariables false
set_option linter.unusedSimpArgs false
set_option maxRecDepth 8000

theorem size_cq : (Tryd.prog.info? 42).map (·.size) = some 7 := by kernel_rfl
theorem agg_cq (w : World) : (isAgg 42).run Tryd.prog w = .ok true w := by rfl
theorem onesB_val (b : Int) (h : BitsOk b) : (onesB b).toNat = 2 ^ b.toNat - 1 := by
  rcases h with rfl | rfl | rfl | rfl | rfl | rfl | rfl | rfl <;> decide
theorem fok_fv (l : List (BitVec 8)) (a b : Int) (h : PlOk a b) : FOk b (fvB l a b) := by
  refine ⟨fun e => by subst e; rfl, fun h0 => ?_⟩
  have h1 := fvB_lt l a b h
  unfold tkB
  rw [decide_eq_true_eq, onesB_val b h.bits]
  exact Nat.le_sub_one_of_lt h1
theorem over_swap (l x y : List (BitVec 8)) (hx : x.length = 1) (hy : y.length = 1) (hl : l.length = 16) : over (over l 1 x) 2 y = over (over l 2 y) 1 x := by
  obtain ⟨a, rfl⟩ := List.length_eq_one_iff.1 hx
  obtain ⟨b, rfl⟩ := List.length_eq_one_iff.1 hy
  rcases l with _ | ⟨c0, _ | ⟨c1, _ | ⟨c2, l⟩⟩⟩
  · simp at hl
  · simp at hl
  · simp at hl
  · rfl
def swapB (r : CR) : Bool := decide ((r.ps.getD 1 (0, 0)).2 = 0) || decide ((r.ps.getD 2 (0, 0)).2 = 0) || decide (r.ps.getD 2 (0, 0) = (1, 1) ∧ r.ps.getD 1 (0, 0) = (2, 8))
theorem swap_rows : ∀ k : Fin 14, swapB (rowK k.val) = true := by decide +kernel
theorem find_swap {op : Int} {r : CR} (h : findR op = some r) : swapB r = true := by
  obtain ⟨k, hk, rfl, -⟩ := findR_row h
  exact swap_rows ⟨k, hk⟩
/-- the document's order of fields, and the program's -/
theorem lay_swap {o a0 b0 a1 b1 a2 b2 a3 b3 a4 b4 a5 b5 : Int} {op : Int} (hf : findR op = some ⟨o, [(a0, b0), (a1, b1), (a2, b2), (a3, b3), (a4, b4), (a5, b5)]⟩) (l : List (BitVec 8)) (hl : l.length = 16) (m1 m2 : BitVec 64) : layF (layF l a2 b2 m2) a1 b1 m1 = layF (layF l a1 b1 m1) a2 b2 m2 := by
  have h := find_swap hf
  unfold swapB at h
  simp only [List.getD_cons_zero, List.getD_cons_succ, Bool.or_eq_true, decide_eq_true_eq, Prod.mk.injEq] at h
  rcases h with (rfl | rfl) | ⟨⟨rfl, rfl⟩, rfl, rfl⟩
  · unfold layF; simp
  · unfold layF; simp
  · show over (over l 1 (be 1 m2)) 2 (be 1 m1) = over (over l 2 (be 1 m1)) 1 (be 1 m2)
    exact over_swap l _ _ (be_length 1 _ (by omega)) (be_length 1 _ (by omega)) hl
theorem bit_one (l : List (BitVec 8)) (a b : Int) (h : PlOk a b) (hb : b = 0 ∨ b = 1) : (fvB l a b).toNat = 1 ∨ (fvB l a b).toNat = 0 := by
  have h1 := fvB_lt l a b h
  rcases hb with rfl | rfl
  · have e : (2 : Nat) ^ (0 : Int).toNat = 1 := rfl
    omega
  · have e : (2 : Nat) ^ (1 : Int).toNat = 2 := rfl
    omega
end Go.Proofs.YtmoobfpmijdoaaaDoor

