/- sense: the document's Capacity; Luns, the program's and the document's; known. -/
import Derived.Test.YtncplnejoppekaaDoorSe2
namespace Go.Proofs.YtncplnejoppekaaDoor
open Go.RowKit
set_option linter.unusedVariables false
set_option linter.unusedSimpArgs false
set_option maxRecDepth 4000

theorem over_8a (x : BitVec 64) : over (List.replicate 8 0#8) 0 (be 4 x) = be 4 x ++ List.replicate 4 0#8 := by
  simp [over, be4_len]
theorem over_8b (x y : BitVec 64) : over (be 4 x ++ List.replicate 4 0#8) 4 (be 4 y) = be 4 x ++ be 4 y := by
  have h1 : (be 4 x ++ List.replicate 4 0#8).take 4 = be 4 x := List.take_left' (be4_len x)
  have h2 : (be 4 x ++ List.replicate 4 0#8).drop 8 = [] := List.drop_eq_nil_of_le (by simp [be4_len])
  simp only [over, be4_len, h1, h2, List.append_nil]
theorem cp_no {n : Int} (h : ¬ (1 ≤ n ∧ n ≤ 256)) : Hid (cpE n = 1 ∧ cpB n = []) := by
  have h' : ¬ fromB 1 n 256 = true := fun e => h (of_decide_eq_true e)
  exact ⟨if_neg h', if_neg h'⟩
theorem made_ow (u : World) (N : Nat) (hN : N ≤ maxLen) : Own (u.alloc (.cells (vals (List.replicate N 0#8)).toArray 5)) u.heap.size (.slice (some ⟨u.heap.size, 0, none⟩) N N) (List.replicate N 0#8) := by
  have h := Own.ofBlock (base := u.heap.size) (cap := N) (l := List.replicate N 0#8) (Nat.le_refl _) (Blk.new' u 5 (vals (List.replicate N 0#8))) (by simp) hN (by simp [vals]) (by simp [vals])
  simpa using h

/-- the bytes of the units from 0 on -/
def ub (k : Nat) : List (BitVec 8) := [0#8, b8 k, 0#8, 0#8, 0#8, 0#8, 0#8, 0#8]
def ubs : Nat → List (BitVec 8)
  | 0 => []
  | k + 1 => ubs k ++ ub k
theorem ubs_len (k : Nat) : (ubs k).length = 8 * k := by
  induction k with
  | zero => rfl
  | succ k ih => simp [ubs, ub, ih]; omega
theorem bk_row {w : World} {g : Nat} {t : TypeId} {l : List (BitVec 8)} (h : Blk w g t (vals l)) : Row w (some ⟨g, 0, none⟩) l := by
  refine .inr ⟨g, 0, rfl, fun i hi => ?_⟩
  rw [Nat.zero_add, bk_at h i, vals_at l i hi]
/-- Luns' error and bytes -/
def lnE (n : Int) : Int := if fromB 1 n 3 = true then 0 else 1
def lnB (n : Int) : List (BitVec 8) := if fromB 1 n 3 = true then (be 4 (BitVec.ofInt 64 (8 * n)) ++ be 4 (BitVec.ofInt 64 0)) ++ ubs n.toNat else []
theorem ln_no {n : Int} (h : ¬ (1 ≤ n ∧ n ≤ 3)) : Hid (lnE n = 1 ∧ lnB n = []) := by
  have h' : ¬ fromB 1 n 3 = true := fun e => h (of_decide_eq_true e)
  exact ⟨if_neg h', if_neg h'⟩
theorem slice8_0 (B : Nat) (W : World) : (Instr.sliceAt 48 (.pointer (some ⟨B, 0, none⟩)) none none none).run Tryd.prog W = .ok (.slice (some ⟨B, 0, none⟩) 8 8) W := by kernel_rfl
theorem ub_blk {W : World} {g : Nat} {t : TypeId} {k : Nat} (hk : k < 256) (h : Blk W g t [.int .u8 0, .int .u8 (k : Int), .int .u8 0, .int .u8 0, .int .u8 0, .int .u8 0, .int .u8 0, .int .u8 0]) : Row W (some ⟨g, 0, none⟩) (ub k) := by
  refine bk_row (t := t) ?_
  have e : (k : Int) % 256 = k := by omega
  simpa [vals, ub, b8_val, e] using h

end Go.Proofs.YtncplnejoppekaaDoor
