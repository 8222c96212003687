/- sense: isState, port, Ports, the program's and the document's. -/
import Derived.Test.YthgiifeifinngaaSe7
namespace Go.Proofs.Ythgiifeifinngaa
open Go.RowKit
set_option linter.unusedVariables false
set_option linter.unusedSimpArgs false
set_option maxRecDepth 4000

def stOk (s : Int) : Bool := decide (s = 0 ∨ s = 2 ∨ s = 14 ∨ s = 15)
set_option maxHeartbeats 400000 in
theorem isState_any (s : Int) (w : World) : Calls Try.prog 40 #[.int .i64 s] w fun e w' => e = .returned (.bool (stOk s)) ∧ w = w' := by
  by_cases h0 : s = 0
  · subst h0
    go_enter Try.func40, Try.ntmps40
    go_wp2
    go_ret
    exact ⟨rfl, rfl⟩
  by_cases h1 : s = 2
  · subst h1
    go_enter Try.func40, Try.ntmps40
    go_wp2
    go_ret
    exact ⟨rfl, rfl⟩
  by_cases h2 : s = 14
  · subst h2
    go_enter Try.func40, Try.ntmps40
    go_wp2
    go_ret
    exact ⟨rfl, rfl⟩
  by_cases h3 : s = 15
  · subst h3
    go_enter Try.func40, Try.ntmps40
    go_wp2
    go_ret
    exact ⟨rfl, rfl⟩
  have H : Hid (false = stOk s) := by show false = decide _; simp [h0, h1, h2, h3]
  have d0 : (s == 0) = false := by simpa using h0
  have d1 : (s == 2) = false := by simpa using h1
  have d2 : (s == 14) = false := by simpa using h2
  have d3 : (s == 15) = false := by simpa using h3
  clear h0 h1 h2 h3
  go_enter Try.func40, Try.ntmps40
  go_wp2
  go_ret
  exact ⟨ret_bool H.out, rfl⟩
/-- a machine's twelve bytes -/
def ptb (i : Nat) (s : Int) : List (BitVec 8) := [b8 s, 0x8d#8, 0#8, b8 ((i + 1 : Nat) : Int), 0#8, 0#8, 0#8, 1#8, 0#8, 0#8, 0#8, b8 ((i + 1 : Nat) : Int)]
def ptbs (l : List Int) : Nat → List (BitVec 8)
  | 0 => []
  | k + 1 => ptbs l k ++ ptb k (l.getD k 0)
theorem ptbs_len (l : List Int) (k : Nat) : (ptbs l k).length = 12 * k := by
  induction k with
  | zero => rfl
  | succ k ih => simp [ptbs, ptb, ih]; omega
def ptE (l : List Int) : Int := if 5 < l.length then 3 else if l.all stOk = true then 0 else 1
def ptB (l : List Int) : List (BitVec 8) := if ptE l = 0 then be 4 (BitVec.ofInt 64 ((l.length : Int) * 12)) ++ ptbs l l.length else []
theorem fits_2 {n : Int} (h : 0 ≤ n ∧ n < 65536) : fitsB 2 (BitVec.ofInt 64 n) = true := by
  unfold fitsB
  rw [decide_eq_true_eq, BitVec.toNat_ofInt]
  apply Nat.div_eq_of_lt
  simp
  omega
theorem be2_lo (n : Nat) (h : n < 256) : be 2 (BitVec.ofInt 64 (n : Int)) = [0#8, b8 n] := by
  have e := be_snoc 1 (BitVec.ofInt 64 (n : Int)) (by omega)
  rw [e]
  have hz : BitVec.ofInt 64 (n : Int) >>> 8 = BitVec.ofInt 64 0 := by
    apply BitVec.eq_of_toNat_eq
    rw [BitVec.toNat_ushiftRight, BitVec.toNat_ofInt]
    simp [Nat.shiftRight_eq_div_pow]
    omega
  have e8 : (BitVec.ofInt 64 (n : Int)).setWidth 8 = b8 n := by
    unfold b8
    apply BitVec.eq_of_toNat_eq
    rw [BitVec.toNat_setWidth, BitVec.toNat_ofInt, BitVec.toNat_ofInt]
    simp only [Nat.reducePow]
    omega
  rw [hz, show be 1 (BitVec.ofInt 64 0) = [0#8] by decide, e8]
  rfl
set_option maxHeartbeats 1000000 in
theorem port_any (i : Nat) (s : Int) (w : World) (hi : i < 100) :
    Calls Try.prog 41 #[.int .i64 (i : Int), .int .i64 s] w fun e w' => ∃ z, e = .returned z ∧ Own w' w.heap.size z (ptb i s) ∧ Below w.heap.size w w' := by
  have hmk : (Instr.makeSlice 22 (.int .i64 12) (.int .i64 12)).run Try.prog w = _ := seMake 12 (by omega) w
  have B0 := Blk.new' w 5 (vals (List.replicate 12 0#8))
  have b0 : Below w.heap.size w (w.alloc (.cells (vals (List.replicate 12 0#8)).toArray 5)) := (Below.refl _ _).alloc (Nat.le_refl _) _
  generalize w.alloc (.cells (vals (List.replicate 12 0#8)).toArray 5) = w1 at *
  have y0 := bk_at B0 0
  have f0 := bk_fz B0 0
  have y1 := bk_at B0 1
  have f1 := bk_fz B0 1
  have y7 := bk_at B0 7
  have f7 := bk_fz B0 7
  simp only [vals, List.replicate, List.map_cons, List.map_nil, List.getElem?_cons_zero, List.getElem?_cons_succ] at y0 y1 y7
  have B3 := ((B0.set 0 (.int .u8 (s % 256))).set 1 (.int .u8 141)).set 7 (.int .u8 1)
  rw [show (((vals (List.replicate 12 0#8)).set 0 (.int .u8 (s % 256))).set 1 (.int .u8 141)).set 7 (.int .u8 1) = vals [b8 s, 0x8d#8, 0#8, 0#8, 0#8, 0#8, 0#8, 1#8, 0#8, 0#8, 0#8, 0#8] by simp [vals, b8_val, List.replicate]] at B3
  have b3 : Below w.heap.size w (((w1.setCell ⟨w.heap.size, 0, none⟩ (.int .u8 (s % 256))).setCell ⟨w.heap.size, 1, none⟩ (.int .u8 141)).setCell ⟨w.heap.size, 7, none⟩ (.int .u8 1)) := ((b0.setCell (Nat.le_refl _) _).setCell (Nat.le_refl _) _).setCell (Nat.le_refl _) _
  have HB : Hid _ := And.intro B3 b3
  clear B0 b0 B3 b3
  have vi : IntKind.i64.wrap ((i : Int) + 1) = ((i + 1 : Nat) : Int) := by rw [IntKind.wrap_i64]; omega
  have HF : Hid (fitsB 2 (BitVec.ofInt 64 ((i + 1 : Nat) : Int)) = true ∧ be 2 (BitVec.ofInt 64 ((i + 1 : Nat) : Int)) = [0#8, b8 ((i + 1 : Nat) : Int)]) := ⟨fits_2 (by omega), be2_lo (i + 1) (by omega)⟩
  generalize hN : ((i + 1 : Nat) : Int) = N at *
  clear hi
  go_enter Try.func41, Try.ntmps41
  go_wp2_with fail
  clear y0 y1 y7 f0 f1 f7 hmk
  generalize ((w1.setCell ⟨w.heap.size, 0, none⟩ (.int .u8 (s % 256))).setCell ⟨w.heap.size, 1, none⟩ (.int .u8 141)).setCell ⟨w.heap.size, 7, none⟩ (.int .u8 1) = w2 at *
  have U : Hid (IntKind.u64.wrap N = ((BitVec.ofInt 64 N).toNat : Int)) := by unfold Hid; rw [← toU64]; simp [IntKind.wrap, IntKind.signed, IntKind.bits]
  have A1 : Hid _ := Put_yes (some ⟨w.heap.size, 0, none⟩) 12 12 [b8 s, 0x8d#8, 0#8, 0#8, 0#8, 0#8, 0#8, 1#8, 0#8, 0#8, 0#8, 0#8] 2 2 (BitVec.ofInt 64 N) w2 rfl (Nat.le_refl _) (bk_row HB.out.1) (fun h => by cases h) (by omega) (by omega) (by omega) (by omega) HF.out.1
  rw [U.out]
  refine (Calls.mono A1.out) ?_
  rintro e w3 ⟨z3, rfl, o3, b3⟩
  obtain ⟨a3, c3, rfl, hle3, -, hr3, hn3, -⟩ := o3.open
  have F3 : Hid _ := below_then HB.out.2 b3
  have A2 : Hid _ := Put_yes a3 12 c3 (over [b8 s, 0x8d#8, 0#8, 0#8, 0#8, 0#8, 0#8, 1#8, 0#8, 0#8, 0#8, 0#8] 2 (be 2 (BitVec.ofInt 64 N))) 10 2 (BitVec.ofInt 64 N) w3 (by rw [HF.out.2]; rfl) (by rw [HF.out.2] at hle3; exact hle3) hr3 hn3 (by omega) (by omega) (by omega) (by omega) HF.out.1
  rw [show (over [b8 s, 0x8d#8, 0#8, 0#8, 0#8, 0#8, 0#8, 1#8, 0#8, 0#8, 0#8, 0#8] 2 (be 2 (BitVec.ofInt 64 N))).length = 12 by rw [HF.out.2]; rfl]
  clear o3 b3 hle3 hr3 hn3 A1 HB
  go_wp2_with fail
  rw [U.out]
  refine (Calls.mono A2.out) ?_
  rintro e w4 ⟨z4, rfl, o4, b4⟩
  rw [HF.out.2] at o4
  have G : Hid _ := And.intro (o4.lower F3.out.size) (below_then F3.out b4)
  clear o4 b4 A2 F3 U
  go_wp2
  go_ret
  refine ⟨z4, rfl, ?_, G.out.2⟩
  have := G.out.1
  unfold ptb
  rw [hN]
  exact this
end Go.Proofs.Ythgiifeifinngaa
