/- sense: isFrom; Data, the program's and the document's. -/
import Derived.Test.YtncplnejoppekaaDoorFieldX2
import Derived.Test.YtncplnejoppekaaDoorFieldRef
import Derived.Test.YtncplnejoppekaaDoorDraw
import Derived.Test.YtncplnejoppekaaDoorDkW1
import Derived.Test.YtncplnejoppekaaDoorDrawE
import Derived.Deep.CutRange
import Derived.Deep.QuietTactic
import Derived.BigQuiet
namespace Go.Proofs.YtncplnejoppekaaDoor
open Go.RowKit
set_option linter.unusedVariables false
set_option linter.unusedSimpArgs false
set_option maxRecDepth 4000

theorem bk_at {w : World} {g : Nat} {t : TypeId} {xs : List Value} (h : Blk w g t xs) (i : Nat) : w.cell? ⟨g, i, none⟩ = xs[i]? := by
  unfold Blk at h; simp [World.cell?, h]
theorem bk_fz {w : World} {g : Nat} {t : TypeId} {xs : List Value} (h : Blk w g t xs) (i : Nat) : w.frozen? ⟨g, i, none⟩ = false := by
  unfold Blk at h; simp [World.frozen?, h]
def fromB (l n m : Int) : Bool := decide (l ≤ n ∧ n ≤ m)
set_option maxHeartbeats 400000 in
theorem isFrom_any (l n m : Int) (w : World) :
    Calls Tryd.prog 8 #[.int .i64 l, .int .i64 n, .int .i64 m] w fun e w' => e = .returned (.bool (fromB l n m)) ∧ w = w' := by
  by_cases h : l ≤ n
  · have H : Hid (decide (n ≤ m) = fromB l n m) := by show decide _ = decide _; simp [h]
    go_enter Tryd.func8, Tryd.ntmps8
    go_wp2
    go_ret
    exact ⟨ret_bool H.out, rfl⟩
  · have H : Hid (false = fromB l n m) := by show false = decide _; simp [h]
    go_enter Tryd.func8, Tryd.ntmps8
    go_wp2
    go_ret
    exact ⟨ret_bool H.out, rfl⟩
/-- Data's error and bytes -/
def dtE (k a q : Int) : Int := if fromB 0 k 15 = true ∧ fromB 0 a 255 = true ∧ fromB 0 q 255 = true then 0 else 1
def b8 (n : Int) : BitVec 8 := BitVec.ofInt 8 n
def senB (k a q : Int) : List (BitVec 8) := [0x70#8, 0#8, b8 k, 0#8, 0#8, 0#8, 0#8, 10#8, 0#8, 0#8, 0#8, 0#8, b8 a, b8 q, 0#8, 0#8, 0#8, 0#8]
def dtB (k a q : Int) : List (BitVec 8) := if dtE k a q = 0 then senB k a q else []
theorem b8_val (n : Int) : ((b8 n).toNat : Int) = n % 256 := by
  unfold b8
  rw [BitVec.toNat_ofInt]
  have := Int.emod_nonneg n (show (256 : Int) ≠ 0 by decide)
  simp
  omega
/-- the box and the bytes while Data fills them -/
structure SD (w W : World) (box cur : List Value) : Prop where
  below : Below w.heap.size w W
  bx : Blk W w.heap.size 36 box
  buf : Blk W (w.heap.size + 1) 5 cur
theorem SD.set {w W : World} {box cur : List Value} (h : SD w W box cur) (i : Nat) (u : Value) : SD w (W.setCell ⟨w.heap.size + 1, i, none⟩ u) box (cur.set i u) :=
  ⟨h.below.setCell (by show w.heap.size ≤ w.heap.size + 1; omega) u, h.bx.grown (grown_set _ _ _ _) (by simp), h.buf.set i u⟩
theorem SD.later {w W W' : World} {box cur : List Value} (h : SD w W box cur) (b : Below W.heap.size W W') : SD w W' box cur := ⟨below_then h.below b, h.bx.laterB b, h.buf.laterB b⟩
theorem seMake (N : Nat) (hN : N ≤ 140737488355328) (u : World) : (Instr.makeSlice 22 (.int .i64 (N : Int)) (.int .i64 (N : Int))).run Tryd.prog u = .ok (.slice (some ⟨u.heap.size, 0, none⟩) N N) (u.alloc (.cells (vals (List.replicate N 0#8)).toArray 5)) := by
  obtain ⟨i0, hi, hz0, hz1, hz2⟩ := info_u8'
  have h := run_make (P := Tryd.prog) u 22 5 i0 (.int .u8 0) Tryd.underlying22 hi hz0 .i64 .i64 N N (by omega) (by omega) (by rw [hz2]; omega) (by omega)
  rw [hz1] at h
  have e : (madeCells #[Value.int .u8 0] N) = (vals (List.replicate N 0#8)).toArray := by
    have e2 : vals (List.replicate N 0#8) = List.replicate N (Value.int .u8 0) := by simp [vals]
    rw [e2]
    apply Array.ext
    · simp [madeCells]
    · intro i h1 h2; simp [madeCells, Nat.mod_one]
  rw [← e]
  simpa [Value.cells] using h
theorem sen_cur (k a q : Int) : (((((vals (List.replicate 18 0#8)).set 0 (.int .u8 112)).set 2 (.int .u8 (k % 256))).set 7 (.int .u8 10)).set 12 (.int .u8 (a % 256))).set 13 (.int .u8 (q % 256)) = vals (senB k a q) := by
  simp [vals, senB, b8_val, List.replicate]
set_option maxHeartbeats 1000000 in
theorem data_no1 (s k a q : Int) (d : Value) (w : World) (h1 : fromB 0 k 15 = false) :
    Calls Tryd.prog 11 #[.agg #[.int .i64 s, .int .i64 k, .int .i64 a, .int .i64 q, d]] w fun e w' => e = .returned (.tuple #[.slice none 0 0, .int .i64 1]) ∧ Below w.heap.size w w' := by
  have b1 : Below w.heap.size w (w.alloc (.cells #[.int .i64 s, .int .i64 k, .int .i64 a, .int .i64 q, d] 36)) := (Below.refl _ _).alloc (Nat.le_refl _) _
  have B1 := Blk.new' w 36 [.int .i64 s, .int .i64 k, .int .i64 a, .int .i64 q, d]
  have k1 := bk_at B1 1
  have k2 := bk_at B1 2
  have k3 := bk_at B1 3
  simp only [List.getElem?_cons_zero, List.getElem?_cons_succ] at k1 k2 k3
  have H1 : Hid _ := And.intro b1 B1
  clear b1 B1
  go_enter Tryd.func11, Tryd.ntmps11
  go_wp2_with fail
  refine (Calls.mono (isFrom_any _ _ _ _)) ?_
  rintro e _ ⟨rfl, rfl⟩
  rw [h1]
  go_wp2
  go_ret2
  exact ⟨rfl, H1.out.1⟩
set_option maxHeartbeats 1000000 in
theorem data_no2 (s k a q : Int) (d : Value) (w : World) (h1 : fromB 0 k 15 = true) (h2 : fromB 0 a 255 = false) :
    Calls Tryd.prog 11 #[.agg #[.int .i64 s, .int .i64 k, .int .i64 a, .int .i64 q, d]] w fun e w' => e = .returned (.tuple #[.slice none 0 0, .int .i64 1]) ∧ Below w.heap.size w w' := by
  have b1 : Below w.heap.size w (w.alloc (.cells #[.int .i64 s, .int .i64 k, .int .i64 a, .int .i64 q, d] 36)) := (Below.refl _ _).alloc (Nat.le_refl _) _
  have B1 := Blk.new' w 36 [.int .i64 s, .int .i64 k, .int .i64 a, .int .i64 q, d]
  have k1 := bk_at B1 1
  have k2 := bk_at B1 2
  have k3 := bk_at B1 3
  simp only [List.getElem?_cons_zero, List.getElem?_cons_succ] at k1 k2 k3
  have H1 : Hid _ := And.intro b1 B1
  clear b1 B1
  go_enter Tryd.func11, Tryd.ntmps11
  go_wp2_with fail
  refine (Calls.mono (isFrom_any _ _ _ _)) ?_
  rintro e _ ⟨rfl, rfl⟩
  rw [h1]
  go_wp2_with fail
  refine (Calls.mono (isFrom_any _ _ _ _)) ?_
  rintro e _ ⟨rfl, rfl⟩
  rw [h2]
  go_wp2
  go_ret2
  exact ⟨rfl, H1.out.1⟩
set_option maxHeartbeats 1000000 in
theorem data_no3 (s k a q : Int) (d : Value) (w : World) (h1 : fromB 0 k 15 = true) (h2 : fromB 0 a 255 = true) (h3 : fromB 0 q 255 = false) :
    Calls Tryd.prog 11 #[.agg #[.int .i64 s, .int .i64 k, .int .i64 a, .int .i64 q, d]] w fun e w' => e = .returned (.tuple #[.slice none 0 0, .int .i64 1]) ∧ Below w.heap.size w w' := by
  have b1 : Below w.heap.size w (w.alloc (.cells #[.int .i64 s, .int .i64 k, .int .i64 a, .int .i64 q, d] 36)) := (Below.refl _ _).alloc (Nat.le_refl _) _
  have B1 := Blk.new' w 36 [.int .i64 s, .int .i64 k, .int .i64 a, .int .i64 q, d]
  have k1 := bk_at B1 1
  have k2 := bk_at B1 2
  have k3 := bk_at B1 3
  simp only [List.getElem?_cons_zero, List.getElem?_cons_succ] at k1 k2 k3
  have H1 : Hid _ := And.intro b1 B1
  clear b1 B1
  go_enter Tryd.func11, Tryd.ntmps11
  go_wp2_with fail
  refine (Calls.mono (isFrom_any _ _ _ _)) ?_
  rintro e _ ⟨rfl, rfl⟩
  rw [h1]
  go_wp2_with fail
  refine (Calls.mono (isFrom_any _ _ _ _)) ?_
  rintro e _ ⟨rfl, rfl⟩
  rw [h2]
  go_wp2_with fail
  refine (Calls.mono (isFrom_any _ _ _ _)) ?_
  rintro e _ ⟨rfl, rfl⟩
  rw [h3]
  go_wp2
  go_ret2
  exact ⟨rfl, H1.out.1⟩
set_option maxHeartbeats 2000000 in
theorem data_yes (s k a q : Int) (d : Value) (w : World) (h1 : fromB 0 k 15 = true) (h2 : fromB 0 a 255 = true) (h3 : fromB 0 q 255 = true) :
    Calls Tryd.prog 11 #[.agg #[.int .i64 s, .int .i64 k, .int .i64 a, .int .i64 q, d]] w fun e w' => ∃ z, e = .returned (.tuple #[z, .int .i64 0]) ∧ Own w' w.heap.size z (senB k a q) ∧ Below w.heap.size w w' := by
  have b1 : Below w.heap.size w (w.alloc (.cells #[.int .i64 s, .int .i64 k, .int .i64 a, .int .i64 q, d] 36)) := (Below.refl _ _).alloc (Nat.le_refl _) _
  have B1 := Blk.new' w 36 [.int .i64 s, .int .i64 k, .int .i64 a, .int .i64 q, d]
  obtain ⟨w1, hw1⟩ : ∃ w1, w1 = w.alloc (.cells #[.int .i64 s, .int .i64 k, .int .i64 a, .int .i64 q, d] 36) := ⟨_, rfl⟩
  have z1 : w1.heap.size = w.heap.size + 1 := by rw [hw1]; simp
  rw [← hw1] at b1 B1
  have b2 : Below w1.heap.size w1 (w1.alloc (.cells (vals (List.replicate 18 0#8)).toArray 5)) := (Below.refl _ _).alloc (Nat.le_refl _) _
  have hmk : (Instr.makeSlice 22 (.int .i64 18) (.int .i64 18)).run Tryd.prog w1 = _ := seMake 18 (by omega) w1
  have B2 := Blk.new' w1 5 (vals (List.replicate 18 0#8))
  obtain ⟨w2, hw2⟩ : ∃ w2, w2 = w1.alloc (.cells (vals (List.replicate 18 0#8)).toArray 5) := ⟨_, rfl⟩
  rw [← hw2] at b2 B2 hmk
  rw [z1] at B2 hmk
  have k1 := bk_at B1 1
  have k2 := bk_at B1 2
  have k3 := bk_at B1 3
  have m1 := bk_at (B1.laterB b2) 1
  have m2 := bk_at (B1.laterB b2) 2
  have m3 := bk_at (B1.laterB b2) 3
  have y0 := bk_at B2 0
  have f0 := bk_fz B2 0
  have y2 := bk_at B2 2
  have f2 := bk_fz B2 2
  have y7 := bk_at B2 7
  have f7 := bk_fz B2 7
  have y12 := bk_at B2 12
  have f12 := bk_fz B2 12
  have y13 := bk_at B2 13
  have f13 := bk_fz B2 13
  simp only [vals, List.replicate, List.map_cons, List.map_nil, List.getElem?_cons_zero, List.getElem?_cons_succ] at k1 k2 k3 m1 m2 m3 y0 y2 y7 y12 y13
  have H : Hid (SD w w2 [.int .i64 s, .int .i64 k, .int .i64 a, .int .i64 q, d] (vals (List.replicate 18 0#8))) := ⟨below_then b1 b2, B1.laterB b2, B2⟩
  clear b1 B1 b2 B2 z1 hw2
  go_enter Tryd.func11, Tryd.ntmps11
  go_upto_region 1 with fail
  rw [← hw1]
  clear hw1
  go_wp2_with fail
  refine (Calls.mono (isFrom_any _ _ _ _)) ?_
  rintro e _ ⟨rfl, rfl⟩
  rw [h1]
  go_wp2_with fail
  refine (Calls.mono (isFrom_any _ _ _ _)) ?_
  rintro e _ ⟨rfl, rfl⟩
  rw [h2]
  go_wp2_with fail
  refine (Calls.mono (isFrom_any _ _ _ _)) ?_
  rintro e _ ⟨rfl, rfl⟩
  rw [h3]
  go_wp2_with fail
  have G := (((((H.out.set 0 (.int .u8 112)).set 2 (.int .u8 (k % 256))).set 7 (.int .u8 10)).set 12 (.int .u8 (a % 256))).set 13 (.int .u8 (q % 256)))
  rw [sen_cur] at G
  have HG : Hid _ := G
  clear G H
  go_ret2
  exact ⟨_, rfl, Own.ofBlock (by omega) HG.out.buf (by simp [senB]) (by simp [maxLen]) (by simp [vals, senB]) (by simp [vals, senB]), HG.out.below⟩







end Go.Proofs.YtncplnejoppekaaDoor
