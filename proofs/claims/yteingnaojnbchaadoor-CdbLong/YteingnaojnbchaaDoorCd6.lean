/- cdb: bytes.Equal; a row's command. -/
import Derived.Test.YteingnaojnbchaaDoorCd5
namespace Go.Proofs.YteingnaojnbchaaDoor
open Go.RowKit
set_option linter.unusedVariables false
set_option linter.unusedSimpArgs false
set_option maxRecDepth 4000

set_option maxHeartbeats 400000 in
theorem cEq_any (a b : Option Addr) (ca cb : Nat) (l m : List (BitVec 8)) (w : World) (hr : Row w a l) (hm : Row w b m) :
    Calls Tryd.prog 51 #[.slice a l.length ca, .slice b m.length cb] w fun e w' => e = .returned (.bool (decide (l = m))) ∧ w = w' := by
  have h1 := hr.str l.length ca rfl
  have h2 := hm.str m.length cb rfl
  have H : Hid _ := str_inj l m
  clear hr hm
  go_enter Tryd.func51, Tryd.ntmps51
  go_wp2
  go_ret
  exact ⟨ret_bool H.out, rfl⟩
set_option maxHeartbeats 1000000 in
theorem cCommand_any (o a0 b0 a1 b1 a2 b2 a3 b3 a4 b4 a5 b5 M0 M1 M2 M3 M4 M5 : Int) (w : World) (ho : 0 ≤ o ∧ o < 256) (h0 : 0 ≤ M0 ∧ M0 < 9223372036854775808) (h1 : 0 ≤ M1 ∧ M1 < 9223372036854775808) (h3 : 0 ≤ M3 ∧ M3 < 9223372036854775808) (h5 : 0 ≤ M5 ∧ M5 < 9223372036854775808) :
    Calls Tryd.prog 52 #[.agg #[.int .u8 o, .int .u8 a0, .int .u8 b0, .int .u8 a1, .int .u8 b1, .int .u8 a2, .int .u8 b2, .int .u8 a3, .int .u8 b3, .int .u8 a4, .int .u8 b4, .int .u8 a5, .int .u8 b5], .agg #[.int .u64 M0, .int .u64 M1, .int .u64 M2, .int .u64 M3, .int .u64 M4, .int .u64 M5]] w fun e w' => e = .returned (.agg #[.int .i64 o, .int .i64 M0, .int .i64 M1, .bool (M2 == 1), .int .i64 M3, .int .u64 M4, .int .i64 M5]) ∧ Below w.heap.size w w' := by
  have v9 : IntKind.i64.wrap o = o := by rw [IntKind.wrap_i64]; omega
  have v0 : IntKind.i64.wrap M0 = M0 := by rw [IntKind.wrap_i64]; omega
  have v1 : IntKind.i64.wrap M1 = M1 := by rw [IntKind.wrap_i64]; omega
  have v3 : IntKind.i64.wrap M3 = M3 := by rw [IntKind.wrap_i64]; omega
  have v5 : IntKind.i64.wrap M5 = M5 := by rw [IntKind.wrap_i64]; omega
  clear ho h0 h1 h3 h5
  have B0 := Blk.new' w 81 [.int .u8 o, .int .u8 a0, .int .u8 b0, .int .u8 a1, .int .u8 b1, .int .u8 a2, .int .u8 b2, .int .u8 a3, .int .u8 b3, .int .u8 a4, .int .u8 b4, .int .u8 a5, .int .u8 b5]
  have b0_ : Below w.heap.size w (w.alloc (.cells #[.int .u8 o, .int .u8 a0, .int .u8 b0, .int .u8 a1, .int .u8 b1, .int .u8 a2, .int .u8 b2, .int .u8 a3, .int .u8 b3, .int .u8 a4, .int .u8 b4, .int .u8 a5, .int .u8 b5] 81)) := (Below.refl _ _).alloc (Nat.le_refl _) _
  obtain ⟨w0, hw0⟩ : ∃ w0, w0 = w.alloc (.cells #[.int .u8 o, .int .u8 a0, .int .u8 b0, .int .u8 a1, .int .u8 b1, .int .u8 a2, .int .u8 b2, .int .u8 a3, .int .u8 b3, .int .u8 a4, .int .u8 b4, .int .u8 a5, .int .u8 b5] 81) := ⟨_, rfl⟩
  have z0 : w0.heap.size = w.heap.size + 1 := by rw [hw0]; simp
  rw [← hw0] at B0 b0_
  have B1 := Blk.new' w0 84 [.int .u64 M0, .int .u64 M1, .int .u64 M2, .int .u64 M3, .int .u64 M4, .int .u64 M5]
  have b1_ : Below w0.heap.size w0 (w0.alloc (.cells #[.int .u64 M0, .int .u64 M1, .int .u64 M2, .int .u64 M3, .int .u64 M4, .int .u64 M5] 84)) := (Below.refl _ _).alloc (Nat.le_refl _) _
  obtain ⟨w1, hw1⟩ : ∃ w1, w1 = w0.alloc (.cells #[.int .u64 M0, .int .u64 M1, .int .u64 M2, .int .u64 M3, .int .u64 M4, .int .u64 M5] 84) := ⟨_, rfl⟩
  have z1 : w1.heap.size = w.heap.size + 2 := by rw [hw1]; simp [z0]
  rw [← hw1] at B1 b1_
  rw [z0] at B1
  have B2 := Blk.new' w1 35 [.int .i64 0, .int .i64 0, .int .i64 0, .bool false, .int .i64 0, .int .u64 0, .int .i64 0]
  have b2_ : Below w1.heap.size w1 (w1.alloc (.cells #[.int .i64 0, .int .i64 0, .int .i64 0, .bool false, .int .i64 0, .int .u64 0, .int .i64 0] 35)) := (Below.refl _ _).alloc (Nat.le_refl _) _
  obtain ⟨w2, hw2⟩ : ∃ w2, w2 = w1.alloc (.cells #[.int .i64 0, .int .i64 0, .int .i64 0, .bool false, .int .i64 0, .int .u64 0, .int .i64 0] 35) := ⟨_, rfl⟩
  rw [← hw2] at B2 b2_
  rw [z1] at B2
  have b3_ : Below w.heap.size w w2 := below_then b0_ (below_then b1_ b2_)
  have y0 := ck_at (B0.laterB (below_then b1_ b2_)) 0
  have B1' := B1.laterB b2_
  have x0 := ck_at B1' 0
  have x1 := ck_at B1' 1
  have x2 := ck_at B1' 2
  have x3 := ck_at B1' 3
  have x4 := ck_at B1' 4
  have x5 := ck_at B1' 5
  have z0' := ck_at B2 0
  have z1' := ck_at B2 1
  have z2' := ck_at B2 2
  have z3' := ck_at B2 3
  have z4' := ck_at B2 4
  have z5' := ck_at B2 5
  have z6' := ck_at B2 6
  have f0 := ck_fz B2 0
  have f1 := ck_fz B2 1
  have f2 := ck_fz B2 2
  have f3 := ck_fz B2 3
  have f4 := ck_fz B2 4
  have f5 := ck_fz B2 5
  have f6 := ck_fz B2 6
  simp only [List.getElem?_cons_zero, List.getElem?_cons_succ] at y0 x0 x1 x2 x3 x4 x5 z0' z1' z2' z3' z4' z5' z6'
  have R1 := (((((((B2).set 0 (.int .i64 o)).set 1 (.int .i64 M0)).set 2 (.int .i64 M1)).set 3 (.bool (M2 == 1))).set 4 (.int .i64 M3)).set 5 (.int .u64 M4)).set 6 (.int .i64 M5)
  simp only [List.set_cons_zero, List.set_cons_succ] at R1
  have R2 := (((((((b3_).setCell (p := ⟨w.heap.size + 2, 0, none⟩) (show w.heap.size ≤ w.heap.size + 2 by omega) (.int .i64 o)).setCell (p := ⟨w.heap.size + 2, 1, none⟩) (show w.heap.size ≤ w.heap.size + 2 by omega) (.int .i64 M0)).setCell (p := ⟨w.heap.size + 2, 2, none⟩) (show w.heap.size ≤ w.heap.size + 2 by omega) (.int .i64 M1)).setCell (p := ⟨w.heap.size + 2, 3, none⟩) (show w.heap.size ≤ w.heap.size + 2 by omega) (.bool (M2 == 1))).setCell (p := ⟨w.heap.size + 2, 4, none⟩) (show w.heap.size ≤ w.heap.size + 2 by omega) (.int .i64 M3)).setCell (p := ⟨w.heap.size + 2, 5, none⟩) (show w.heap.size ≤ w.heap.size + 2 by omega) (.int .u64 M4)).setCell (p := ⟨w.heap.size + 2, 6, none⟩) (show w.heap.size ≤ w.heap.size + 2 by omega) (.int .i64 M5)
  have G : Hid _ := And.intro R1 R2
  clear R1 R2 B0 b0_ B1 b1_ B2 b2_ b3_ z0 z1 B1'
  go_enter Tryd.func52, Tryd.ntmps52
  go_upto_region 1 with fail
  rw [← hw0, ← hw1, ← hw2]
  clear hw0 hw1 hw2
  go_wp2
  clear y0 x0 x1 x2 x3 x4 x5 z0' f0 z1' f1 z2' f2 z3' f3 z4' f4 z5' f5 z6' f6
  generalize (((((((w2).setCell ⟨w.heap.size + 2, 0, none⟩ (.int .i64 o)).setCell ⟨w.heap.size + 2, 1, none⟩ (.int .i64 M0)).setCell ⟨w.heap.size + 2, 2, none⟩ (.int .i64 M1)).setCell ⟨w.heap.size + 2, 3, none⟩ (.bool (M2 == 1))).setCell ⟨w.heap.size + 2, 4, none⟩ (.int .i64 M3)).setCell ⟨w.heap.size + 2, 5, none⟩ (.int .u64 M4)).setCell ⟨w.heap.size + 2, 6, none⟩ (.int .i64 M5) = wf at *
  have r0 := ck_at G.out.1 0
  have r1 := ck_at G.out.1 1
  have r2 := ck_at G.out.1 2
  have r3 := ck_at G.out.1 3
  have r4 := ck_at G.out.1 4
  have r5 := ck_at G.out.1 5
  have r6 := ck_at G.out.1 6
  simp only [List.getElem?_cons_zero, List.getElem?_cons_succ] at r0 r1 r2 r3 r4 r5 r6
  refine bodyPost_ret (v := .agg #[.int .i64 o, .int .i64 M0, .int .i64 M1, .bool (M2 == 1), .int .i64 M3, .int .u64 M4, .int .i64 M5]) (by simp [results, Tryd.results52, go_sem, r0, r1, r2, r3, r4, r5, r6]) rfl ?_
  exact ⟨rfl, G.out.2⟩
end Go.Proofs.YteingnaojnbchaaDoor
