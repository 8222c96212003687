/- cdb: known. -/
import Derived.Test.YteingnaojnbchaaDoorCd7
namespace Go.Proofs.YteingnaojnbchaaDoor
open Go.RowKit
set_option linter.unusedVariables false
set_option linter.unusedSimpArgs false
set_option maxRecDepth 4000

theorem ck_row {w : World} {g : Nat} {t : TypeId} {l : List (BitVec 8)} (h : Blk w g t (vals l)) : Row w (some ⟨g, 0, none⟩) l := by
  refine .inr ⟨g, 0, rfl, fun i hi => ?_⟩
  rw [Nat.zero_add, ck_at h i, vals_at l i hi]
theorem pa_1 : paR [40#8, 0#8, 0#8, 0#8, 0#8, 5#8, 0#8, 0#8, 2#8, 0#8, 0#8, 0#8, 0#8, 0#8, 0#8, 0#8] = ([.int .i64 40, .int .i64 0, .int .i64 0, .bool false, .int .i64 0, .int .u64 5, .int .i64 2], 0) := by kernel_rfl
theorem pa_2 : paR [40#8, 1#8, 0#8, 0#8, 0#8, 5#8, 0#8, 0#8, 2#8, 0#8, 0#8, 0#8, 0#8, 0#8, 0#8, 0#8] = ([.int .i64 0, .int .i64 0, .int .i64 0, .bool false, .int .i64 0, .int .u64 0, .int .i64 0], 11) := by kernel_rfl
set_option maxHeartbeats 400000 in
theorem times_1 (w : World) : Calls Tryd.prog 53 #[.int .i64 2, .int .i64 64] w fun e w' => e = .returned (.int .i64 128) ∧ w = w' := by
  go_enter Tryd.func53, Tryd.ntmps53
  go_wp2
  go_ret
  exact ⟨rfl, rfl⟩
set_option maxHeartbeats 400000 in
theorem in_1 (w : World) : Calls Tryd.prog 18 #[.agg #[.int .i64 40, .int .i64 0, .int .i64 0, .bool false, .int .i64 0, .int .u64 5, .int .i64 2]] w fun e w' => e = .returned (.int .i64 128) ∧ Below w.heap.size w w' := by
  have b1 : Below w.heap.size w (w.alloc (.cells #[.int .i64 40, .int .i64 0, .int .i64 0, .bool false, .int .i64 0, .int .u64 5, .int .i64 2] 35)) := (Below.refl _ _).alloc (Nat.le_refl _) _
  have B1 := Blk.new' w 35 [.int .i64 40, .int .i64 0, .int .i64 0, .bool false, .int .i64 0, .int .u64 5, .int .i64 2]
  have k0 := ck_at B1 0
  have k6 := ck_at B1 6
  simp only [List.getElem?_cons_zero, List.getElem?_cons_succ] at k0 k6
  have H1 : Hid _ := b1
  clear b1 B1
  go_enter Tryd.func18, Tryd.ntmps18
  go_wp2_with fail
  refine (Calls.mono (times_1 _)) ?_
  rintro e _ ⟨rfl, rfl⟩
  clear k0 k6
  go_wp2
  go_ret
  exact ⟨rfl, H1.out⟩
set_option maxHeartbeats 1000000 in
theorem known15_any (w : World) (hT : TblAt w) : Calls Tryd.prog 15 #[] w fun e w' => e = .returned (.bool true) ∧ Below w.heap.size w w' := by
  have BA := Blk.new' w 5 [.int .u8 40, .int .u8 0, .int .u8 0, .int .u8 0, .int .u8 0, .int .u8 5, .int .u8 0, .int .u8 0, .int .u8 2, .int .u8 0, .int .u8 0, .int .u8 0, .int .u8 0, .int .u8 0, .int .u8 0, .int .u8 0]
  have ba_ : Below w.heap.size w (w.alloc (.cells #[.int .u8 40, .int .u8 0, .int .u8 0, .int .u8 0, .int .u8 0, .int .u8 5, .int .u8 0, .int .u8 0, .int .u8 2, .int .u8 0, .int .u8 0, .int .u8 0, .int .u8 0, .int .u8 0, .int .u8 0, .int .u8 0] 5)) := (Below.refl _ _).alloc (Nat.le_refl _) _
  obtain ⟨w1, hw1⟩ : ∃ w1, w1 = w.alloc (.cells #[.int .u8 40, .int .u8 0, .int .u8 0, .int .u8 0, .int .u8 0, .int .u8 5, .int .u8 0, .int .u8 0, .int .u8 2, .int .u8 0, .int .u8 0, .int .u8 0, .int .u8 0, .int .u8 0, .int .u8 0, .int .u8 0] 5) := ⟨_, rfl⟩
  rw [← hw1] at BA ba_
  have HP0 := cParse_any (some ⟨w.heap.size, 0, none⟩) 16 [40#8, 0#8, 0#8, 0#8, 0#8, 5#8, 0#8, 0#8, 2#8, 0#8, 0#8, 0#8, 0#8, 0#8, 0#8, 0#8] w1 (hT.later ba_) (ck_row (l := [40#8, 0#8, 0#8, 0#8, 0#8, 5#8, 0#8, 0#8, 2#8, 0#8, 0#8, 0#8, 0#8, 0#8, 0#8, 0#8]) BA) (by decide)
  rw [pa_1] at HP0
  have HP : Hid _ := HP0
  have H1 : Hid _ := And.intro BA ba_
  have HT : Hid _ := hT
  clear HP0 BA ba_ hT
  go_enter Tryd.func15, Tryd.ntmps15
  go_upto_region 2 with fail
  rw [← hw1]
  clear hw1
  go_wp2_with fail
  refine (Calls.mono HP.out) ?_
  rintro e w2 ⟨rfl, b2_⟩
  have H2 : Hid _ := And.intro (H1.out.1.laterB b2_) (below_then H1.out.2 b2_)
  clear b2_ H1 HP
  have B3 := Blk.new' w2 35 [.int .i64 40, .int .i64 0, .int .i64 0, .bool false, .int .i64 0, .int .u64 5, .int .i64 2]
  have b3_ : Below w2.heap.size w2 (w2.alloc (.cells #[.int .i64 40, .int .i64 0, .int .i64 0, .bool false, .int .i64 0, .int .u64 5, .int .i64 2] 35)) := (Below.refl _ _).alloc (Nat.le_refl _) _
  obtain ⟨w3, hw3⟩ : ∃ w3, w3 = w2.alloc (.cells #[.int .i64 40, .int .i64 0, .int .i64 0, .bool false, .int .i64 0, .int .u64 5, .int .i64 2] 35) := ⟨_, rfl⟩
  rw [← hw3] at B3 b3_
  have BA3 := H2.out.1.laterB b3_
  have y1 := ck_at BA3 1
  have f1 := ck_fz BA3 1
  simp only [List.getElem?_cons_zero, List.getElem?_cons_succ] at y1
  have hne : w.heap.size ≠ w2.heap.size := by have := H2.out.1.lt; omega
  have BA4 := BA3.set 1 (.int .u8 1)
  simp only [List.set_cons_zero, List.set_cons_succ] at BA4
  have B4 := B3.grown (grown_set w3 w.heap.size 1 (.int .u8 1)) (by simpa using Ne.symm hne)
  have b4_ := (below_then H2.out.2 b3_).setCell (p := ⟨w.heap.size, 1, none⟩) (Nat.le_refl _) (.int .u8 1)
  obtain ⟨w4, hw4⟩ : ∃ w4, w4 = w3.setCell ⟨w.heap.size, 1, none⟩ (.int .u8 1) := ⟨_, rfl⟩
  rw [← hw4] at BA4 B4 b4_
  have HP0 := cParse_any (some ⟨w.heap.size, 0, none⟩) 16 [40#8, 1#8, 0#8, 0#8, 0#8, 5#8, 0#8, 0#8, 2#8, 0#8, 0#8, 0#8, 0#8, 0#8, 0#8, 0#8] w4 (TblAt.later HT.out b4_) (ck_row (l := [40#8, 1#8, 0#8, 0#8, 0#8, 5#8, 0#8, 0#8, 2#8, 0#8, 0#8, 0#8, 0#8, 0#8, 0#8, 0#8]) BA4) (by decide)
  rw [pa_2] at HP0
  have HP : Hid _ := HP0
  obtain ⟨cb, hcb⟩ : ∃ g, g = w2.heap.size := ⟨_, rfl⟩
  rw [← hcb] at B4
  have H4 : Hid _ := And.intro B4 b4_
  clear HP0 BA3 BA4 B4 b4_ B3 b3_ hne H2 HT
  go_upto_region 3 with fail
  rw [← hw3, ← hcb]
  clear hw3 hcb
  go_upto_region 4 with fail
  rw [← hw4]
  clear hw4 y1 f1
  go_wp2_with fail
  refine (Calls.mono HP.out) ?_
  rintro e w5 ⟨rfl, b5_⟩
  have B5 := H4.out.1.laterB b5_
  have b6_ : Below w5.heap.size w5 (w5.alloc (.cells #[.int .i64 0, .int .i64 0, .int .i64 0, .bool false, .int .i64 0, .int .u64 0, .int .i64 0] 35)) := (Below.refl _ _).alloc (Nat.le_refl _) _
  have B6 := B5.laterB b6_
  have F6 : Hid _ := below_then (below_then H4.out.2 b5_) b6_
  obtain ⟨w6, hw6⟩ : ∃ w6, w6 = w5.alloc (.cells #[.int .i64 0, .int .i64 0, .int .i64 0, .bool false, .int .i64 0, .int .u64 0, .int .i64 0] 35) := ⟨_, rfl⟩
  rw [← hw6] at B6 F6
  have k0 := ck_at B6 0
  have k1 := ck_at B6 1
  have k2 := ck_at B6 2
  have k3 := ck_at B6 3
  have k4 := ck_at B6 4
  have k5 := ck_at B6 5
  have k6 := ck_at B6 6
  simp only [List.getElem?_cons_zero, List.getElem?_cons_succ] at k0 k1 k2 k3 k4 k5 k6
  clear B5 b5_ b6_ B6 H4 HP
  go_upto_region 5 with fail
  rw [← hw6]
  clear hw6
  go_wp2_with fail
  refine (Calls.mono (in_1 w6)) ?_
  rintro e w7 ⟨rfl, b7_⟩
  have F : Hid _ := below_then F6.out b7_
  clear b7_ F6 k0 k1 k2 k3 k4 k5 k6
  go_wp2
  go_ret
  exact ⟨rfl, F.out⟩
end Go.Proofs.YteingnaojnbchaaDoor
