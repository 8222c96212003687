/- text: takes and agree at the pairs that known() hands in. -/
import Derived.Test.YtligmiajlbjecaaDoorXTx6
import Derived.Deep.CutRange
import Derived.Deep.QuietTactic
import Derived.BigQuiet
namespace Go.Proofs.YtligmiajlbjecaaDoor
open Go.RowKit
set_option linter.unusedVariables false
set_option linter.unusedSimpArgs false
set_option maxRecDepth 8000

theorem nu_1 : nuR (⟨#[67, 82, 67, 51, 50, 67, 44, 78, 111, 110, 101]⟩ : ByteArray).data.toList = (0, 11) := by decide
theorem nu_2 : nuR (⟨#[49, 48, 48, 48]⟩ : ByteArray).data.toList = (1000, 0) := by decide
theorem dg_1000 : (⟨(dgT 1000).toArray⟩ : ByteArray) = ⟨#[49, 48, 48, 48]⟩ := by
  have h : Lib.decDigits 1000 = [49, 48, 48, 48] := by rw [dd_big (by omega), dd_big (by omega), dd_big (by omega), dd_small (by omega)]; rfl
  unfold dgT
  rw [if_pos (by omega), show (1000 : Int).toNat = 1000 from rfl, h]
set_option maxHeartbeats 4000000 in
theorem tTakes_1 (w : World) : Calls Tryd.prog 37 #[.agg #[.int .i64 2, .int .i64 0, .int .i64 0, .string ⟨#[]⟩], .string ⟨#[67, 82, 67, 51, 50, 67, 44, 78, 111, 110, 101]⟩] w fun e w' => e = .returned (.bool true) ∧ Below w.heap.size w w' := by
  have N1 := Blk.new' w 65 [.int .i64 2, .int .i64 0, .int .i64 0, .string ⟨#[]⟩]
  have bn1 : Below w.heap.size w (w.alloc (.cells #[.int .i64 2, .int .i64 0, .int .i64 0, .string ⟨#[]⟩] 65)) := (Below.refl _ _).alloc (Nat.le_refl _) _
  obtain ⟨w1, hw1⟩ : ∃ w1, w1 = w.alloc (.cells #[.int .i64 2, .int .i64 0, .int .i64 0, .string ⟨#[]⟩] 65) := ⟨_, rfl⟩
  rw [← hw1] at N1 bn1
  have y0 := ck_at N1 0
  have y1 := ck_at N1 1
  have y2 := ck_at N1 2
  have y3 := ck_at N1 3
  simp only [List.getElem?_cons_zero, List.getElem?_cons_succ] at y0 y1 y2 y3
  have F : Hid _ := And.intro bn1 N1
  clear bn1 N1
  go_enter Tryd.func37, Tryd.ntmps37
  go_upto_region 1 with fail
  rw [← hw1]
  clear hw1
  go_wp2
  go_ret
  exact ⟨rfl, F.out.1⟩
set_option maxHeartbeats 4000000 in
theorem tTakes_2 (w : World) : Calls Tryd.prog 37 #[.agg #[.int .i64 5, .int .i64 512, .int .i64 16777215, .string ⟨#[]⟩], .string ⟨#[49, 48, 48, 48]⟩] w fun e w' => e = .returned (.bool true) ∧ Below w.heap.size w w' := by
  have N1 := Blk.new' w 65 [.int .i64 5, .int .i64 512, .int .i64 16777215, .string ⟨#[]⟩]
  have bn1 : Below w.heap.size w (w.alloc (.cells #[.int .i64 5, .int .i64 512, .int .i64 16777215, .string ⟨#[]⟩] 65)) := (Below.refl _ _).alloc (Nat.le_refl _) _
  obtain ⟨w1, hw1⟩ : ∃ w1, w1 = w.alloc (.cells #[.int .i64 5, .int .i64 512, .int .i64 16777215, .string ⟨#[]⟩] 65) := ⟨_, rfl⟩
  rw [← hw1] at N1 bn1
  have y0 := ck_at N1 0
  have y1 := ck_at N1 1
  have y2 := ck_at N1 2
  have y3 := ck_at N1 3
  simp only [List.getElem?_cons_zero, List.getElem?_cons_succ] at y0 y1 y2 y3
  have HN0 := tNumber_any ⟨#[49, 48, 48, 48]⟩ w1
  rw [nu_2] at HN0
  have HN : Hid _ := HN0
  clear HN0
  have F : Hid _ := And.intro bn1 N1
  clear bn1 N1
  go_enter Tryd.func37, Tryd.ntmps37
  go_upto_region 1 with fail
  rw [← hw1]
  clear hw1
  go_wp2_with fail
  refine (Calls.mono HN.out) ?_
  rintro e w2 ⟨rfl, b2⟩
  clear HN y0 y1 y2 y3
  have B2 := F.out.2.laterB b2
  have y0 := ck_at B2 0
  have y1 := ck_at B2 1
  have y2 := ck_at B2 2
  have y3 := ck_at B2 3
  simp only [List.getElem?_cons_zero, List.getElem?_cons_succ] at y0 y1 y2 y3
  have F2 : Hid _ := below_then F.out.1 b2
  clear b2 B2 F
  go_wp2
  go_ret
  exact ⟨rfl, F2.out⟩
set_option maxHeartbeats 8000000 in
theorem tAgree_1 (g : Nat) (w : World) (hB : Blk w g 50 [.bool false, .bool false, .int .i64 8192, .int .i64 8192, .int .i64 262144, .int .i64 65536, .bool true, .bool true, .bool false, .string ⟨#[]⟩, .string ⟨#[]⟩]) : Calls Tryd.prog 38 #[.pointer (some ⟨g, 0, none⟩), .agg #[.int .i64 2, .int .i64 0, .int .i64 0, .string ⟨#[]⟩], .agg #[.string ⟨#[72, 101, 97, 100, 101, 114, 68, 105, 103, 101, 115, 116]⟩, .string ⟨#[67, 82, 67, 51, 50, 67, 44, 78, 111, 110, 101]⟩]] w fun e w' => e = .returned (.tuple #[.string ⟨#[67, 82, 67, 51, 50, 67]⟩, .bool true]) ∧ Turned (fun k => k = g) w w' ∧ Blk w' g 50 [.bool true, .bool false, .int .i64 8192, .int .i64 8192, .int .i64 262144, .int .i64 65536, .bool true, .bool true, .bool false, .string ⟨#[]⟩, .string ⟨#[]⟩] := by
  have N1 := Blk.new' w 65 [.int .i64 2, .int .i64 0, .int .i64 0, .string ⟨#[]⟩]
  have bn1 : Below w.heap.size w (w.alloc (.cells #[.int .i64 2, .int .i64 0, .int .i64 0, .string ⟨#[]⟩] 65)) := (Below.refl _ _).alloc (Nat.le_refl _) _
  obtain ⟨w1, hw1⟩ : ∃ w1, w1 = w.alloc (.cells #[.int .i64 2, .int .i64 0, .int .i64 0, .string ⟨#[]⟩] 65) := ⟨_, rfl⟩
  rw [← hw1] at N1 bn1
  have N2 := Blk.new' w1 59 [.string ⟨#[72, 101, 97, 100, 101, 114, 68, 105, 103, 101, 115, 116]⟩, .string ⟨#[67, 82, 67, 51, 50, 67, 44, 78, 111, 110, 101]⟩]
  have bn2 : Below w1.heap.size w1 (w1.alloc (.cells #[.string ⟨#[72, 101, 97, 100, 101, 114, 68, 105, 103, 101, 115, 116]⟩, .string ⟨#[67, 82, 67, 51, 50, 67, 44, 78, 111, 110, 101]⟩] 59)) := (Below.refl _ _).alloc (Nat.le_refl _) _
  obtain ⟨w2, hw2⟩ : ∃ w2, w2 = w1.alloc (.cells #[.string ⟨#[72, 101, 97, 100, 101, 114, 68, 105, 103, 101, 115, 116]⟩, .string ⟨#[67, 82, 67, 51, 50, 67, 44, 78, 111, 110, 101]⟩] 59) := ⟨_, rfl⟩
  rw [← hw2] at N2 bn2
  obtain ⟨rb, hrb⟩ : ∃ g, g = w.heap.size := ⟨_, rfl⟩
  have hz1 : w1.heap.size = w.heap.size + 1 := by rw [hw1]; simp
  obtain ⟨pb, hpb⟩ : ∃ g, g = w.heap.size + 1 := ⟨_, rfl⟩
  rw [hz1, ← hpb] at N2
  clear hz1
  have y0 := ck_at N2 0
  have y1 := ck_at N2 1
  simp only [List.getElem?_cons_zero, List.getElem?_cons_succ] at y0 y1
  have HN0 := tNumber_any ⟨#[67, 82, 67, 51, 50, 67, 44, 78, 111, 110, 101]⟩ w2
  rw [nu_1] at HN0
  have HN : Hid _ := HN0
  clear HN0
  have H2 : Hid _ := And.intro (below_then bn1 bn2) (And.intro N2 hB)
  clear bn1 bn2 N1 N2 hB
  go_enter Tryd.func38, Tryd.ntmps38
  go_upto_region 1 with fail
  rw [← hw1, ← hw2, ← hpb, ← hrb]
  clear hw1 hw2 hrb hpb
  go_wp2_with fail
  refine (Calls.mono HN.out) ?_
  rintro e w3 ⟨rfl, b3⟩
  clear HN y0 y1
  have P3 := H2.out.2.1.laterB b3
  have B3 := H2.out.2.2.laterB (below_then H2.out.1 b3)
  have y0 := ck_at P3 0
  have y1 := ck_at P3 1
  simp only [List.getElem?_cons_zero, List.getElem?_cons_succ] at y0 y1
  have HD : Hid _ := tDigest g _ w3 B3 ⟨_, _, rfl⟩
  have F3 : Hid _ := below_then H2.out.1 b3
  clear P3 B3 b3 H2
  go_wp2_with fail
  refine (Calls.mono HD.out) ?_
  rintro e w4 ⟨rfl, t4, B4⟩
  have F4 : Hid _ := And.intro ((turned_below F3.out).mono (fun k h => h.elim) |>.trans (t4.mono (fun k h => .inl h))) B4
  clear HD t4 B4 F3 y0 y1
  go_wp2
  refine bodyPost_ret (v := .tuple #[.string ⟨#[67, 82, 67, 51, 50, 67]⟩, .bool true]) (by first | rfl | simp [results, Tryd.results38, go_sem]) rfl ?_
  exact ⟨rfl, F4.out.1, F4.out.2⟩
set_option maxHeartbeats 8000000 in
theorem tAgree_2 (g : Nat) (w : World) (hB : Blk w g 50 [.bool true, .bool false, .int .i64 8192, .int .i64 8192, .int .i64 262144, .int .i64 65536, .bool true, .bool true, .bool false, .string ⟨#[]⟩, .string ⟨#[]⟩]) (hP : ∀ X, Turned (fun k => k = g) w X → PowT X) : Calls Tryd.prog 38 #[.pointer (some ⟨g, 0, none⟩), .agg #[.int .i64 5, .int .i64 512, .int .i64 16777215, .string ⟨#[]⟩], .agg #[.string ⟨#[77, 97, 120, 66, 117, 114, 115, 116, 76, 101, 110, 103, 116, 104]⟩, .string ⟨#[49, 48, 48, 48]⟩]] w fun e w' => e = .returned (.tuple #[.string ⟨#[49, 48, 48, 48]⟩, .bool true]) ∧ Turned (fun k => k = g) w w' ∧ Blk w' g 50 [.bool true, .bool false, .int .i64 8192, .int .i64 8192, .int .i64 1000, .int .i64 65536, .bool true, .bool true, .bool false, .string ⟨#[]⟩, .string ⟨#[]⟩] := by
  have N1 := Blk.new' w 65 [.int .i64 5, .int .i64 512, .int .i64 16777215, .string ⟨#[]⟩]
  have bn1 : Below w.heap.size w (w.alloc (.cells #[.int .i64 5, .int .i64 512, .int .i64 16777215, .string ⟨#[]⟩] 65)) := (Below.refl _ _).alloc (Nat.le_refl _) _
  obtain ⟨w1, hw1⟩ : ∃ w1, w1 = w.alloc (.cells #[.int .i64 5, .int .i64 512, .int .i64 16777215, .string ⟨#[]⟩] 65) := ⟨_, rfl⟩
  rw [← hw1] at N1 bn1
  have N2 := Blk.new' w1 59 [.string ⟨#[77, 97, 120, 66, 117, 114, 115, 116, 76, 101, 110, 103, 116, 104]⟩, .string ⟨#[49, 48, 48, 48]⟩]
  have bn2 : Below w1.heap.size w1 (w1.alloc (.cells #[.string ⟨#[77, 97, 120, 66, 117, 114, 115, 116, 76, 101, 110, 103, 116, 104]⟩, .string ⟨#[49, 48, 48, 48]⟩] 59)) := (Below.refl _ _).alloc (Nat.le_refl _) _
  obtain ⟨w2, hw2⟩ : ∃ w2, w2 = w1.alloc (.cells #[.string ⟨#[77, 97, 120, 66, 117, 114, 115, 116, 76, 101, 110, 103, 116, 104]⟩, .string ⟨#[49, 48, 48, 48]⟩] 59) := ⟨_, rfl⟩
  rw [← hw2] at N2 bn2
  obtain ⟨rb, hrb⟩ : ∃ g, g = w.heap.size := ⟨_, rfl⟩
  have hz1 : w1.heap.size = w.heap.size + 1 := by rw [hw1]; simp
  obtain ⟨pb, hpb⟩ : ∃ g, g = w.heap.size + 1 := ⟨_, rfl⟩
  rw [hz1, ← hpb] at N2
  clear hz1
  have y0 := ck_at N2 0
  have y1 := ck_at N2 1
  simp only [List.getElem?_cons_zero, List.getElem?_cons_succ] at y0 y1
  have HN0 := tNumber_any ⟨#[49, 48, 48, 48]⟩ w2
  rw [nu_2] at HN0
  have HN : Hid _ := HN0
  clear HN0
  have H2 : Hid _ := And.intro (below_then bn1 bn2) (And.intro N2 hB)
  clear bn1 bn2 N1 N2 hB
  have HP : Hid _ := hP
  clear hP
  go_enter Tryd.func38, Tryd.ntmps38
  go_upto_region 1 with fail
  rw [← hw1, ← hw2, ← hpb, ← hrb]
  clear hw1 hw2 hrb hpb
  go_wp2_with fail
  refine (Calls.mono HN.out) ?_
  rintro e w3 ⟨rfl, b3⟩
  clear HN y0 y1
  have P3 := H2.out.2.1.laterB b3
  have B3 := H2.out.2.2.laterB (below_then H2.out.1 b3)
  have y0 := ck_at P3 0
  have y1 := ck_at P3 1
  simp only [List.getElem?_cons_zero, List.getElem?_cons_succ] at y0 y1
  have z0 := ck_at B3 0
  have z1 := ck_at B3 1
  have z2 := ck_at B3 2
  have z3 := ck_at B3 3
  have z4 := ck_at B3 4
  have z5 := ck_at B3 5
  have z6 := ck_at B3 6
  have z7 := ck_at B3 7
  have z8 := ck_at B3 8
  have z9 := ck_at B3 9
  have z10 := ck_at B3 10
  simp only [List.getElem?_cons_zero, List.getElem?_cons_succ] at z0 z1 z2 z3 z4 z5 z6 z7 z8 z9 z10
  have f4 := ck_fz B3 4
  have S4 := B3.set 4 (.int .i64 1000)
  simp only [List.set_cons_zero, List.set_cons_succ] at S4
  have t4 := turned_set w3 g 4 (.int .i64 1000)
  have T4 : Turned (fun k => k = g) w (w3.setCell ⟨g, 4, none⟩ (.int .i64 1000)) := ((turned_below (below_then H2.out.1 b3)).mono (fun k h => h.elim)).trans (t4.mono (fun k h => .inl h))
  obtain ⟨w4, hw4⟩ : ∃ y, y = w3.setCell ⟨g, 4, none⟩ (.int .i64 1000) := ⟨_, rfl⟩
  rw [← hw4] at S4 T4
  have HD0 := tDigits_any 1000 w4 (HP.out _ T4)
  rw [dg_1000] at HD0
  have HD : Hid _ := HD0
  have F4 : Hid _ := And.intro T4 S4
  clear HD0 T4 S4 t4 P3 B3 b3 H2 HP
  go_upto_region 22 with fail
  rw [show min (1000 : Int) 262144 = 1000 from rfl, ← hw4]
  clear hw4 f4 z0 z1 z2 z3 z4 z5 z6 z7 z8 z9 z10
  have z0 := ck_at F4.out.2 0
  have z1 := ck_at F4.out.2 1
  have z2 := ck_at F4.out.2 2
  have z3 := ck_at F4.out.2 3
  have z4 := ck_at F4.out.2 4
  have z5 := ck_at F4.out.2 5
  have z6 := ck_at F4.out.2 6
  have z7 := ck_at F4.out.2 7
  have z8 := ck_at F4.out.2 8
  have z9 := ck_at F4.out.2 9
  have z10 := ck_at F4.out.2 10
  simp only [List.getElem?_cons_zero, List.getElem?_cons_succ] at z0 z1 z2 z3 z4 z5 z6 z7 z8 z9 z10
  go_wp2_with fail
  refine (Calls.mono HD.out) ?_
  rintro e w5 ⟨rfl, b5⟩
  have F5 : Hid _ := And.intro (F4.out.1.trans ((turned_below b5).mono (fun k h => h.elim))) (F4.out.2.laterB b5)
  clear HD b5 F4 y0 y1 z0 z1 z2 z3 z4 z5 z6 z7 z8 z9 z10
  go_wp2
  refine bodyPost_ret (v := .tuple #[.string ⟨#[49, 48, 48, 48]⟩, .bool true]) (by first | rfl | simp [results, Tryd.results38, go_sem]) rfl ?_
  exact ⟨rfl, F5.out.1, F5.out.2⟩
end Go.Proofs.YtligmiajlbjecaaDoor

