/- text: Default; the rule of three keys. -/
import Derived.Test.YtligmiajlbjecaaDoorXTx0
namespace Go.Proofs.YtligmiajlbjecaaDoor
open Go.RowKit
set_option linter.unusedVariables false
set_option linter.unusedSimpArgs false
set_option maxRecDepth 8000

set_option maxHeartbeats 2000000 in
theorem tdefault (w : World) : Calls Tryd.prog 25 #[] w fun e w' => e = .returned (.agg #[.bool false, .bool false, .int .i64 8192, .int .i64 8192, .int .i64 262144, .int .i64 65536, .bool true, .bool true, .bool false, .string ⟨#[]⟩, .string ⟨#[]⟩]) ∧ Below w.heap.size w w' := by
  have b : Below w.heap.size w (w.alloc (.cells #[.bool false, .bool false, .int .i64 8192, .int .i64 8192, .int .i64 262144, .int .i64 65536, .bool true, .bool true, .bool false, .string ⟨#[]⟩, .string ⟨#[]⟩] 50)) := (Below.refl _ _).alloc (Nat.le_refl _) _
  have B := Blk.new' w 50 [.bool false, .bool false, .int .i64 8192, .int .i64 8192, .int .i64 262144, .int .i64 65536, .bool true, .bool true, .bool false, .string ⟨#[]⟩, .string ⟨#[]⟩]
  obtain ⟨w1, hw1⟩ : ∃ w1, w1 = w.alloc (.cells #[.bool false, .bool false, .int .i64 8192, .int .i64 8192, .int .i64 262144, .int .i64 65536, .bool true, .bool true, .bool false, .string ⟨#[]⟩, .string ⟨#[]⟩] 50) := ⟨_, rfl⟩
  rw [← hw1] at b B
  have F : Hid _ := And.intro B b
  clear B b
  go_enter Tryd.func25, Tryd.ntmps25
  go_wp2
  rw [← hw1]
  clear hw1
  have y0 := ck_at F.out.1 0
  have y1 := ck_at F.out.1 1
  have y2 := ck_at F.out.1 2
  have y3 := ck_at F.out.1 3
  have y4 := ck_at F.out.1 4
  have y5 := ck_at F.out.1 5
  have y6 := ck_at F.out.1 6
  have y7 := ck_at F.out.1 7
  have y8 := ck_at F.out.1 8
  have y9 := ck_at F.out.1 9
  have y10 := ck_at F.out.1 10
  simp only [List.getElem?_cons_zero, List.getElem?_cons_succ] at y0 y1 y2 y3 y4 y5 y6 y7 y8 y9 y10
  refine bodyPost_ret (v := .agg #[.bool false, .bool false, .int .i64 8192, .int .i64 8192, .int .i64 262144, .int .i64 65536, .bool true, .bool true, .bool false, .string ⟨#[]⟩, .string ⟨#[]⟩]) (by simp [results, Tryd.results25, go_sem, y0, y1, y2, y3, y4, y5, y6, y7, y8, y9, y10]) rfl ?_
  exact ⟨rfl, F.out.2⟩
set_option maxHeartbeats 4000000 in
theorem trule_HD (w : World) : Calls Tryd.prog 36 #[.string ⟨#[72, 101, 97, 100, 101, 114, 68, 105, 103, 101, 115, 116]⟩] w fun e w' => e = .returned (.tuple #[.agg #[.int .i64 2, .int .i64 0, .int .i64 0, .string ⟨#[]⟩], .bool true]) ∧ Below w.heap.size w w' := by
  have b : Below w.heap.size w (w.alloc (.cells #[.int .i64 2, .int .i64 0, .int .i64 0, .string ⟨#[]⟩] 65)) := (Below.refl _ _).alloc (Nat.le_refl _) _
  have B := Blk.new' w 65 [.int .i64 2, .int .i64 0, .int .i64 0, .string ⟨#[]⟩]
  obtain ⟨w1, hw1⟩ : ∃ w1, w1 = w.alloc (.cells #[.int .i64 2, .int .i64 0, .int .i64 0, .string ⟨#[]⟩] 65) := ⟨_, rfl⟩
  rw [← hw1] at b B
  have F : Hid _ := And.intro B b
  clear B b
  go_enter Tryd.func36, Tryd.ntmps36
  go_wp2
  rw [← hw1]
  clear hw1
  have y0 := ck_at F.out.1 0
  have y1 := ck_at F.out.1 1
  have y2 := ck_at F.out.1 2
  have y3 := ck_at F.out.1 3
  simp only [List.getElem?_cons_zero, List.getElem?_cons_succ] at y0 y1 y2 y3
  refine bodyPost_ret (v := .tuple #[.agg #[.int .i64 2, .int .i64 0, .int .i64 0, .string ⟨#[]⟩], .bool true]) (by simp [results, Tryd.results36, go_sem, y0, y1, y2, y3]) rfl ?_
  exact ⟨rfl, F.out.2⟩
set_option maxHeartbeats 4000000 in
theorem trule_MB (w : World) : Calls Tryd.prog 36 #[.string ⟨#[77, 97, 120, 66, 117, 114, 115, 116, 76, 101, 110, 103, 116, 104]⟩] w fun e w' => e = .returned (.tuple #[.agg #[.int .i64 5, .int .i64 512, .int .i64 16777215, .string ⟨#[]⟩], .bool true]) ∧ Below w.heap.size w w' := by
  have b : Below w.heap.size w (w.alloc (.cells #[.int .i64 5, .int .i64 512, .int .i64 16777215, .string ⟨#[]⟩] 65)) := (Below.refl _ _).alloc (Nat.le_refl _) _
  have B := Blk.new' w 65 [.int .i64 5, .int .i64 512, .int .i64 16777215, .string ⟨#[]⟩]
  obtain ⟨w1, hw1⟩ : ∃ w1, w1 = w.alloc (.cells #[.int .i64 5, .int .i64 512, .int .i64 16777215, .string ⟨#[]⟩] 65) := ⟨_, rfl⟩
  rw [← hw1] at b B
  have F : Hid _ := And.intro B b
  clear B b
  go_enter Tryd.func36, Tryd.ntmps36
  go_wp2
  rw [← hw1]
  clear hw1
  have y0 := ck_at F.out.1 0
  have y1 := ck_at F.out.1 1
  have y2 := ck_at F.out.1 2
  have y3 := ck_at F.out.1 3
  simp only [List.getElem?_cons_zero, List.getElem?_cons_succ] at y0 y1 y2 y3
  refine bodyPost_ret (v := .tuple #[.agg #[.int .i64 5, .int .i64 512, .int .i64 16777215, .string ⟨#[]⟩], .bool true]) (by simp [results, Tryd.results36, go_sem, y0, y1, y2, y3]) rfl ?_
  exact ⟨rfl, F.out.2⟩
set_option maxHeartbeats 4000000 in
theorem trule_X (w : World) : Calls Tryd.prog 36 #[.string ⟨#[88]⟩] w fun e w' => e = .returned (.tuple #[.agg #[.int .i64 0, .int .i64 0, .int .i64 0, .string ⟨#[]⟩], .bool false]) ∧ Below w.heap.size w w' := by
  have b : Below w.heap.size w (w.alloc (.cells #[.int .i64 0, .int .i64 0, .int .i64 0, .string ⟨#[]⟩] 65)) := (Below.refl _ _).alloc (Nat.le_refl _) _
  have B := Blk.new' w 65 [.int .i64 0, .int .i64 0, .int .i64 0, .string ⟨#[]⟩]
  obtain ⟨w1, hw1⟩ : ∃ w1, w1 = w.alloc (.cells #[.int .i64 0, .int .i64 0, .int .i64 0, .string ⟨#[]⟩] 65) := ⟨_, rfl⟩
  rw [← hw1] at b B
  have F : Hid _ := And.intro B b
  clear B b
  go_enter Tryd.func36, Tryd.ntmps36
  go_wp2
  rw [← hw1]
  clear hw1
  have y0 := ck_at F.out.1 0
  have y1 := ck_at F.out.1 1
  have y2 := ck_at F.out.1 2
  have y3 := ck_at F.out.1 3
  simp only [List.getElem?_cons_zero, List.getElem?_cons_succ] at y0 y1 y2 y3
  refine bodyPost_ret (v := .tuple #[.agg #[.int .i64 0, .int .i64 0, .int .i64 0, .string ⟨#[]⟩], .bool false]) (by simp [results, Tryd.results36, go_sem, y0, y1, y2, y3]) rfl ?_
  exact ⟨rfl, F.out.2⟩
end Go.Proofs.YtligmiajlbjecaaDoor

