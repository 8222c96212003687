/- text: known of caissonlaw18. -/
import Derived.Test.YtligmiajlbjecaaDoorXTx8
namespace Go.Proofs.YtligmiajlbjecaaDoor
open Go.RowKit
set_option linter.unusedVariables false
set_option linter.unusedSimpArgs false
set_option maxRecDepth 8000

set_option maxHeartbeats 8000000 in
theorem known18_any (w : World) (hP : PowT w) : Calls Tryd.prog 19 #[] w fun e w' => e = .returned (.bool true) ∧ Below w.heap.size w w' := by
  have HD : Hid _ := tdefault w
  have HP : Hid _ := hP
  clear hP
  go_enter Tryd.func19, Tryd.ntmps19
  go_wp2_with fail
  refine (Calls.mono HD.out) ?_
  rintro e w1 ⟨rfl, b1⟩
  clear HD
  have N2 := Blk.new' w1 59 [.string ⟨#[72, 101, 97, 100, 101, 114, 68, 105, 103, 101, 115, 116]⟩, .string ⟨#[67, 82, 67, 51, 50, 67, 44, 78, 111, 110, 101]⟩, .string ⟨#[77, 97, 120, 66, 117, 114, 115, 116, 76, 101, 110, 103, 116, 104]⟩, .string ⟨#[49, 48, 48, 48]⟩, .string ⟨#[88]⟩, .string ⟨#[49]⟩]
  have bn2 : Below w1.heap.size w1 (w1.alloc (.cells #[.string ⟨#[72, 101, 97, 100, 101, 114, 68, 105, 103, 101, 115, 116]⟩, .string ⟨#[67, 82, 67, 51, 50, 67, 44, 78, 111, 110, 101]⟩, .string ⟨#[77, 97, 120, 66, 117, 114, 115, 116, 76, 101, 110, 103, 116, 104]⟩, .string ⟨#[49, 48, 48, 48]⟩, .string ⟨#[88]⟩, .string ⟨#[49]⟩] 59)) := (Below.refl _ _).alloc (Nat.le_refl _) _
  obtain ⟨w2, hw2⟩ : ∃ w2, w2 = w1.alloc (.cells #[.string ⟨#[72, 101, 97, 100, 101, 114, 68, 105, 103, 101, 115, 116]⟩, .string ⟨#[67, 82, 67, 51, 50, 67, 44, 78, 111, 110, 101]⟩, .string ⟨#[77, 97, 120, 66, 117, 114, 115, 116, 76, 101, 110, 103, 116, 104]⟩, .string ⟨#[49, 48, 48, 48]⟩, .string ⟨#[88]⟩, .string ⟨#[49]⟩] 59) := ⟨_, rfl⟩
  rw [← hw2] at N2 bn2
  obtain ⟨pb, hpb⟩ : ∃ g, g = w1.heap.size := ⟨_, rfl⟩
  rw [← hpb] at N2
  have HK : Hid _ := tTalk pb w2 N2 (PowT.later (w := w) HP.out (below_then b1 bn2))
  have F2 : Hid _ := below_then b1 bn2
  clear b1 bn2 N2
  go_wp2_with fail
  rw [← hw2, ← hpb]
  clear hw2 hpb
  refine (Calls.mono HK.out) ?_
  rintro e w3 ⟨v, q, rfl, G, b3⟩
  clear HK
  obtain ⟨a, c, rfl, hlc, -, hcell⟩ := GSl.cell kPr_ok G
  obtain ⟨bb, off, rfl, -, h0⟩ := hcell 0 (by decide)
  obtain ⟨b1', o1', e1, -, h1⟩ := hcell 1 (by decide)
  obtain ⟨b2', o2', e2, -, h2⟩ := hcell 2 (by decide)
  simp only [Option.some.injEq, Addr.mk.injEq, and_true] at e1 e2
  obtain ⟨rfl, rfl⟩ := e1
  obtain ⟨rfl, rfl⟩ := e2
  have c1 := h0 1 (by decide)
  have c3 := h1 1 (by decide)
  have c5 := h2 1 (by decide)
  have c1' : w3.cell? ⟨bb, off + 1, none⟩ = some (.string ⟨#[67, 82, 67, 51, 50, 67]⟩) := c1
  have c3' : w3.cell? ⟨bb, off + 3, none⟩ = some (.string ⟨#[49, 48, 48, 48]⟩) := c3
  have c5' : w3.cell? ⟨bb, off + 5, none⟩ = some (.string ⟨#[78, 111, 116, 85, 110, 100, 101, 114, 115, 116, 111, 111, 100]⟩) := c5
  clear c1 c3 c5 h0 h1 h2 hcell G
  have N4 := Blk.new' w3 50 [.bool true, .bool false, .int .i64 8192, .int .i64 8192, .int .i64 1000, .int .i64 1000, .bool true, .bool true, .bool false, .string ⟨#[]⟩, .string ⟨#[]⟩]
  have bn4 : Below w3.heap.size w3 (w3.alloc (.cells #[.bool true, .bool false, .int .i64 8192, .int .i64 8192, .int .i64 1000, .int .i64 1000, .bool true, .bool true, .bool false, .string ⟨#[]⟩, .string ⟨#[]⟩] 50)) := (Below.refl _ _).alloc (Nat.le_refl _) _
  obtain ⟨w4, hw4⟩ : ∃ w4, w4 = w3.alloc (.cells #[.bool true, .bool false, .int .i64 8192, .int .i64 8192, .int .i64 1000, .int .i64 1000, .bool true, .bool true, .bool false, .string ⟨#[]⟩, .string ⟨#[]⟩] 50) := ⟨_, rfl⟩
  rw [← hw4] at N4 bn4
  obtain ⟨gb, hgb⟩ : ∃ g, g = w3.heap.size := ⟨_, rfl⟩
  rw [← hgb] at N4
  have d1 := ck_later c1' bn4
  have d3 := ck_later c3' bn4
  have d5 := ck_later c5' bn4
  have z0 := ck_at N4 0
  have z1 := ck_at N4 1
  have z2 := ck_at N4 2
  have z3 := ck_at N4 3
  have z4 := ck_at N4 4
  have z5 := ck_at N4 5
  have z6 := ck_at N4 6
  have z7 := ck_at N4 7
  have z8 := ck_at N4 8
  have z9 := ck_at N4 9
  have z10 := ck_at N4 10
  simp only [List.getElem?_cons_zero, List.getElem?_cons_succ] at z0 z1 z2 z3 z4 z5 z6 z7 z8 z9 z10
  have F4 : Hid _ := below_then F2.out (below_then b3 bn4)
  clear c1' c3' c5' b3 bn4 N4 F2
  have hlc' : (3 : Int) ≤ (c : Int) := by have : (3 : Nat) ≤ c := hlc; omega
  go_upto_region 2 with fail
  rw [← hw4, ← hgb]
  clear hw4 hgb
  go_wp2
  go_ret
  exact ⟨rfl, F4.out⟩
end Go.Proofs.YtligmiajlbjecaaDoor

