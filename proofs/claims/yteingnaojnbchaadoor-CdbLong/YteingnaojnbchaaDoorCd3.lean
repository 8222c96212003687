/- cdb: a place's isThere, size, ones, takes. -/
import Derived.Test.YteingnaojnbchaaDoorCd2
namespace Go.Proofs.YteingnaojnbchaaDoor
open Go.RowKit
set_option linter.unusedVariables false
set_option linter.unusedSimpArgs false
set_option maxRecDepth 4000

/-- how many bits a place of the table has -/
def BitsOk (b : Int) : Prop := b = 0 ∨ b = 1 ∨ b = 4 ∨ b = 5 ∨ b = 8 ∨ b = 16 ∨ b = 32 ∨ b = 64
instance (b : Int) : Decidable (BitsOk b) := inferInstanceAs (Decidable (_ ∨ _))
def onesB (b : Int) : BitVec 64 := BitVec.ofNat 64 (2 ^ b.toNat - 1)
def szB (b : Int) : Nat := ((b + 7) / 8).toNat
theorem and64 (x y : BitVec 64) : bits .and .u64 (x.toNat : Int) (y.toNat : Int) = ((x &&& y).toNat : Int) := by
  rw [u64_and_nat _ _ x.isLt y.isLt, BitVec.toNat_and]
set_option maxHeartbeats 400000 in
theorem cThere_any (a b : Int) (w : World)  :
    Calls Tryd.prog 47 #[.agg #[.int .u8 a, .int .u8 b]] w fun e w' => e = .returned (.bool (decide (b > 0))) ∧ Below w.heap.size w w' := by
  have b1 : Below w.heap.size w (w.alloc (.cells #[.int .u8 a, .int .u8 b] 78)) := (Below.refl _ _).alloc (Nat.le_refl _) _
  have B1 := Blk.new' w 78 [.int .u8 a, .int .u8 b]
  have k0 := ck_at B1 0
  have k1 := ck_at B1 1
  simp only [List.getElem?_cons_zero, List.getElem?_cons_succ] at k0 k1
  have H1 : Hid _ := And.intro b1 B1
  clear b1 B1
  go_enter Tryd.func47, Tryd.ntmps47
  go_wp2
  go_ret
  exact ⟨rfl, H1.out.1⟩
set_option maxHeartbeats 400000 in
theorem cSize_any (a b : Int) (w : World) (h : 0 ≤ b ∧ b ≤ 64) :
    Calls Tryd.prog 68 #[.agg #[.int .u8 a, .int .u8 b]] w fun e w' => e = .returned (.int .i64 (szB b : Int)) ∧ Below w.heap.size w w' := by
  have b1 : Below w.heap.size w (w.alloc (.cells #[.int .u8 a, .int .u8 b] 78)) := (Below.refl _ _).alloc (Nat.le_refl _) _
  have B1 := Blk.new' w 78 [.int .u8 a, .int .u8 b]
  have k0 := ck_at B1 0
  have k1 := ck_at B1 1
  simp only [List.getElem?_cons_zero, List.getElem?_cons_succ] at k0 k1
  have H1 : Hid _ := And.intro b1 B1
  clear b1 B1
  have v1 : IntKind.i64.wrap b = b := by rw [IntKind.wrap_i64]; omega
  have v2 : IntKind.i64.wrap (b + 7) = b + 7 := by rw [IntKind.wrap_i64]; omega
  have HS : Hid ((b + 7) / 8 = (szB b : Int)) := by show (b + 7) / 8 = _; unfold szB; omega
  go_enter Tryd.func68, Tryd.ntmps68
  go_wp2
  go_ret
  exact ⟨by rw [← HS.out]; rfl, H1.out.1⟩
set_option maxHeartbeats 1000000 in
theorem cOnes_any (a b : Int) (w : World) (h : BitsOk b) :
    Calls Tryd.prog 66 #[.agg #[.int .u8 a, .int .u8 b]] w fun e w' => e = .returned (.int .u64 ((onesB b).toNat : Int)) ∧ Below w.heap.size w w' := by
  rcases h with rfl | rfl | rfl | rfl | rfl | rfl | rfl | rfl
  · have b1 : Below w.heap.size w (w.alloc (.cells #[.int .u8 a, .int .u8 0] 78)) := (Below.refl _ _).alloc (Nat.le_refl _) _
    have B1 := Blk.new' w 78 [.int .u8 a, .int .u8 0]
    have k0 := ck_at B1 0
    have k1 := ck_at B1 1
    simp only [List.getElem?_cons_zero, List.getElem?_cons_succ] at k0 k1
    have H1 : Hid _ := And.intro b1 B1
    clear b1 B1
    go_enter Tryd.func66, Tryd.ntmps66
    go_wp2
    go_ret
    exact ⟨by first | rfl | decide, H1.out.1⟩
  · have b1 : Below w.heap.size w (w.alloc (.cells #[.int .u8 a, .int .u8 1] 78)) := (Below.refl _ _).alloc (Nat.le_refl _) _
    have B1 := Blk.new' w 78 [.int .u8 a, .int .u8 1]
    have k0 := ck_at B1 0
    have k1 := ck_at B1 1
    simp only [List.getElem?_cons_zero, List.getElem?_cons_succ] at k0 k1
    have H1 : Hid _ := And.intro b1 B1
    clear b1 B1
    go_enter Tryd.func66, Tryd.ntmps66
    go_wp2
    go_ret
    exact ⟨by first | rfl | decide, H1.out.1⟩
  · have b1 : Below w.heap.size w (w.alloc (.cells #[.int .u8 a, .int .u8 4] 78)) := (Below.refl _ _).alloc (Nat.le_refl _) _
    have B1 := Blk.new' w 78 [.int .u8 a, .int .u8 4]
    have k0 := ck_at B1 0
    have k1 := ck_at B1 1
    simp only [List.getElem?_cons_zero, List.getElem?_cons_succ] at k0 k1
    have H1 : Hid _ := And.intro b1 B1
    clear b1 B1
    go_enter Tryd.func66, Tryd.ntmps66
    go_wp2
    go_ret
    exact ⟨by first | rfl | decide, H1.out.1⟩
  · have b1 : Below w.heap.size w (w.alloc (.cells #[.int .u8 a, .int .u8 5] 78)) := (Below.refl _ _).alloc (Nat.le_refl _) _
    have B1 := Blk.new' w 78 [.int .u8 a, .int .u8 5]
    have k0 := ck_at B1 0
    have k1 := ck_at B1 1
    simp only [List.getElem?_cons_zero, List.getElem?_cons_succ] at k0 k1
    have H1 : Hid _ := And.intro b1 B1
    clear b1 B1
    go_enter Tryd.func66, Tryd.ntmps66
    go_wp2
    go_ret
    exact ⟨by first | rfl | decide, H1.out.1⟩
  · have b1 : Below w.heap.size w (w.alloc (.cells #[.int .u8 a, .int .u8 8] 78)) := (Below.refl _ _).alloc (Nat.le_refl _) _
    have B1 := Blk.new' w 78 [.int .u8 a, .int .u8 8]
    have k0 := ck_at B1 0
    have k1 := ck_at B1 1
    simp only [List.getElem?_cons_zero, List.getElem?_cons_succ] at k0 k1
    have H1 : Hid _ := And.intro b1 B1
    clear b1 B1
    go_enter Tryd.func66, Tryd.ntmps66
    go_wp2
    go_ret
    exact ⟨by first | rfl | decide, H1.out.1⟩
  · have b1 : Below w.heap.size w (w.alloc (.cells #[.int .u8 a, .int .u8 16] 78)) := (Below.refl _ _).alloc (Nat.le_refl _) _
    have B1 := Blk.new' w 78 [.int .u8 a, .int .u8 16]
    have k0 := ck_at B1 0
    have k1 := ck_at B1 1
    simp only [List.getElem?_cons_zero, List.getElem?_cons_succ] at k0 k1
    have H1 : Hid _ := And.intro b1 B1
    clear b1 B1
    go_enter Tryd.func66, Tryd.ntmps66
    go_wp2
    go_ret
    exact ⟨by first | rfl | decide, H1.out.1⟩
  · have b1 : Below w.heap.size w (w.alloc (.cells #[.int .u8 a, .int .u8 32] 78)) := (Below.refl _ _).alloc (Nat.le_refl _) _
    have B1 := Blk.new' w 78 [.int .u8 a, .int .u8 32]
    have k0 := ck_at B1 0
    have k1 := ck_at B1 1
    simp only [List.getElem?_cons_zero, List.getElem?_cons_succ] at k0 k1
    have H1 : Hid _ := And.intro b1 B1
    clear b1 B1
    go_enter Tryd.func66, Tryd.ntmps66
    go_wp2
    go_ret
    exact ⟨by first | rfl | decide, H1.out.1⟩
  · have b1 : Below w.heap.size w (w.alloc (.cells #[.int .u8 a, .int .u8 64] 78)) := (Below.refl _ _).alloc (Nat.le_refl _) _
    have B1 := Blk.new' w 78 [.int .u8 a, .int .u8 64]
    have k0 := ck_at B1 0
    have k1 := ck_at B1 1
    simp only [List.getElem?_cons_zero, List.getElem?_cons_succ] at k0 k1
    have H1 : Hid _ := And.intro b1 B1
    clear b1 B1
    go_enter Tryd.func66, Tryd.ntmps66
    go_wp2
    go_ret
    exact ⟨by first | rfl | decide, H1.out.1⟩
end Go.Proofs.YteingnaojnbchaaDoor
