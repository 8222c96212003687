/- cdb: a row's read. -/
import Derived.Test.YteingnaojnbchaaDoorCd3
namespace Go.Proofs.YteingnaojnbchaaDoor
open Go.RowKit
set_option linter.unusedVariables false
set_option linter.unusedSimpArgs false
set_option maxRecDepth 4000

structure PlOk (a b : Int) : Prop where
  bits : BitsOk b
  low : 0 ≤ a
  fit : a.toNat + szB b ≤ 16
theorem PlOk.size {a b : Int} (h : PlOk a b) : 0 ≤ b ∧ b ≤ 64 := by
  rcases h.bits with rfl | rfl | rfl | rfl | rfl | rfl | rfl | rfl <;> omega
theorem PlOk.wide {a b : Int} (h : PlOk a b) (h0 : b ≠ 0) : 1 ≤ szB b ∧ szB b ≤ 8 := by
  rcases h.bits with rfl | rfl | rfl | rfl | rfl | rfl | rfl | rfl <;> first | exact absurd rfl h0 | decide
/-- a field's number in a command's bytes -/
def fvI (l : List (BitVec 8)) (a b : Int) : Int := if b = 0 then 0 else ((numTo l a.toNat (szB b) &&& onesB b).toNat : Int)
structure RdS (w W : World) (cur : List Value) : Prop where
  below : Below w.heap.size w W
  res : Blk W (w.heap.size + 1) 84 [.int .u64 0, .int .u64 0, .int .u64 0, .int .u64 0, .int .u64 0, .int .u64 0]
  vb : Blk W (w.heap.size + 2) 84 cur
theorem RdS.later {w W W' : World} {cur : List Value} (h : RdS w W cur) (b : Below W.heap.size W W') : RdS w W' cur := ⟨below_then h.below b, h.res.laterB b, h.vb.laterB b⟩
theorem RdS.set {w W : World} {cur : List Value} (h : RdS w W cur) (i : Nat) (u : Value) : RdS w (W.setCell ⟨w.heap.size + 2, i, none⟩ u) (cur.set i u) :=
  ⟨h.below.setCell (by show w.heap.size ≤ w.heap.size + 2; omega) u, h.res.grown (grown_set _ _ _ _) (by simp), h.vb.set i u⟩
def curF (k f0 f1 f2 f3 f4 f5 : Int) : List Value :=
  [.int .u64 (if 0 < k then f0 else 0), .int .u64 (if 1 < k then f1 else 0), .int .u64 (if 2 < k then f2 else 0), .int .u64 (if 3 < k then f3 else 0), .int .u64 (if 4 < k then f4 else 0), .int .u64 (if 5 < k then f5 else 0)]
set_option maxHeartbeats 4000000 in
theorem cRead_any (o a0 b0 a1 b1 a2 b2 a3 b3 a4 b4 a5 b5 : Int) (a : Option Addr) (c : Nat) (l : List (BitVec 8)) (w : World) (hl : l.length = 16) (hr : Row w a l) (p0 : PlOk a0 b0) (p1 : PlOk a1 b1) (p2 : PlOk a2 b2) (p3 : PlOk a3 b3) (p4 : PlOk a4 b4) (p5 : PlOk a5 b5) :
    Calls Tryd.prog 50 #[.agg #[.int .u8 o, .int .u8 a0, .int .u8 b0, .int .u8 a1, .int .u8 b1, .int .u8 a2, .int .u8 b2, .int .u8 a3, .int .u8 b3, .int .u8 a4, .int .u8 b4, .int .u8 a5, .int .u8 b5], .slice a 16 c] w fun e w' => e = .returned (.agg #[.int .u64 (fvI l a0 b0), .int .u64 (fvI l a1 b1), .int .u64 (fvI l a2 b2), .int .u64 (fvI l a3 b3), .int .u64 (fvI l a4 b4), .int .u64 (fvI l a5 b5)]) ∧ Below w.heap.size w w' := by
  have B0 := Blk.new' w 81 [.int .u8 o, .int .u8 a0, .int .u8 b0, .int .u8 a1, .int .u8 b1, .int .u8 a2, .int .u8 b2, .int .u8 a3, .int .u8 b3, .int .u8 a4, .int .u8 b4, .int .u8 a5, .int .u8 b5]
  have b0_ : Below w.heap.size w (w.alloc (.cells #[.int .u8 o, .int .u8 a0, .int .u8 b0, .int .u8 a1, .int .u8 b1, .int .u8 a2, .int .u8 b2, .int .u8 a3, .int .u8 b3, .int .u8 a4, .int .u8 b4, .int .u8 a5, .int .u8 b5] 81)) := (Below.refl _ _).alloc (Nat.le_refl _) _
  obtain ⟨w0, hw0⟩ : ∃ w0, w0 = w.alloc (.cells #[.int .u8 o, .int .u8 a0, .int .u8 b0, .int .u8 a1, .int .u8 b1, .int .u8 a2, .int .u8 b2, .int .u8 a3, .int .u8 b3, .int .u8 a4, .int .u8 b4, .int .u8 a5, .int .u8 b5] 81) := ⟨_, rfl⟩
  have z0 : w0.heap.size = w.heap.size + 1 := by rw [hw0]; simp
  rw [← hw0] at B0 b0_
  have B1 := Blk.new' w0 84 [.int .u64 0, .int .u64 0, .int .u64 0, .int .u64 0, .int .u64 0, .int .u64 0]
  have b1_ : Below w0.heap.size w0 (w0.alloc (.cells #[.int .u64 0, .int .u64 0, .int .u64 0, .int .u64 0, .int .u64 0, .int .u64 0] 84)) := (Below.refl _ _).alloc (Nat.le_refl _) _
  obtain ⟨w1, hw1⟩ : ∃ w1, w1 = w0.alloc (.cells #[.int .u64 0, .int .u64 0, .int .u64 0, .int .u64 0, .int .u64 0, .int .u64 0] 84) := ⟨_, rfl⟩
  have z1 : w1.heap.size = w.heap.size + 2 := by rw [hw1]; simp [z0]
  rw [← hw1] at B1 b1_
  rw [z0] at B1
  have B2 := Blk.new' w1 84 [.int .u64 0, .int .u64 0, .int .u64 0, .int .u64 0, .int .u64 0, .int .u64 0]
  have b2_ : Below w1.heap.size w1 (w1.alloc (.cells #[.int .u64 0, .int .u64 0, .int .u64 0, .int .u64 0, .int .u64 0, .int .u64 0] 84)) := (Below.refl _ _).alloc (Nat.le_refl _) _
  obtain ⟨w2, hw2⟩ : ∃ w2, w2 = w1.alloc (.cells #[.int .u64 0, .int .u64 0, .int .u64 0, .int .u64 0, .int .u64 0, .int .u64 0] 84) := ⟨_, rfl⟩
  rw [← hw2] at B2 b2_
  rw [z1] at B2
  have S0 : Hid (RdS w w2 [.int .u64 0, .int .u64 0, .int .u64 0, .int .u64 0, .int .u64 0, .int .u64 0]) := ⟨below_then b0_ (below_then b1_ b2_), B1.laterB b2_, B2⟩
  have B02 := B0.laterB (below_then b1_ b2_)
  have y0 := ck_at B02 0
  have y1 := ck_at B02 1
  have y2 := ck_at B02 2
  have y3 := ck_at B02 3
  have y4 := ck_at B02 4
  have y5 := ck_at B02 5
  have y6 := ck_at B02 6
  have y7 := ck_at B02 7
  have y8 := ck_at B02 8
  have y9 := ck_at B02 9
  have y10 := ck_at B02 10
  have y11 := ck_at B02 11
  have y12 := ck_at B02 12
  simp only [List.getElem?_cons_zero, List.getElem?_cons_succ] at y0 y1 y2 y3 y4 y5 y6 y7 y8 y9 y10 y11 y12
  have HR : Hid _ := hr
  clear B0 b0_ B1 b1_ B2 b2_ B02 z0 z1 hr
  go_enter Tryd.func50, Tryd.ntmps50
  go_upto_region 2 with fail
  rw [← hw0, ← hw1, ← hw2]
  clear hw0 hw1 hw2
  go_wp2_with fail
  clear y0 y1 y2 y3 y4 y5 y6 y7 y8 y9 y10 y11 y12
  have PF0 : Hid _ := p0
  have PF1 : Hid _ := p1
  have PF2 : Hid _ := p2
  have PF3 : Hid _ := p3
  have PF4 : Hid _ := p4
  have PF5 : Hid _ := p5
  clear p0 p1 p2 p3 p4 p5
  have E0 : Hid ((b0 = 0 → fvI l a0 b0 = 0) ∧ (b0 ≠ 0 → fvI l a0 b0 = ((numTo l a0.toNat (szB b0) &&& onesB b0).toNat : Int))) := ⟨fun h => if_pos h, fun h => if_neg h⟩
  have E1 : Hid ((b1 = 0 → fvI l a1 b1 = 0) ∧ (b1 ≠ 0 → fvI l a1 b1 = ((numTo l a1.toNat (szB b1) &&& onesB b1).toNat : Int))) := ⟨fun h => if_pos h, fun h => if_neg h⟩
  have E2 : Hid ((b2 = 0 → fvI l a2 b2 = 0) ∧ (b2 ≠ 0 → fvI l a2 b2 = ((numTo l a2.toNat (szB b2) &&& onesB b2).toNat : Int))) := ⟨fun h => if_pos h, fun h => if_neg h⟩
  have E3 : Hid ((b3 = 0 → fvI l a3 b3 = 0) ∧ (b3 ≠ 0 → fvI l a3 b3 = ((numTo l a3.toNat (szB b3) &&& onesB b3).toNat : Int))) := ⟨fun h => if_pos h, fun h => if_neg h⟩
  have E4 : Hid ((b4 = 0 → fvI l a4 b4 = 0) ∧ (b4 ≠ 0 → fvI l a4 b4 = ((numTo l a4.toNat (szB b4) &&& onesB b4).toNat : Int))) := ⟨fun h => if_pos h, fun h => if_neg h⟩
  have E5 : Hid ((b5 = 0 → fvI l a5 b5 = 0) ∧ (b5 ≠ 0 → fvI l a5 b5 = ((numTo l a5.toNat (szB b5) &&& onesB b5).toNat : Int))) := ⟨fun h => if_pos h, fun h => if_neg h⟩
  generalize hf0 : fvI l a0 b0 = f0 at *
  have HF0 : Hid _ := hf0
  clear hf0
  generalize hf1 : fvI l a1 b1 = f1 at *
  have HF1 : Hid _ := hf1
  clear hf1
  generalize hf2 : fvI l a2 b2 = f2 at *
  have HF2 : Hid _ := hf2
  clear hf2
  generalize hf3 : fvI l a3 b3 = f3 at *
  have HF3 : Hid _ := hf3
  clear hf3
  generalize hf4 : fvI l a4 b4 = f4 at *
  have HF4 : Hid _ := hf4
  clear hf4
  generalize hf5 : fvI l a5 b5 = f5 at *
  have HF5 : Hid _ := hf5
  clear hf5
  go_loopw [12] (fun iv wr => ∃ k : Nat, k ≤ 6 ∧ iv = .int .i64 k ∧ RdS w wr (curF k f0 f1 f2 f3 f4 f5)) (fun iv _ => 6 - (intOf iv).toNat)
  case atStart => exact ⟨0, by omega, rfl, S0.out⟩
  case round =>
    clear S0
    obtain ⟨k, hk, rfl, hS⟩ := hrel
    have hk' : k = 0 ∨ k = 1 ∨ k = 2 ∨ k = 3 ∨ k = 4 ∨ k = 5 ∨ k = 6 := by omega
    rcases hk' with rfl | rfl | rfl | rfl | rfl | rfl | rfl
    · have S1 : RdS w wr [.int .u64 0, .int .u64 0, .int .u64 0, .int .u64 0, .int .u64 0, .int .u64 0] := hS
      have hix : ∀ X : World, (Instr.index 79 (.agg #[.int .u8 a0, .int .u8 b0, .int .u8 a1, .int .u8 b1, .int .u8 a2, .int .u8 b2, .int .u8 a3, .int .u8 b3, .int .u8 a4, .int .u8 b4, .int .u8 a5, .int .u8 b5]) (.int .i64 0)).run Tryd.prog X = .ok (.agg #[.int .u8 a0, .int .u8 b0]) X := fun _ => by first | rfl | kernel_rfl
      have B3 := Blk.new' wr 78 [.int .u8 a0, .int .u8 b0]
      have b3_ : Below wr.heap.size wr (wr.alloc (.cells #[.int .u8 a0, .int .u8 b0] 78)) := (Below.refl _ _).alloc (Nat.le_refl _) _
      obtain ⟨w3, hw3⟩ : ∃ w3, w3 = wr.alloc (.cells #[.int .u8 a0, .int .u8 b0] 78) := ⟨_, rfl⟩
      rw [← hw3] at B3 b3_
      have S3 : Hid _ := And.intro (S1.later b3_) B3
      have x0 := ck_at B3 0
      have x1 := ck_at B3 1
      simp only [List.getElem?_cons_zero, List.getElem?_cons_succ] at x0 x1
      clear S1 hS B3 b3_
      go_upto_region 5 with fail
      rw [← hw3]
      clear hw3 hix
      go_wp2_with fail
      refine (Calls.mono (cThere_any _ _ _)) ?_
      rintro e w4 ⟨rfl, b4_⟩
      have S4 : Hid _ := And.intro (S3.out.1.later b4_) (S3.out.2.laterB b4_)
      clear b4_ S3 x0 x1
      by_cases hb : b0 = 0
      · have d1 : decide (b0 > 0) = false := decide_eq_false (by omega)
        have F : Hid (RdS w w4 [.int .u64 f0, .int .u64 0, .int .u64 0, .int .u64 0, .int .u64 0, .int .u64 0]) := by have := S4.out.1; rw [E0.out.1 hb]; exact this
        clear S4 hb
        go_wp2
        go_roundw
        case rel => exact ⟨1, by omega, rfl, F.out⟩
        case measure => simp [intOf]
      · have d1 : decide (b0 > 0) = true := decide_eq_true (by have := PF0.out.size; omega)
        have hw_ := PF0.out.wide hb
        have hz_ := PF0.out.size
        have hfit := PF0.out.fit
        have hlow := PF0.out.low
        have HGet : Hid (∀ X, Below w4.heap.size w4 X → _) := fun X (bX : Below w4.heap.size w4 X) => Get_yes a 16 c l a0.toNat (szB b0) X hl (by omega) (Row.later HR.out (below_then S4.out.1.below bX)) (by omega) (by omega) (by omega)
        have HSz : Hid (∀ X, _) := fun X => cSize_any a0 b0 X hz_
        have HOn : Hid (∀ X, _) := fun X => cOnes_any a0 b0 X PF0.out.bits
        have va : IntKind.i64.wrap a0 = a0 := by rw [IntKind.wrap_i64]; omega
        have ca : ((a0.toNat : Nat) : Int) = a0 := by omega
        rw [ca] at HGet
        have NV : Hid _ := E0.out.2 hb
        have AV : Hid _ := and64 (numTo l a0.toNat (szB b0)) (onesB b0)
        generalize szB b0 = sz at *
        generalize onesB b0 = on at *
        generalize numTo l a0.toNat sz = nm at *
        clear hw_ hz_ hfit hlow hb
        have HC4 : Hid _ := And.intro (show w4.cell? ⟨wr.heap.size, 0, none⟩ = _ from ck_at S4.out.2 0) (show w4.cell? ⟨wr.heap.size, 1, none⟩ = _ from ck_at S4.out.2 1)
        go_upto_region 6 with fail
        refine wp_region_held_drew (S := fun W => Below w4.heap.size w4 W) (by kernel_rfl) ((Below.refl _ _).drew) (fun hS => ?_)
        have B0 : Below w4.heap.size w4 w4.drew := ((Below.refl _ _).drew)
        refine any_take (i := 0) (v := ?_) rfl (by kernel_rfl) (by kernel_rfl) (by kernel_rfl) (by exact fun _ _ _ h => h) (by rfl) ?_ hS ?_
        rotate_left
        · ((intro w hSw; have x0 := ck_later HC4.out.1 hSw; have x1 := ck_later HC4.out.2 hSw; go_simp) <;> with_reducible rfl)
        (try simp only [Act.put, List.setIfInBounds_toArray, List.set_cons_zero, List.set_cons_succ])
        refine any_take (i := 1) (v := ?_) rfl (by kernel_rfl) (by kernel_rfl) (by kernel_rfl) (by exact fun _ _ _ h => h) (by rfl) ?_ hS ?_
        rotate_left
        · ((intro w hSw; have x0 := ck_later HC4.out.1 hSw; have x1 := ck_later HC4.out.2 hSw; go_simp) <;> with_reducible rfl)
        (try simp only [Act.put, List.setIfInBounds_toArray, List.set_cons_zero, List.set_cons_succ])
        refine any_take (i := 2) (v := ?_) rfl (by kernel_rfl) (by kernel_rfl) (by kernel_rfl) (by exact fun _ _ _ h => h) (by rfl) ?_ hS ?_
        rotate_left
        · ((intro w hSw; have x0 := ck_later HC4.out.1 hSw; have x1 := ck_later HC4.out.2 hSw; go_simp) <;> with_reducible rfl)
        (try simp only [Act.put, List.setIfInBounds_toArray, List.set_cons_zero, List.set_cons_succ])
        refine any_take (i := 3) (v := ?_) rfl (by kernel_rfl) (by kernel_rfl) (by kernel_rfl) (by exact fun _ _ _ h => h) (by rfl) ?_ hS ?_
        rotate_left
        · ((intro w hSw; have x0 := ck_later HC4.out.1 hSw; have x1 := ck_later HC4.out.2 hSw; go_simp) <;> with_reducible rfl)
        (try simp only [Act.put, List.setIfInBounds_toArray, List.set_cons_zero, List.set_cons_succ])
        refine any_take (i := 4) (v := ?_) rfl (by kernel_rfl) (by kernel_rfl) (by kernel_rfl) (by exact fun _ _ _ h => h) (by rfl) ?_ hS ?_
        rotate_left
        · ((intro w hSw; have x0 := ck_later HC4.out.1 hSw; have x1 := ck_later HC4.out.2 hSw; go_simp) <;> with_reducible rfl)
        (try simp only [Act.put, List.setIfInBounds_toArray, List.set_cons_zero, List.set_cons_succ])
        refine any_one (i := 5) rfl (by kernel_rfl) (fun K hK => ?_)
        go_simp
        refine (Calls.mono (HSz.out _)) ?_
        rintro e x1 ⟨rfl, hbR⟩
        have B1 : Below w4.heap.size w4 x1 := below_then B0 hbR
        go_wp2_with fail
        refine hK.out _ _ (by first | exact B1 | exact hbR | exact below_then hS hbR) (any_weaken (S' := fun W => Below x1.heap.size x1 W) (fun W hW => by first | exact below_then B1 hW | exact below_then hbR hW | exact below_then (below_then hS hbR) hW) _ _ _ _ ?_)
        clear hK K hS hbR
        have hS : Below x1.heap.size x1 x1 := Below.refl _ _
        have HG2 : Hid _ := HGet.out _ B1
        refine any_one (i := 6) rfl (by kernel_rfl) (fun K hK => ?_)
        go_simp
        refine (Calls.mono HG2.out) ?_
        rintro e q9 ⟨rfl, hq9⟩
        rw [hq9]
        clear hq9 q9
        go_wp2_with fail
        refine hK.out _ _ hS ?_
        clear hK K
        refine any_take (i := 7) (v := ?_) rfl (by kernel_rfl) (by kernel_rfl) (by kernel_rfl) (by exact fun _ _ _ h => h) (by rfl) ?_ hS ?_
        rotate_left
        · ((intro w hSw; (try dsimp only at hSw); go_simp) <;> with_reducible rfl)
        (try simp only [Act.put, List.setIfInBounds_toArray, List.set_cons_zero, List.set_cons_succ])
        refine any_take (i := 8) (v := ?_) rfl (by kernel_rfl) (by kernel_rfl) (by kernel_rfl) (by exact fun _ _ _ h => h) (by rfl) ?_ hS ?_
        rotate_left
        · ((intro w hSw; (try dsimp only at hSw); go_simp) <;> with_reducible rfl)
        (try simp only [Act.put, List.setIfInBounds_toArray, List.set_cons_zero, List.set_cons_succ])
        refine any_take (i := 9) (v := ?_) rfl (by kernel_rfl) (by kernel_rfl) (by kernel_rfl) (by exact fun _ _ _ h => h) (by rfl) ?_ hS ?_
        rotate_left
        · ((intro w hSw; (try dsimp only at hSw); go_simp) <;> with_reducible rfl)
        (try simp only [Act.put, List.setIfInBounds_toArray, List.set_cons_zero, List.set_cons_succ])
        refine any_take (i := 10) (v := ?_) rfl (by kernel_rfl) (by kernel_rfl) (by kernel_rfl) (by exact fun _ _ _ h => h) (by rfl) ?_ hS ?_
        rotate_left
        · ((intro w hSw; (try dsimp only at hSw); go_simp) <;> with_reducible rfl)
        (try simp only [Act.put, List.setIfInBounds_toArray, List.set_cons_zero, List.set_cons_succ])
        refine any_take (i := 11) (v := ?_) rfl (by kernel_rfl) (by kernel_rfl) (by kernel_rfl) (by exact fun _ _ _ h => h) (by rfl) ?_ hS ?_
        rotate_left
        · ((intro w hSw; (try dsimp only at hSw); go_simp) <;> with_reducible rfl)
        (try simp only [Act.put, List.setIfInBounds_toArray, List.set_cons_zero, List.set_cons_succ])
        refine wpAnyH_done (by kernel_rfl) ?_ _
        have S5 : Hid _ := And.intro (S4.out.1.later B1) (S4.out.2.laterB B1)
        clear hS HG2 HGet HSz S4 HC4 B0 B1
        have x0 := ck_at S5.out.2 0
        have x1 := ck_at S5.out.2 1
        simp only [List.getElem?_cons_zero, List.getElem?_cons_succ] at x0 x1
        go_wp2_with fail
        refine (Calls.mono (HOn.out _)) ?_
        rintro e w6 ⟨rfl, b6_⟩
        have S6 : Hid _ := S5.out.1.later b6_
        clear b6_ S5 x0 x1
        have vy := ck_at S6.out.vb 0
        have vf := ck_fz S6.out.vb 0
        simp only [List.getElem?_cons_zero, List.getElem?_cons_succ] at vy
        have F : Hid (RdS w (w6.setCell ⟨w.heap.size + 2, 0, none⟩ (.int .u64 (bits .and .u64 (nm.toNat : Int) (on.toNat : Int)))) [.int .u64 f0, .int .u64 0, .int .u64 0, .int .u64 0, .int .u64 0, .int .u64 0]) := by
          have h := S6.out.set 0 (.int .u64 (bits .and .u64 (nm.toNat : Int) (on.toNat : Int)))
          rw [NV.out, ← and64 nm on]
          exact h
        clear S6
        go_wp2
        go_roundw
        case rel => exact ⟨1, by omega, rfl, F.out⟩
        case measure => simp [intOf]
    · have S1 : RdS w wr [.int .u64 f0, .int .u64 0, .int .u64 0, .int .u64 0, .int .u64 0, .int .u64 0] := hS
      have hix : ∀ X : World, (Instr.index 79 (.agg #[.int .u8 a0, .int .u8 b0, .int .u8 a1, .int .u8 b1, .int .u8 a2, .int .u8 b2, .int .u8 a3, .int .u8 b3, .int .u8 a4, .int .u8 b4, .int .u8 a5, .int .u8 b5]) (.int .i64 1)).run Tryd.prog X = .ok (.agg #[.int .u8 a1, .int .u8 b1]) X := fun _ => by first | rfl | kernel_rfl
      have B3 := Blk.new' wr 78 [.int .u8 a1, .int .u8 b1]
      have b3_ : Below wr.heap.size wr (wr.alloc (.cells #[.int .u8 a1, .int .u8 b1] 78)) := (Below.refl _ _).alloc (Nat.le_refl _) _
      obtain ⟨w3, hw3⟩ : ∃ w3, w3 = wr.alloc (.cells #[.int .u8 a1, .int .u8 b1] 78) := ⟨_, rfl⟩
      rw [← hw3] at B3 b3_
      have S3 : Hid _ := And.intro (S1.later b3_) B3
      have x0 := ck_at B3 0
      have x1 := ck_at B3 1
      simp only [List.getElem?_cons_zero, List.getElem?_cons_succ] at x0 x1
      clear S1 hS B3 b3_
      go_upto_region 5 with fail
      rw [← hw3]
      clear hw3 hix
      go_wp2_with fail
      refine (Calls.mono (cThere_any _ _ _)) ?_
      rintro e w4 ⟨rfl, b4_⟩
      have S4 : Hid _ := And.intro (S3.out.1.later b4_) (S3.out.2.laterB b4_)
      clear b4_ S3 x0 x1
      by_cases hb : b1 = 0
      · have d1 : decide (b1 > 0) = false := decide_eq_false (by omega)
        have F : Hid (RdS w w4 [.int .u64 f0, .int .u64 f1, .int .u64 0, .int .u64 0, .int .u64 0, .int .u64 0]) := by have := S4.out.1; rw [E1.out.1 hb]; exact this
        clear S4 hb
        go_wp2
        go_roundw
        case rel => exact ⟨2, by omega, rfl, F.out⟩
        case measure => simp [intOf]
      · have d1 : decide (b1 > 0) = true := decide_eq_true (by have := PF1.out.size; omega)
        have hw_ := PF1.out.wide hb
        have hz_ := PF1.out.size
        have hfit := PF1.out.fit
        have hlow := PF1.out.low
        have HGet : Hid (∀ X, Below w4.heap.size w4 X → _) := fun X (bX : Below w4.heap.size w4 X) => Get_yes a 16 c l a1.toNat (szB b1) X hl (by omega) (Row.later HR.out (below_then S4.out.1.below bX)) (by omega) (by omega) (by omega)
        have HSz : Hid (∀ X, _) := fun X => cSize_any a1 b1 X hz_
        have HOn : Hid (∀ X, _) := fun X => cOnes_any a1 b1 X PF1.out.bits
        have va : IntKind.i64.wrap a1 = a1 := by rw [IntKind.wrap_i64]; omega
        have ca : ((a1.toNat : Nat) : Int) = a1 := by omega
        rw [ca] at HGet
        have NV : Hid _ := E1.out.2 hb
        have AV : Hid _ := and64 (numTo l a1.toNat (szB b1)) (onesB b1)
        generalize szB b1 = sz at *
        generalize onesB b1 = on at *
        generalize numTo l a1.toNat sz = nm at *
        clear hw_ hz_ hfit hlow hb
        have HC4 : Hid _ := And.intro (show w4.cell? ⟨wr.heap.size, 0, none⟩ = _ from ck_at S4.out.2 0) (show w4.cell? ⟨wr.heap.size, 1, none⟩ = _ from ck_at S4.out.2 1)
        go_upto_region 6 with fail
        refine wp_region_held_drew (S := fun W => Below w4.heap.size w4 W) (by kernel_rfl) ((Below.refl _ _).drew) (fun hS => ?_)
        have B0 : Below w4.heap.size w4 w4.drew := ((Below.refl _ _).drew)
        refine any_take (i := 0) (v := ?_) rfl (by kernel_rfl) (by kernel_rfl) (by kernel_rfl) (by exact fun _ _ _ h => h) (by rfl) ?_ hS ?_
        rotate_left
        · ((intro w hSw; have x0 := ck_later HC4.out.1 hSw; have x1 := ck_later HC4.out.2 hSw; go_simp) <;> with_reducible rfl)
        (try simp only [Act.put, List.setIfInBounds_toArray, List.set_cons_zero, List.set_cons_succ])
        refine any_take (i := 1) (v := ?_) rfl (by kernel_rfl) (by kernel_rfl) (by kernel_rfl) (by exact fun _ _ _ h => h) (by rfl) ?_ hS ?_
        rotate_left
        · ((intro w hSw; have x0 := ck_later HC4.out.1 hSw; have x1 := ck_later HC4.out.2 hSw; go_simp) <;> with_reducible rfl)
        (try simp only [Act.put, List.setIfInBounds_toArray, List.set_cons_zero, List.set_cons_succ])
        refine any_take (i := 2) (v := ?_) rfl (by kernel_rfl) (by kernel_rfl) (by kernel_rfl) (by exact fun _ _ _ h => h) (by rfl) ?_ hS ?_
        rotate_left
        · ((intro w hSw; have x0 := ck_later HC4.out.1 hSw; have x1 := ck_later HC4.out.2 hSw; go_simp) <;> with_reducible rfl)
        (try simp only [Act.put, List.setIfInBounds_toArray, List.set_cons_zero, List.set_cons_succ])
        refine any_take (i := 3) (v := ?_) rfl (by kernel_rfl) (by kernel_rfl) (by kernel_rfl) (by exact fun _ _ _ h => h) (by rfl) ?_ hS ?_
        rotate_left
        · ((intro w hSw; have x0 := ck_later HC4.out.1 hSw; have x1 := ck_later HC4.out.2 hSw; go_simp) <;> with_reducible rfl)
        (try simp only [Act.put, List.setIfInBounds_toArray, List.set_cons_zero, List.set_cons_succ])
        refine any_take (i := 4) (v := ?_) rfl (by kernel_rfl) (by kernel_rfl) (by kernel_rfl) (by exact fun _ _ _ h => h) (by rfl) ?_ hS ?_
        rotate_left
        · ((intro w hSw; have x0 := ck_later HC4.out.1 hSw; have x1 := ck_later HC4.out.2 hSw; go_simp) <;> with_reducible rfl)
        (try simp only [Act.put, List.setIfInBounds_toArray, List.set_cons_zero, List.set_cons_succ])
        refine any_one (i := 5) rfl (by kernel_rfl) (fun K hK => ?_)
        go_simp
        refine (Calls.mono (HSz.out _)) ?_
        rintro e x1 ⟨rfl, hbR⟩
        have B1 : Below w4.heap.size w4 x1 := below_then B0 hbR
        go_wp2_with fail
        refine hK.out _ _ (by first | exact B1 | exact hbR | exact below_then hS hbR) (any_weaken (S' := fun W => Below x1.heap.size x1 W) (fun W hW => by first | exact below_then B1 hW | exact below_then hbR hW | exact below_then (below_then hS hbR) hW) _ _ _ _ ?_)
        clear hK K hS hbR
        have hS : Below x1.heap.size x1 x1 := Below.refl _ _
        have HG2 : Hid _ := HGet.out _ B1
        refine any_one (i := 6) rfl (by kernel_rfl) (fun K hK => ?_)
        go_simp
        refine (Calls.mono HG2.out) ?_
        rintro e q9 ⟨rfl, hq9⟩
        rw [hq9]
        clear hq9 q9
        go_wp2_with fail
        refine hK.out _ _ hS ?_
        clear hK K
        refine any_take (i := 7) (v := ?_) rfl (by kernel_rfl) (by kernel_rfl) (by kernel_rfl) (by exact fun _ _ _ h => h) (by rfl) ?_ hS ?_
        rotate_left
        · ((intro w hSw; (try dsimp only at hSw); go_simp) <;> with_reducible rfl)
        (try simp only [Act.put, List.setIfInBounds_toArray, List.set_cons_zero, List.set_cons_succ])
        refine any_take (i := 8) (v := ?_) rfl (by kernel_rfl) (by kernel_rfl) (by kernel_rfl) (by exact fun _ _ _ h => h) (by rfl) ?_ hS ?_
        rotate_left
        · ((intro w hSw; (try dsimp only at hSw); go_simp) <;> with_reducible rfl)
        (try simp only [Act.put, List.setIfInBounds_toArray, List.set_cons_zero, List.set_cons_succ])
        refine any_take (i := 9) (v := ?_) rfl (by kernel_rfl) (by kernel_rfl) (by kernel_rfl) (by exact fun _ _ _ h => h) (by rfl) ?_ hS ?_
        rotate_left
        · ((intro w hSw; (try dsimp only at hSw); go_simp) <;> with_reducible rfl)
        (try simp only [Act.put, List.setIfInBounds_toArray, List.set_cons_zero, List.set_cons_succ])
        refine any_take (i := 10) (v := ?_) rfl (by kernel_rfl) (by kernel_rfl) (by kernel_rfl) (by exact fun _ _ _ h => h) (by rfl) ?_ hS ?_
        rotate_left
        · ((intro w hSw; (try dsimp only at hSw); go_simp) <;> with_reducible rfl)
        (try simp only [Act.put, List.setIfInBounds_toArray, List.set_cons_zero, List.set_cons_succ])
        refine any_take (i := 11) (v := ?_) rfl (by kernel_rfl) (by kernel_rfl) (by kernel_rfl) (by exact fun _ _ _ h => h) (by rfl) ?_ hS ?_
        rotate_left
        · ((intro w hSw; (try dsimp only at hSw); go_simp) <;> with_reducible rfl)
        (try simp only [Act.put, List.setIfInBounds_toArray, List.set_cons_zero, List.set_cons_succ])
        refine wpAnyH_done (by kernel_rfl) ?_ _
        have S5 : Hid _ := And.intro (S4.out.1.later B1) (S4.out.2.laterB B1)
        clear hS HG2 HGet HSz S4 HC4 B0 B1
        have x0 := ck_at S5.out.2 0
        have x1 := ck_at S5.out.2 1
        simp only [List.getElem?_cons_zero, List.getElem?_cons_succ] at x0 x1
        go_wp2_with fail
        refine (Calls.mono (HOn.out _)) ?_
        rintro e w6 ⟨rfl, b6_⟩
        have S6 : Hid _ := S5.out.1.later b6_
        clear b6_ S5 x0 x1
        have vy := ck_at S6.out.vb 1
        have vf := ck_fz S6.out.vb 1
        simp only [List.getElem?_cons_zero, List.getElem?_cons_succ] at vy
        have F : Hid (RdS w (w6.setCell ⟨w.heap.size + 2, 1, none⟩ (.int .u64 (bits .and .u64 (nm.toNat : Int) (on.toNat : Int)))) [.int .u64 f0, .int .u64 f1, .int .u64 0, .int .u64 0, .int .u64 0, .int .u64 0]) := by
          have h := S6.out.set 1 (.int .u64 (bits .and .u64 (nm.toNat : Int) (on.toNat : Int)))
          rw [NV.out, ← and64 nm on]
          exact h
        clear S6
        go_wp2
        go_roundw
        case rel => exact ⟨2, by omega, rfl, F.out⟩
        case measure => simp [intOf]
    · have S1 : RdS w wr [.int .u64 f0, .int .u64 f1, .int .u64 0, .int .u64 0, .int .u64 0, .int .u64 0] := hS
      have hix : ∀ X : World, (Instr.index 79 (.agg #[.int .u8 a0, .int .u8 b0, .int .u8 a1, .int .u8 b1, .int .u8 a2, .int .u8 b2, .int .u8 a3, .int .u8 b3, .int .u8 a4, .int .u8 b4, .int .u8 a5, .int .u8 b5]) (.int .i64 2)).run Tryd.prog X = .ok (.agg #[.int .u8 a2, .int .u8 b2]) X := fun _ => by first | rfl | kernel_rfl
      have B3 := Blk.new' wr 78 [.int .u8 a2, .int .u8 b2]
      have b3_ : Below wr.heap.size wr (wr.alloc (.cells #[.int .u8 a2, .int .u8 b2] 78)) := (Below.refl _ _).alloc (Nat.le_refl _) _
      obtain ⟨w3, hw3⟩ : ∃ w3, w3 = wr.alloc (.cells #[.int .u8 a2, .int .u8 b2] 78) := ⟨_, rfl⟩
      rw [← hw3] at B3 b3_
      have S3 : Hid _ := And.intro (S1.later b3_) B3
      have x0 := ck_at B3 0
      have x1 := ck_at B3 1
      simp only [List.getElem?_cons_zero, List.getElem?_cons_succ] at x0 x1
      clear S1 hS B3 b3_
      go_upto_region 5 with fail
      rw [← hw3]
      clear hw3 hix
      go_wp2_with fail
      refine (Calls.mono (cThere_any _ _ _)) ?_
      rintro e w4 ⟨rfl, b4_⟩
      have S4 : Hid _ := And.intro (S3.out.1.later b4_) (S3.out.2.laterB b4_)
      clear b4_ S3 x0 x1
      by_cases hb : b2 = 0
      · have d1 : decide (b2 > 0) = false := decide_eq_false (by omega)
        have F : Hid (RdS w w4 [.int .u64 f0, .int .u64 f1, .int .u64 f2, .int .u64 0, .int .u64 0, .int .u64 0]) := by have := S4.out.1; rw [E2.out.1 hb]; exact this
        clear S4 hb
        go_wp2
        go_roundw
        case rel => exact ⟨3, by omega, rfl, F.out⟩
        case measure => simp [intOf]
      · have d1 : decide (b2 > 0) = true := decide_eq_true (by have := PF2.out.size; omega)
        have hw_ := PF2.out.wide hb
        have hz_ := PF2.out.size
        have hfit := PF2.out.fit
        have hlow := PF2.out.low
        have HGet : Hid (∀ X, Below w4.heap.size w4 X → _) := fun X (bX : Below w4.heap.size w4 X) => Get_yes a 16 c l a2.toNat (szB b2) X hl (by omega) (Row.later HR.out (below_then S4.out.1.below bX)) (by omega) (by omega) (by omega)
        have HSz : Hid (∀ X, _) := fun X => cSize_any a2 b2 X hz_
        have HOn : Hid (∀ X, _) := fun X => cOnes_any a2 b2 X PF2.out.bits
        have va : IntKind.i64.wrap a2 = a2 := by rw [IntKind.wrap_i64]; omega
        have ca : ((a2.toNat : Nat) : Int) = a2 := by omega
        rw [ca] at HGet
        have NV : Hid _ := E2.out.2 hb
        have AV : Hid _ := and64 (numTo l a2.toNat (szB b2)) (onesB b2)
        generalize szB b2 = sz at *
        generalize onesB b2 = on at *
        generalize numTo l a2.toNat sz = nm at *
        clear hw_ hz_ hfit hlow hb
        have HC4 : Hid _ := And.intro (show w4.cell? ⟨wr.heap.size, 0, none⟩ = _ from ck_at S4.out.2 0) (show w4.cell? ⟨wr.heap.size, 1, none⟩ = _ from ck_at S4.out.2 1)
        go_upto_region 6 with fail
        refine wp_region_held_drew (S := fun W => Below w4.heap.size w4 W) (by kernel_rfl) ((Below.refl _ _).drew) (fun hS => ?_)
        have B0 : Below w4.heap.size w4 w4.drew := ((Below.refl _ _).drew)
        refine any_take (i := 0) (v := ?_) rfl (by kernel_rfl) (by kernel_rfl) (by kernel_rfl) (by exact fun _ _ _ h => h) (by rfl) ?_ hS ?_
        rotate_left
        · ((intro w hSw; have x0 := ck_later HC4.out.1 hSw; have x1 := ck_later HC4.out.2 hSw; go_simp) <;> with_reducible rfl)
        (try simp only [Act.put, List.setIfInBounds_toArray, List.set_cons_zero, List.set_cons_succ])
        refine any_take (i := 1) (v := ?_) rfl (by kernel_rfl) (by kernel_rfl) (by kernel_rfl) (by exact fun _ _ _ h => h) (by rfl) ?_ hS ?_
        rotate_left
        · ((intro w hSw; have x0 := ck_later HC4.out.1 hSw; have x1 := ck_later HC4.out.2 hSw; go_simp) <;> with_reducible rfl)
        (try simp only [Act.put, List.setIfInBounds_toArray, List.set_cons_zero, List.set_cons_succ])
        refine any_take (i := 2) (v := ?_) rfl (by kernel_rfl) (by kernel_rfl) (by kernel_rfl) (by exact fun _ _ _ h => h) (by rfl) ?_ hS ?_
        rotate_left
        · ((intro w hSw; have x0 := ck_later HC4.out.1 hSw; have x1 := ck_later HC4.out.2 hSw; go_simp) <;> with_reducible rfl)
        (try simp only [Act.put, List.setIfInBounds_toArray, List.set_cons_zero, List.set_cons_succ])
        refine any_take (i := 3) (v := ?_) rfl (by kernel_rfl) (by kernel_rfl) (by kernel_rfl) (by exact fun _ _ _ h => h) (by rfl) ?_ hS ?_
        rotate_left
        · ((intro w hSw; have x0 := ck_later HC4.out.1 hSw; have x1 := ck_later HC4.out.2 hSw; go_simp) <;> with_reducible rfl)
        (try simp only [Act.put, List.setIfInBounds_toArray, List.set_cons_zero, List.set_cons_succ])
        refine any_take (i := 4) (v := ?_) rfl (by kernel_rfl) (by kernel_rfl) (by kernel_rfl) (by exact fun _ _ _ h => h) (by rfl) ?_ hS ?_
        rotate_left
        · ((intro w hSw; have x0 := ck_later HC4.out.1 hSw; have x1 := ck_later HC4.out.2 hSw; go_simp) <;> with_reducible rfl)
        (try simp only [Act.put, List.setIfInBounds_toArray, List.set_cons_zero, List.set_cons_succ])
        refine any_one (i := 5) rfl (by kernel_rfl) (fun K hK => ?_)
        go_simp
        refine (Calls.mono (HSz.out _)) ?_
        rintro e x1 ⟨rfl, hbR⟩
        have B1 : Below w4.heap.size w4 x1 := below_then B0 hbR
        go_wp2_with fail
        refine hK.out _ _ (by first | exact B1 | exact hbR | exact below_then hS hbR) (any_weaken (S' := fun W => Below x1.heap.size x1 W) (fun W hW => by first | exact below_then B1 hW | exact below_then hbR hW | exact below_then (below_then hS hbR) hW) _ _ _ _ ?_)
        clear hK K hS hbR
        have hS : Below x1.heap.size x1 x1 := Below.refl _ _
        have HG2 : Hid _ := HGet.out _ B1
        refine any_one (i := 6) rfl (by kernel_rfl) (fun K hK => ?_)
        go_simp
        refine (Calls.mono HG2.out) ?_
        rintro e q9 ⟨rfl, hq9⟩
        rw [hq9]
        clear hq9 q9
        go_wp2_with fail
        refine hK.out _ _ hS ?_
        clear hK K
        refine any_take (i := 7) (v := ?_) rfl (by kernel_rfl) (by kernel_rfl) (by kernel_rfl) (by exact fun _ _ _ h => h) (by rfl) ?_ hS ?_
        rotate_left
        · ((intro w hSw; (try dsimp only at hSw); go_simp) <;> with_reducible rfl)
        (try simp only [Act.put, List.setIfInBounds_toArray, List.set_cons_zero, List.set_cons_succ])
        refine any_take (i := 8) (v := ?_) rfl (by kernel_rfl) (by kernel_rfl) (by kernel_rfl) (by exact fun _ _ _ h => h) (by rfl) ?_ hS ?_
        rotate_left
        · ((intro w hSw; (try dsimp only at hSw); go_simp) <;> with_reducible rfl)
        (try simp only [Act.put, List.setIfInBounds_toArray, List.set_cons_zero, List.set_cons_succ])
        refine any_take (i := 9) (v := ?_) rfl (by kernel_rfl) (by kernel_rfl) (by kernel_rfl) (by exact fun _ _ _ h => h) (by rfl) ?_ hS ?_
        rotate_left
        · ((intro w hSw; (try dsimp only at hSw); go_simp) <;> with_reducible rfl)
        (try simp only [Act.put, List.setIfInBounds_toArray, List.set_cons_zero, List.set_cons_succ])
        refine any_take (i := 10) (v := ?_) rfl (by kernel_rfl) (by kernel_rfl) (by kernel_rfl) (by exact fun _ _ _ h => h) (by rfl) ?_ hS ?_
        rotate_left
        · ((intro w hSw; (try dsimp only at hSw); go_simp) <;> with_reducible rfl)
        (try simp only [Act.put, List.setIfInBounds_toArray, List.set_cons_zero, List.set_cons_succ])
        refine any_take (i := 11) (v := ?_) rfl (by kernel_rfl) (by kernel_rfl) (by kernel_rfl) (by exact fun _ _ _ h => h) (by rfl) ?_ hS ?_
        rotate_left
        · ((intro w hSw; (try dsimp only at hSw); go_simp) <;> with_reducible rfl)
        (try simp only [Act.put, List.setIfInBounds_toArray, List.set_cons_zero, List.set_cons_succ])
        refine wpAnyH_done (by kernel_rfl) ?_ _
        have S5 : Hid _ := And.intro (S4.out.1.later B1) (S4.out.2.laterB B1)
        clear hS HG2 HGet HSz S4 HC4 B0 B1
        have x0 := ck_at S5.out.2 0
        have x1 := ck_at S5.out.2 1
        simp only [List.getElem?_cons_zero, List.getElem?_cons_succ] at x0 x1
        go_wp2_with fail
        refine (Calls.mono (HOn.out _)) ?_
        rintro e w6 ⟨rfl, b6_⟩
        have S6 : Hid _ := S5.out.1.later b6_
        clear b6_ S5 x0 x1
        have vy := ck_at S6.out.vb 2
        have vf := ck_fz S6.out.vb 2
        simp only [List.getElem?_cons_zero, List.getElem?_cons_succ] at vy
        have F : Hid (RdS w (w6.setCell ⟨w.heap.size + 2, 2, none⟩ (.int .u64 (bits .and .u64 (nm.toNat : Int) (on.toNat : Int)))) [.int .u64 f0, .int .u64 f1, .int .u64 f2, .int .u64 0, .int .u64 0, .int .u64 0]) := by
          have h := S6.out.set 2 (.int .u64 (bits .and .u64 (nm.toNat : Int) (on.toNat : Int)))
          rw [NV.out, ← and64 nm on]
          exact h
        clear S6
        go_wp2
        go_roundw
        case rel => exact ⟨3, by omega, rfl, F.out⟩
        case measure => simp [intOf]
    · have S1 : RdS w wr [.int .u64 f0, .int .u64 f1, .int .u64 f2, .int .u64 0, .int .u64 0, .int .u64 0] := hS
      have hix : ∀ X : World, (Instr.index 79 (.agg #[.int .u8 a0, .int .u8 b0, .int .u8 a1, .int .u8 b1, .int .u8 a2, .int .u8 b2, .int .u8 a3, .int .u8 b3, .int .u8 a4, .int .u8 b4, .int .u8 a5, .int .u8 b5]) (.int .i64 3)).run Tryd.prog X = .ok (.agg #[.int .u8 a3, .int .u8 b3]) X := fun _ => by first | rfl | kernel_rfl
      have B3 := Blk.new' wr 78 [.int .u8 a3, .int .u8 b3]
      have b3_ : Below wr.heap.size wr (wr.alloc (.cells #[.int .u8 a3, .int .u8 b3] 78)) := (Below.refl _ _).alloc (Nat.le_refl _) _
      obtain ⟨w3, hw3⟩ : ∃ w3, w3 = wr.alloc (.cells #[.int .u8 a3, .int .u8 b3] 78) := ⟨_, rfl⟩
      rw [← hw3] at B3 b3_
      have S3 : Hid _ := And.intro (S1.later b3_) B3
      have x0 := ck_at B3 0
      have x1 := ck_at B3 1
      simp only [List.getElem?_cons_zero, List.getElem?_cons_succ] at x0 x1
      clear S1 hS B3 b3_
      go_upto_region 5 with fail
      rw [← hw3]
      clear hw3 hix
      go_wp2_with fail
      refine (Calls.mono (cThere_any _ _ _)) ?_
      rintro e w4 ⟨rfl, b4_⟩
      have S4 : Hid _ := And.intro (S3.out.1.later b4_) (S3.out.2.laterB b4_)
      clear b4_ S3 x0 x1
      by_cases hb : b3 = 0
      · have d1 : decide (b3 > 0) = false := decide_eq_false (by omega)
        have F : Hid (RdS w w4 [.int .u64 f0, .int .u64 f1, .int .u64 f2, .int .u64 f3, .int .u64 0, .int .u64 0]) := by have := S4.out.1; rw [E3.out.1 hb]; exact this
        clear S4 hb
        go_wp2
        go_roundw
        case rel => exact ⟨4, by omega, rfl, F.out⟩
        case measure => simp [intOf]
      · have d1 : decide (b3 > 0) = true := decide_eq_true (by have := PF3.out.size; omega)
        have hw_ := PF3.out.wide hb
        have hz_ := PF3.out.size
        have hfit := PF3.out.fit
        have hlow := PF3.out.low
        have HGet : Hid (∀ X, Below w4.heap.size w4 X → _) := fun X (bX : Below w4.heap.size w4 X) => Get_yes a 16 c l a3.toNat (szB b3) X hl (by omega) (Row.later HR.out (below_then S4.out.1.below bX)) (by omega) (by omega) (by omega)
        have HSz : Hid (∀ X, _) := fun X => cSize_any a3 b3 X hz_
        have HOn : Hid (∀ X, _) := fun X => cOnes_any a3 b3 X PF3.out.bits
        have va : IntKind.i64.wrap a3 = a3 := by rw [IntKind.wrap_i64]; omega
        have ca : ((a3.toNat : Nat) : Int) = a3 := by omega
        rw [ca] at HGet
        have NV : Hid _ := E3.out.2 hb
        have AV : Hid _ := and64 (numTo l a3.toNat (szB b3)) (onesB b3)
        generalize szB b3 = sz at *
        generalize onesB b3 = on at *
        generalize numTo l a3.toNat sz = nm at *
        clear hw_ hz_ hfit hlow hb
        have HC4 : Hid _ := And.intro (show w4.cell? ⟨wr.heap.size, 0, none⟩ = _ from ck_at S4.out.2 0) (show w4.cell? ⟨wr.heap.size, 1, none⟩ = _ from ck_at S4.out.2 1)
        go_upto_region 6 with fail
        refine wp_region_held_drew (S := fun W => Below w4.heap.size w4 W) (by kernel_rfl) ((Below.refl _ _).drew) (fun hS => ?_)
        have B0 : Below w4.heap.size w4 w4.drew := ((Below.refl _ _).drew)
        refine any_take (i := 0) (v := ?_) rfl (by kernel_rfl) (by kernel_rfl) (by kernel_rfl) (by exact fun _ _ _ h => h) (by rfl) ?_ hS ?_
        rotate_left
        · ((intro w hSw; have x0 := ck_later HC4.out.1 hSw; have x1 := ck_later HC4.out.2 hSw; go_simp) <;> with_reducible rfl)
        (try simp only [Act.put, List.setIfInBounds_toArray, List.set_cons_zero, List.set_cons_succ])
        refine any_take (i := 1) (v := ?_) rfl (by kernel_rfl) (by kernel_rfl) (by kernel_rfl) (by exact fun _ _ _ h => h) (by rfl) ?_ hS ?_
        rotate_left
        · ((intro w hSw; have x0 := ck_later HC4.out.1 hSw; have x1 := ck_later HC4.out.2 hSw; go_simp) <;> with_reducible rfl)
        (try simp only [Act.put, List.setIfInBounds_toArray, List.set_cons_zero, List.set_cons_succ])
        refine any_take (i := 2) (v := ?_) rfl (by kernel_rfl) (by kernel_rfl) (by kernel_rfl) (by exact fun _ _ _ h => h) (by rfl) ?_ hS ?_
        rotate_left
        · ((intro w hSw; have x0 := ck_later HC4.out.1 hSw; have x1 := ck_later HC4.out.2 hSw; go_simp) <;> with_reducible rfl)
        (try simp only [Act.put, List.setIfInBounds_toArray, List.set_cons_zero, List.set_cons_succ])
        refine any_take (i := 3) (v := ?_) rfl (by kernel_rfl) (by kernel_rfl) (by kernel_rfl) (by exact fun _ _ _ h => h) (by rfl) ?_ hS ?_
        rotate_left
        · ((intro w hSw; have x0 := ck_later HC4.out.1 hSw; have x1 := ck_later HC4.out.2 hSw; go_simp) <;> with_reducible rfl)
        (try simp only [Act.put, List.setIfInBounds_toArray, List.set_cons_zero, List.set_cons_succ])
        refine any_take (i := 4) (v := ?_) rfl (by kernel_rfl) (by kernel_rfl) (by kernel_rfl) (by exact fun _ _ _ h => h) (by rfl) ?_ hS ?_
        rotate_left
        · ((intro w hSw; have x0 := ck_later HC4.out.1 hSw; have x1 := ck_later HC4.out.2 hSw; go_simp) <;> with_reducible rfl)
        (try simp only [Act.put, List.setIfInBounds_toArray, List.set_cons_zero, List.set_cons_succ])
        refine any_one (i := 5) rfl (by kernel_rfl) (fun K hK => ?_)
        go_simp
        refine (Calls.mono (HSz.out _)) ?_
        rintro e x1 ⟨rfl, hbR⟩
        have B1 : Below w4.heap.size w4 x1 := below_then B0 hbR
        go_wp2_with fail
        refine hK.out _ _ (by first | exact B1 | exact hbR | exact below_then hS hbR) (any_weaken (S' := fun W => Below x1.heap.size x1 W) (fun W hW => by first | exact below_then B1 hW | exact below_then hbR hW | exact below_then (below_then hS hbR) hW) _ _ _ _ ?_)
        clear hK K hS hbR
        have hS : Below x1.heap.size x1 x1 := Below.refl _ _
        have HG2 : Hid _ := HGet.out _ B1
        refine any_one (i := 6) rfl (by kernel_rfl) (fun K hK => ?_)
        go_simp
        refine (Calls.mono HG2.out) ?_
        rintro e q9 ⟨rfl, hq9⟩
        rw [hq9]
        clear hq9 q9
        go_wp2_with fail
        refine hK.out _ _ hS ?_
        clear hK K
        refine any_take (i := 7) (v := ?_) rfl (by kernel_rfl) (by kernel_rfl) (by kernel_rfl) (by exact fun _ _ _ h => h) (by rfl) ?_ hS ?_
        rotate_left
        · ((intro w hSw; (try dsimp only at hSw); go_simp) <;> with_reducible rfl)
        (try simp only [Act.put, List.setIfInBounds_toArray, List.set_cons_zero, List.set_cons_succ])
        refine any_take (i := 8) (v := ?_) rfl (by kernel_rfl) (by kernel_rfl) (by kernel_rfl) (by exact fun _ _ _ h => h) (by rfl) ?_ hS ?_
        rotate_left
        · ((intro w hSw; (try dsimp only at hSw); go_simp) <;> with_reducible rfl)
        (try simp only [Act.put, List.setIfInBounds_toArray, List.set_cons_zero, List.set_cons_succ])
        refine any_take (i := 9) (v := ?_) rfl (by kernel_rfl) (by kernel_rfl) (by kernel_rfl) (by exact fun _ _ _ h => h) (by rfl) ?_ hS ?_
        rotate_left
        · ((intro w hSw; (try dsimp only at hSw); go_simp) <;> with_reducible rfl)
        (try simp only [Act.put, List.setIfInBounds_toArray, List.set_cons_zero, List.set_cons_succ])
        refine any_take (i := 10) (v := ?_) rfl (by kernel_rfl) (by kernel_rfl) (by kernel_rfl) (by exact fun _ _ _ h => h) (by rfl) ?_ hS ?_
        rotate_left
        · ((intro w hSw; (try dsimp only at hSw); go_simp) <;> with_reducible rfl)
        (try simp only [Act.put, List.setIfInBounds_toArray, List.set_cons_zero, List.set_cons_succ])
        refine any_take (i := 11) (v := ?_) rfl (by kernel_rfl) (by kernel_rfl) (by kernel_rfl) (by exact fun _ _ _ h => h) (by rfl) ?_ hS ?_
        rotate_left
        · ((intro w hSw; (try dsimp only at hSw); go_simp) <;> with_reducible rfl)
        (try simp only [Act.put, List.setIfInBounds_toArray, List.set_cons_zero, List.set_cons_succ])
        refine wpAnyH_done (by kernel_rfl) ?_ _
        have S5 : Hid _ := And.intro (S4.out.1.later B1) (S4.out.2.laterB B1)
        clear hS HG2 HGet HSz S4 HC4 B0 B1
        have x0 := ck_at S5.out.2 0
        have x1 := ck_at S5.out.2 1
        simp only [List.getElem?_cons_zero, List.getElem?_cons_succ] at x0 x1
        go_wp2_with fail
        refine (Calls.mono (HOn.out _)) ?_
        rintro e w6 ⟨rfl, b6_⟩
        have S6 : Hid _ := S5.out.1.later b6_
        clear b6_ S5 x0 x1
        have vy := ck_at S6.out.vb 3
        have vf := ck_fz S6.out.vb 3
        simp only [List.getElem?_cons_zero, List.getElem?_cons_succ] at vy
        have F : Hid (RdS w (w6.setCell ⟨w.heap.size + 2, 3, none⟩ (.int .u64 (bits .and .u64 (nm.toNat : Int) (on.toNat : Int)))) [.int .u64 f0, .int .u64 f1, .int .u64 f2, .int .u64 f3, .int .u64 0, .int .u64 0]) := by
          have h := S6.out.set 3 (.int .u64 (bits .and .u64 (nm.toNat : Int) (on.toNat : Int)))
          rw [NV.out, ← and64 nm on]
          exact h
        clear S6
        go_wp2
        go_roundw
        case rel => exact ⟨4, by omega, rfl, F.out⟩
        case measure => simp [intOf]
    · have S1 : RdS w wr [.int .u64 f0, .int .u64 f1, .int .u64 f2, .int .u64 f3, .int .u64 0, .int .u64 0] := hS
      have hix : ∀ X : World, (Instr.index 79 (.agg #[.int .u8 a0, .int .u8 b0, .int .u8 a1, .int .u8 b1, .int .u8 a2, .int .u8 b2, .int .u8 a3, .int .u8 b3, .int .u8 a4, .int .u8 b4, .int .u8 a5, .int .u8 b5]) (.int .i64 4)).run Tryd.prog X = .ok (.agg #[.int .u8 a4, .int .u8 b4]) X := fun _ => by first | rfl | kernel_rfl
      have B3 := Blk.new' wr 78 [.int .u8 a4, .int .u8 b4]
      have b3_ : Below wr.heap.size wr (wr.alloc (.cells #[.int .u8 a4, .int .u8 b4] 78)) := (Below.refl _ _).alloc (Nat.le_refl _) _
      obtain ⟨w3, hw3⟩ : ∃ w3, w3 = wr.alloc (.cells #[.int .u8 a4, .int .u8 b4] 78) := ⟨_, rfl⟩
      rw [← hw3] at B3 b3_
      have S3 : Hid _ := And.intro (S1.later b3_) B3
      have x0 := ck_at B3 0
      have x1 := ck_at B3 1
      simp only [List.getElem?_cons_zero, List.getElem?_cons_succ] at x0 x1
      clear S1 hS B3 b3_
      go_upto_region 5 with fail
      rw [← hw3]
      clear hw3 hix
      go_wp2_with fail
      refine (Calls.mono (cThere_any _ _ _)) ?_
      rintro e w4 ⟨rfl, b4_⟩
      have S4 : Hid _ := And.intro (S3.out.1.later b4_) (S3.out.2.laterB b4_)
      clear b4_ S3 x0 x1
      by_cases hb : b4 = 0
      · have d1 : decide (b4 > 0) = false := decide_eq_false (by omega)
        have F : Hid (RdS w w4 [.int .u64 f0, .int .u64 f1, .int .u64 f2, .int .u64 f3, .int .u64 f4, .int .u64 0]) := by have := S4.out.1; rw [E4.out.1 hb]; exact this
        clear S4 hb
        go_wp2
        go_roundw
        case rel => exact ⟨5, by omega, rfl, F.out⟩
        case measure => simp [intOf]
      · have d1 : decide (b4 > 0) = true := decide_eq_true (by have := PF4.out.size; omega)
        have hw_ := PF4.out.wide hb
        have hz_ := PF4.out.size
        have hfit := PF4.out.fit
        have hlow := PF4.out.low
        have HGet : Hid (∀ X, Below w4.heap.size w4 X → _) := fun X (bX : Below w4.heap.size w4 X) => Get_yes a 16 c l a4.toNat (szB b4) X hl (by omega) (Row.later HR.out (below_then S4.out.1.below bX)) (by omega) (by omega) (by omega)
        have HSz : Hid (∀ X, _) := fun X => cSize_any a4 b4 X hz_
        have HOn : Hid (∀ X, _) := fun X => cOnes_any a4 b4 X PF4.out.bits
        have va : IntKind.i64.wrap a4 = a4 := by rw [IntKind.wrap_i64]; omega
        have ca : ((a4.toNat : Nat) : Int) = a4 := by omega
        rw [ca] at HGet
        have NV : Hid _ := E4.out.2 hb
        have AV : Hid _ := and64 (numTo l a4.toNat (szB b4)) (onesB b4)
        generalize szB b4 = sz at *
        generalize onesB b4 = on at *
        generalize numTo l a4.toNat sz = nm at *
        clear hw_ hz_ hfit hlow hb
        have HC4 : Hid _ := And.intro (show w4.cell? ⟨wr.heap.size, 0, none⟩ = _ from ck_at S4.out.2 0) (show w4.cell? ⟨wr.heap.size, 1, none⟩ = _ from ck_at S4.out.2 1)
        go_upto_region 6 with fail
        refine wp_region_held_drew (S := fun W => Below w4.heap.size w4 W) (by kernel_rfl) ((Below.refl _ _).drew) (fun hS => ?_)
        have B0 : Below w4.heap.size w4 w4.drew := ((Below.refl _ _).drew)
        refine any_take (i := 0) (v := ?_) rfl (by kernel_rfl) (by kernel_rfl) (by kernel_rfl) (by exact fun _ _ _ h => h) (by rfl) ?_ hS ?_
        rotate_left
        · ((intro w hSw; have x0 := ck_later HC4.out.1 hSw; have x1 := ck_later HC4.out.2 hSw; go_simp) <;> with_reducible rfl)
        (try simp only [Act.put, List.setIfInBounds_toArray, List.set_cons_zero, List.set_cons_succ])
        refine any_take (i := 1) (v := ?_) rfl (by kernel_rfl) (by kernel_rfl) (by kernel_rfl) (by exact fun _ _ _ h => h) (by rfl) ?_ hS ?_
        rotate_left
        · ((intro w hSw; have x0 := ck_later HC4.out.1 hSw; have x1 := ck_later HC4.out.2 hSw; go_simp) <;> with_reducible rfl)
        (try simp only [Act.put, List.setIfInBounds_toArray, List.set_cons_zero, List.set_cons_succ])
        refine any_take (i := 2) (v := ?_) rfl (by kernel_rfl) (by kernel_rfl) (by kernel_rfl) (by exact fun _ _ _ h => h) (by rfl) ?_ hS ?_
        rotate_left
        · ((intro w hSw; have x0 := ck_later HC4.out.1 hSw; have x1 := ck_later HC4.out.2 hSw; go_simp) <;> with_reducible rfl)
        (try simp only [Act.put, List.setIfInBounds_toArray, List.set_cons_zero, List.set_cons_succ])
        refine any_take (i := 3) (v := ?_) rfl (by kernel_rfl) (by kernel_rfl) (by kernel_rfl) (by exact fun _ _ _ h => h) (by rfl) ?_ hS ?_
        rotate_left
        · ((intro w hSw; have x0 := ck_later HC4.out.1 hSw; have x1 := ck_later HC4.out.2 hSw; go_simp) <;> with_reducible rfl)
        (try simp only [Act.put, List.setIfInBounds_toArray, List.set_cons_zero, List.set_cons_succ])
        refine any_take (i := 4) (v := ?_) rfl (by kernel_rfl) (by kernel_rfl) (by kernel_rfl) (by exact fun _ _ _ h => h) (by rfl) ?_ hS ?_
        rotate_left
        · ((intro w hSw; have x0 := ck_later HC4.out.1 hSw; have x1 := ck_later HC4.out.2 hSw; go_simp) <;> with_reducible rfl)
        (try simp only [Act.put, List.setIfInBounds_toArray, List.set_cons_zero, List.set_cons_succ])
        refine any_one (i := 5) rfl (by kernel_rfl) (fun K hK => ?_)
        go_simp
        refine (Calls.mono (HSz.out _)) ?_
        rintro e x1 ⟨rfl, hbR⟩
        have B1 : Below w4.heap.size w4 x1 := below_then B0 hbR
        go_wp2_with fail
        refine hK.out _ _ (by first | exact B1 | exact hbR | exact below_then hS hbR) (any_weaken (S' := fun W => Below x1.heap.size x1 W) (fun W hW => by first | exact below_then B1 hW | exact below_then hbR hW | exact below_then (below_then hS hbR) hW) _ _ _ _ ?_)
        clear hK K hS hbR
        have hS : Below x1.heap.size x1 x1 := Below.refl _ _
        have HG2 : Hid _ := HGet.out _ B1
        refine any_one (i := 6) rfl (by kernel_rfl) (fun K hK => ?_)
        go_simp
        refine (Calls.mono HG2.out) ?_
        rintro e q9 ⟨rfl, hq9⟩
        rw [hq9]
        clear hq9 q9
        go_wp2_with fail
        refine hK.out _ _ hS ?_
        clear hK K
        refine any_take (i := 7) (v := ?_) rfl (by kernel_rfl) (by kernel_rfl) (by kernel_rfl) (by exact fun _ _ _ h => h) (by rfl) ?_ hS ?_
        rotate_left
        · ((intro w hSw; (try dsimp only at hSw); go_simp) <;> with_reducible rfl)
        (try simp only [Act.put, List.setIfInBounds_toArray, List.set_cons_zero, List.set_cons_succ])
        refine any_take (i := 8) (v := ?_) rfl (by kernel_rfl) (by kernel_rfl) (by kernel_rfl) (by exact fun _ _ _ h => h) (by rfl) ?_ hS ?_
        rotate_left
        · ((intro w hSw; (try dsimp only at hSw); go_simp) <;> with_reducible rfl)
        (try simp only [Act.put, List.setIfInBounds_toArray, List.set_cons_zero, List.set_cons_succ])
        refine any_take (i := 9) (v := ?_) rfl (by kernel_rfl) (by kernel_rfl) (by kernel_rfl) (by exact fun _ _ _ h => h) (by rfl) ?_ hS ?_
        rotate_left
        · ((intro w hSw; (try dsimp only at hSw); go_simp) <;> with_reducible rfl)
        (try simp only [Act.put, List.setIfInBounds_toArray, List.set_cons_zero, List.set_cons_succ])
        refine any_take (i := 10) (v := ?_) rfl (by kernel_rfl) (by kernel_rfl) (by kernel_rfl) (by exact fun _ _ _ h => h) (by rfl) ?_ hS ?_
        rotate_left
        · ((intro w hSw; (try dsimp only at hSw); go_simp) <;> with_reducible rfl)
        (try simp only [Act.put, List.setIfInBounds_toArray, List.set_cons_zero, List.set_cons_succ])
        refine any_take (i := 11) (v := ?_) rfl (by kernel_rfl) (by kernel_rfl) (by kernel_rfl) (by exact fun _ _ _ h => h) (by rfl) ?_ hS ?_
        rotate_left
        · ((intro w hSw; (try dsimp only at hSw); go_simp) <;> with_reducible rfl)
        (try simp only [Act.put, List.setIfInBounds_toArray, List.set_cons_zero, List.set_cons_succ])
        refine wpAnyH_done (by kernel_rfl) ?_ _
        have S5 : Hid _ := And.intro (S4.out.1.later B1) (S4.out.2.laterB B1)
        clear hS HG2 HGet HSz S4 HC4 B0 B1
        have x0 := ck_at S5.out.2 0
        have x1 := ck_at S5.out.2 1
        simp only [List.getElem?_cons_zero, List.getElem?_cons_succ] at x0 x1
        go_wp2_with fail
        refine (Calls.mono (HOn.out _)) ?_
        rintro e w6 ⟨rfl, b6_⟩
        have S6 : Hid _ := S5.out.1.later b6_
        clear b6_ S5 x0 x1
        have vy := ck_at S6.out.vb 4
        have vf := ck_fz S6.out.vb 4
        simp only [List.getElem?_cons_zero, List.getElem?_cons_succ] at vy
        have F : Hid (RdS w (w6.setCell ⟨w.heap.size + 2, 4, none⟩ (.int .u64 (bits .and .u64 (nm.toNat : Int) (on.toNat : Int)))) [.int .u64 f0, .int .u64 f1, .int .u64 f2, .int .u64 f3, .int .u64 f4, .int .u64 0]) := by
          have h := S6.out.set 4 (.int .u64 (bits .and .u64 (nm.toNat : Int) (on.toNat : Int)))
          rw [NV.out, ← and64 nm on]
          exact h
        clear S6
        go_wp2
        go_roundw
        case rel => exact ⟨5, by omega, rfl, F.out⟩
        case measure => simp [intOf]
    · have S1 : RdS w wr [.int .u64 f0, .int .u64 f1, .int .u64 f2, .int .u64 f3, .int .u64 f4, .int .u64 0] := hS
      have hix : ∀ X : World, (Instr.index 79 (.agg #[.int .u8 a0, .int .u8 b0, .int .u8 a1, .int .u8 b1, .int .u8 a2, .int .u8 b2, .int .u8 a3, .int .u8 b3, .int .u8 a4, .int .u8 b4, .int .u8 a5, .int .u8 b5]) (.int .i64 5)).run Tryd.prog X = .ok (.agg #[.int .u8 a5, .int .u8 b5]) X := fun _ => by first | rfl | kernel_rfl
      have B3 := Blk.new' wr 78 [.int .u8 a5, .int .u8 b5]
      have b3_ : Below wr.heap.size wr (wr.alloc (.cells #[.int .u8 a5, .int .u8 b5] 78)) := (Below.refl _ _).alloc (Nat.le_refl _) _
      obtain ⟨w3, hw3⟩ : ∃ w3, w3 = wr.alloc (.cells #[.int .u8 a5, .int .u8 b5] 78) := ⟨_, rfl⟩
      rw [← hw3] at B3 b3_
      have S3 : Hid _ := And.intro (S1.later b3_) B3
      have x0 := ck_at B3 0
      have x1 := ck_at B3 1
      simp only [List.getElem?_cons_zero, List.getElem?_cons_succ] at x0 x1
      clear S1 hS B3 b3_
      go_upto_region 5 with fail
      rw [← hw3]
      clear hw3 hix
      go_wp2_with fail
      refine (Calls.mono (cThere_any _ _ _)) ?_
      rintro e w4 ⟨rfl, b4_⟩
      have S4 : Hid _ := And.intro (S3.out.1.later b4_) (S3.out.2.laterB b4_)
      clear b4_ S3 x0 x1
      by_cases hb : b5 = 0
      · have d1 : decide (b5 > 0) = false := decide_eq_false (by omega)
        have F : Hid (RdS w w4 [.int .u64 f0, .int .u64 f1, .int .u64 f2, .int .u64 f3, .int .u64 f4, .int .u64 f5]) := by have := S4.out.1; rw [E5.out.1 hb]; exact this
        clear S4 hb
        go_wp2
        go_roundw
        case rel => exact ⟨6, by omega, rfl, F.out⟩
        case measure => simp [intOf]
      · have d1 : decide (b5 > 0) = true := decide_eq_true (by have := PF5.out.size; omega)
        have hw_ := PF5.out.wide hb
        have hz_ := PF5.out.size
        have hfit := PF5.out.fit
        have hlow := PF5.out.low
        have HGet : Hid (∀ X, Below w4.heap.size w4 X → _) := fun X (bX : Below w4.heap.size w4 X) => Get_yes a 16 c l a5.toNat (szB b5) X hl (by omega) (Row.later HR.out (below_then S4.out.1.below bX)) (by omega) (by omega) (by omega)
        have HSz : Hid (∀ X, _) := fun X => cSize_any a5 b5 X hz_
        have HOn : Hid (∀ X, _) := fun X => cOnes_any a5 b5 X PF5.out.bits
        have va : IntKind.i64.wrap a5 = a5 := by rw [IntKind.wrap_i64]; omega
        have ca : ((a5.toNat : Nat) : Int) = a5 := by omega
        rw [ca] at HGet
        have NV : Hid _ := E5.out.2 hb
        have AV : Hid _ := and64 (numTo l a5.toNat (szB b5)) (onesB b5)
        generalize szB b5 = sz at *
        generalize onesB b5 = on at *
        generalize numTo l a5.toNat sz = nm at *
        clear hw_ hz_ hfit hlow hb
        have HC4 : Hid _ := And.intro (show w4.cell? ⟨wr.heap.size, 0, none⟩ = _ from ck_at S4.out.2 0) (show w4.cell? ⟨wr.heap.size, 1, none⟩ = _ from ck_at S4.out.2 1)
        go_upto_region 6 with fail
        refine wp_region_held_drew (S := fun W => Below w4.heap.size w4 W) (by kernel_rfl) ((Below.refl _ _).drew) (fun hS => ?_)
        have B0 : Below w4.heap.size w4 w4.drew := ((Below.refl _ _).drew)
        refine any_take (i := 0) (v := ?_) rfl (by kernel_rfl) (by kernel_rfl) (by kernel_rfl) (by exact fun _ _ _ h => h) (by rfl) ?_ hS ?_
        rotate_left
        · ((intro w hSw; have x0 := ck_later HC4.out.1 hSw; have x1 := ck_later HC4.out.2 hSw; go_simp) <;> with_reducible rfl)
        (try simp only [Act.put, List.setIfInBounds_toArray, List.set_cons_zero, List.set_cons_succ])
        refine any_take (i := 1) (v := ?_) rfl (by kernel_rfl) (by kernel_rfl) (by kernel_rfl) (by exact fun _ _ _ h => h) (by rfl) ?_ hS ?_
        rotate_left
        · ((intro w hSw; have x0 := ck_later HC4.out.1 hSw; have x1 := ck_later HC4.out.2 hSw; go_simp) <;> with_reducible rfl)
        (try simp only [Act.put, List.setIfInBounds_toArray, List.set_cons_zero, List.set_cons_succ])
        refine any_take (i := 2) (v := ?_) rfl (by kernel_rfl) (by kernel_rfl) (by kernel_rfl) (by exact fun _ _ _ h => h) (by rfl) ?_ hS ?_
        rotate_left
        · ((intro w hSw; have x0 := ck_later HC4.out.1 hSw; have x1 := ck_later HC4.out.2 hSw; go_simp) <;> with_reducible rfl)
        (try simp only [Act.put, List.setIfInBounds_toArray, List.set_cons_zero, List.set_cons_succ])
        refine any_take (i := 3) (v := ?_) rfl (by kernel_rfl) (by kernel_rfl) (by kernel_rfl) (by exact fun _ _ _ h => h) (by rfl) ?_ hS ?_
        rotate_left
        · ((intro w hSw; have x0 := ck_later HC4.out.1 hSw; have x1 := ck_later HC4.out.2 hSw; go_simp) <;> with_reducible rfl)
        (try simp only [Act.put, List.setIfInBounds_toArray, List.set_cons_zero, List.set_cons_succ])
        refine any_take (i := 4) (v := ?_) rfl (by kernel_rfl) (by kernel_rfl) (by kernel_rfl) (by exact fun _ _ _ h => h) (by rfl) ?_ hS ?_
        rotate_left
        · ((intro w hSw; have x0 := ck_later HC4.out.1 hSw; have x1 := ck_later HC4.out.2 hSw; go_simp) <;> with_reducible rfl)
        (try simp only [Act.put, List.setIfInBounds_toArray, List.set_cons_zero, List.set_cons_succ])
        refine any_one (i := 5) rfl (by kernel_rfl) (fun K hK => ?_)
        go_simp
        refine (Calls.mono (HSz.out _)) ?_
        rintro e x1 ⟨rfl, hbR⟩
        have B1 : Below w4.heap.size w4 x1 := below_then B0 hbR
        go_wp2_with fail
        refine hK.out _ _ (by first | exact B1 | exact hbR | exact below_then hS hbR) (any_weaken (S' := fun W => Below x1.heap.size x1 W) (fun W hW => by first | exact below_then B1 hW | exact below_then hbR hW | exact below_then (below_then hS hbR) hW) _ _ _ _ ?_)
        clear hK K hS hbR
        have hS : Below x1.heap.size x1 x1 := Below.refl _ _
        have HG2 : Hid _ := HGet.out _ B1
        refine any_one (i := 6) rfl (by kernel_rfl) (fun K hK => ?_)
        go_simp
        refine (Calls.mono HG2.out) ?_
        rintro e q9 ⟨rfl, hq9⟩
        rw [hq9]
        clear hq9 q9
        go_wp2_with fail
        refine hK.out _ _ hS ?_
        clear hK K
        refine any_take (i := 7) (v := ?_) rfl (by kernel_rfl) (by kernel_rfl) (by kernel_rfl) (by exact fun _ _ _ h => h) (by rfl) ?_ hS ?_
        rotate_left
        · ((intro w hSw; (try dsimp only at hSw); go_simp) <;> with_reducible rfl)
        (try simp only [Act.put, List.setIfInBounds_toArray, List.set_cons_zero, List.set_cons_succ])
        refine any_take (i := 8) (v := ?_) rfl (by kernel_rfl) (by kernel_rfl) (by kernel_rfl) (by exact fun _ _ _ h => h) (by rfl) ?_ hS ?_
        rotate_left
        · ((intro w hSw; (try dsimp only at hSw); go_simp) <;> with_reducible rfl)
        (try simp only [Act.put, List.setIfInBounds_toArray, List.set_cons_zero, List.set_cons_succ])
        refine any_take (i := 9) (v := ?_) rfl (by kernel_rfl) (by kernel_rfl) (by kernel_rfl) (by exact fun _ _ _ h => h) (by rfl) ?_ hS ?_
        rotate_left
        · ((intro w hSw; (try dsimp only at hSw); go_simp) <;> with_reducible rfl)
        (try simp only [Act.put, List.setIfInBounds_toArray, List.set_cons_zero, List.set_cons_succ])
        refine any_take (i := 10) (v := ?_) rfl (by kernel_rfl) (by kernel_rfl) (by kernel_rfl) (by exact fun _ _ _ h => h) (by rfl) ?_ hS ?_
        rotate_left
        · ((intro w hSw; (try dsimp only at hSw); go_simp) <;> with_reducible rfl)
        (try simp only [Act.put, List.setIfInBounds_toArray, List.set_cons_zero, List.set_cons_succ])
        refine any_take (i := 11) (v := ?_) rfl (by kernel_rfl) (by kernel_rfl) (by kernel_rfl) (by exact fun _ _ _ h => h) (by rfl) ?_ hS ?_
        rotate_left
        · ((intro w hSw; (try dsimp only at hSw); go_simp) <;> with_reducible rfl)
        (try simp only [Act.put, List.setIfInBounds_toArray, List.set_cons_zero, List.set_cons_succ])
        refine wpAnyH_done (by kernel_rfl) ?_ _
        have S5 : Hid _ := And.intro (S4.out.1.later B1) (S4.out.2.laterB B1)
        clear hS HG2 HGet HSz S4 HC4 B0 B1
        have x0 := ck_at S5.out.2 0
        have x1 := ck_at S5.out.2 1
        simp only [List.getElem?_cons_zero, List.getElem?_cons_succ] at x0 x1
        go_wp2_with fail
        refine (Calls.mono (HOn.out _)) ?_
        rintro e w6 ⟨rfl, b6_⟩
        have S6 : Hid _ := S5.out.1.later b6_
        clear b6_ S5 x0 x1
        have vy := ck_at S6.out.vb 5
        have vf := ck_fz S6.out.vb 5
        simp only [List.getElem?_cons_zero, List.getElem?_cons_succ] at vy
        have F : Hid (RdS w (w6.setCell ⟨w.heap.size + 2, 5, none⟩ (.int .u64 (bits .and .u64 (nm.toNat : Int) (on.toNat : Int)))) [.int .u64 f0, .int .u64 f1, .int .u64 f2, .int .u64 f3, .int .u64 f4, .int .u64 f5]) := by
          have h := S6.out.set 5 (.int .u64 (bits .and .u64 (nm.toNat : Int) (on.toNat : Int)))
          rw [NV.out, ← and64 nm on]
          exact h
        clear S6
        go_wp2
        go_roundw
        case rel => exact ⟨6, by omega, rfl, F.out⟩
        case measure => simp [intOf]
    · have S1 : RdS w wr [.int .u64 f0, .int .u64 f1, .int .u64 f2, .int .u64 f3, .int .u64 f4, .int .u64 f5] := hS
      have vy0 := ck_at S1.vb 0
      have vy1 := ck_at S1.vb 1
      have vy2 := ck_at S1.vb 2
      have vy3 := ck_at S1.vb 3
      have vy4 := ck_at S1.vb 4
      have vy5 := ck_at S1.vb 5
      have rz0 := ck_at S1.res 0
      have rz1 := ck_at S1.res 1
      have rz2 := ck_at S1.res 2
      have rz3 := ck_at S1.res 3
      have rz4 := ck_at S1.res 4
      have rz5 := ck_at S1.res 5
      have rf0 := ck_fz S1.res 0
      have rf1 := ck_fz S1.res 1
      have rf2 := ck_fz S1.res 2
      have rf3 := ck_fz S1.res 3
      have rf4 := ck_fz S1.res 4
      have rf5 := ck_fz S1.res 5
      simp only [List.getElem?_cons_zero, List.getElem?_cons_succ] at vy0 rz0 vy1 rz1 vy2 rz2 vy3 rz3 vy4 rz4 vy5 rz5
      have R1 := ((((((S1.res).set 0 (.int .u64 f0)).set 1 (.int .u64 f1)).set 2 (.int .u64 f2)).set 3 (.int .u64 f3)).set 4 (.int .u64 f4)).set 5 (.int .u64 f5)
      simp only [List.set_cons_zero, List.set_cons_succ] at R1
      have R2 := ((((((S1.below).setCell (p := ⟨w.heap.size + 1, 0, none⟩) (show w.heap.size ≤ w.heap.size + 1 by omega) (.int .u64 f0)).setCell (p := ⟨w.heap.size + 1, 1, none⟩) (show w.heap.size ≤ w.heap.size + 1 by omega) (.int .u64 f1)).setCell (p := ⟨w.heap.size + 1, 2, none⟩) (show w.heap.size ≤ w.heap.size + 1 by omega) (.int .u64 f2)).setCell (p := ⟨w.heap.size + 1, 3, none⟩) (show w.heap.size ≤ w.heap.size + 1 by omega) (.int .u64 f3)).setCell (p := ⟨w.heap.size + 1, 4, none⟩) (show w.heap.size ≤ w.heap.size + 1 by omega) (.int .u64 f4)).setCell (p := ⟨w.heap.size + 1, 5, none⟩) (show w.heap.size ≤ w.heap.size + 1 by omega) (.int .u64 f5)
      have G : Hid _ := And.intro R1 R2
      clear R1 R2 S1 hS
      go_wp2
      clear vy0 rz0 rf0 vy1 rz1 rf1 vy2 rz2 rf2 vy3 rz3 rf3 vy4 rz4 rf4 vy5 rz5 rf5
      generalize ((((((wr).setCell ⟨w.heap.size + 1, 0, none⟩ (.int .u64 f0)).setCell ⟨w.heap.size + 1, 1, none⟩ (.int .u64 f1)).setCell ⟨w.heap.size + 1, 2, none⟩ (.int .u64 f2)).setCell ⟨w.heap.size + 1, 3, none⟩ (.int .u64 f3)).setCell ⟨w.heap.size + 1, 4, none⟩ (.int .u64 f4)).setCell ⟨w.heap.size + 1, 5, none⟩ (.int .u64 f5) = wf at *
      have r0 := ck_at G.out.1 0
      have r1 := ck_at G.out.1 1
      have r2 := ck_at G.out.1 2
      have r3 := ck_at G.out.1 3
      have r4 := ck_at G.out.1 4
      have r5 := ck_at G.out.1 5
      simp only [List.getElem?_cons_zero, List.getElem?_cons_succ] at r0 r1 r2 r3 r4 r5
      refine bodyPost_ret (v := .agg #[.int .u64 f0, .int .u64 f1, .int .u64 f2, .int .u64 f3, .int .u64 f4, .int .u64 f5]) (by simp [results, Tryd.results50, go_sem, r0, r1, r2, r3, r4, r5]) rfl ?_
      exact ⟨by rw [HF0.out, HF1.out, HF2.out, HF3.out, HF4.out, HF5.out], G.out.2⟩
end Go.Proofs.YteingnaojnbchaaDoor
