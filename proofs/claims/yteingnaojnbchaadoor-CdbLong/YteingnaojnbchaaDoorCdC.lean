/- cdb: a place's takes, a command's values. -/
import Derived.Test.YteingnaojnbchaaDoorCd7
namespace Go.Proofs.YteingnaojnbchaaDoor
open Go.RowKit
set_option linter.unusedVariables false
set_option linter.unusedSimpArgs false
set_option maxRecDepth 4000

/-- a number goes into a place's bits -/
def tkB (b : Int) (m : BitVec 64) : Bool := decide (m.toNat ≤ (onesB b).toNat)
theorem tkB_fits {a b : Int} {m : BitVec 64} (h : PlOk a b) (h0 : b ≠ 0) (ht : tkB b m = true) : fitsB (szB b) m = true := by
  unfold tkB at ht
  rw [decide_eq_true_eq] at ht
  have hm := m.isLt
  unfold fitsB
  rw [decide_eq_true_eq]
  apply Nat.div_eq_of_lt
  have h1 : m.toNat ≤ (onesB b).toNat := by omega
  rcases h.bits with rfl | rfl | rfl | rfl | rfl | rfl | rfl | rfl
  · exact absurd rfl h0
  all_goals (refine Nat.lt_of_le_of_lt h1 ?_; decide)
theorem n64_wrap (s : Int) : IntKind.u64.wrap s = ((BitVec.ofInt 64 s).toNat : Int) := by
  rw [BitVec.toNat_ofInt]
  have h := Int.emod_nonneg s (b := ((2 ^ 64 : Nat) : Int)) (by decide)
  rw [Int.toNat_of_nonneg h]
  rfl
set_option maxHeartbeats 400000 in
theorem cTakes_any (a b : Int) (m : BitVec 64) (w : World) (h : BitsOk b) :
    Calls Tryd.prog 48 #[.agg #[.int .u8 a, .int .u8 b], .int .u64 (m.toNat : Int)] w fun e w' => e = .returned (.bool (tkB b m)) ∧ Below w.heap.size w w' := by
  have b1 : Below w.heap.size w (w.alloc (.cells #[.int .u8 a, .int .u8 b] 78)) := (Below.refl _ _).alloc (Nat.le_refl _) _
  have B1 := Blk.new' w 78 [.int .u8 a, .int .u8 b]
  obtain ⟨w1, hw1⟩ : ∃ w1, w1 = w.alloc (.cells #[.int .u8 a, .int .u8 b] 78) := ⟨_, rfl⟩
  rw [← hw1] at b1 B1
  have k0 := ck_at B1 0
  have k1 := ck_at B1 1
  simp only [List.getElem?_cons_zero, List.getElem?_cons_succ] at k0 k1
  have H1 : Hid _ := And.intro b1 B1
  have HO : Hid _ := cOnes_any a b w1 h
  clear b1 B1 h
  have HE : Hid (tkB b m = decide (m.toNat ≤ (onesB b).toNat)) := rfl
  generalize tkB b m = tb at *
  generalize onesB b = ob at *
  go_enter Tryd.func48, Tryd.ntmps48
  go_upto_region 1 with fail
  rw [← hw1]
  clear hw1
  go_wp2_with fail
  refine (Calls.mono HO.out) ?_
  rintro e w2 ⟨rfl, b2⟩
  have H2 : Hid _ := below_then H1.out.1 b2
  clear b2 k0 k1 HO H1
  go_wp2
  go_ret
  exact ⟨by rw [HE.out]; rfl, H2.out⟩

/-- what a command's fields say -/
def valB (s p : Int) (v : Bool) (t : Int) (lb : BitVec 64) (n : Int) : List (BitVec 64) := [BitVec.ofInt 64 s, BitVec.ofInt 64 p, if v then 1#64 else 0#64, BitVec.ofInt 64 t, lb, BitVec.ofInt 64 n]
set_option maxHeartbeats 2000000 in
theorem cValues_any (o s p : Int) (v : Bool) (t : Int) (lb : BitVec 64) (n : Int) (w : World) :
    Calls Tryd.prog 46 #[.agg #[.int .i64 o, .int .i64 s, .int .i64 p, .bool v, .int .i64 t, .int .u64 (lb.toNat : Int), .int .i64 n]] w fun e w' => e = .returned (.agg #[.int .u64 ((BitVec.ofInt 64 s).toNat : Int), .int .u64 ((BitVec.ofInt 64 p).toNat : Int), .int .u64 ((if v then 1#64 else 0#64).toNat : Int), .int .u64 ((BitVec.ofInt 64 t).toNat : Int), .int .u64 (lb.toNat : Int), .int .u64 ((BitVec.ofInt 64 n).toNat : Int)]) ∧ Below w.heap.size w w' := by
  have B0 := Blk.new' w 35 [.int .i64 o, .int .i64 s, .int .i64 p, .bool v, .int .i64 t, .int .u64 (lb.toNat : Int), .int .i64 n]
  have b0_ : Below w.heap.size w (w.alloc (.cells #[.int .i64 o, .int .i64 s, .int .i64 p, .bool v, .int .i64 t, .int .u64 (lb.toNat : Int), .int .i64 n] 35)) := (Below.refl _ _).alloc (Nat.le_refl _) _
  obtain ⟨w0, hw0⟩ : ∃ w0, w0 = w.alloc (.cells #[.int .i64 o, .int .i64 s, .int .i64 p, .bool v, .int .i64 t, .int .u64 (lb.toNat : Int), .int .i64 n] 35) := ⟨_, rfl⟩
  have z0 : w0.heap.size = w.heap.size + 1 := by rw [hw0]; simp
  rw [← hw0] at B0 b0_
  have B1 := Blk.new' w0 84 [.int .u64 0, .int .u64 0, .int .u64 0, .int .u64 0, .int .u64 0, .int .u64 0]
  have b1_ : Below w0.heap.size w0 (w0.alloc (.cells #[.int .u64 0, .int .u64 0, .int .u64 0, .int .u64 0, .int .u64 0, .int .u64 0] 84)) := (Below.refl _ _).alloc (Nat.le_refl _) _
  obtain ⟨w1, hw1⟩ : ∃ w1, w1 = w0.alloc (.cells #[.int .u64 0, .int .u64 0, .int .u64 0, .int .u64 0, .int .u64 0, .int .u64 0] 84) := ⟨_, rfl⟩
  have z1 : w1.heap.size = w.heap.size + 2 := by rw [hw1]; simp [z0]
  rw [← hw1] at B1 b1_
  rw [z0] at B1
  have v0 := n64_wrap s
  have v1 := n64_wrap p
  have v3 := n64_wrap t
  have v5 := n64_wrap n
  generalize ((BitVec.ofInt 64 s).toNat : Int) = M0 at *
  generalize ((BitVec.ofInt 64 p).toNat : Int) = M1 at *
  generalize ((BitVec.ofInt 64 t).toNat : Int) = M3 at *
  generalize ((BitVec.ofInt 64 n).toNat : Int) = M5 at *
  generalize (lb.toNat : Int) = L4 at *
  have B2 := Blk.new' w1 84 [.int .u64 M0, .int .u64 M1, .int .u64 0, .int .u64 M3, .int .u64 L4, .int .u64 M5]
  have b2_ : Below w1.heap.size w1 (w1.alloc (.cells #[.int .u64 M0, .int .u64 M1, .int .u64 0, .int .u64 M3, .int .u64 L4, .int .u64 M5] 84)) := (Below.refl _ _).alloc (Nat.le_refl _) _
  obtain ⟨w2, hw2⟩ : ∃ w2, w2 = w1.alloc (.cells #[.int .u64 M0, .int .u64 M1, .int .u64 0, .int .u64 M3, .int .u64 L4, .int .u64 M5] 84) := ⟨_, rfl⟩
  rw [← hw2] at B2 b2_
  rw [z1] at B2
  have S1 : Hid _ := And.intro (below_then b0_ (below_then b1_ b2_)) (And.intro (B1.laterB b2_) B2)
  have B0' := B0.laterB b1_
  have y0 := ck_at B0' 0
  have y1 := ck_at B0' 1
  have y2 := ck_at B0' 2
  have y3 := ck_at B0' 3
  have y4 := ck_at B0' 4
  have y5 := ck_at B0' 5
  have y6 := ck_at B0' 6
  have q3 := ck_at (B0'.laterB b2_) 3
  simp only [List.getElem?_cons_zero, List.getElem?_cons_succ] at q3 y0 y1 y2 y3 y4 y5 y6
  clear B0 b0_ B1 b1_ B2 b2_ B0' z0 
  go_enter Tryd.func46, Tryd.ntmps46
  go_upto_region 1 with fail
  rw [← hw0, ← hw1]
  clear hw0 hw1
  go_upto_region 2 with fail
  rw [← hw2]
  clear hw2 y0 y1 y2 y3 y4 y5 y6
  have HV : Hid _ := z1
  clear z1
  cases v with
  | false =>
    have X2 := S1.out
    have c0 := ck_at X2.2.2 0
    have c1 := ck_at X2.2.2 1
    have c2 := ck_at X2.2.2 2
    have c3 := ck_at X2.2.2 3
    have c4 := ck_at X2.2.2 4
    have c5 := ck_at X2.2.2 5
    have rz0 := ck_at X2.2.1 0
    have rz1 := ck_at X2.2.1 1
    have rz2 := ck_at X2.2.1 2
    have rz3 := ck_at X2.2.1 3
    have rz4 := ck_at X2.2.1 4
    have rz5 := ck_at X2.2.1 5
    have rf0 := ck_fz X2.2.1 0
    have rf1 := ck_fz X2.2.1 1
    have rf2 := ck_fz X2.2.1 2
    have rf3 := ck_fz X2.2.1 3
    have rf4 := ck_fz X2.2.1 4
    have rf5 := ck_fz X2.2.1 5
    simp only [List.getElem?_cons_zero, List.getElem?_cons_succ] at c0 rz0 c1 rz1 c2 rz2 c3 rz3 c4 rz4 c5 rz5
    have R1 := ((((((X2.2.1).set 0 (.int .u64 M0)).set 1 (.int .u64 M1)).set 2 (.int .u64 0)).set 3 (.int .u64 M3)).set 4 (.int .u64 L4)).set 5 (.int .u64 M5)
    simp only [List.set_cons_zero, List.set_cons_succ] at R1
    have R2 := ((((((X2.1).setCell (p := ⟨w.heap.size + 1, 0, none⟩) (show w.heap.size ≤ w.heap.size + 1 by omega) (.int .u64 M0)).setCell (p := ⟨w.heap.size + 1, 1, none⟩) (show w.heap.size ≤ w.heap.size + 1 by omega) (.int .u64 M1)).setCell (p := ⟨w.heap.size + 1, 2, none⟩) (show w.heap.size ≤ w.heap.size + 1 by omega) (.int .u64 0)).setCell (p := ⟨w.heap.size + 1, 3, none⟩) (show w.heap.size ≤ w.heap.size + 1 by omega) (.int .u64 M3)).setCell (p := ⟨w.heap.size + 1, 4, none⟩) (show w.heap.size ≤ w.heap.size + 1 by omega) (.int .u64 L4)).setCell (p := ⟨w.heap.size + 1, 5, none⟩) (show w.heap.size ≤ w.heap.size + 1 by omega) (.int .u64 M5)
    have G : Hid _ := And.intro R1 R2
    clear R1 R2 X2
    go_wp2
    clear c0 rz0 rf0 c1 rz1 rf1 c2 rz2 rf2 c3 rz3 rf3 c4 rz4 rf4 c5 rz5 rf5
    generalize ((((((w2).setCell ⟨w.heap.size + 1, 0, none⟩ (.int .u64 M0)).setCell ⟨w.heap.size + 1, 1, none⟩ (.int .u64 M1)).setCell ⟨w.heap.size + 1, 2, none⟩ (.int .u64 0)).setCell ⟨w.heap.size + 1, 3, none⟩ (.int .u64 M3)).setCell ⟨w.heap.size + 1, 4, none⟩ (.int .u64 L4)).setCell ⟨w.heap.size + 1, 5, none⟩ (.int .u64 M5) = wf at *
    have r0 := ck_at G.out.1 0
    have r1 := ck_at G.out.1 1
    have r2 := ck_at G.out.1 2
    have r3 := ck_at G.out.1 3
    have r4 := ck_at G.out.1 4
    have r5 := ck_at G.out.1 5
    simp only [List.getElem?_cons_zero, List.getElem?_cons_succ] at r0 r1 r2 r3 r4 r5
    refine bodyPost_ret (v := .agg #[.int .u64 M0, .int .u64 M1, .int .u64 0, .int .u64 M3, .int .u64 L4, .int .u64 M5]) (by simp [results, Tryd.results46, go_sem, r0, r1, r2, r3, r4, r5]) rfl ?_
    exact ⟨rfl, G.out.2⟩
  | true =>
    have d2 := ck_at S1.out.2.2 2
    have g2 := ck_fz S1.out.2.2 2
    simp only [List.getElem?_cons_zero, List.getElem?_cons_succ] at d2
    have X2 : Below w.heap.size w (w2.setCell ⟨w.heap.size + 2, 2, none⟩ (.int .u64 1)) ∧ Blk (w2.setCell ⟨w.heap.size + 2, 2, none⟩ (.int .u64 1)) (w.heap.size + 1) 84 [.int .u64 0, .int .u64 0, .int .u64 0, .int .u64 0, .int .u64 0, .int .u64 0] ∧ Blk (w2.setCell ⟨w.heap.size + 2, 2, none⟩ (.int .u64 1)) (w.heap.size + 2) 84 [.int .u64 M0, .int .u64 M1, .int .u64 1, .int .u64 M3, .int .u64 L4, .int .u64 M5] := ⟨S1.out.1.setCell (show w.heap.size ≤ w.heap.size + 2 by omega) _, S1.out.2.1.grown (grown_set _ _ _ _) (by simp), by have h := S1.out.2.2.set 2 (.int .u64 1); exact h⟩
    obtain ⟨w3, hw3⟩ : ∃ w3, w3 = w2.setCell ⟨w.heap.size + 2, 2, none⟩ (.int .u64 1) := ⟨_, rfl⟩
    rw [← hw3] at X2
    have X3 : Hid _ := X2
    clear X2
    go_upto_region 4 with fail
    rw [← hw3]
    clear hw3 d2 g2 q3
    have X2 := X3.out
    clear X3
    have c0 := ck_at X2.2.2 0
    have c1 := ck_at X2.2.2 1
    have c2 := ck_at X2.2.2 2
    have c3 := ck_at X2.2.2 3
    have c4 := ck_at X2.2.2 4
    have c5 := ck_at X2.2.2 5
    have rz0 := ck_at X2.2.1 0
    have rz1 := ck_at X2.2.1 1
    have rz2 := ck_at X2.2.1 2
    have rz3 := ck_at X2.2.1 3
    have rz4 := ck_at X2.2.1 4
    have rz5 := ck_at X2.2.1 5
    have rf0 := ck_fz X2.2.1 0
    have rf1 := ck_fz X2.2.1 1
    have rf2 := ck_fz X2.2.1 2
    have rf3 := ck_fz X2.2.1 3
    have rf4 := ck_fz X2.2.1 4
    have rf5 := ck_fz X2.2.1 5
    simp only [List.getElem?_cons_zero, List.getElem?_cons_succ] at c0 rz0 c1 rz1 c2 rz2 c3 rz3 c4 rz4 c5 rz5
    have R1 := ((((((X2.2.1).set 0 (.int .u64 M0)).set 1 (.int .u64 M1)).set 2 (.int .u64 1)).set 3 (.int .u64 M3)).set 4 (.int .u64 L4)).set 5 (.int .u64 M5)
    simp only [List.set_cons_zero, List.set_cons_succ] at R1
    have R2 := ((((((X2.1).setCell (p := ⟨w.heap.size + 1, 0, none⟩) (show w.heap.size ≤ w.heap.size + 1 by omega) (.int .u64 M0)).setCell (p := ⟨w.heap.size + 1, 1, none⟩) (show w.heap.size ≤ w.heap.size + 1 by omega) (.int .u64 M1)).setCell (p := ⟨w.heap.size + 1, 2, none⟩) (show w.heap.size ≤ w.heap.size + 1 by omega) (.int .u64 1)).setCell (p := ⟨w.heap.size + 1, 3, none⟩) (show w.heap.size ≤ w.heap.size + 1 by omega) (.int .u64 M3)).setCell (p := ⟨w.heap.size + 1, 4, none⟩) (show w.heap.size ≤ w.heap.size + 1 by omega) (.int .u64 L4)).setCell (p := ⟨w.heap.size + 1, 5, none⟩) (show w.heap.size ≤ w.heap.size + 1 by omega) (.int .u64 M5)
    have G : Hid _ := And.intro R1 R2
    clear R1 R2 X2
    go_wp2
    clear c0 rz0 rf0 c1 rz1 rf1 c2 rz2 rf2 c3 rz3 rf3 c4 rz4 rf4 c5 rz5 rf5
    generalize ((((((w3).setCell ⟨w.heap.size + 1, 0, none⟩ (.int .u64 M0)).setCell ⟨w.heap.size + 1, 1, none⟩ (.int .u64 M1)).setCell ⟨w.heap.size + 1, 2, none⟩ (.int .u64 1)).setCell ⟨w.heap.size + 1, 3, none⟩ (.int .u64 M3)).setCell ⟨w.heap.size + 1, 4, none⟩ (.int .u64 L4)).setCell ⟨w.heap.size + 1, 5, none⟩ (.int .u64 M5) = wf at *
    have r0 := ck_at G.out.1 0
    have r1 := ck_at G.out.1 1
    have r2 := ck_at G.out.1 2
    have r3 := ck_at G.out.1 3
    have r4 := ck_at G.out.1 4
    have r5 := ck_at G.out.1 5
    simp only [List.getElem?_cons_zero, List.getElem?_cons_succ] at r0 r1 r2 r3 r4 r5
    refine bodyPost_ret (v := .agg #[.int .u64 M0, .int .u64 M1, .int .u64 1, .int .u64 M3, .int .u64 L4, .int .u64 M5]) (by simp [results, Tryd.results46, go_sem, r0, r1, r2, r3, r4, r5]) rfl ?_
    exact ⟨rfl, G.out.2⟩
end Go.Proofs.YteingnaojnbchaaDoor
