/- cdb: a row's write. -/
import Derived.Test.YteingnaojnbchaaDoorCd4
namespace Go.Proofs.YteingnaojnbchaaDoor
open Go.RowKit
set_option linter.unusedVariables false
set_option linter.unusedSimpArgs false
set_option maxRecDepth 4000

def c8 (n : Int) : BitVec 8 := BitVec.ofInt 8 n
theorem c8_val {n : Int} (h : 0 ≤ n ∧ n < 256) : ((c8 n).toNat : Int) = n := by
  unfold c8
  rw [BitVec.toNat_ofInt]
  simp
  omega
theorem cMake (N : Nat) (hN : N ≤ 140737488355328) (u : World) : (Instr.makeSlice 23 (.int .i64 (N : Int)) (.int .i64 (N : Int))).run Tryd.prog u = .ok (.slice (some ⟨u.heap.size, 0, none⟩) N N) (u.alloc (.cells (vals (List.replicate N 0#8)).toArray 5)) := by
  obtain ⟨i0, hi, hz0, hz1, hz2⟩ := info_u8'
  have h := run_make (P := Tryd.prog) u 23 5 i0 (.int .u8 0) Tryd.underlying23 hi hz0 .i64 .i64 N N (by omega) (by omega) (by rw [hz2]; omega) (by omega)
  rw [hz1] at h
  have e : (madeCells #[Value.int .u8 0] N) = (vals (List.replicate N 0#8)).toArray := by
    have e2 : vals (List.replicate N 0#8) = List.replicate N (Value.int .u8 0) := by simp [vals]
    rw [e2]
    apply Array.ext
    · simp [madeCells]
    · intro i h1 h2; simp [madeCells, Nat.mod_one]
  rw [← e]
  simpa [Value.cells] using h
/-- a field laid into a command's bytes -/
def layF (l : List (BitVec 8)) (a b : Int) (x : BitVec 64) : List (BitVec 8) := if b = 0 then l else over l a.toNat (be (szB b) x)
theorem layF_len {l : List (BitVec 8)} {a b : Int} {x : BitVec 64} (h : PlOk a b) (hl : l.length = 16) : (layF l a b x).length = 16 := by
  unfold layF
  split
  · exact hl
  · rename_i h0
    have hw := h.wide h0
    have hf := h.fit
    rw [over_length _ _ _ (by rw [be_length _ _ (by omega), hl]; omega), hl]
def opL (o : Int) : List (BitVec 8) := c8 o :: List.replicate 15 0#8
/-- a command's bytes behind its first fields -/
def wrF (o : Int) (qs : List ((Int × Int) × BitVec 64)) (k : Nat) : List (BitVec 8) := (qs.take k).foldl (fun l q => layF l q.1.1 q.1.2 q.2) (opL o)
set_option maxHeartbeats 4000000 in
theorem cWrite_any (o a0 b0 a1 b1 a2 b2 a3 b3 a4 b4 a5 b5 : Int) (m0 m1 m2 m3 m4 m5 : BitVec 64) (w : World) (ho : 0 ≤ o ∧ o < 256) (p0 : PlOk a0 b0) (p1 : PlOk a1 b1) (p2 : PlOk a2 b2) (p3 : PlOk a3 b3) (p4 : PlOk a4 b4) (p5 : PlOk a5 b5) (t0 : b0 ≠ 0 → fitsB (szB b0) m0 = true) (t1 : b1 ≠ 0 → fitsB (szB b1) m1 = true) (t2 : b2 ≠ 0 → fitsB (szB b2) m2 = true) (t3 : b3 ≠ 0 → fitsB (szB b3) m3 = true) (t4 : b4 ≠ 0 → fitsB (szB b4) m4 = true) (t5 : b5 ≠ 0 → fitsB (szB b5) m5 = true) :
    Calls Tryd.prog 49 #[.agg #[.int .u8 o, .int .u8 a0, .int .u8 b0, .int .u8 a1, .int .u8 b1, .int .u8 a2, .int .u8 b2, .int .u8 a3, .int .u8 b3, .int .u8 a4, .int .u8 b4, .int .u8 a5, .int .u8 b5], .agg #[.int .u64 (m0.toNat : Int), .int .u64 (m1.toNat : Int), .int .u64 (m2.toNat : Int), .int .u64 (m3.toNat : Int), .int .u64 (m4.toNat : Int), .int .u64 (m5.toNat : Int)]] w fun e w' => ∃ z, e = .returned z ∧ Own w' w.heap.size z (wrF o [((a0, b0), m0), ((a1, b1), m1), ((a2, b2), m2), ((a3, b3), m3), ((a4, b4), m4), ((a5, b5), m5)] 6) ∧ Below w.heap.size w w' := by
  have B0 := Blk.new' w 81 [.int .u8 o, .int .u8 a0, .int .u8 b0, .int .u8 a1, .int .u8 b1, .int .u8 a2, .int .u8 b2, .int .u8 a3, .int .u8 b3, .int .u8 a4, .int .u8 b4, .int .u8 a5, .int .u8 b5]
  have b0_ : Below w.heap.size w (w.alloc (.cells #[.int .u8 o, .int .u8 a0, .int .u8 b0, .int .u8 a1, .int .u8 b1, .int .u8 a2, .int .u8 b2, .int .u8 a3, .int .u8 b3, .int .u8 a4, .int .u8 b4, .int .u8 a5, .int .u8 b5] 81)) := (Below.refl _ _).alloc (Nat.le_refl _) _
  obtain ⟨w0, hw0⟩ : ∃ w0, w0 = w.alloc (.cells #[.int .u8 o, .int .u8 a0, .int .u8 b0, .int .u8 a1, .int .u8 b1, .int .u8 a2, .int .u8 b2, .int .u8 a3, .int .u8 b3, .int .u8 a4, .int .u8 b4, .int .u8 a5, .int .u8 b5] 81) := ⟨_, rfl⟩
  have z0 : w0.heap.size = w.heap.size + 1 := by rw [hw0]; simp
  rw [← hw0] at B0 b0_
  have B1 := Blk.new' w0 84 [.int .u64 (m0.toNat : Int), .int .u64 (m1.toNat : Int), .int .u64 (m2.toNat : Int), .int .u64 (m3.toNat : Int), .int .u64 (m4.toNat : Int), .int .u64 (m5.toNat : Int)]
  have b1_ : Below w0.heap.size w0 (w0.alloc (.cells #[.int .u64 (m0.toNat : Int), .int .u64 (m1.toNat : Int), .int .u64 (m2.toNat : Int), .int .u64 (m3.toNat : Int), .int .u64 (m4.toNat : Int), .int .u64 (m5.toNat : Int)] 84)) := (Below.refl _ _).alloc (Nat.le_refl _) _
  obtain ⟨w1, hw1⟩ : ∃ w1, w1 = w0.alloc (.cells #[.int .u64 (m0.toNat : Int), .int .u64 (m1.toNat : Int), .int .u64 (m2.toNat : Int), .int .u64 (m3.toNat : Int), .int .u64 (m4.toNat : Int), .int .u64 (m5.toNat : Int)] 84) := ⟨_, rfl⟩
  have z1 : w1.heap.size = w.heap.size + 2 := by rw [hw1]; simp [z0]
  rw [← hw1] at B1 b1_
  rw [z0] at B1
  have hmk : (Instr.makeSlice 23 (.int .i64 16) (.int .i64 16)).run Tryd.prog w1 = _ := cMake 16 (by omega) w1
  have B2 := Blk.new' w1 5 (vals (List.replicate 16 0#8))
  have b2_ : Below w1.heap.size w1 (w1.alloc (.cells (vals (List.replicate 16 0#8)).toArray 5)) := (Below.refl _ _).alloc (Nat.le_refl _) _
  obtain ⟨w2, hw2⟩ : ∃ w2, w2 = w1.alloc (.cells (vals (List.replicate 16 0#8)).toArray 5) := ⟨_, rfl⟩
  rw [← hw2] at B2 b2_ hmk
  rw [z1] at B2 hmk
  have B02 := B0.laterB (below_then b1_ b2_)
  have y0 := ck_at B02 0
  have y1 := ck_at B02 1
  have y2 := ck_at B02 2
  have y3 := ck_at B02 3
  have y4 := ck_at B02 4
  have y5 := ck_at B02 5
  have y6 := ck_at B02 6
  have y7 := ck_at B02 7
  have y8 := ck_at B02 8
  have y9 := ck_at B02 9
  have y10 := ck_at B02 10
  have y11 := ck_at B02 11
  have y12 := ck_at B02 12
  simp only [List.getElem?_cons_zero, List.getElem?_cons_succ] at y0 y1 y2 y3 y4 y5 y6 y7 y8 y9 y10 y11 y12
  have u0 := ck_at B2 0
  have g0 := ck_fz B2 0
  simp only [vals, List.replicate, List.map_cons, List.getElem?_cons_zero] at u0
  have B3 := B2.set 0 (.int .u8 o)
  have E3 : (vals (List.replicate 16 0#8)).set 0 (.int .u8 o) = vals (opL o) := by unfold opL vals; simp [List.replicate, c8_val ho]
  rw [E3] at B3
  have O3 : Own (w2.setCell ⟨w.heap.size + 2, 0, none⟩ (.int .u8 o)) w.heap.size (.slice (some ⟨w.heap.size + 2, 0, none⟩) 16 16) (opL o) := Own.ofBlock (l := opL o) (cap := 16) (by omega) B3 (by simp [opL]) (by simp [maxLen]) (by simp [vals, opL]) (by simp [vals, opL])
  have b3_ : Below w.heap.size w (w2.setCell ⟨w.heap.size + 2, 0, none⟩ (.int .u8 o)) := (below_then b0_ (below_then b1_ b2_)).setCell (show w.heap.size ≤ w.heap.size + 2 by omega) _
  have V3 := (B1.laterB b2_).grown (grown_set w2 (w.heap.size + 2) 0 (.int .u8 o)) (by simp)
  obtain ⟨w3, hw3⟩ : ∃ w3, w3 = w2.setCell ⟨w.heap.size + 2, 0, none⟩ (.int .u8 o) := ⟨_, rfl⟩
  rw [← hw3] at O3 b3_ V3
  have S0 : Hid _ := And.intro O3 (And.intro b3_ V3)
  clear B0 b0_ B1 b1_ B2 b2_ B02 z0 z1 B3 E3 O3 b3_ V3 hw2
  go_enter Tryd.func49, Tryd.ntmps49
  go_upto_region 1 with fail
  rw [← hw0, ← hw1]
  clear hw0 hw1
  go_wp2_with fail
  rw [← hw3]
  clear hw3 hmk u0 g0 y0 y1 y2 y3 y4 y5 y6 y7 y8 y9 y10 y11 y12
  have PF0 : Hid _ := And.intro p0 t0
  have PF1 : Hid _ := And.intro p1 t1
  have PF2 : Hid _ := And.intro p2 t2
  have PF3 : Hid _ := And.intro p3 t3
  have PF4 : Hid _ := And.intro p4 t4
  have PF5 : Hid _ := And.intro p5 t5
  clear p0 t0 p1 t1 p2 t2 p3 t3 p4 t4 p5 t5
  have hl0 : Hid ((wrF o [((a0, b0), m0), ((a1, b1), m1), ((a2, b2), m2), ((a3, b3), m3), ((a4, b4), m4), ((a5, b5), m5)] 0).length = 16) := (by simp [opL] : (opL o).length = 16)
  have hl1 : Hid ((wrF o [((a0, b0), m0), ((a1, b1), m1), ((a2, b2), m2), ((a3, b3), m3), ((a4, b4), m4), ((a5, b5), m5)] 1).length = 16) := layF_len (l := wrF o [((a0, b0), m0), ((a1, b1), m1), ((a2, b2), m2), ((a3, b3), m3), ((a4, b4), m4), ((a5, b5), m5)] 0) PF0.out.1 hl0.out
  have hl2 : Hid ((wrF o [((a0, b0), m0), ((a1, b1), m1), ((a2, b2), m2), ((a3, b3), m3), ((a4, b4), m4), ((a5, b5), m5)] 2).length = 16) := layF_len (l := wrF o [((a0, b0), m0), ((a1, b1), m1), ((a2, b2), m2), ((a3, b3), m3), ((a4, b4), m4), ((a5, b5), m5)] 1) PF1.out.1 hl1.out
  have hl3 : Hid ((wrF o [((a0, b0), m0), ((a1, b1), m1), ((a2, b2), m2), ((a3, b3), m3), ((a4, b4), m4), ((a5, b5), m5)] 3).length = 16) := layF_len (l := wrF o [((a0, b0), m0), ((a1, b1), m1), ((a2, b2), m2), ((a3, b3), m3), ((a4, b4), m4), ((a5, b5), m5)] 2) PF2.out.1 hl2.out
  have hl4 : Hid ((wrF o [((a0, b0), m0), ((a1, b1), m1), ((a2, b2), m2), ((a3, b3), m3), ((a4, b4), m4), ((a5, b5), m5)] 4).length = 16) := layF_len (l := wrF o [((a0, b0), m0), ((a1, b1), m1), ((a2, b2), m2), ((a3, b3), m3), ((a4, b4), m4), ((a5, b5), m5)] 3) PF3.out.1 hl3.out
  have hl5 : Hid ((wrF o [((a0, b0), m0), ((a1, b1), m1), ((a2, b2), m2), ((a3, b3), m3), ((a4, b4), m4), ((a5, b5), m5)] 5).length = 16) := layF_len (l := wrF o [((a0, b0), m0), ((a1, b1), m1), ((a2, b2), m2), ((a3, b3), m3), ((a4, b4), m4), ((a5, b5), m5)] 4) PF4.out.1 hl4.out
  have hl6 : Hid ((wrF o [((a0, b0), m0), ((a1, b1), m1), ((a2, b2), m2), ((a3, b3), m3), ((a4, b4), m4), ((a5, b5), m5)] 6).length = 16) := layF_len (l := wrF o [((a0, b0), m0), ((a1, b1), m1), ((a2, b2), m2), ((a3, b3), m3), ((a4, b4), m4), ((a5, b5), m5)] 5) PF5.out.1 hl5.out
  go_loopw [5, 15] (fun bv iv wr => ∃ k : Nat, k ≤ 6 ∧ iv = .int .i64 k ∧ Own wr w.heap.size bv (wrF o [((a0, b0), m0), ((a1, b1), m1), ((a2, b2), m2), ((a3, b3), m3), ((a4, b4), m4), ((a5, b5), m5)] k) ∧ Below w.heap.size w wr ∧ Blk wr (w.heap.size + 1) 84 [.int .u64 (m0.toNat : Int), .int .u64 (m1.toNat : Int), .int .u64 (m2.toNat : Int), .int .u64 (m3.toNat : Int), .int .u64 (m4.toNat : Int), .int .u64 (m5.toNat : Int)]) (fun _ iv _ => 6 - (intOf iv).toNat)
  case atStart => exact ⟨0, by omega, rfl, S0.out.1, S0.out.2.1, S0.out.2.2⟩
  case round =>
    clear S0
    obtain ⟨k, hk, rfl, hO, hbw, hV⟩ := hrel
    have hk' : k = 0 ∨ k = 1 ∨ k = 2 ∨ k = 3 ∨ k = 4 ∨ k = 5 ∨ k = 6 := by omega
    rcases hk' with rfl | rfl | rfl | rfl | rfl | rfl | rfl
    · have hO1 : Own wr w.heap.size u5 (wrF o [((a0, b0), m0), ((a1, b1), m1), ((a2, b2), m2), ((a3, b3), m3), ((a4, b4), m4), ((a5, b5), m5)] 0) := hO
      have hlj : (wrF o [((a0, b0), m0), ((a1, b1), m1), ((a2, b2), m2), ((a3, b3), m3), ((a4, b4), m4), ((a5, b5), m5)] 0).length = 16 := hl0.out
      obtain ⟨Lj, hLj⟩ : ∃ Lj, Lj = wrF o [((a0, b0), m0), ((a1, b1), m1), ((a2, b2), m2), ((a3, b3), m3), ((a4, b4), m4), ((a5, b5), m5)] 0 := ⟨_, rfl⟩
      rw [← hLj] at hO1 hlj
      have LE : Hid (wrF o [((a0, b0), m0), ((a1, b1), m1), ((a2, b2), m2), ((a3, b3), m3), ((a4, b4), m4), ((a5, b5), m5)] 1 = layF Lj a0 b0 m0) := by rw [hLj]; rfl
      clear hLj hO
      have HO1 : Hid _ := And.intro hO1 hlj
      obtain ⟨sa, sc, e5, hle, -, -, hsn, -⟩ := hO1.open
      rw [hlj] at hle e5
      subst e5
      have hix : ∀ X : World, (Instr.index 79 (.agg #[.int .u8 a0, .int .u8 b0, .int .u8 a1, .int .u8 b1, .int .u8 a2, .int .u8 b2, .int .u8 a3, .int .u8 b3, .int .u8 a4, .int .u8 b4, .int .u8 a5, .int .u8 b5]) (.int .i64 0)).run Tryd.prog X = .ok (.agg #[.int .u8 a0, .int .u8 b0]) X := fun _ => by first | rfl | kernel_rfl
      have B3 := Blk.new' wr 78 [.int .u8 a0, .int .u8 b0]
      have b3_ : Below wr.heap.size wr (wr.alloc (.cells #[.int .u8 a0, .int .u8 b0] 78)) := (Below.refl _ _).alloc (Nat.le_refl _) _
      obtain ⟨w3, hw3⟩ : ∃ w3, w3 = wr.alloc (.cells #[.int .u8 a0, .int .u8 b0] 78) := ⟨_, rfl⟩
      rw [← hw3] at B3 b3_
      have S3 : Hid _ := And.intro (And.intro b3_ B3) (And.intro hbw hV)
      have c0 := ck_at B3 0
      have c1 := ck_at B3 1
      simp only [List.getElem?_cons_zero, List.getElem?_cons_succ] at c0 c1
      clear hO1 hbw hV B3 b3_ hlj
      go_upto_region 6 with fail
      rw [← hw3]
      clear hw3 hix
      go_wp2_with fail
      refine (Calls.mono (cThere_any _ _ _)) ?_
      rintro e w4 ⟨rfl, b4_⟩
      have S4 : Hid _ := And.intro (below_then S3.out.1.1 b4_) (And.intro (S3.out.1.2.laterB b4_) (And.intro (below_then S3.out.2.1 (below_then S3.out.1.1 b4_)) (S3.out.2.2.laterB (below_then S3.out.1.1 b4_))))
      clear b4_ S3 c0 c1
      by_cases hb : b0 = 0
      · have d1 : decide (b0 > 0) = false := decide_eq_false (by omega)
        have F : Hid (Own w4 w.heap.size (.slice sa 16 sc) (wrF o [((a0, b0), m0), ((a1, b1), m1), ((a2, b2), m2), ((a3, b3), m3), ((a4, b4), m4), ((a5, b5), m5)] 1) ∧ Below w.heap.size w w4 ∧ Blk w4 (w.heap.size + 1) 84 [.int .u64 (m0.toNat : Int), .int .u64 (m1.toNat : Int), .int .u64 (m2.toNat : Int), .int .u64 (m3.toNat : Int), .int .u64 (m4.toNat : Int), .int .u64 (m5.toNat : Int)]) := ⟨by rw [LE.out]; unfold layF; rw [if_pos hb]; exact HO1.out.1.later S4.out.1, S4.out.2.2.1, S4.out.2.2.2⟩
        clear S4 hb
        go_wp2
        go_roundw
        case rel => exact ⟨1, by omega, rfl, F.out.1, F.out.2.1, F.out.2.2⟩
        case measure => simp [intOf]
      · have d1 : decide (b0 > 0) = true := decide_eq_true (by have := PF0.out.1.size; omega)
        have hw_ := PF0.out.1.wide hb
        have hz_ := PF0.out.1.size
        have hfit := PF0.out.1.fit
        have hlow := PF0.out.1.low
        have va : IntKind.i64.wrap a0 = a0 := by rw [IntKind.wrap_i64]; omega
        have ca : ((a0.toNat : Nat) : Int) = a0 := by omega
        have HPut : Hid (∀ X, Below w4.heap.size w4 X → _) := fun X (bX : Below w4.heap.size w4 X) => Put_yes sa 16 sc Lj a0.toNat (szB b0) m0 X HO1.out.2 hle (by obtain ⟨_, _, e6, -, -, hr6, -, -⟩ := (HO1.out.1.later (below_then S4.out.1 bX)).open; simp only [Value.slice.injEq] at e6; obtain ⟨rfl, -, -⟩ := e6; exact hr6) hsn (by omega) (by omega) (by omega) (by omega) (PF0.out.2 hb)
        rw [ca] at HPut
        have HSz : Hid (∀ X, _) := fun X => cSize_any a0 b0 X hz_
        have LV : Hid (wrF o [((a0, b0), m0), ((a1, b1), m1), ((a2, b2), m2), ((a3, b3), m3), ((a4, b4), m4), ((a5, b5), m5)] 1 = over Lj a0.toNat (be (szB b0) m0)) := by show _ = _; rw [LE.out]; unfold layF; rw [if_neg hb]
        generalize szB b0 = sz at *
        clear hw_ hz_ hfit hlow hb hle hsn
        have HC4 : Hid _ := And.intro (show w4.cell? ⟨wr.heap.size, 0, none⟩ = _ from ck_at S4.out.2.1 0) (And.intro (show w4.cell? ⟨wr.heap.size, 1, none⟩ = _ from ck_at S4.out.2.1 1) (show w4.cell? ⟨w.heap.size + 1, 0, none⟩ = some (.int .u64 (m0.toNat : Int)) from ck_at S4.out.2.2.2 0))
        go_upto_region 7 with fail
        refine wp_region_held_drew (S := fun W => Below w4.heap.size w4 W) (by kernel_rfl) ((Below.refl _ _).drew) (fun hS => ?_)
        have B0 : Below w4.heap.size w4 w4.drew := ((Below.refl _ _).drew)
        refine any_take (i := 0) (v := ?_) rfl (by kernel_rfl) (by kernel_rfl) (by kernel_rfl) (by exact fun _ _ _ h => h) (by rfl) ?_ hS ?_
        rotate_left
        · ((intro w hSw; have c0 := ck_later HC4.out.1 hSw; have c1 := ck_later HC4.out.2.1 hSw; have c2 := ck_later HC4.out.2.2 hSw; go_simp) <;> with_reducible rfl)
        (try simp only [Act.put, List.setIfInBounds_toArray, List.set_cons_zero, List.set_cons_succ])
        refine any_take (i := 1) (v := ?_) rfl (by kernel_rfl) (by kernel_rfl) (by kernel_rfl) (by exact fun _ _ _ h => h) (by rfl) ?_ hS ?_
        rotate_left
        · ((intro w hSw; have c0 := ck_later HC4.out.1 hSw; have c1 := ck_later HC4.out.2.1 hSw; have c2 := ck_later HC4.out.2.2 hSw; go_simp) <;> with_reducible rfl)
        (try simp only [Act.put, List.setIfInBounds_toArray, List.set_cons_zero, List.set_cons_succ])
        refine any_take (i := 2) (v := ?_) rfl (by kernel_rfl) (by kernel_rfl) (by kernel_rfl) (by exact fun _ _ _ h => h) (by rfl) ?_ hS ?_
        rotate_left
        · ((intro w hSw; have c0 := ck_later HC4.out.1 hSw; have c1 := ck_later HC4.out.2.1 hSw; have c2 := ck_later HC4.out.2.2 hSw; go_simp) <;> with_reducible rfl)
        (try simp only [Act.put, List.setIfInBounds_toArray, List.set_cons_zero, List.set_cons_succ])
        refine any_take (i := 3) (v := ?_) rfl (by kernel_rfl) (by kernel_rfl) (by kernel_rfl) (by exact fun _ _ _ h => h) (by rfl) ?_ hS ?_
        rotate_left
        · ((intro w hSw; have c0 := ck_later HC4.out.1 hSw; have c1 := ck_later HC4.out.2.1 hSw; have c2 := ck_later HC4.out.2.2 hSw; go_simp) <;> with_reducible rfl)
        (try simp only [Act.put, List.setIfInBounds_toArray, List.set_cons_zero, List.set_cons_succ])
        refine any_take (i := 4) (v := ?_) rfl (by kernel_rfl) (by kernel_rfl) (by kernel_rfl) (by exact fun _ _ _ h => h) (by rfl) ?_ hS ?_
        rotate_left
        · ((intro w hSw; have c0 := ck_later HC4.out.1 hSw; have c1 := ck_later HC4.out.2.1 hSw; have c2 := ck_later HC4.out.2.2 hSw; go_simp) <;> with_reducible rfl)
        (try simp only [Act.put, List.setIfInBounds_toArray, List.set_cons_zero, List.set_cons_succ])
        refine any_take (i := 6) (v := ?_) rfl (by kernel_rfl) (by kernel_rfl) (by kernel_rfl) (by exact fun _ _ _ h => h) (by rfl) ?_ hS ?_
        rotate_left
        · ((intro w hSw; have c0 := ck_later HC4.out.1 hSw; have c1 := ck_later HC4.out.2.1 hSw; have c2 := ck_later HC4.out.2.2 hSw; go_simp) <;> with_reducible rfl)
        (try simp only [Act.put, List.setIfInBounds_toArray, List.set_cons_zero, List.set_cons_succ])
        refine any_take (i := 7) (v := ?_) rfl (by kernel_rfl) (by kernel_rfl) (by kernel_rfl) (by exact fun _ _ _ h => h) (by rfl) ?_ hS ?_
        rotate_left
        · ((intro w hSw; have c0 := ck_later HC4.out.1 hSw; have c1 := ck_later HC4.out.2.1 hSw; have c2 := ck_later HC4.out.2.2 hSw; go_simp) <;> with_reducible rfl)
        (try simp only [Act.put, List.setIfInBounds_toArray, List.set_cons_zero, List.set_cons_succ])
        refine any_take (i := 8) (v := ?_) rfl (by kernel_rfl) (by kernel_rfl) (by kernel_rfl) (by exact fun _ _ _ h => h) (by rfl) ?_ hS ?_
        rotate_left
        · ((intro w hSw; have c0 := ck_later HC4.out.1 hSw; have c1 := ck_later HC4.out.2.1 hSw; have c2 := ck_later HC4.out.2.2 hSw; go_simp) <;> with_reducible rfl)
        (try simp only [Act.put, List.setIfInBounds_toArray, List.set_cons_zero, List.set_cons_succ])
        refine any_one (i := 5) rfl (by kernel_rfl) (fun K hK => ?_)
        go_simp
        refine (Calls.mono (HSz.out _)) ?_
        rintro e x1 ⟨rfl, hbR⟩
        have B1 : Below w4.heap.size w4 x1 := below_then B0 hbR
        go_wp2_with fail
        refine hK.out _ _ (by first | exact B1 | exact hbR | exact below_then hS hbR) (any_weaken (S' := fun W => Below x1.heap.size x1 W) (fun W hW => by first | exact below_then B1 hW | exact below_then hbR hW | exact below_then (below_then hS hbR) hW) _ _ _ _ ?_)
        clear hK K hS hbR
        have hS : Below x1.heap.size x1 x1 := Below.refl _ _
        have K2 : Hid _ := HPut.out _ B1
        refine any_one (i := 9) rfl (by kernel_rfl) (fun K hK => ?_)
        go_simp
        refine (Calls.mono (K2.out)) ?_
        rintro e x2 ⟨z9, rfl, o9, hbR⟩
        have B2 : Below w4.heap.size w4 x2 := below_then B1 hbR
        clear K2
        go_wp2_with fail
        refine hK.out _ _ (by first | exact B2 | exact hbR | exact below_then hS hbR) (any_weaken (S' := fun W => Below x2.heap.size x2 W) (fun W hW => by first | exact below_then B2 hW | exact below_then hbR hW | exact below_then (below_then hS hbR) hW) _ _ _ _ ?_)
        clear hK K hS hbR
        have hS : Below x2.heap.size x2 x2 := Below.refl _ _
        refine any_take (i := 10) (v := ?_) rfl (by kernel_rfl) (by kernel_rfl) (by kernel_rfl) (by exact fun _ _ _ h => h) (by rfl) ?_ hS ?_
        rotate_left
        · ((intro w hSw; (try dsimp only at hSw); go_simp) <;> with_reducible rfl)
        (try simp only [Act.put, List.setIfInBounds_toArray, List.set_cons_zero, List.set_cons_succ])
        refine any_take (i := 11) (v := ?_) rfl (by kernel_rfl) (by kernel_rfl) (by kernel_rfl) (by exact fun _ _ _ h => h) (by rfl) ?_ hS ?_
        rotate_left
        · ((intro w hSw; (try dsimp only at hSw); go_simp) <;> with_reducible rfl)
        (try simp only [Act.put, List.setIfInBounds_toArray, List.set_cons_zero, List.set_cons_succ])
        refine any_take (i := 12) (v := ?_) rfl (by kernel_rfl) (by kernel_rfl) (by kernel_rfl) (by exact fun _ _ _ h => h) (by rfl) ?_ hS ?_
        rotate_left
        · ((intro w hSw; (try dsimp only at hSw); go_simp) <;> with_reducible rfl)
        (try simp only [Act.put, List.setIfInBounds_toArray, List.set_cons_zero, List.set_cons_succ])
        refine any_take (i := 13) (v := ?_) rfl (by kernel_rfl) (by kernel_rfl) (by kernel_rfl) (by exact fun _ _ _ h => h) (by rfl) ?_ hS ?_
        rotate_left
        · ((intro w hSw; (try dsimp only at hSw); go_simp) <;> with_reducible rfl)
        (try simp only [Act.put, List.setIfInBounds_toArray, List.set_cons_zero, List.set_cons_succ])
        refine wpAnyH_done (by kernel_rfl) ?_ _
        have F : Hid (Own x2 w.heap.size z9 (wrF o [((a0, b0), m0), ((a1, b1), m1), ((a2, b2), m2), ((a3, b3), m3), ((a4, b4), m4), ((a5, b5), m5)] 1) ∧ Below w.heap.size w x2 ∧ Blk x2 (w.heap.size + 1) 84 [.int .u64 (m0.toNat : Int), .int .u64 (m1.toNat : Int), .int .u64 (m2.toNat : Int), .int .u64 (m3.toNat : Int), .int .u64 (m4.toNat : Int), .int .u64 (m5.toNat : Int)]) := ⟨by rw [LV.out]; exact o9.lower (below_then S4.out.2.2.1 B1).size, below_then S4.out.2.2.1 B2, S4.out.2.2.2.laterB B2⟩
        clear hS HPut HSz S4 HC4 B0 B1 B2 o9
        go_wp2
        go_roundw
        case rel => exact ⟨1, by omega, rfl, F.out.1, F.out.2.1, F.out.2.2⟩
        case measure => simp [intOf]
    · have hO1 : Own wr w.heap.size u5 (wrF o [((a0, b0), m0), ((a1, b1), m1), ((a2, b2), m2), ((a3, b3), m3), ((a4, b4), m4), ((a5, b5), m5)] 1) := hO
      have hlj : (wrF o [((a0, b0), m0), ((a1, b1), m1), ((a2, b2), m2), ((a3, b3), m3), ((a4, b4), m4), ((a5, b5), m5)] 1).length = 16 := hl1.out
      obtain ⟨Lj, hLj⟩ : ∃ Lj, Lj = wrF o [((a0, b0), m0), ((a1, b1), m1), ((a2, b2), m2), ((a3, b3), m3), ((a4, b4), m4), ((a5, b5), m5)] 1 := ⟨_, rfl⟩
      rw [← hLj] at hO1 hlj
      have LE : Hid (wrF o [((a0, b0), m0), ((a1, b1), m1), ((a2, b2), m2), ((a3, b3), m3), ((a4, b4), m4), ((a5, b5), m5)] 2 = layF Lj a1 b1 m1) := by rw [hLj]; rfl
      clear hLj hO
      have HO1 : Hid _ := And.intro hO1 hlj
      obtain ⟨sa, sc, e5, hle, -, -, hsn, -⟩ := hO1.open
      rw [hlj] at hle e5
      subst e5
      have hix : ∀ X : World, (Instr.index 79 (.agg #[.int .u8 a0, .int .u8 b0, .int .u8 a1, .int .u8 b1, .int .u8 a2, .int .u8 b2, .int .u8 a3, .int .u8 b3, .int .u8 a4, .int .u8 b4, .int .u8 a5, .int .u8 b5]) (.int .i64 1)).run Tryd.prog X = .ok (.agg #[.int .u8 a1, .int .u8 b1]) X := fun _ => by first | rfl | kernel_rfl
      have B3 := Blk.new' wr 78 [.int .u8 a1, .int .u8 b1]
      have b3_ : Below wr.heap.size wr (wr.alloc (.cells #[.int .u8 a1, .int .u8 b1] 78)) := (Below.refl _ _).alloc (Nat.le_refl _) _
      obtain ⟨w3, hw3⟩ : ∃ w3, w3 = wr.alloc (.cells #[.int .u8 a1, .int .u8 b1] 78) := ⟨_, rfl⟩
      rw [← hw3] at B3 b3_
      have S3 : Hid _ := And.intro (And.intro b3_ B3) (And.intro hbw hV)
      have c0 := ck_at B3 0
      have c1 := ck_at B3 1
      simp only [List.getElem?_cons_zero, List.getElem?_cons_succ] at c0 c1
      clear hO1 hbw hV B3 b3_ hlj
      go_upto_region 6 with fail
      rw [← hw3]
      clear hw3 hix
      go_wp2_with fail
      refine (Calls.mono (cThere_any _ _ _)) ?_
      rintro e w4 ⟨rfl, b4_⟩
      have S4 : Hid _ := And.intro (below_then S3.out.1.1 b4_) (And.intro (S3.out.1.2.laterB b4_) (And.intro (below_then S3.out.2.1 (below_then S3.out.1.1 b4_)) (S3.out.2.2.laterB (below_then S3.out.1.1 b4_))))
      clear b4_ S3 c0 c1
      by_cases hb : b1 = 0
      · have d1 : decide (b1 > 0) = false := decide_eq_false (by omega)
        have F : Hid (Own w4 w.heap.size (.slice sa 16 sc) (wrF o [((a0, b0), m0), ((a1, b1), m1), ((a2, b2), m2), ((a3, b3), m3), ((a4, b4), m4), ((a5, b5), m5)] 2) ∧ Below w.heap.size w w4 ∧ Blk w4 (w.heap.size + 1) 84 [.int .u64 (m0.toNat : Int), .int .u64 (m1.toNat : Int), .int .u64 (m2.toNat : Int), .int .u64 (m3.toNat : Int), .int .u64 (m4.toNat : Int), .int .u64 (m5.toNat : Int)]) := ⟨by rw [LE.out]; unfold layF; rw [if_pos hb]; exact HO1.out.1.later S4.out.1, S4.out.2.2.1, S4.out.2.2.2⟩
        clear S4 hb
        go_wp2
        go_roundw
        case rel => exact ⟨2, by omega, rfl, F.out.1, F.out.2.1, F.out.2.2⟩
        case measure => simp [intOf]
      · have d1 : decide (b1 > 0) = true := decide_eq_true (by have := PF1.out.1.size; omega)
        have hw_ := PF1.out.1.wide hb
        have hz_ := PF1.out.1.size
        have hfit := PF1.out.1.fit
        have hlow := PF1.out.1.low
        have va : IntKind.i64.wrap a1 = a1 := by rw [IntKind.wrap_i64]; omega
        have ca : ((a1.toNat : Nat) : Int) = a1 := by omega
        have HPut : Hid (∀ X, Below w4.heap.size w4 X → _) := fun X (bX : Below w4.heap.size w4 X) => Put_yes sa 16 sc Lj a1.toNat (szB b1) m1 X HO1.out.2 hle (by obtain ⟨_, _, e6, -, -, hr6, -, -⟩ := (HO1.out.1.later (below_then S4.out.1 bX)).open; simp only [Value.slice.injEq] at e6; obtain ⟨rfl, -, -⟩ := e6; exact hr6) hsn (by omega) (by omega) (by omega) (by omega) (PF1.out.2 hb)
        rw [ca] at HPut
        have HSz : Hid (∀ X, _) := fun X => cSize_any a1 b1 X hz_
        have LV : Hid (wrF o [((a0, b0), m0), ((a1, b1), m1), ((a2, b2), m2), ((a3, b3), m3), ((a4, b4), m4), ((a5, b5), m5)] 2 = over Lj a1.toNat (be (szB b1) m1)) := by show _ = _; rw [LE.out]; unfold layF; rw [if_neg hb]
        generalize szB b1 = sz at *
        clear hw_ hz_ hfit hlow hb hle hsn
        have HC4 : Hid _ := And.intro (show w4.cell? ⟨wr.heap.size, 0, none⟩ = _ from ck_at S4.out.2.1 0) (And.intro (show w4.cell? ⟨wr.heap.size, 1, none⟩ = _ from ck_at S4.out.2.1 1) (show w4.cell? ⟨w.heap.size + 1, 1, none⟩ = some (.int .u64 (m1.toNat : Int)) from ck_at S4.out.2.2.2 1))
        go_upto_region 7 with fail
        refine wp_region_held_drew (S := fun W => Below w4.heap.size w4 W) (by kernel_rfl) ((Below.refl _ _).drew) (fun hS => ?_)
        have B0 : Below w4.heap.size w4 w4.drew := ((Below.refl _ _).drew)
        refine any_take (i := 0) (v := ?_) rfl (by kernel_rfl) (by kernel_rfl) (by kernel_rfl) (by exact fun _ _ _ h => h) (by rfl) ?_ hS ?_
        rotate_left
        · ((intro w hSw; have c0 := ck_later HC4.out.1 hSw; have c1 := ck_later HC4.out.2.1 hSw; have c2 := ck_later HC4.out.2.2 hSw; go_simp) <;> with_reducible rfl)
        (try simp only [Act.put, List.setIfInBounds_toArray, List.set_cons_zero, List.set_cons_succ])
        refine any_take (i := 1) (v := ?_) rfl (by kernel_rfl) (by kernel_rfl) (by kernel_rfl) (by exact fun _ _ _ h => h) (by rfl) ?_ hS ?_
        rotate_left
        · ((intro w hSw; have c0 := ck_later HC4.out.1 hSw; have c1 := ck_later HC4.out.2.1 hSw; have c2 := ck_later HC4.out.2.2 hSw; go_simp) <;> with_reducible rfl)
        (try simp only [Act.put, List.setIfInBounds_toArray, List.set_cons_zero, List.set_cons_succ])
        refine any_take (i := 2) (v := ?_) rfl (by kernel_rfl) (by kernel_rfl) (by kernel_rfl) (by exact fun _ _ _ h => h) (by rfl) ?_ hS ?_
        rotate_left
        · ((intro w hSw; have c0 := ck_later HC4.out.1 hSw; have c1 := ck_later HC4.out.2.1 hSw; have c2 := ck_later HC4.out.2.2 hSw; go_simp) <;> with_reducible rfl)
        (try simp only [Act.put, List.setIfInBounds_toArray, List.set_cons_zero, List.set_cons_succ])
        refine any_take (i := 3) (v := ?_) rfl (by kernel_rfl) (by kernel_rfl) (by kernel_rfl) (by exact fun _ _ _ h => h) (by rfl) ?_ hS ?_
        rotate_left
        · ((intro w hSw; have c0 := ck_later HC4.out.1 hSw; have c1 := ck_later HC4.out.2.1 hSw; have c2 := ck_later HC4.out.2.2 hSw; go_simp) <;> with_reducible rfl)
        (try simp only [Act.put, List.setIfInBounds_toArray, List.set_cons_zero, List.set_cons_succ])
        refine any_take (i := 4) (v := ?_) rfl (by kernel_rfl) (by kernel_rfl) (by kernel_rfl) (by exact fun _ _ _ h => h) (by rfl) ?_ hS ?_
        rotate_left
        · ((intro w hSw; have c0 := ck_later HC4.out.1 hSw; have c1 := ck_later HC4.out.2.1 hSw; have c2 := ck_later HC4.out.2.2 hSw; go_simp) <;> with_reducible rfl)
        (try simp only [Act.put, List.setIfInBounds_toArray, List.set_cons_zero, List.set_cons_succ])
        refine any_take (i := 6) (v := ?_) rfl (by kernel_rfl) (by kernel_rfl) (by kernel_rfl) (by exact fun _ _ _ h => h) (by rfl) ?_ hS ?_
        rotate_left
        · ((intro w hSw; have c0 := ck_later HC4.out.1 hSw; have c1 := ck_later HC4.out.2.1 hSw; have c2 := ck_later HC4.out.2.2 hSw; go_simp) <;> with_reducible rfl)
        (try simp only [Act.put, List.setIfInBounds_toArray, List.set_cons_zero, List.set_cons_succ])
        refine any_take (i := 7) (v := ?_) rfl (by kernel_rfl) (by kernel_rfl) (by kernel_rfl) (by exact fun _ _ _ h => h) (by rfl) ?_ hS ?_
        rotate_left
        · ((intro w hSw; have c0 := ck_later HC4.out.1 hSw; have c1 := ck_later HC4.out.2.1 hSw; have c2 := ck_later HC4.out.2.2 hSw; go_simp) <;> with_reducible rfl)
        (try simp only [Act.put, List.setIfInBounds_toArray, List.set_cons_zero, List.set_cons_succ])
        refine any_take (i := 8) (v := ?_) rfl (by kernel_rfl) (by kernel_rfl) (by kernel_rfl) (by exact fun _ _ _ h => h) (by rfl) ?_ hS ?_
        rotate_left
        · ((intro w hSw; have c0 := ck_later HC4.out.1 hSw; have c1 := ck_later HC4.out.2.1 hSw; have c2 := ck_later HC4.out.2.2 hSw; go_simp) <;> with_reducible rfl)
        (try simp only [Act.put, List.setIfInBounds_toArray, List.set_cons_zero, List.set_cons_succ])
        refine any_one (i := 5) rfl (by kernel_rfl) (fun K hK => ?_)
        go_simp
        refine (Calls.mono (HSz.out _)) ?_
        rintro e x1 ⟨rfl, hbR⟩
        have B1 : Below w4.heap.size w4 x1 := below_then B0 hbR
        go_wp2_with fail
        refine hK.out _ _ (by first | exact B1 | exact hbR | exact below_then hS hbR) (any_weaken (S' := fun W => Below x1.heap.size x1 W) (fun W hW => by first | exact below_then B1 hW | exact below_then hbR hW | exact below_then (below_then hS hbR) hW) _ _ _ _ ?_)
        clear hK K hS hbR
        have hS : Below x1.heap.size x1 x1 := Below.refl _ _
        have K2 : Hid _ := HPut.out _ B1
        refine any_one (i := 9) rfl (by kernel_rfl) (fun K hK => ?_)
        go_simp
        refine (Calls.mono (K2.out)) ?_
        rintro e x2 ⟨z9, rfl, o9, hbR⟩
        have B2 : Below w4.heap.size w4 x2 := below_then B1 hbR
        clear K2
        go_wp2_with fail
        refine hK.out _ _ (by first | exact B2 | exact hbR | exact below_then hS hbR) (any_weaken (S' := fun W => Below x2.heap.size x2 W) (fun W hW => by first | exact below_then B2 hW | exact below_then hbR hW | exact below_then (below_then hS hbR) hW) _ _ _ _ ?_)
        clear hK K hS hbR
        have hS : Below x2.heap.size x2 x2 := Below.refl _ _
        refine any_take (i := 10) (v := ?_) rfl (by kernel_rfl) (by kernel_rfl) (by kernel_rfl) (by exact fun _ _ _ h => h) (by rfl) ?_ hS ?_
        rotate_left
        · ((intro w hSw; (try dsimp only at hSw); go_simp) <;> with_reducible rfl)
        (try simp only [Act.put, List.setIfInBounds_toArray, List.set_cons_zero, List.set_cons_succ])
        refine any_take (i := 11) (v := ?_) rfl (by kernel_rfl) (by kernel_rfl) (by kernel_rfl) (by exact fun _ _ _ h => h) (by rfl) ?_ hS ?_
        rotate_left
        · ((intro w hSw; (try dsimp only at hSw); go_simp) <;> with_reducible rfl)
        (try simp only [Act.put, List.setIfInBounds_toArray, List.set_cons_zero, List.set_cons_succ])
        refine any_take (i := 12) (v := ?_) rfl (by kernel_rfl) (by kernel_rfl) (by kernel_rfl) (by exact fun _ _ _ h => h) (by rfl) ?_ hS ?_
        rotate_left
        · ((intro w hSw; (try dsimp only at hSw); go_simp) <;> with_reducible rfl)
        (try simp only [Act.put, List.setIfInBounds_toArray, List.set_cons_zero, List.set_cons_succ])
        refine any_take (i := 13) (v := ?_) rfl (by kernel_rfl) (by kernel_rfl) (by kernel_rfl) (by exact fun _ _ _ h => h) (by rfl) ?_ hS ?_
        rotate_left
        · ((intro w hSw; (try dsimp only at hSw); go_simp) <;> with_reducible rfl)
        (try simp only [Act.put, List.setIfInBounds_toArray, List.set_cons_zero, List.set_cons_succ])
        refine wpAnyH_done (by kernel_rfl) ?_ _
        have F : Hid (Own x2 w.heap.size z9 (wrF o [((a0, b0), m0), ((a1, b1), m1), ((a2, b2), m2), ((a3, b3), m3), ((a4, b4), m4), ((a5, b5), m5)] 2) ∧ Below w.heap.size w x2 ∧ Blk x2 (w.heap.size + 1) 84 [.int .u64 (m0.toNat : Int), .int .u64 (m1.toNat : Int), .int .u64 (m2.toNat : Int), .int .u64 (m3.toNat : Int), .int .u64 (m4.toNat : Int), .int .u64 (m5.toNat : Int)]) := ⟨by rw [LV.out]; exact o9.lower (below_then S4.out.2.2.1 B1).size, below_then S4.out.2.2.1 B2, S4.out.2.2.2.laterB B2⟩
        clear hS HPut HSz S4 HC4 B0 B1 B2 o9
        go_wp2
        go_roundw
        case rel => exact ⟨2, by omega, rfl, F.out.1, F.out.2.1, F.out.2.2⟩
        case measure => simp [intOf]
    · have hO1 : Own wr w.heap.size u5 (wrF o [((a0, b0), m0), ((a1, b1), m1), ((a2, b2), m2), ((a3, b3), m3), ((a4, b4), m4), ((a5, b5), m5)] 2) := hO
      have hlj : (wrF o [((a0, b0), m0), ((a1, b1), m1), ((a2, b2), m2), ((a3, b3), m3), ((a4, b4), m4), ((a5, b5), m5)] 2).length = 16 := hl2.out
      obtain ⟨Lj, hLj⟩ : ∃ Lj, Lj = wrF o [((a0, b0), m0), ((a1, b1), m1), ((a2, b2), m2), ((a3, b3), m3), ((a4, b4), m4), ((a5, b5), m5)] 2 := ⟨_, rfl⟩
      rw [← hLj] at hO1 hlj
      have LE : Hid (wrF o [((a0, b0), m0), ((a1, b1), m1), ((a2, b2), m2), ((a3, b3), m3), ((a4, b4), m4), ((a5, b5), m5)] 3 = layF Lj a2 b2 m2) := by rw [hLj]; rfl
      clear hLj hO
      have HO1 : Hid _ := And.intro hO1 hlj
      obtain ⟨sa, sc, e5, hle, -, -, hsn, -⟩ := hO1.open
      rw [hlj] at hle e5
      subst e5
      have hix : ∀ X : World, (Instr.index 79 (.agg #[.int .u8 a0, .int .u8 b0, .int .u8 a1, .int .u8 b1, .int .u8 a2, .int .u8 b2, .int .u8 a3, .int .u8 b3, .int .u8 a4, .int .u8 b4, .int .u8 a5, .int .u8 b5]) (.int .i64 2)).run Tryd.prog X = .ok (.agg #[.int .u8 a2, .int .u8 b2]) X := fun _ => by first | rfl | kernel_rfl
      have B3 := Blk.new' wr 78 [.int .u8 a2, .int .u8 b2]
      have b3_ : Below wr.heap.size wr (wr.alloc (.cells #[.int .u8 a2, .int .u8 b2] 78)) := (Below.refl _ _).alloc (Nat.le_refl _) _
      obtain ⟨w3, hw3⟩ : ∃ w3, w3 = wr.alloc (.cells #[.int .u8 a2, .int .u8 b2] 78) := ⟨_, rfl⟩
      rw [← hw3] at B3 b3_
      have S3 : Hid _ := And.intro (And.intro b3_ B3) (And.intro hbw hV)
      have c0 := ck_at B3 0
      have c1 := ck_at B3 1
      simp only [List.getElem?_cons_zero, List.getElem?_cons_succ] at c0 c1
      clear hO1 hbw hV B3 b3_ hlj
      go_upto_region 6 with fail
      rw [← hw3]
      clear hw3 hix
      go_wp2_with fail
      refine (Calls.mono (cThere_any _ _ _)) ?_
      rintro e w4 ⟨rfl, b4_⟩
      have S4 : Hid _ := And.intro (below_then S3.out.1.1 b4_) (And.intro (S3.out.1.2.laterB b4_) (And.intro (below_then S3.out.2.1 (below_then S3.out.1.1 b4_)) (S3.out.2.2.laterB (below_then S3.out.1.1 b4_))))
      clear b4_ S3 c0 c1
      by_cases hb : b2 = 0
      · have d1 : decide (b2 > 0) = false := decide_eq_false (by omega)
        have F : Hid (Own w4 w.heap.size (.slice sa 16 sc) (wrF o [((a0, b0), m0), ((a1, b1), m1), ((a2, b2), m2), ((a3, b3), m3), ((a4, b4), m4), ((a5, b5), m5)] 3) ∧ Below w.heap.size w w4 ∧ Blk w4 (w.heap.size + 1) 84 [.int .u64 (m0.toNat : Int), .int .u64 (m1.toNat : Int), .int .u64 (m2.toNat : Int), .int .u64 (m3.toNat : Int), .int .u64 (m4.toNat : Int), .int .u64 (m5.toNat : Int)]) := ⟨by rw [LE.out]; unfold layF; rw [if_pos hb]; exact HO1.out.1.later S4.out.1, S4.out.2.2.1, S4.out.2.2.2⟩
        clear S4 hb
        go_wp2
        go_roundw
        case rel => exact ⟨3, by omega, rfl, F.out.1, F.out.2.1, F.out.2.2⟩
        case measure => simp [intOf]
      · have d1 : decide (b2 > 0) = true := decide_eq_true (by have := PF2.out.1.size; omega)
        have hw_ := PF2.out.1.wide hb
        have hz_ := PF2.out.1.size
        have hfit := PF2.out.1.fit
        have hlow := PF2.out.1.low
        have va : IntKind.i64.wrap a2 = a2 := by rw [IntKind.wrap_i64]; omega
        have ca : ((a2.toNat : Nat) : Int) = a2 := by omega
        have HPut : Hid (∀ X, Below w4.heap.size w4 X → _) := fun X (bX : Below w4.heap.size w4 X) => Put_yes sa 16 sc Lj a2.toNat (szB b2) m2 X HO1.out.2 hle (by obtain ⟨_, _, e6, -, -, hr6, -, -⟩ := (HO1.out.1.later (below_then S4.out.1 bX)).open; simp only [Value.slice.injEq] at e6; obtain ⟨rfl, -, -⟩ := e6; exact hr6) hsn (by omega) (by omega) (by omega) (by omega) (PF2.out.2 hb)
        rw [ca] at HPut
        have HSz : Hid (∀ X, _) := fun X => cSize_any a2 b2 X hz_
        have LV : Hid (wrF o [((a0, b0), m0), ((a1, b1), m1), ((a2, b2), m2), ((a3, b3), m3), ((a4, b4), m4), ((a5, b5), m5)] 3 = over Lj a2.toNat (be (szB b2) m2)) := by show _ = _; rw [LE.out]; unfold layF; rw [if_neg hb]
        generalize szB b2 = sz at *
        clear hw_ hz_ hfit hlow hb hle hsn
        have HC4 : Hid _ := And.intro (show w4.cell? ⟨wr.heap.size, 0, none⟩ = _ from ck_at S4.out.2.1 0) (And.intro (show w4.cell? ⟨wr.heap.size, 1, none⟩ = _ from ck_at S4.out.2.1 1) (show w4.cell? ⟨w.heap.size + 1, 2, none⟩ = some (.int .u64 (m2.toNat : Int)) from ck_at S4.out.2.2.2 2))
        go_upto_region 7 with fail
        refine wp_region_held_drew (S := fun W => Below w4.heap.size w4 W) (by kernel_rfl) ((Below.refl _ _).drew) (fun hS => ?_)
        have B0 : Below w4.heap.size w4 w4.drew := ((Below.refl _ _).drew)
        refine any_take (i := 0) (v := ?_) rfl (by kernel_rfl) (by kernel_rfl) (by kernel_rfl) (by exact fun _ _ _ h => h) (by rfl) ?_ hS ?_
        rotate_left
        · ((intro w hSw; have c0 := ck_later HC4.out.1 hSw; have c1 := ck_later HC4.out.2.1 hSw; have c2 := ck_later HC4.out.2.2 hSw; go_simp) <;> with_reducible rfl)
        (try simp only [Act.put, List.setIfInBounds_toArray, List.set_cons_zero, List.set_cons_succ])
        refine any_take (i := 1) (v := ?_) rfl (by kernel_rfl) (by kernel_rfl) (by kernel_rfl) (by exact fun _ _ _ h => h) (by rfl) ?_ hS ?_
        rotate_left
        · ((intro w hSw; have c0 := ck_later HC4.out.1 hSw; have c1 := ck_later HC4.out.2.1 hSw; have c2 := ck_later HC4.out.2.2 hSw; go_simp) <;> with_reducible rfl)
        (try simp only [Act.put, List.setIfInBounds_toArray, List.set_cons_zero, List.set_cons_succ])
        refine any_take (i := 2) (v := ?_) rfl (by kernel_rfl) (by kernel_rfl) (by kernel_rfl) (by exact fun _ _ _ h => h) (by rfl) ?_ hS ?_
        rotate_left
        · ((intro w hSw; have c0 := ck_later HC4.out.1 hSw; have c1 := ck_later HC4.out.2.1 hSw; have c2 := ck_later HC4.out.2.2 hSw; go_simp) <;> with_reducible rfl)
        (try simp only [Act.put, List.setIfInBounds_toArray, List.set_cons_zero, List.set_cons_succ])
        refine any_take (i := 3) (v := ?_) rfl (by kernel_rfl) (by kernel_rfl) (by kernel_rfl) (by exact fun _ _ _ h => h) (by rfl) ?_ hS ?_
        rotate_left
        · ((intro w hSw; have c0 := ck_later HC4.out.1 hSw; have c1 := ck_later HC4.out.2.1 hSw; have c2 := ck_later HC4.out.2.2 hSw; go_simp) <;> with_reducible rfl)
        (try simp only [Act.put, List.setIfInBounds_toArray, List.set_cons_zero, List.set_cons_succ])
        refine any_take (i := 4) (v := ?_) rfl (by kernel_rfl) (by kernel_rfl) (by kernel_rfl) (by exact fun _ _ _ h => h) (by rfl) ?_ hS ?_
        rotate_left
        · ((intro w hSw; have c0 := ck_later HC4.out.1 hSw; have c1 := ck_later HC4.out.2.1 hSw; have c2 := ck_later HC4.out.2.2 hSw; go_simp) <;> with_reducible rfl)
        (try simp only [Act.put, List.setIfInBounds_toArray, List.set_cons_zero, List.set_cons_succ])
        refine any_take (i := 6) (v := ?_) rfl (by kernel_rfl) (by kernel_rfl) (by kernel_rfl) (by exact fun _ _ _ h => h) (by rfl) ?_ hS ?_
        rotate_left
        · ((intro w hSw; have c0 := ck_later HC4.out.1 hSw; have c1 := ck_later HC4.out.2.1 hSw; have c2 := ck_later HC4.out.2.2 hSw; go_simp) <;> with_reducible rfl)
        (try simp only [Act.put, List.setIfInBounds_toArray, List.set_cons_zero, List.set_cons_succ])
        refine any_take (i := 7) (v := ?_) rfl (by kernel_rfl) (by kernel_rfl) (by kernel_rfl) (by exact fun _ _ _ h => h) (by rfl) ?_ hS ?_
        rotate_left
        · ((intro w hSw; have c0 := ck_later HC4.out.1 hSw; have c1 := ck_later HC4.out.2.1 hSw; have c2 := ck_later HC4.out.2.2 hSw; go_simp) <;> with_reducible rfl)
        (try simp only [Act.put, List.setIfInBounds_toArray, List.set_cons_zero, List.set_cons_succ])
        refine any_take (i := 8) (v := ?_) rfl (by kernel_rfl) (by kernel_rfl) (by kernel_rfl) (by exact fun _ _ _ h => h) (by rfl) ?_ hS ?_
        rotate_left
        · ((intro w hSw; have c0 := ck_later HC4.out.1 hSw; have c1 := ck_later HC4.out.2.1 hSw; have c2 := ck_later HC4.out.2.2 hSw; go_simp) <;> with_reducible rfl)
        (try simp only [Act.put, List.setIfInBounds_toArray, List.set_cons_zero, List.set_cons_succ])
        refine any_one (i := 5) rfl (by kernel_rfl) (fun K hK => ?_)
        go_simp
        refine (Calls.mono (HSz.out _)) ?_
        rintro e x1 ⟨rfl, hbR⟩
        have B1 : Below w4.heap.size w4 x1 := below_then B0 hbR
        go_wp2_with fail
        refine hK.out _ _ (by first | exact B1 | exact hbR | exact below_then hS hbR) (any_weaken (S' := fun W => Below x1.heap.size x1 W) (fun W hW => by first | exact below_then B1 hW | exact below_then hbR hW | exact below_then (below_then hS hbR) hW) _ _ _ _ ?_)
        clear hK K hS hbR
        have hS : Below x1.heap.size x1 x1 := Below.refl _ _
        have K2 : Hid _ := HPut.out _ B1
        refine any_one (i := 9) rfl (by kernel_rfl) (fun K hK => ?_)
        go_simp
        refine (Calls.mono (K2.out)) ?_
        rintro e x2 ⟨z9, rfl, o9, hbR⟩
        have B2 : Below w4.heap.size w4 x2 := below_then B1 hbR
        clear K2
        go_wp2_with fail
        refine hK.out _ _ (by first | exact B2 | exact hbR | exact below_then hS hbR) (any_weaken (S' := fun W => Below x2.heap.size x2 W) (fun W hW => by first | exact below_then B2 hW | exact below_then hbR hW | exact below_then (below_then hS hbR) hW) _ _ _ _ ?_)
        clear hK K hS hbR
        have hS : Below x2.heap.size x2 x2 := Below.refl _ _
        refine any_take (i := 10) (v := ?_) rfl (by kernel_rfl) (by kernel_rfl) (by kernel_rfl) (by exact fun _ _ _ h => h) (by rfl) ?_ hS ?_
        rotate_left
        · ((intro w hSw; (try dsimp only at hSw); go_simp) <;> with_reducible rfl)
        (try simp only [Act.put, List.setIfInBounds_toArray, List.set_cons_zero, List.set_cons_succ])
        refine any_take (i := 11) (v := ?_) rfl (by kernel_rfl) (by kernel_rfl) (by kernel_rfl) (by exact fun _ _ _ h => h) (by rfl) ?_ hS ?_
        rotate_left
        · ((intro w hSw; (try dsimp only at hSw); go_simp) <;> with_reducible rfl)
        (try simp only [Act.put, List.setIfInBounds_toArray, List.set_cons_zero, List.set_cons_succ])
        refine any_take (i := 12) (v := ?_) rfl (by kernel_rfl) (by kernel_rfl) (by kernel_rfl) (by exact fun _ _ _ h => h) (by rfl) ?_ hS ?_
        rotate_left
        · ((intro w hSw; (try dsimp only at hSw); go_simp) <;> with_reducible rfl)
        (try simp only [Act.put, List.setIfInBounds_toArray, List.set_cons_zero, List.set_cons_succ])
        refine any_take (i := 13) (v := ?_) rfl (by kernel_rfl) (by kernel_rfl) (by kernel_rfl) (by exact fun _ _ _ h => h) (by rfl) ?_ hS ?_
        rotate_left
        · ((intro w hSw; (try dsimp only at hSw); go_simp) <;> with_reducible rfl)
        (try simp only [Act.put, List.setIfInBounds_toArray, List.set_cons_zero, List.set_cons_succ])
        refine wpAnyH_done (by kernel_rfl) ?_ _
        have F : Hid (Own x2 w.heap.size z9 (wrF o [((a0, b0), m0), ((a1, b1), m1), ((a2, b2), m2), ((a3, b3), m3), ((a4, b4), m4), ((a5, b5), m5)] 3) ∧ Below w.heap.size w x2 ∧ Blk x2 (w.heap.size + 1) 84 [.int .u64 (m0.toNat : Int), .int .u64 (m1.toNat : Int), .int .u64 (m2.toNat : Int), .int .u64 (m3.toNat : Int), .int .u64 (m4.toNat : Int), .int .u64 (m5.toNat : Int)]) := ⟨by rw [LV.out]; exact o9.lower (below_then S4.out.2.2.1 B1).size, below_then S4.out.2.2.1 B2, S4.out.2.2.2.laterB B2⟩
        clear hS HPut HSz S4 HC4 B0 B1 B2 o9
        go_wp2
        go_roundw
        case rel => exact ⟨3, by omega, rfl, F.out.1, F.out.2.1, F.out.2.2⟩
        case measure => simp [intOf]
    · have hO1 : Own wr w.heap.size u5 (wrF o [((a0, b0), m0), ((a1, b1), m1), ((a2, b2), m2), ((a3, b3), m3), ((a4, b4), m4), ((a5, b5), m5)] 3) := hO
      have hlj : (wrF o [((a0, b0), m0), ((a1, b1), m1), ((a2, b2), m2), ((a3, b3), m3), ((a4, b4), m4), ((a5, b5), m5)] 3).length = 16 := hl3.out
      obtain ⟨Lj, hLj⟩ : ∃ Lj, Lj = wrF o [((a0, b0), m0), ((a1, b1), m1), ((a2, b2), m2), ((a3, b3), m3), ((a4, b4), m4), ((a5, b5), m5)] 3 := ⟨_, rfl⟩
      rw [← hLj] at hO1 hlj
      have LE : Hid (wrF o [((a0, b0), m0), ((a1, b1), m1), ((a2, b2), m2), ((a3, b3), m3), ((a4, b4), m4), ((a5, b5), m5)] 4 = layF Lj a3 b3 m3) := by rw [hLj]; rfl
      clear hLj hO
      have HO1 : Hid _ := And.intro hO1 hlj
      obtain ⟨sa, sc, e5, hle, -, -, hsn, -⟩ := hO1.open
      rw [hlj] at hle e5
      subst e5
      have hix : ∀ X : World, (Instr.index 79 (.agg #[.int .u8 a0, .int .u8 b0, .int .u8 a1, .int .u8 b1, .int .u8 a2, .int .u8 b2, .int .u8 a3, .int .u8 b3, .int .u8 a4, .int .u8 b4, .int .u8 a5, .int .u8 b5]) (.int .i64 3)).run Tryd.prog X = .ok (.agg #[.int .u8 a3, .int .u8 b3]) X := fun _ => by first | rfl | kernel_rfl
      have B3 := Blk.new' wr 78 [.int .u8 a3, .int .u8 b3]
      have b3_ : Below wr.heap.size wr (wr.alloc (.cells #[.int .u8 a3, .int .u8 b3] 78)) := (Below.refl _ _).alloc (Nat.le_refl _) _
      obtain ⟨w3, hw3⟩ : ∃ w3, w3 = wr.alloc (.cells #[.int .u8 a3, .int .u8 b3] 78) := ⟨_, rfl⟩
      rw [← hw3] at B3 b3_
      have S3 : Hid _ := And.intro (And.intro b3_ B3) (And.intro hbw hV)
      have c0 := ck_at B3 0
      have c1 := ck_at B3 1
      simp only [List.getElem?_cons_zero, List.getElem?_cons_succ] at c0 c1
      clear hO1 hbw hV B3 b3_ hlj
      go_upto_region 6 with fail
      rw [← hw3]
      clear hw3 hix
      go_wp2_with fail
      refine (Calls.mono (cThere_any _ _ _)) ?_
      rintro e w4 ⟨rfl, b4_⟩
      have S4 : Hid _ := And.intro (below_then S3.out.1.1 b4_) (And.intro (S3.out.1.2.laterB b4_) (And.intro (below_then S3.out.2.1 (below_then S3.out.1.1 b4_)) (S3.out.2.2.laterB (below_then S3.out.1.1 b4_))))
      clear b4_ S3 c0 c1
      by_cases hb : b3 = 0
      · have d1 : decide (b3 > 0) = false := decide_eq_false (by omega)
        have F : Hid (Own w4 w.heap.size (.slice sa 16 sc) (wrF o [((a0, b0), m0), ((a1, b1), m1), ((a2, b2), m2), ((a3, b3), m3), ((a4, b4), m4), ((a5, b5), m5)] 4) ∧ Below w.heap.size w w4 ∧ Blk w4 (w.heap.size + 1) 84 [.int .u64 (m0.toNat : Int), .int .u64 (m1.toNat : Int), .int .u64 (m2.toNat : Int), .int .u64 (m3.toNat : Int), .int .u64 (m4.toNat : Int), .int .u64 (m5.toNat : Int)]) := ⟨by rw [LE.out]; unfold layF; rw [if_pos hb]; exact HO1.out.1.later S4.out.1, S4.out.2.2.1, S4.out.2.2.2⟩
        clear S4 hb
        go_wp2
        go_roundw
        case rel => exact ⟨4, by omega, rfl, F.out.1, F.out.2.1, F.out.2.2⟩
        case measure => simp [intOf]
      · have d1 : decide (b3 > 0) = true := decide_eq_true (by have := PF3.out.1.size; omega)
        have hw_ := PF3.out.1.wide hb
        have hz_ := PF3.out.1.size
        have hfit := PF3.out.1.fit
        have hlow := PF3.out.1.low
        have va : IntKind.i64.wrap a3 = a3 := by rw [IntKind.wrap_i64]; omega
        have ca : ((a3.toNat : Nat) : Int) = a3 := by omega
        have HPut : Hid (∀ X, Below w4.heap.size w4 X → _) := fun X (bX : Below w4.heap.size w4 X) => Put_yes sa 16 sc Lj a3.toNat (szB b3) m3 X HO1.out.2 hle (by obtain ⟨_, _, e6, -, -, hr6, -, -⟩ := (HO1.out.1.later (below_then S4.out.1 bX)).open; simp only [Value.slice.injEq] at e6; obtain ⟨rfl, -, -⟩ := e6; exact hr6) hsn (by omega) (by omega) (by omega) (by omega) (PF3.out.2 hb)
        rw [ca] at HPut
        have HSz : Hid (∀ X, _) := fun X => cSize_any a3 b3 X hz_
        have LV : Hid (wrF o [((a0, b0), m0), ((a1, b1), m1), ((a2, b2), m2), ((a3, b3), m3), ((a4, b4), m4), ((a5, b5), m5)] 4 = over Lj a3.toNat (be (szB b3) m3)) := by show _ = _; rw [LE.out]; unfold layF; rw [if_neg hb]
        generalize szB b3 = sz at *
        clear hw_ hz_ hfit hlow hb hle hsn
        have HC4 : Hid _ := And.intro (show w4.cell? ⟨wr.heap.size, 0, none⟩ = _ from ck_at S4.out.2.1 0) (And.intro (show w4.cell? ⟨wr.heap.size, 1, none⟩ = _ from ck_at S4.out.2.1 1) (show w4.cell? ⟨w.heap.size + 1, 3, none⟩ = some (.int .u64 (m3.toNat : Int)) from ck_at S4.out.2.2.2 3))
        go_upto_region 7 with fail
        refine wp_region_held_drew (S := fun W => Below w4.heap.size w4 W) (by kernel_rfl) ((Below.refl _ _).drew) (fun hS => ?_)
        have B0 : Below w4.heap.size w4 w4.drew := ((Below.refl _ _).drew)
        refine any_take (i := 0) (v := ?_) rfl (by kernel_rfl) (by kernel_rfl) (by kernel_rfl) (by exact fun _ _ _ h => h) (by rfl) ?_ hS ?_
        rotate_left
        · ((intro w hSw; have c0 := ck_later HC4.out.1 hSw; have c1 := ck_later HC4.out.2.1 hSw; have c2 := ck_later HC4.out.2.2 hSw; go_simp) <;> with_reducible rfl)
        (try simp only [Act.put, List.setIfInBounds_toArray, List.set_cons_zero, List.set_cons_succ])
        refine any_take (i := 1) (v := ?_) rfl (by kernel_rfl) (by kernel_rfl) (by kernel_rfl) (by exact fun _ _ _ h => h) (by rfl) ?_ hS ?_
        rotate_left
        · ((intro w hSw; have c0 := ck_later HC4.out.1 hSw; have c1 := ck_later HC4.out.2.1 hSw; have c2 := ck_later HC4.out.2.2 hSw; go_simp) <;> with_reducible rfl)
        (try simp only [Act.put, List.setIfInBounds_toArray, List.set_cons_zero, List.set_cons_succ])
        refine any_take (i := 2) (v := ?_) rfl (by kernel_rfl) (by kernel_rfl) (by kernel_rfl) (by exact fun _ _ _ h => h) (by rfl) ?_ hS ?_
        rotate_left
        · ((intro w hSw; have c0 := ck_later HC4.out.1 hSw; have c1 := ck_later HC4.out.2.1 hSw; have c2 := ck_later HC4.out.2.2 hSw; go_simp) <;> with_reducible rfl)
        (try simp only [Act.put, List.setIfInBounds_toArray, List.set_cons_zero, List.set_cons_succ])
        refine any_take (i := 3) (v := ?_) rfl (by kernel_rfl) (by kernel_rfl) (by kernel_rfl) (by exact fun _ _ _ h => h) (by rfl) ?_ hS ?_
        rotate_left
        · ((intro w hSw; have c0 := ck_later HC4.out.1 hSw; have c1 := ck_later HC4.out.2.1 hSw; have c2 := ck_later HC4.out.2.2 hSw; go_simp) <;> with_reducible rfl)
        (try simp only [Act.put, List.setIfInBounds_toArray, List.set_cons_zero, List.set_cons_succ])
        refine any_take (i := 4) (v := ?_) rfl (by kernel_rfl) (by kernel_rfl) (by kernel_rfl) (by exact fun _ _ _ h => h) (by rfl) ?_ hS ?_
        rotate_left
        · ((intro w hSw; have c0 := ck_later HC4.out.1 hSw; have c1 := ck_later HC4.out.2.1 hSw; have c2 := ck_later HC4.out.2.2 hSw; go_simp) <;> with_reducible rfl)
        (try simp only [Act.put, List.setIfInBounds_toArray, List.set_cons_zero, List.set_cons_succ])
        refine any_take (i := 6) (v := ?_) rfl (by kernel_rfl) (by kernel_rfl) (by kernel_rfl) (by exact fun _ _ _ h => h) (by rfl) ?_ hS ?_
        rotate_left
        · ((intro w hSw; have c0 := ck_later HC4.out.1 hSw; have c1 := ck_later HC4.out.2.1 hSw; have c2 := ck_later HC4.out.2.2 hSw; go_simp) <;> with_reducible rfl)
        (try simp only [Act.put, List.setIfInBounds_toArray, List.set_cons_zero, List.set_cons_succ])
        refine any_take (i := 7) (v := ?_) rfl (by kernel_rfl) (by kernel_rfl) (by kernel_rfl) (by exact fun _ _ _ h => h) (by rfl) ?_ hS ?_
        rotate_left
        · ((intro w hSw; have c0 := ck_later HC4.out.1 hSw; have c1 := ck_later HC4.out.2.1 hSw; have c2 := ck_later HC4.out.2.2 hSw; go_simp) <;> with_reducible rfl)
        (try simp only [Act.put, List.setIfInBounds_toArray, List.set_cons_zero, List.set_cons_succ])
        refine any_take (i := 8) (v := ?_) rfl (by kernel_rfl) (by kernel_rfl) (by kernel_rfl) (by exact fun _ _ _ h => h) (by rfl) ?_ hS ?_
        rotate_left
        · ((intro w hSw; have c0 := ck_later HC4.out.1 hSw; have c1 := ck_later HC4.out.2.1 hSw; have c2 := ck_later HC4.out.2.2 hSw; go_simp) <;> with_reducible rfl)
        (try simp only [Act.put, List.setIfInBounds_toArray, List.set_cons_zero, List.set_cons_succ])
        refine any_one (i := 5) rfl (by kernel_rfl) (fun K hK => ?_)
        go_simp
        refine (Calls.mono (HSz.out _)) ?_
        rintro e x1 ⟨rfl, hbR⟩
        have B1 : Below w4.heap.size w4 x1 := below_then B0 hbR
        go_wp2_with fail
        refine hK.out _ _ (by first | exact B1 | exact hbR | exact below_then hS hbR) (any_weaken (S' := fun W => Below x1.heap.size x1 W) (fun W hW => by first | exact below_then B1 hW | exact below_then hbR hW | exact below_then (below_then hS hbR) hW) _ _ _ _ ?_)
        clear hK K hS hbR
        have hS : Below x1.heap.size x1 x1 := Below.refl _ _
        have K2 : Hid _ := HPut.out _ B1
        refine any_one (i := 9) rfl (by kernel_rfl) (fun K hK => ?_)
        go_simp
        refine (Calls.mono (K2.out)) ?_
        rintro e x2 ⟨z9, rfl, o9, hbR⟩
        have B2 : Below w4.heap.size w4 x2 := below_then B1 hbR
        clear K2
        go_wp2_with fail
        refine hK.out _ _ (by first | exact B2 | exact hbR | exact below_then hS hbR) (any_weaken (S' := fun W => Below x2.heap.size x2 W) (fun W hW => by first | exact below_then B2 hW | exact below_then hbR hW | exact below_then (below_then hS hbR) hW) _ _ _ _ ?_)
        clear hK K hS hbR
        have hS : Below x2.heap.size x2 x2 := Below.refl _ _
        refine any_take (i := 10) (v := ?_) rfl (by kernel_rfl) (by kernel_rfl) (by kernel_rfl) (by exact fun _ _ _ h => h) (by rfl) ?_ hS ?_
        rotate_left
        · ((intro w hSw; (try dsimp only at hSw); go_simp) <;> with_reducible rfl)
        (try simp only [Act.put, List.setIfInBounds_toArray, List.set_cons_zero, List.set_cons_succ])
        refine any_take (i := 11) (v := ?_) rfl (by kernel_rfl) (by kernel_rfl) (by kernel_rfl) (by exact fun _ _ _ h => h) (by rfl) ?_ hS ?_
        rotate_left
        · ((intro w hSw; (try dsimp only at hSw); go_simp) <;> with_reducible rfl)
        (try simp only [Act.put, List.setIfInBounds_toArray, List.set_cons_zero, List.set_cons_succ])
        refine any_take (i := 12) (v := ?_) rfl (by kernel_rfl) (by kernel_rfl) (by kernel_rfl) (by exact fun _ _ _ h => h) (by rfl) ?_ hS ?_
        rotate_left
        · ((intro w hSw; (try dsimp only at hSw); go_simp) <;> with_reducible rfl)
        (try simp only [Act.put, List.setIfInBounds_toArray, List.set_cons_zero, List.set_cons_succ])
        refine any_take (i := 13) (v := ?_) rfl (by kernel_rfl) (by kernel_rfl) (by kernel_rfl) (by exact fun _ _ _ h => h) (by rfl) ?_ hS ?_
        rotate_left
        · ((intro w hSw; (try dsimp only at hSw); go_simp) <;> with_reducible rfl)
        (try simp only [Act.put, List.setIfInBounds_toArray, List.set_cons_zero, List.set_cons_succ])
        refine wpAnyH_done (by kernel_rfl) ?_ _
        have F : Hid (Own x2 w.heap.size z9 (wrF o [((a0, b0), m0), ((a1, b1), m1), ((a2, b2), m2), ((a3, b3), m3), ((a4, b4), m4), ((a5, b5), m5)] 4) ∧ Below w.heap.size w x2 ∧ Blk x2 (w.heap.size + 1) 84 [.int .u64 (m0.toNat : Int), .int .u64 (m1.toNat : Int), .int .u64 (m2.toNat : Int), .int .u64 (m3.toNat : Int), .int .u64 (m4.toNat : Int), .int .u64 (m5.toNat : Int)]) := ⟨by rw [LV.out]; exact o9.lower (below_then S4.out.2.2.1 B1).size, below_then S4.out.2.2.1 B2, S4.out.2.2.2.laterB B2⟩
        clear hS HPut HSz S4 HC4 B0 B1 B2 o9
        go_wp2
        go_roundw
        case rel => exact ⟨4, by omega, rfl, F.out.1, F.out.2.1, F.out.2.2⟩
        case measure => simp [intOf]
    · have hO1 : Own wr w.heap.size u5 (wrF o [((a0, b0), m0), ((a1, b1), m1), ((a2, b2), m2), ((a3, b3), m3), ((a4, b4), m4), ((a5, b5), m5)] 4) := hO
      have hlj : (wrF o [((a0, b0), m0), ((a1, b1), m1), ((a2, b2), m2), ((a3, b3), m3), ((a4, b4), m4), ((a5, b5), m5)] 4).length = 16 := hl4.out
      obtain ⟨Lj, hLj⟩ : ∃ Lj, Lj = wrF o [((a0, b0), m0), ((a1, b1), m1), ((a2, b2), m2), ((a3, b3), m3), ((a4, b4), m4), ((a5, b5), m5)] 4 := ⟨_, rfl⟩
      rw [← hLj] at hO1 hlj
      have LE : Hid (wrF o [((a0, b0), m0), ((a1, b1), m1), ((a2, b2), m2), ((a3, b3), m3), ((a4, b4), m4), ((a5, b5), m5)] 5 = layF Lj a4 b4 m4) := by rw [hLj]; rfl
      clear hLj hO
      have HO1 : Hid _ := And.intro hO1 hlj
      obtain ⟨sa, sc, e5, hle, -, -, hsn, -⟩ := hO1.open
      rw [hlj] at hle e5
      subst e5
      have hix : ∀ X : World, (Instr.index 79 (.agg #[.int .u8 a0, .int .u8 b0, .int .u8 a1, .int .u8 b1, .int .u8 a2, .int .u8 b2, .int .u8 a3, .int .u8 b3, .int .u8 a4, .int .u8 b4, .int .u8 a5, .int .u8 b5]) (.int .i64 4)).run Tryd.prog X = .ok (.agg #[.int .u8 a4, .int .u8 b4]) X := fun _ => by first | rfl | kernel_rfl
      have B3 := Blk.new' wr 78 [.int .u8 a4, .int .u8 b4]
      have b3_ : Below wr.heap.size wr (wr.alloc (.cells #[.int .u8 a4, .int .u8 b4] 78)) := (Below.refl _ _).alloc (Nat.le_refl _) _
      obtain ⟨w3, hw3⟩ : ∃ w3, w3 = wr.alloc (.cells #[.int .u8 a4, .int .u8 b4] 78) := ⟨_, rfl⟩
      rw [← hw3] at B3 b3_
      have S3 : Hid _ := And.intro (And.intro b3_ B3) (And.intro hbw hV)
      have c0 := ck_at B3 0
      have c1 := ck_at B3 1
      simp only [List.getElem?_cons_zero, List.getElem?_cons_succ] at c0 c1
      clear hO1 hbw hV B3 b3_ hlj
      go_upto_region 6 with fail
      rw [← hw3]
      clear hw3 hix
      go_wp2_with fail
      refine (Calls.mono (cThere_any _ _ _)) ?_
      rintro e w4 ⟨rfl, b4_⟩
      have S4 : Hid _ := And.intro (below_then S3.out.1.1 b4_) (And.intro (S3.out.1.2.laterB b4_) (And.intro (below_then S3.out.2.1 (below_then S3.out.1.1 b4_)) (S3.out.2.2.laterB (below_then S3.out.1.1 b4_))))
      clear b4_ S3 c0 c1
      by_cases hb : b4 = 0
      · have d1 : decide (b4 > 0) = false := decide_eq_false (by omega)
        have F : Hid (Own w4 w.heap.size (.slice sa 16 sc) (wrF o [((a0, b0), m0), ((a1, b1), m1), ((a2, b2), m2), ((a3, b3), m3), ((a4, b4), m4), ((a5, b5), m5)] 5) ∧ Below w.heap.size w w4 ∧ Blk w4 (w.heap.size + 1) 84 [.int .u64 (m0.toNat : Int), .int .u64 (m1.toNat : Int), .int .u64 (m2.toNat : Int), .int .u64 (m3.toNat : Int), .int .u64 (m4.toNat : Int), .int .u64 (m5.toNat : Int)]) := ⟨by rw [LE.out]; unfold layF; rw [if_pos hb]; exact HO1.out.1.later S4.out.1, S4.out.2.2.1, S4.out.2.2.2⟩
        clear S4 hb
        go_wp2
        go_roundw
        case rel => exact ⟨5, by omega, rfl, F.out.1, F.out.2.1, F.out.2.2⟩
        case measure => simp [intOf]
      · have d1 : decide (b4 > 0) = true := decide_eq_true (by have := PF4.out.1.size; omega)
        have hw_ := PF4.out.1.wide hb
        have hz_ := PF4.out.1.size
        have hfit := PF4.out.1.fit
        have hlow := PF4.out.1.low
        have va : IntKind.i64.wrap a4 = a4 := by rw [IntKind.wrap_i64]; omega
        have ca : ((a4.toNat : Nat) : Int) = a4 := by omega
        have HPut : Hid (∀ X, Below w4.heap.size w4 X → _) := fun X (bX : Below w4.heap.size w4 X) => Put_yes sa 16 sc Lj a4.toNat (szB b4) m4 X HO1.out.2 hle (by obtain ⟨_, _, e6, -, -, hr6, -, -⟩ := (HO1.out.1.later (below_then S4.out.1 bX)).open; simp only [Value.slice.injEq] at e6; obtain ⟨rfl, -, -⟩ := e6; exact hr6) hsn (by omega) (by omega) (by omega) (by omega) (PF4.out.2 hb)
        rw [ca] at HPut
        have HSz : Hid (∀ X, _) := fun X => cSize_any a4 b4 X hz_
        have LV : Hid (wrF o [((a0, b0), m0), ((a1, b1), m1), ((a2, b2), m2), ((a3, b3), m3), ((a4, b4), m4), ((a5, b5), m5)] 5 = over Lj a4.toNat (be (szB b4) m4)) := by show _ = _; rw [LE.out]; unfold layF; rw [if_neg hb]
        generalize szB b4 = sz at *
        clear hw_ hz_ hfit hlow hb hle hsn
        have HC4 : Hid _ := And.intro (show w4.cell? ⟨wr.heap.size, 0, none⟩ = _ from ck_at S4.out.2.1 0) (And.intro (show w4.cell? ⟨wr.heap.size, 1, none⟩ = _ from ck_at S4.out.2.1 1) (show w4.cell? ⟨w.heap.size + 1, 4, none⟩ = some (.int .u64 (m4.toNat : Int)) from ck_at S4.out.2.2.2 4))
        go_upto_region 7 with fail
        refine wp_region_held_drew (S := fun W => Below w4.heap.size w4 W) (by kernel_rfl) ((Below.refl _ _).drew) (fun hS => ?_)
        have B0 : Below w4.heap.size w4 w4.drew := ((Below.refl _ _).drew)
        refine any_take (i := 0) (v := ?_) rfl (by kernel_rfl) (by kernel_rfl) (by kernel_rfl) (by exact fun _ _ _ h => h) (by rfl) ?_ hS ?_
        rotate_left
        · ((intro w hSw; have c0 := ck_later HC4.out.1 hSw; have c1 := ck_later HC4.out.2.1 hSw; have c2 := ck_later HC4.out.2.2 hSw; go_simp) <;> with_reducible rfl)
        (try simp only [Act.put, List.setIfInBounds_toArray, List.set_cons_zero, List.set_cons_succ])
        refine any_take (i := 1) (v := ?_) rfl (by kernel_rfl) (by kernel_rfl) (by kernel_rfl) (by exact fun _ _ _ h => h) (by rfl) ?_ hS ?_
        rotate_left
        · ((intro w hSw; have c0 := ck_later HC4.out.1 hSw; have c1 := ck_later HC4.out.2.1 hSw; have c2 := ck_later HC4.out.2.2 hSw; go_simp) <;> with_reducible rfl)
        (try simp only [Act.put, List.setIfInBounds_toArray, List.set_cons_zero, List.set_cons_succ])
        refine any_take (i := 2) (v := ?_) rfl (by kernel_rfl) (by kernel_rfl) (by kernel_rfl) (by exact fun _ _ _ h => h) (by rfl) ?_ hS ?_
        rotate_left
        · ((intro w hSw; have c0 := ck_later HC4.out.1 hSw; have c1 := ck_later HC4.out.2.1 hSw; have c2 := ck_later HC4.out.2.2 hSw; go_simp) <;> with_reducible rfl)
        (try simp only [Act.put, List.setIfInBounds_toArray, List.set_cons_zero, List.set_cons_succ])
        refine any_take (i := 3) (v := ?_) rfl (by kernel_rfl) (by kernel_rfl) (by kernel_rfl) (by exact fun _ _ _ h => h) (by rfl) ?_ hS ?_
        rotate_left
        · ((intro w hSw; have c0 := ck_later HC4.out.1 hSw; have c1 := ck_later HC4.out.2.1 hSw; have c2 := ck_later HC4.out.2.2 hSw; go_simp) <;> with_reducible rfl)
        (try simp only [Act.put, List.setIfInBounds_toArray, List.set_cons_zero, List.set_cons_succ])
        refine any_take (i := 4) (v := ?_) rfl (by kernel_rfl) (by kernel_rfl) (by kernel_rfl) (by exact fun _ _ _ h => h) (by rfl) ?_ hS ?_
        rotate_left
        · ((intro w hSw; have c0 := ck_later HC4.out.1 hSw; have c1 := ck_later HC4.out.2.1 hSw; have c2 := ck_later HC4.out.2.2 hSw; go_simp) <;> with_reducible rfl)
        (try simp only [Act.put, List.setIfInBounds_toArray, List.set_cons_zero, List.set_cons_succ])
        refine any_take (i := 6) (v := ?_) rfl (by kernel_rfl) (by kernel_rfl) (by kernel_rfl) (by exact fun _ _ _ h => h) (by rfl) ?_ hS ?_
        rotate_left
        · ((intro w hSw; have c0 := ck_later HC4.out.1 hSw; have c1 := ck_later HC4.out.2.1 hSw; have c2 := ck_later HC4.out.2.2 hSw; go_simp) <;> with_reducible rfl)
        (try simp only [Act.put, List.setIfInBounds_toArray, List.set_cons_zero, List.set_cons_succ])
        refine any_take (i := 7) (v := ?_) rfl (by kernel_rfl) (by kernel_rfl) (by kernel_rfl) (by exact fun _ _ _ h => h) (by rfl) ?_ hS ?_
        rotate_left
        · ((intro w hSw; have c0 := ck_later HC4.out.1 hSw; have c1 := ck_later HC4.out.2.1 hSw; have c2 := ck_later HC4.out.2.2 hSw; go_simp) <;> with_reducible rfl)
        (try simp only [Act.put, List.setIfInBounds_toArray, List.set_cons_zero, List.set_cons_succ])
        refine any_take (i := 8) (v := ?_) rfl (by kernel_rfl) (by kernel_rfl) (by kernel_rfl) (by exact fun _ _ _ h => h) (by rfl) ?_ hS ?_
        rotate_left
        · ((intro w hSw; have c0 := ck_later HC4.out.1 hSw; have c1 := ck_later HC4.out.2.1 hSw; have c2 := ck_later HC4.out.2.2 hSw; go_simp) <;> with_reducible rfl)
        (try simp only [Act.put, List.setIfInBounds_toArray, List.set_cons_zero, List.set_cons_succ])
        refine any_one (i := 5) rfl (by kernel_rfl) (fun K hK => ?_)
        go_simp
        refine (Calls.mono (HSz.out _)) ?_
        rintro e x1 ⟨rfl, hbR⟩
        have B1 : Below w4.heap.size w4 x1 := below_then B0 hbR
        go_wp2_with fail
        refine hK.out _ _ (by first | exact B1 | exact hbR | exact below_then hS hbR) (any_weaken (S' := fun W => Below x1.heap.size x1 W) (fun W hW => by first | exact below_then B1 hW | exact below_then hbR hW | exact below_then (below_then hS hbR) hW) _ _ _ _ ?_)
        clear hK K hS hbR
        have hS : Below x1.heap.size x1 x1 := Below.refl _ _
        have K2 : Hid _ := HPut.out _ B1
        refine any_one (i := 9) rfl (by kernel_rfl) (fun K hK => ?_)
        go_simp
        refine (Calls.mono (K2.out)) ?_
        rintro e x2 ⟨z9, rfl, o9, hbR⟩
        have B2 : Below w4.heap.size w4 x2 := below_then B1 hbR
        clear K2
        go_wp2_with fail
        refine hK.out _ _ (by first | exact B2 | exact hbR | exact below_then hS hbR) (any_weaken (S' := fun W => Below x2.heap.size x2 W) (fun W hW => by first | exact below_then B2 hW | exact below_then hbR hW | exact below_then (below_then hS hbR) hW) _ _ _ _ ?_)
        clear hK K hS hbR
        have hS : Below x2.heap.size x2 x2 := Below.refl _ _
        refine any_take (i := 10) (v := ?_) rfl (by kernel_rfl) (by kernel_rfl) (by kernel_rfl) (by exact fun _ _ _ h => h) (by rfl) ?_ hS ?_
        rotate_left
        · ((intro w hSw; (try dsimp only at hSw); go_simp) <;> with_reducible rfl)
        (try simp only [Act.put, List.setIfInBounds_toArray, List.set_cons_zero, List.set_cons_succ])
        refine any_take (i := 11) (v := ?_) rfl (by kernel_rfl) (by kernel_rfl) (by kernel_rfl) (by exact fun _ _ _ h => h) (by rfl) ?_ hS ?_
        rotate_left
        · ((intro w hSw; (try dsimp only at hSw); go_simp) <;> with_reducible rfl)
        (try simp only [Act.put, List.setIfInBounds_toArray, List.set_cons_zero, List.set_cons_succ])
        refine any_take (i := 12) (v := ?_) rfl (by kernel_rfl) (by kernel_rfl) (by kernel_rfl) (by exact fun _ _ _ h => h) (by rfl) ?_ hS ?_
        rotate_left
        · ((intro w hSw; (try dsimp only at hSw); go_simp) <;> with_reducible rfl)
        (try simp only [Act.put, List.setIfInBounds_toArray, List.set_cons_zero, List.set_cons_succ])
        refine any_take (i := 13) (v := ?_) rfl (by kernel_rfl) (by kernel_rfl) (by kernel_rfl) (by exact fun _ _ _ h => h) (by rfl) ?_ hS ?_
        rotate_left
        · ((intro w hSw; (try dsimp only at hSw); go_simp) <;> with_reducible rfl)
        (try simp only [Act.put, List.setIfInBounds_toArray, List.set_cons_zero, List.set_cons_succ])
        refine wpAnyH_done (by kernel_rfl) ?_ _
        have F : Hid (Own x2 w.heap.size z9 (wrF o [((a0, b0), m0), ((a1, b1), m1), ((a2, b2), m2), ((a3, b3), m3), ((a4, b4), m4), ((a5, b5), m5)] 5) ∧ Below w.heap.size w x2 ∧ Blk x2 (w.heap.size + 1) 84 [.int .u64 (m0.toNat : Int), .int .u64 (m1.toNat : Int), .int .u64 (m2.toNat : Int), .int .u64 (m3.toNat : Int), .int .u64 (m4.toNat : Int), .int .u64 (m5.toNat : Int)]) := ⟨by rw [LV.out]; exact o9.lower (below_then S4.out.2.2.1 B1).size, below_then S4.out.2.2.1 B2, S4.out.2.2.2.laterB B2⟩
        clear hS HPut HSz S4 HC4 B0 B1 B2 o9
        go_wp2
        go_roundw
        case rel => exact ⟨5, by omega, rfl, F.out.1, F.out.2.1, F.out.2.2⟩
        case measure => simp [intOf]
    · have hO1 : Own wr w.heap.size u5 (wrF o [((a0, b0), m0), ((a1, b1), m1), ((a2, b2), m2), ((a3, b3), m3), ((a4, b4), m4), ((a5, b5), m5)] 5) := hO
      have hlj : (wrF o [((a0, b0), m0), ((a1, b1), m1), ((a2, b2), m2), ((a3, b3), m3), ((a4, b4), m4), ((a5, b5), m5)] 5).length = 16 := hl5.out
      obtain ⟨Lj, hLj⟩ : ∃ Lj, Lj = wrF o [((a0, b0), m0), ((a1, b1), m1), ((a2, b2), m2), ((a3, b3), m3), ((a4, b4), m4), ((a5, b5), m5)] 5 := ⟨_, rfl⟩
      rw [← hLj] at hO1 hlj
      have LE : Hid (wrF o [((a0, b0), m0), ((a1, b1), m1), ((a2, b2), m2), ((a3, b3), m3), ((a4, b4), m4), ((a5, b5), m5)] 6 = layF Lj a5 b5 m5) := by rw [hLj]; rfl
      clear hLj hO
      have HO1 : Hid _ := And.intro hO1 hlj
      obtain ⟨sa, sc, e5, hle, -, -, hsn, -⟩ := hO1.open
      rw [hlj] at hle e5
      subst e5
      have hix : ∀ X : World, (Instr.index 79 (.agg #[.int .u8 a0, .int .u8 b0, .int .u8 a1, .int .u8 b1, .int .u8 a2, .int .u8 b2, .int .u8 a3, .int .u8 b3, .int .u8 a4, .int .u8 b4, .int .u8 a5, .int .u8 b5]) (.int .i64 5)).run Tryd.prog X = .ok (.agg #[.int .u8 a5, .int .u8 b5]) X := fun _ => by first | rfl | kernel_rfl
      have B3 := Blk.new' wr 78 [.int .u8 a5, .int .u8 b5]
      have b3_ : Below wr.heap.size wr (wr.alloc (.cells #[.int .u8 a5, .int .u8 b5] 78)) := (Below.refl _ _).alloc (Nat.le_refl _) _
      obtain ⟨w3, hw3⟩ : ∃ w3, w3 = wr.alloc (.cells #[.int .u8 a5, .int .u8 b5] 78) := ⟨_, rfl⟩
      rw [← hw3] at B3 b3_
      have S3 : Hid _ := And.intro (And.intro b3_ B3) (And.intro hbw hV)
      have c0 := ck_at B3 0
      have c1 := ck_at B3 1
      simp only [List.getElem?_cons_zero, List.getElem?_cons_succ] at c0 c1
      clear hO1 hbw hV B3 b3_ hlj
      go_upto_region 6 with fail
      rw [← hw3]
      clear hw3 hix
      go_wp2_with fail
      refine (Calls.mono (cThere_any _ _ _)) ?_
      rintro e w4 ⟨rfl, b4_⟩
      have S4 : Hid _ := And.intro (below_then S3.out.1.1 b4_) (And.intro (S3.out.1.2.laterB b4_) (And.intro (below_then S3.out.2.1 (below_then S3.out.1.1 b4_)) (S3.out.2.2.laterB (below_then S3.out.1.1 b4_))))
      clear b4_ S3 c0 c1
      by_cases hb : b5 = 0
      · have d1 : decide (b5 > 0) = false := decide_eq_false (by omega)
        have F : Hid (Own w4 w.heap.size (.slice sa 16 sc) (wrF o [((a0, b0), m0), ((a1, b1), m1), ((a2, b2), m2), ((a3, b3), m3), ((a4, b4), m4), ((a5, b5), m5)] 6) ∧ Below w.heap.size w w4 ∧ Blk w4 (w.heap.size + 1) 84 [.int .u64 (m0.toNat : Int), .int .u64 (m1.toNat : Int), .int .u64 (m2.toNat : Int), .int .u64 (m3.toNat : Int), .int .u64 (m4.toNat : Int), .int .u64 (m5.toNat : Int)]) := ⟨by rw [LE.out]; unfold layF; rw [if_pos hb]; exact HO1.out.1.later S4.out.1, S4.out.2.2.1, S4.out.2.2.2⟩
        clear S4 hb
        go_wp2
        go_roundw
        case rel => exact ⟨6, by omega, rfl, F.out.1, F.out.2.1, F.out.2.2⟩
        case measure => simp [intOf]
      · have d1 : decide (b5 > 0) = true := decide_eq_true (by have := PF5.out.1.size; omega)
        have hw_ := PF5.out.1.wide hb
        have hz_ := PF5.out.1.size
        have hfit := PF5.out.1.fit
        have hlow := PF5.out.1.low
        have va : IntKind.i64.wrap a5 = a5 := by rw [IntKind.wrap_i64]; omega
        have ca : ((a5.toNat : Nat) : Int) = a5 := by omega
        have HPut : Hid (∀ X, Below w4.heap.size w4 X → _) := fun X (bX : Below w4.heap.size w4 X) => Put_yes sa 16 sc Lj a5.toNat (szB b5) m5 X HO1.out.2 hle (by obtain ⟨_, _, e6, -, -, hr6, -, -⟩ := (HO1.out.1.later (below_then S4.out.1 bX)).open; simp only [Value.slice.injEq] at e6; obtain ⟨rfl, -, -⟩ := e6; exact hr6) hsn (by omega) (by omega) (by omega) (by omega) (PF5.out.2 hb)
        rw [ca] at HPut
        have HSz : Hid (∀ X, _) := fun X => cSize_any a5 b5 X hz_
        have LV : Hid (wrF o [((a0, b0), m0), ((a1, b1), m1), ((a2, b2), m2), ((a3, b3), m3), ((a4, b4), m4), ((a5, b5), m5)] 6 = over Lj a5.toNat (be (szB b5) m5)) := by show _ = _; rw [LE.out]; unfold layF; rw [if_neg hb]
        generalize szB b5 = sz at *
        clear hw_ hz_ hfit hlow hb hle hsn
        have HC4 : Hid _ := And.intro (show w4.cell? ⟨wr.heap.size, 0, none⟩ = _ from ck_at S4.out.2.1 0) (And.intro (show w4.cell? ⟨wr.heap.size, 1, none⟩ = _ from ck_at S4.out.2.1 1) (show w4.cell? ⟨w.heap.size + 1, 5, none⟩ = some (.int .u64 (m5.toNat : Int)) from ck_at S4.out.2.2.2 5))
        go_upto_region 7 with fail
        refine wp_region_held_drew (S := fun W => Below w4.heap.size w4 W) (by kernel_rfl) ((Below.refl _ _).drew) (fun hS => ?_)
        have B0 : Below w4.heap.size w4 w4.drew := ((Below.refl _ _).drew)
        refine any_take (i := 0) (v := ?_) rfl (by kernel_rfl) (by kernel_rfl) (by kernel_rfl) (by exact fun _ _ _ h => h) (by rfl) ?_ hS ?_
        rotate_left
        · ((intro w hSw; have c0 := ck_later HC4.out.1 hSw; have c1 := ck_later HC4.out.2.1 hSw; have c2 := ck_later HC4.out.2.2 hSw; go_simp) <;> with_reducible rfl)
        (try simp only [Act.put, List.setIfInBounds_toArray, List.set_cons_zero, List.set_cons_succ])
        refine any_take (i := 1) (v := ?_) rfl (by kernel_rfl) (by kernel_rfl) (by kernel_rfl) (by exact fun _ _ _ h => h) (by rfl) ?_ hS ?_
        rotate_left
        · ((intro w hSw; have c0 := ck_later HC4.out.1 hSw; have c1 := ck_later HC4.out.2.1 hSw; have c2 := ck_later HC4.out.2.2 hSw; go_simp) <;> with_reducible rfl)
        (try simp only [Act.put, List.setIfInBounds_toArray, List.set_cons_zero, List.set_cons_succ])
        refine any_take (i := 2) (v := ?_) rfl (by kernel_rfl) (by kernel_rfl) (by kernel_rfl) (by exact fun _ _ _ h => h) (by rfl) ?_ hS ?_
        rotate_left
        · ((intro w hSw; have c0 := ck_later HC4.out.1 hSw; have c1 := ck_later HC4.out.2.1 hSw; have c2 := ck_later HC4.out.2.2 hSw; go_simp) <;> with_reducible rfl)
        (try simp only [Act.put, List.setIfInBounds_toArray, List.set_cons_zero, List.set_cons_succ])
        refine any_take (i := 3) (v := ?_) rfl (by kernel_rfl) (by kernel_rfl) (by kernel_rfl) (by exact fun _ _ _ h => h) (by rfl) ?_ hS ?_
        rotate_left
        · ((intro w hSw; have c0 := ck_later HC4.out.1 hSw; have c1 := ck_later HC4.out.2.1 hSw; have c2 := ck_later HC4.out.2.2 hSw; go_simp) <;> with_reducible rfl)
        (try simp only [Act.put, List.setIfInBounds_toArray, List.set_cons_zero, List.set_cons_succ])
        refine any_take (i := 4) (v := ?_) rfl (by kernel_rfl) (by kernel_rfl) (by kernel_rfl) (by exact fun _ _ _ h => h) (by rfl) ?_ hS ?_
        rotate_left
        · ((intro w hSw; have c0 := ck_later HC4.out.1 hSw; have c1 := ck_later HC4.out.2.1 hSw; have c2 := ck_later HC4.out.2.2 hSw; go_simp) <;> with_reducible rfl)
        (try simp only [Act.put, List.setIfInBounds_toArray, List.set_cons_zero, List.set_cons_succ])
        refine any_take (i := 6) (v := ?_) rfl (by kernel_rfl) (by kernel_rfl) (by kernel_rfl) (by exact fun _ _ _ h => h) (by rfl) ?_ hS ?_
        rotate_left
        · ((intro w hSw; have c0 := ck_later HC4.out.1 hSw; have c1 := ck_later HC4.out.2.1 hSw; have c2 := ck_later HC4.out.2.2 hSw; go_simp) <;> with_reducible rfl)
        (try simp only [Act.put, List.setIfInBounds_toArray, List.set_cons_zero, List.set_cons_succ])
        refine any_take (i := 7) (v := ?_) rfl (by kernel_rfl) (by kernel_rfl) (by kernel_rfl) (by exact fun _ _ _ h => h) (by rfl) ?_ hS ?_
        rotate_left
        · ((intro w hSw; have c0 := ck_later HC4.out.1 hSw; have c1 := ck_later HC4.out.2.1 hSw; have c2 := ck_later HC4.out.2.2 hSw; go_simp) <;> with_reducible rfl)
        (try simp only [Act.put, List.setIfInBounds_toArray, List.set_cons_zero, List.set_cons_succ])
        refine any_take (i := 8) (v := ?_) rfl (by kernel_rfl) (by kernel_rfl) (by kernel_rfl) (by exact fun _ _ _ h => h) (by rfl) ?_ hS ?_
        rotate_left
        · ((intro w hSw; have c0 := ck_later HC4.out.1 hSw; have c1 := ck_later HC4.out.2.1 hSw; have c2 := ck_later HC4.out.2.2 hSw; go_simp) <;> with_reducible rfl)
        (try simp only [Act.put, List.setIfInBounds_toArray, List.set_cons_zero, List.set_cons_succ])
        refine any_one (i := 5) rfl (by kernel_rfl) (fun K hK => ?_)
        go_simp
        refine (Calls.mono (HSz.out _)) ?_
        rintro e x1 ⟨rfl, hbR⟩
        have B1 : Below w4.heap.size w4 x1 := below_then B0 hbR
        go_wp2_with fail
        refine hK.out _ _ (by first | exact B1 | exact hbR | exact below_then hS hbR) (any_weaken (S' := fun W => Below x1.heap.size x1 W) (fun W hW => by first | exact below_then B1 hW | exact below_then hbR hW | exact below_then (below_then hS hbR) hW) _ _ _ _ ?_)
        clear hK K hS hbR
        have hS : Below x1.heap.size x1 x1 := Below.refl _ _
        have K2 : Hid _ := HPut.out _ B1
        refine any_one (i := 9) rfl (by kernel_rfl) (fun K hK => ?_)
        go_simp
        refine (Calls.mono (K2.out)) ?_
        rintro e x2 ⟨z9, rfl, o9, hbR⟩
        have B2 : Below w4.heap.size w4 x2 := below_then B1 hbR
        clear K2
        go_wp2_with fail
        refine hK.out _ _ (by first | exact B2 | exact hbR | exact below_then hS hbR) (any_weaken (S' := fun W => Below x2.heap.size x2 W) (fun W hW => by first | exact below_then B2 hW | exact below_then hbR hW | exact below_then (below_then hS hbR) hW) _ _ _ _ ?_)
        clear hK K hS hbR
        have hS : Below x2.heap.size x2 x2 := Below.refl _ _
        refine any_take (i := 10) (v := ?_) rfl (by kernel_rfl) (by kernel_rfl) (by kernel_rfl) (by exact fun _ _ _ h => h) (by rfl) ?_ hS ?_
        rotate_left
        · ((intro w hSw; (try dsimp only at hSw); go_simp) <;> with_reducible rfl)
        (try simp only [Act.put, List.setIfInBounds_toArray, List.set_cons_zero, List.set_cons_succ])
        refine any_take (i := 11) (v := ?_) rfl (by kernel_rfl) (by kernel_rfl) (by kernel_rfl) (by exact fun _ _ _ h => h) (by rfl) ?_ hS ?_
        rotate_left
        · ((intro w hSw; (try dsimp only at hSw); go_simp) <;> with_reducible rfl)
        (try simp only [Act.put, List.setIfInBounds_toArray, List.set_cons_zero, List.set_cons_succ])
        refine any_take (i := 12) (v := ?_) rfl (by kernel_rfl) (by kernel_rfl) (by kernel_rfl) (by exact fun _ _ _ h => h) (by rfl) ?_ hS ?_
        rotate_left
        · ((intro w hSw; (try dsimp only at hSw); go_simp) <;> with_reducible rfl)
        (try simp only [Act.put, List.setIfInBounds_toArray, List.set_cons_zero, List.set_cons_succ])
        refine any_take (i := 13) (v := ?_) rfl (by kernel_rfl) (by kernel_rfl) (by kernel_rfl) (by exact fun _ _ _ h => h) (by rfl) ?_ hS ?_
        rotate_left
        · ((intro w hSw; (try dsimp only at hSw); go_simp) <;> with_reducible rfl)
        (try simp only [Act.put, List.setIfInBounds_toArray, List.set_cons_zero, List.set_cons_succ])
        refine wpAnyH_done (by kernel_rfl) ?_ _
        have F : Hid (Own x2 w.heap.size z9 (wrF o [((a0, b0), m0), ((a1, b1), m1), ((a2, b2), m2), ((a3, b3), m3), ((a4, b4), m4), ((a5, b5), m5)] 6) ∧ Below w.heap.size w x2 ∧ Blk x2 (w.heap.size + 1) 84 [.int .u64 (m0.toNat : Int), .int .u64 (m1.toNat : Int), .int .u64 (m2.toNat : Int), .int .u64 (m3.toNat : Int), .int .u64 (m4.toNat : Int), .int .u64 (m5.toNat : Int)]) := ⟨by rw [LV.out]; exact o9.lower (below_then S4.out.2.2.1 B1).size, below_then S4.out.2.2.1 B2, S4.out.2.2.2.laterB B2⟩
        clear hS HPut HSz S4 HC4 B0 B1 B2 o9
        go_wp2
        go_roundw
        case rel => exact ⟨6, by omega, rfl, F.out.1, F.out.2.1, F.out.2.2⟩
        case measure => simp [intOf]
    · have G : Hid _ := And.intro hO hbw
      clear hO hbw hV
      go_wp2
      go_ret
      exact ⟨_, rfl, G.out.1, G.out.2⟩
end Go.Proofs.YteingnaojnbchaaDoor
