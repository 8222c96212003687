/- cdb, the document's: Build, where all fields go in. -/
import Derived.Test.YtmoobfpmijdoaaaDoorXCq3h
namespace Go.Proofs.YtmoobfpmijdoaaaDoor
open Go.RowKit
set_option linter.unusedVariables false
set_option linter.unusedSimpArgs false
set_option maxRecDepth 8000

set_option maxHeartbeats 8000000 in
theorem rbuild_false (o a0 b0 a1 b1 a2 b2 a3 b3 a4 b4 a5 b5 : Int) (m0 m1 m2 m3 m4 m5 : BitVec 64) (w : World) (hf : findR o = some ⟨o, [(a0, b0), (a1, b1), (a2, b2), (a3, b3), (a4, b4), (a5, b5)]⟩) (ho : 0 ≤ o ∧ o < 256) (p0 : PlOk a0 b0) (p1 : PlOk a1 b1) (p2 : PlOk a2 b2) (p3 : PlOk a3 b3) (p4 : PlOk a4 b4) (p5 : PlOk a5 b5) (t0 : FOk b0 m0) (t1 : FOk b1 m1) (t2 : FOk b2 m2) (t3 : FOk b3 m3) (t4 : FOk b4 m4) (t5 : FOk b5 m5) (hv : (m2.toNat : Int) = 0) (n0 : (m0.toNat : Int) < 9223372036854775808) (n1 : (m1.toNat : Int) < 9223372036854775808) (n3 : (m3.toNat : Int) < 9223372036854775808) (n5 : (m5.toNat : Int) < 9223372036854775808) :
    Calls Tryd.prog 56 #[.agg #[.int .i64 o, .int .i64 (m0.toNat : Int), .int .i64 (m1.toNat : Int), .bool false, .int .i64 (m3.toNat : Int), .int .u64 (m4.toNat : Int), .int .i64 (m5.toNat : Int)]] w fun e w' => ∃ z, e = .returned (.tuple #[z, .int .i64 0]) ∧ Own w' w.heap.size z (layF (layF (layF (layF (layF (layF (opL o) a0 b0 m0) a2 b2 m2) a1 b1 m1) a3 b3 m3) a4 b4 m4) a5 b5 m5) ∧ Below w.heap.size w w' := by
  have HR : Hid (∀ W, _) := fun W => rowOf_yes o _ W hf
  have Q0 : Hid (∀ (base : Nat) (z : Value) (l : List (BitVec 8)) (W : World), _) := fun base z l W => rput_any a0 b0 p0 m0 t0.1 t0.2 base z l W
  have Q1 : Hid (∀ (base : Nat) (z : Value) (l : List (BitVec 8)) (W : World), _) := fun base z l W => rput_any a1 b1 p1 m1 t1.1 t1.2 base z l W
  have Q2 : Hid (∀ (base : Nat) (z : Value) (l : List (BitVec 8)) (W : World), _) := fun base z l W => rput_any a2 b2 p2 m2 t2.1 t2.2 base z l W
  have Q3 : Hid (∀ (base : Nat) (z : Value) (l : List (BitVec 8)) (W : World), _) := fun base z l W => rput_any a3 b3 p3 m3 t3.1 t3.2 base z l W
  have Q4 : Hid (∀ (base : Nat) (z : Value) (l : List (BitVec 8)) (W : World), _) := fun base z l W => rput_any a4 b4 p4 m4 t4.1 t4.2 base z l W
  have Q5 : Hid (∀ (base : Nat) (z : Value) (l : List (BitVec 8)) (W : World), _) := fun base z l W => rput_any a5 b5 p5 m5 t5.1 t5.2 base z l W
  have e18 : rowV ⟨o, [(a0, b0), (a1, b1), (a2, b2), (a3, b3), (a4, b4), (a5, b5)]⟩ = [.int .i64 a0, .int .i64 (szB b0 : Int), .int .i64 (b0 % 8), .int .i64 a2, .int .i64 (szB b2 : Int), .int .i64 (b2 % 8), .int .i64 a1, .int .i64 (szB b1 : Int), .int .i64 (b1 % 8), .int .i64 a3, .int .i64 (szB b3 : Int), .int .i64 (b3 % 8), .int .i64 a4, .int .i64 (szB b4 : Int), .int .i64 (b4 % 8), .int .i64 a5, .int .i64 (szB b5 : Int), .int .i64 (b5 % 8)] := rfl
  rw [e18] at HR
  clear e18 hf
  have l0 : Hid ((opL o).length = 16) := (by simp [opL] : (opL o).length = 16)
  have l1 : Hid ((layF (opL o) a0 b0 m0).length = 16) := layF_len p0 l0.out
  have l2 : Hid ((layF (layF (opL o) a0 b0 m0) a2 b2 m2).length = 16) := layF_len p2 l1.out
  have l3 : Hid ((layF (layF (layF (opL o) a0 b0 m0) a2 b2 m2) a1 b1 m1).length = 16) := layF_len p1 l2.out
  have l4 : Hid ((layF (layF (layF (layF (opL o) a0 b0 m0) a2 b2 m2) a1 b1 m1) a3 b3 m3).length = 16) := layF_len p3 l3.out
  have l5 : Hid ((layF (layF (layF (layF (layF (opL o) a0 b0 m0) a2 b2 m2) a1 b1 m1) a3 b3 m3) a4 b4 m4).length = 16) := layF_len p4 l4.out
  have l6 : Hid ((layF (layF (layF (layF (layF (layF (opL o) a0 b0 m0) a2 b2 m2) a1 b1 m1) a3 b3 m3) a4 b4 m4) a5 b5 m5).length = 16) := layF_len p5 l5.out
  clear p0 t0 p1 t1 p2 t2 p3 t3 p4 t4 p5 t5
  have g0 : ∃ S M : Int, (szB b0 : Int) = S ∧ b0 % 8 = M := ⟨_, _, rfl, rfl⟩
  obtain ⟨S0, M0, hS0, hM0⟩ := g0
  simp only [hS0, hM0] at HR Q0
  clear hS0 hM0
  have g1 : ∃ S M : Int, (szB b1 : Int) = S ∧ b1 % 8 = M := ⟨_, _, rfl, rfl⟩
  obtain ⟨S1, M1, hS1, hM1⟩ := g1
  simp only [hS1, hM1] at HR Q1
  clear hS1 hM1
  have g2 : ∃ S M : Int, (szB b2 : Int) = S ∧ b2 % 8 = M := ⟨_, _, rfl, rfl⟩
  obtain ⟨S2, M2, hS2, hM2⟩ := g2
  simp only [hS2, hM2] at HR Q2
  clear hS2 hM2
  have g3 : ∃ S M : Int, (szB b3 : Int) = S ∧ b3 % 8 = M := ⟨_, _, rfl, rfl⟩
  obtain ⟨S3, M3, hS3, hM3⟩ := g3
  simp only [hS3, hM3] at HR Q3
  clear hS3 hM3
  have g4 : ∃ S M : Int, (szB b4 : Int) = S ∧ b4 % 8 = M := ⟨_, _, rfl, rfl⟩
  obtain ⟨S4, M4, hS4, hM4⟩ := g4
  simp only [hS4, hM4] at HR Q4
  clear hS4 hM4
  have g5 : ∃ S M : Int, (szB b5 : Int) = S ∧ b5 % 8 = M := ⟨_, _, rfl, rfl⟩
  obtain ⟨S5, M5, hS5, hM5⟩ := g5
  simp only [hS5, hM5] at HR Q5
  clear hS5 hM5
  have gx0 : ∃ X : Int, (m0.toNat : Int) = X ∧ 0 ≤ X := ⟨_, rfl, by omega⟩
  obtain ⟨X0, hX0, hp0⟩ := gx0
  simp only [hX0] at Q0 hv n0 n1 n3 n5 ⊢
  have gx1 : ∃ X : Int, (m1.toNat : Int) = X ∧ 0 ≤ X := ⟨_, rfl, by omega⟩
  obtain ⟨X1, hX1, hp1⟩ := gx1
  simp only [hX1] at Q1 hv n0 n1 n3 n5 ⊢
  have gx2 : ∃ X : Int, (m2.toNat : Int) = X ∧ 0 ≤ X := ⟨_, rfl, by omega⟩
  obtain ⟨X2, hX2, hp2⟩ := gx2
  simp only [hX2] at Q2 hv n0 n1 n3 n5 ⊢
  have gx3 : ∃ X : Int, (m3.toNat : Int) = X ∧ 0 ≤ X := ⟨_, rfl, by omega⟩
  obtain ⟨X3, hX3, hp3⟩ := gx3
  simp only [hX3] at Q3 hv n0 n1 n3 n5 ⊢
  have gx4 : ∃ X : Int, (m4.toNat : Int) = X ∧ 0 ≤ X := ⟨_, rfl, by omega⟩
  obtain ⟨X4, hX4, hp4⟩ := gx4
  simp only [hX4] at Q4 hv n0 n1 n3 n5 ⊢
  have gx5 : ∃ X : Int, (m5.toNat : Int) = X ∧ 0 ≤ X := ⟨_, rfl, by omega⟩
  obtain ⟨X5, hX5, hp5⟩ := gx5
  simp only [hX5] at Q5 hv n0 n1 n3 n5 ⊢
  have c0 : IntKind.u64.wrap X0 = X0 := by rw [IntKind.wrap_u64]; omega
  have c1 : IntKind.u64.wrap X1 = X1 := by rw [IntKind.wrap_u64]; omega
  have c3 : IntKind.u64.wrap X3 = X3 := by rw [IntKind.wrap_u64]; omega
  have c5 : IntKind.u64.wrap X5 = X5 := by rw [IntKind.wrap_u64]; omega
  have co : IntKind.u8.wrap o = o := by rw [IntKind.wrap_u8]; omega
  clear hX0 hp0 hX1 hp1 hX2 hp2 hX3 hp3 hX4 hp4 hX5 hp5 n0 n1 n3 n5
  have B0 := Blk.new' w 42 [.int .i64 o, .int .i64 X0, .int .i64 X1, .bool false, .int .i64 X3, .int .u64 X4, .int .i64 X5]
  have b0_ : Below w.heap.size w (w.alloc (.cells #[.int .i64 o, .int .i64 X0, .int .i64 X1, .bool false, .int .i64 X3, .int .u64 X4, .int .i64 X5] 42)) := (Below.refl _ _).alloc (Nat.le_refl _) _
  obtain ⟨w0, hw0⟩ : ∃ w0, w0 = w.alloc (.cells #[.int .i64 o, .int .i64 X0, .int .i64 X1, .bool false, .int .i64 X3, .int .u64 X4, .int .i64 X5] 42) := ⟨_, rfl⟩
  rw [← hw0] at B0 b0_
  have u0 := blk_at B0 0
  simp only [List.getElem?_cons_zero] at u0
  have G0 : Hid _ := And.intro B0 b0_
  clear B0 b0_
  go_enter Tryd.func56, Tryd.ntmps56
  go_upto_region 1 with fail
  rw [← hw0]
  clear hw0
  go_wp2_with fail
  refine (Calls.mono (HR.out w0)) ?_
  rintro e w1 ⟨rfl, k1⟩
  clear u0 HR
  have N1 := Blk.new' w1 95 [.int .i64 0, .int .i64 0, .int .i64 0, .int .i64 0, .int .i64 0, .int .i64 0, .int .i64 0, .int .i64 0, .int .i64 0, .int .i64 0, .int .i64 0, .int .i64 0, .int .i64 0, .int .i64 0, .int .i64 0, .int .i64 0, .int .i64 0, .int .i64 0]
  have bn1 : Below w1.heap.size w1 (w1.alloc (.cells #[.int .i64 0, .int .i64 0, .int .i64 0, .int .i64 0, .int .i64 0, .int .i64 0, .int .i64 0, .int .i64 0, .int .i64 0, .int .i64 0, .int .i64 0, .int .i64 0, .int .i64 0, .int .i64 0, .int .i64 0, .int .i64 0, .int .i64 0, .int .i64 0] 95)) := (Below.refl _ _).alloc (Nat.le_refl _) _
  obtain ⟨w2, hw2⟩ : ∃ w2, w2 = w1.alloc (.cells #[.int .i64 0, .int .i64 0, .int .i64 0, .int .i64 0, .int .i64 0, .int .i64 0, .int .i64 0, .int .i64 0, .int .i64 0, .int .i64 0, .int .i64 0, .int .i64 0, .int .i64 0, .int .i64 0, .int .i64 0, .int .i64 0, .int .i64 0, .int .i64 0] 95) := ⟨_, rfl⟩
  rw [← hw2] at N1 bn1
  obtain ⟨w3, st, B3, g3⟩ := storeW (T := 95) (vs := [.int .i64 a0, .int .i64 S0, .int .i64 M0, .int .i64 a2, .int .i64 S2, .int .i64 M2, .int .i64 a1, .int .i64 S1, .int .i64 M1, .int .i64 a3, .int .i64 S3, .int .i64 M3, .int .i64 a4, .int .i64 S4, .int .i64 M4, .int .i64 a5, .int .i64 S5, .int .i64 M5]) size_rr N1 rfl (fun u hu => by simp at hu; rcases hu with rfl | rfl | rfl | rfl | rfl | rfl | rfl | rfl | rfl | rfl | rfl | rfl | rfl | rfl | rfl | rfl | rfl | rfl <;> rfl)
  obtain ⟨rb, hrb⟩ : ∃ rb, rb = w1.heap.size := ⟨_, rfl⟩
  rw [← hrb] at st B3 g3
  have ld0 : (Instr.loadAt 93 (.pointer (some ⟨rb, 0, none⟩))).run Tryd.prog w3 = .ok (.agg #[.int .i64 a0, .int .i64 S0, .int .i64 M0]) w3 := loadW (xs := [.int .i64 a0, .int .i64 S0, .int .i64 M0]) size_rp agg_rp [] (ys := [.int .i64 a2, .int .i64 S2, .int .i64 M2, .int .i64 a1, .int .i64 S1, .int .i64 M1, .int .i64 a3, .int .i64 S3, .int .i64 M3, .int .i64 a4, .int .i64 S4, .int .i64 M4, .int .i64 a5, .int .i64 S5, .int .i64 M5]) B3
  have ld1 : (Instr.loadAt 93 (.pointer (some ⟨rb, 3, none⟩))).run Tryd.prog w3 = .ok (.agg #[.int .i64 a2, .int .i64 S2, .int .i64 M2]) w3 := loadW (xs := [.int .i64 a2, .int .i64 S2, .int .i64 M2]) size_rp agg_rp [.int .i64 a0, .int .i64 S0, .int .i64 M0] (ys := [.int .i64 a1, .int .i64 S1, .int .i64 M1, .int .i64 a3, .int .i64 S3, .int .i64 M3, .int .i64 a4, .int .i64 S4, .int .i64 M4, .int .i64 a5, .int .i64 S5, .int .i64 M5]) B3
  have ld2 : (Instr.loadAt 93 (.pointer (some ⟨rb, 6, none⟩))).run Tryd.prog w3 = .ok (.agg #[.int .i64 a1, .int .i64 S1, .int .i64 M1]) w3 := loadW (xs := [.int .i64 a1, .int .i64 S1, .int .i64 M1]) size_rp agg_rp [.int .i64 a0, .int .i64 S0, .int .i64 M0, .int .i64 a2, .int .i64 S2, .int .i64 M2] (ys := [.int .i64 a3, .int .i64 S3, .int .i64 M3, .int .i64 a4, .int .i64 S4, .int .i64 M4, .int .i64 a5, .int .i64 S5, .int .i64 M5]) B3
  have ld3 : (Instr.loadAt 93 (.pointer (some ⟨rb, 9, none⟩))).run Tryd.prog w3 = .ok (.agg #[.int .i64 a3, .int .i64 S3, .int .i64 M3]) w3 := loadW (xs := [.int .i64 a3, .int .i64 S3, .int .i64 M3]) size_rp agg_rp [.int .i64 a0, .int .i64 S0, .int .i64 M0, .int .i64 a2, .int .i64 S2, .int .i64 M2, .int .i64 a1, .int .i64 S1, .int .i64 M1] (ys := [.int .i64 a4, .int .i64 S4, .int .i64 M4, .int .i64 a5, .int .i64 S5, .int .i64 M5]) B3
  have ld4 : (Instr.loadAt 93 (.pointer (some ⟨rb, 12, none⟩))).run Tryd.prog w3 = .ok (.agg #[.int .i64 a4, .int .i64 S4, .int .i64 M4]) w3 := loadW (xs := [.int .i64 a4, .int .i64 S4, .int .i64 M4]) size_rp agg_rp [.int .i64 a0, .int .i64 S0, .int .i64 M0, .int .i64 a2, .int .i64 S2, .int .i64 M2, .int .i64 a1, .int .i64 S1, .int .i64 M1, .int .i64 a3, .int .i64 S3, .int .i64 M3] (ys := [.int .i64 a5, .int .i64 S5, .int .i64 M5]) B3
  have ld5 : (Instr.loadAt 93 (.pointer (some ⟨rb, 15, none⟩))).run Tryd.prog w3 = .ok (.agg #[.int .i64 a5, .int .i64 S5, .int .i64 M5]) w3 := loadW (xs := [.int .i64 a5, .int .i64 S5, .int .i64 M5]) size_rp agg_rp [.int .i64 a0, .int .i64 S0, .int .i64 M0, .int .i64 a2, .int .i64 S2, .int .i64 M2, .int .i64 a1, .int .i64 S1, .int .i64 M1, .int .i64 a3, .int .i64 S3, .int .i64 M3, .int .i64 a4, .int .i64 S4, .int .i64 M4] (ys := []) B3
  have B0' := (G0.out.1.laterB (below_then k1 bn1)).grown g3 (by have := G0.out.1.lt; have := k1.size; rw [hrb]; intro e; have := Option.some.inj e; omega)
  have u0 := blk_at B0' 0
  have u1 := blk_at B0' 1
  have u2 := blk_at B0' 2
  have u3 := blk_at B0' 3
  have u4 := blk_at B0' 4
  have u5 := blk_at B0' 5
  have u6 := blk_at B0' 6
  simp only [List.getElem?_cons_zero, List.getElem?_cons_succ] at u0 u1 u2 u3 u4 u5 u6
  have G3 : Hid _ := And.intro (bel_grown (below_then G0.out.2 (below_then k1 bn1)) g3 (by have := G0.out.2.size; have := k1.size; rw [hrb]; omega)) B0'
  clear B0' g3 B3 N1 bn1 G0 k1
  skip
  go_upto_region 2 with (refine wpList_skip rfl (exec_store rfl rfl rfl (by rw [← hw2, ← hrb]; exact st)) ?_)
  rw [← hrb]
  clear st hw2 hrb u0 u1 u2 u3 u4 u5 u6
  subst hv
  have N4 := Blk.new' w3 93 [.int .i64 a0, .int .i64 S0, .int .i64 M0, .int .i64 a2, .int .i64 S2, .int .i64 M2, .int .i64 a1, .int .i64 S1, .int .i64 M1, .int .i64 a3, .int .i64 S3, .int .i64 M3, .int .i64 a4, .int .i64 S4, .int .i64 M4, .int .i64 a5, .int .i64 S5, .int .i64 M5]
  have bn4 : Below w3.heap.size w3 (w3.alloc (.cells #[.int .i64 a0, .int .i64 S0, .int .i64 M0, .int .i64 a2, .int .i64 S2, .int .i64 M2, .int .i64 a1, .int .i64 S1, .int .i64 M1, .int .i64 a3, .int .i64 S3, .int .i64 M3, .int .i64 a4, .int .i64 S4, .int .i64 M4, .int .i64 a5, .int .i64 S5, .int .i64 M5] 93)) := (Below.refl _ _).alloc (Nat.le_refl _) _
  obtain ⟨w4, hw4⟩ : ∃ w4, w4 = w3.alloc (.cells #[.int .i64 a0, .int .i64 S0, .int .i64 M0, .int .i64 a2, .int .i64 S2, .int .i64 M2, .int .i64 a1, .int .i64 S1, .int .i64 M1, .int .i64 a3, .int .i64 S3, .int .i64 M3, .int .i64 a4, .int .i64 S4, .int .i64 M4, .int .i64 a5, .int .i64 S5, .int .i64 M5] 93) := ⟨_, rfl⟩
  rw [← hw4] at N4 bn4
  have hb7 := fun a ob h h0 h1 h2 h3 h4 h5 => bs_places a0 S0 M0 a2 S2 M2 a1 S1 M1 a3 S3 M3 a4 S4 M4 a5 S5 M5 a ob (.tmp 25) (.tmp 27) (.tmp 29) (.tmp 31) (.tmp 33) (.tmp 35) h h0 h1 h2 h3 h4 h5 w3
  obtain ⟨pb, hpb⟩ : ∃ pb, pb = w3.heap.size := ⟨_, rfl⟩
  rw [← hw4, ← hpb] at hb7
  rw [← hpb] at N4
  have z4 : w4.heap.size = pb + 1 := by rw [hw4, hpb]; simp
  clear hw4
  have N5 := Blk.new' w4 22 [.int .u64 X0, .int .u64 0, .int .u64 X1, .int .u64 X3, .int .u64 X4, .int .u64 X5]
  have bn5 : Below w4.heap.size w4 (w4.alloc (.cells #[.int .u64 X0, .int .u64 0, .int .u64 X1, .int .u64 X3, .int .u64 X4, .int .u64 X5] 22)) := (Below.refl _ _).alloc (Nat.le_refl _) _
  obtain ⟨w5, hw5⟩ : ∃ w5, w5 = w4.alloc (.cells #[.int .u64 X0, .int .u64 0, .int .u64 X1, .int .u64 X3, .int .u64 X4, .int .u64 X5] 22) := ⟨_, rfl⟩
  rw [← hw5] at N5 bn5
  have hb8 := fun a ob h h0 h1 h2 h3 h4 h5 => bs_numbers X0 0 X1 X3 X4 X5 a ob (.tmp 39) (.tmp 40) (.tmp 43) (.tmp 46) (.tmp 48) (.tmp 51) h h0 h1 h2 h3 h4 h5 w4
  obtain ⟨vb, hvb⟩ : ∃ vb, vb = w4.heap.size := ⟨_, rfl⟩
  rw [← hw5, ← hvb] at hb8
  rw [← hvb] at N5
  have z5 : w5.heap.size = vb + 1 := by rw [hw5, hvb]; simp
  clear hw5
  have hmk : (Instr.makeSlice 23 (.int .i64 16) (.int .i64 16)).run Tryd.prog w5 = _ := cMake 16 (by omega) w5
  have N6 := Blk.new' w5 5 (vals (List.replicate 16 0#8))
  have bn6 : Below w5.heap.size w5 (w5.alloc (.cells (vals (List.replicate 16 0#8)).toArray 5)) := (Below.refl _ _).alloc (Nat.le_refl _) _
  obtain ⟨w6, hw6⟩ : ∃ w6, w6 = w5.alloc (.cells (vals (List.replicate 16 0#8)).toArray 5) := ⟨_, rfl⟩
  rw [← hw6] at N6 bn6
  obtain ⟨bb, hbb⟩ : ∃ bb, bb = w5.heap.size := ⟨_, rfl⟩
  rw [← hw6, ← hbb] at hmk
  rw [← hbb] at N6
  clear hw6
  have hs3 : w.heap.size ≤ w3.heap.size := G3.out.1.size
  have zb : w.heap.size ≤ bb ∧ vb < bb ∧ pb < bb := by rw [hbb, z5, hvb, z4, hpb]; omega
  have U4 := G3.out.2.laterB bn4
  have U6 := U4.laterB (below_then bn5 bn6)
  have u1 := ck_at U4 1
  have u2 := ck_at U4 2
  have u3 := ck_at U4 3
  have u4 := ck_at U4 4
  have u5 := ck_at U4 5
  have u6 := ck_at U4 6
  have u0 := ck_at U6 0
  have uv := ck_at G3.out.2 3
  simp only [List.getElem?_cons_zero, List.getElem?_cons_succ] at uv u0 u1 u2 u3 u4 u5 u6
  have v0 := ck_at N6 0
  have g0 := ck_fz N6 0
  simp only [vals, List.replicate, List.map_cons, List.getElem?_cons_zero] at v0
  have B7 := N6.set 0 (.int .u8 o)
  have E7 : (vals (List.replicate 16 0#8)).set 0 (.int .u8 o) = vals (opL o) := by unfold opL vals; simp [List.replicate, c8_val ho]
  rw [E7] at B7
  have O7 : Own (w6.setCell ⟨bb, 0, none⟩ (.int .u8 o)) w.heap.size (.slice (some ⟨bb, 0, none⟩) 16 16) (opL o) := Own.ofBlock (l := opL o) (cap := 16) (by omega) B7 (by simp [opL]) (by simp [maxLen]) (by simp [vals, opL]) (by simp [vals, opL])
  have b7 : Below w.heap.size w (w6.setCell ⟨bb, 0, none⟩ (.int .u8 o)) := (below_then G3.out.1 (below_then bn4 (below_then bn5 bn6))).setCell (show w.heap.size ≤ bb by omega) _
  have P7 := (N4.laterB (below_then bn5 bn6)).grown (grown_set w6 bb 0 (.int .u8 o)) (by intro e; have := Option.some.inj e; omega)
  have V7 := (N5.laterB bn6).grown (grown_set w6 bb 0 (.int .u8 o)) (by intro e; have := Option.some.inj e; omega)
  obtain ⟨y0, hy0⟩ : ∃ y0, y0 = w6.setCell ⟨bb, 0, none⟩ (.int .u8 o) := ⟨_, rfl⟩
  rw [← hy0] at O7 b7 P7 V7
  have H0 : Hid _ := And.intro O7 (And.intro b7 (And.intro P7 V7))
  clear O7 b7 P7 V7 B7 E7 U4 U6 N4 N5 N6 bn4 bn5 bn6 zb hs3 z4 z5 hpb hvb hbb G3 ho
  go_wp2_with (first | (refine wpList_value rfl (exec_load rfl rfl ld0) ?_) | (refine wpList_value rfl (exec_load rfl rfl ld1) ?_) | (refine wpList_value rfl (exec_load rfl rfl ld2) ?_) | (refine wpList_value rfl (exec_load rfl rfl ld3) ?_) | (refine wpList_value rfl (exec_load rfl rfl ld4) ?_) | (refine wpList_value rfl (exec_load rfl rfl ld5) ?_) | (refine wpList_value rfl (hb7 _ _ rfl rfl rfl rfl rfl rfl rfl) ?_) | (refine wpList_value rfl (hb8 _ _ rfl rfl rfl rfl rfl rfl rfl) ?_))
  rw [← hy0]
  clear hy0 uv hmk v0 g0 hb7 hb8 co c0 c1 c3 c5 u0 u1 u2 u3 u4 u5 u6 ld0 ld1 ld2 ld3 ld4 ld5
  refine wp_loop_rounds 7 ?_
  rw [rounds_succ]
  go_wp2_with fail
  refine wp_region_held_drew (S := fun W => Below y0.heap.size y0 W) (by kernel_rfl) ((Below.refl _ _).drew) (fun hS => ?_)
  have B0 : Below y0.heap.size y0 y0.drew := ((Below.refl _ _).drew)
  refine any_take (i := 0) (v := ?_) rfl (by kernel_rfl) (by kernel_rfl) (by kernel_rfl) (by exact fun _ _ _ h => h) (by rfl) ?_ hS ?_
  rotate_left
  · ((intro w hSw; (try dsimp only at hSw); go_simp) <;> with_reducible rfl)
  (try simp only [Act.put, List.setIfInBounds_toArray, List.set_cons_zero, List.set_cons_succ])
  refine any_take (i := 1) (v := ?_) rfl (by kernel_rfl) (by kernel_rfl) (by kernel_rfl) (by exact fun _ _ _ h => h) (by rfl) ?_ hS ?_
  rotate_left
  · ((intro w hSw; (try dsimp only at hSw); go_simp) <;> with_reducible rfl)
  (try simp only [Act.put, List.setIfInBounds_toArray, List.set_cons_zero, List.set_cons_succ])
  refine any_take (i := 2) (v := ?_) rfl (by kernel_rfl) (by kernel_rfl) (by kernel_rfl) (by exact fun _ _ _ h => h) (by rfl) ?_ hS ?_
  rotate_left
  · ((intro w hSw; (try dsimp only at hSw); go_simp) <;> with_reducible rfl)
  (try simp only [Act.put, List.setIfInBounds_toArray, List.set_cons_zero, List.set_cons_succ])
  refine any_take (i := 5) (v := ?_) rfl (by kernel_rfl) (by kernel_rfl) (by kernel_rfl) (by exact fun _ _ _ h => h) (by rfl) ?_ hS ?_
  rotate_left
  · ((intro w hSw; (try dsimp only at hSw); go_simp) <;> with_reducible rfl)
  (try simp only [Act.put, List.setIfInBounds_toArray, List.set_cons_zero, List.set_cons_succ])
  refine any_take (i := 6) (v := ?_) rfl (by kernel_rfl) (by kernel_rfl) (by kernel_rfl) (by exact fun _ _ _ h => h) (by rfl) ?_ hS ?_
  rotate_left
  · ((intro w hSw; (try dsimp only at hSw); go_simp) <;> with_reducible rfl)
  (try simp only [Act.put, List.setIfInBounds_toArray, List.set_cons_zero, List.set_cons_succ])
  refine any_take (i := 3) (v := ?_) rfl (by kernel_rfl) (by kernel_rfl) (by kernel_rfl) (by exact fun _ _ _ h => h) (by rfl) ?_ hS ?_
  rotate_left
  · ((intro w hSw; (try dsimp only at hSw); go_simp) <;> with_reducible rfl)
  (try simp only [Act.put, List.setIfInBounds_toArray, List.set_cons_zero, List.set_cons_succ])
  refine any_take (i := 7) (v := ?_) rfl (by kernel_rfl) (by kernel_rfl) (by kernel_rfl) (by exact fun _ _ _ h => h) (by rfl) ?_ hS ?_
  rotate_left
  · ((intro w hSw; (try dsimp only at hSw); go_simp) <;> with_reducible rfl)
  (try simp only [Act.put, List.setIfInBounds_toArray, List.set_cons_zero, List.set_cons_succ])
  refine any_take (i := 4) (v := ?_) rfl (by kernel_rfl) (by kernel_rfl) (by kernel_rfl) (by exact fun _ _ _ h => h) (by rfl) ?_ hS ?_
  rotate_left
  · ((intro w hSw; have q0 := ck_later (show y0.cell? ⟨pb, 0, none⟩ = some (.int .i64 a0) from ck_at H0.out.2.2.1 0) hSw; have q1 := ck_later (show y0.cell? ⟨pb, 1, none⟩ = some (.int .i64 S0) from ck_at H0.out.2.2.1 1) hSw; have q2 := ck_later (show y0.cell? ⟨pb, 2, none⟩ = some (.int .i64 M0) from ck_at H0.out.2.2.1 2) hSw; go_simp) <;> with_reducible rfl)
  (try simp only [Act.put, List.setIfInBounds_toArray, List.set_cons_zero, List.set_cons_succ])
  refine any_take (i := 8) (v := ?_) rfl (by kernel_rfl) (by kernel_rfl) (by kernel_rfl) (by exact fun _ _ _ h => h) (by rfl) ?_ hS ?_
  rotate_left
  · ((intro w hSw; have q0 := ck_later (show y0.cell? ⟨vb, 0, none⟩ = some (.int .u64 X0) from ck_at H0.out.2.2.2 0) hSw; go_simp) <;> with_reducible rfl)
  (try simp only [Act.put, List.setIfInBounds_toArray, List.set_cons_zero, List.set_cons_succ])
  have K1 : Hid _ := Q0.out w.heap.size (.slice (some ⟨bb, 0, none⟩) 16 16) (opL o) _ (below_then H0.out.2.1 B0).size (Own.later H0.out.1 B0) l0.out
  refine any_one (i := 9) rfl (by kernel_rfl) (fun K hK => ?_)
  go_simp
  refine (Calls.mono (K1.out)) ?_
  rintro e x1 ⟨z1, rfl, o1, hbR⟩
  have B1 : Below y0.heap.size y0 x1 := below_then B0 hbR
  clear K1
  go_wp2_with fail
  refine hK.out _ _ (by first | exact B1 | exact hbR | exact below_then hS hbR) (any_weaken (S' := fun W => Below x1.heap.size x1 W) (fun W hW => by first | exact below_then B1 hW | exact below_then hbR hW | exact below_then (below_then hS hbR) hW) _ _ _ _ ?_)
  clear hK K hS hbR
  have hS : Below x1.heap.size x1 x1 := Below.refl _ _
  refine any_take (i := 10) (v := ?_) rfl (by kernel_rfl) (by kernel_rfl) (by kernel_rfl) (by exact fun _ _ _ h => h) (by rfl) ?_ hS ?_
  rotate_left
  · ((intro w hSw; (try dsimp only at hSw); go_simp) <;> with_reducible rfl)
  (try simp only [Act.put, List.setIfInBounds_toArray, List.set_cons_zero, List.set_cons_succ])
  refine any_take (i := 11) (v := ?_) rfl (by kernel_rfl) (by kernel_rfl) (by kernel_rfl) (by exact fun _ _ _ h => h) (by rfl) ?_ hS ?_
  rotate_left
  · ((intro w hSw; (try dsimp only at hSw); go_simp) <;> with_reducible rfl)
  (try simp only [Act.put, List.setIfInBounds_toArray, List.set_cons_zero, List.set_cons_succ])
  refine any_take (i := 12) (v := ?_) rfl (by kernel_rfl) (by kernel_rfl) (by kernel_rfl) (by exact fun _ _ _ h => h) (by rfl) ?_ hS ?_
  rotate_left
  · ((intro w hSw; (try dsimp only at hSw); go_simp) <;> with_reducible rfl)
  (try simp only [Act.put, List.setIfInBounds_toArray, List.set_cons_zero, List.set_cons_succ])
  refine any_take (i := 13) (v := ?_) rfl (by kernel_rfl) (by kernel_rfl) (by kernel_rfl) (by exact fun _ _ _ h => h) (by rfl) ?_ hS ?_
  rotate_left
  · ((intro w hSw; (try dsimp only at hSw); go_simp) <;> with_reducible rfl)
  (try simp only [Act.put, List.setIfInBounds_toArray, List.set_cons_zero, List.set_cons_succ])
  refine any_take (i := 14) (v := ?_) rfl (by kernel_rfl) (by kernel_rfl) (by kernel_rfl) (by exact fun _ _ _ h => h) (by rfl) ?_ hS ?_
  rotate_left
  · ((intro w hSw; (try dsimp only at hSw); go_simp) <;> with_reducible rfl)
  (try simp only [Act.put, List.setIfInBounds_toArray, List.set_cons_zero, List.set_cons_succ])
  refine wpAnyH_done (by kernel_rfl) ?_ _
  have H1 : Hid _ := And.intro (Own.later o1 (Below.refl _ _)) (And.intro (below_then H0.out.2.1 B1) (And.intro (H0.out.2.2.1.laterB B1) (H0.out.2.2.2.laterB B1)))
  clear hS H0 o1 B0 B1
  obtain ⟨y1, hyy⟩ : ∃ y, y = x1 := ⟨_, rfl⟩
  rw [← hyy] at H1 ⊢
  clear hyy
  go_wp2_with fail
  rw [rounds_succ]
  go_wp2_with fail
  refine wp_region_held_drew (S := fun W => Below y1.heap.size y1 W) (by kernel_rfl) ((Below.refl _ _).drew) (fun hS => ?_)
  have B0 : Below y1.heap.size y1 y1.drew := ((Below.refl _ _).drew)
  refine any_take (i := 0) (v := ?_) rfl (by kernel_rfl) (by kernel_rfl) (by kernel_rfl) (by exact fun _ _ _ h => h) (by rfl) ?_ hS ?_
  rotate_left
  · ((intro w hSw; (try dsimp only at hSw); go_simp) <;> with_reducible rfl)
  (try simp only [Act.put, List.setIfInBounds_toArray, List.set_cons_zero, List.set_cons_succ])
  refine any_take (i := 1) (v := ?_) rfl (by kernel_rfl) (by kernel_rfl) (by kernel_rfl) (by exact fun _ _ _ h => h) (by rfl) ?_ hS ?_
  rotate_left
  · ((intro w hSw; (try dsimp only at hSw); go_simp) <;> with_reducible rfl)
  (try simp only [Act.put, List.setIfInBounds_toArray, List.set_cons_zero, List.set_cons_succ])
  refine any_take (i := 2) (v := ?_) rfl (by kernel_rfl) (by kernel_rfl) (by kernel_rfl) (by exact fun _ _ _ h => h) (by rfl) ?_ hS ?_
  rotate_left
  · ((intro w hSw; (try dsimp only at hSw); go_simp) <;> with_reducible rfl)
  (try simp only [Act.put, List.setIfInBounds_toArray, List.set_cons_zero, List.set_cons_succ])
  refine any_take (i := 5) (v := ?_) rfl (by kernel_rfl) (by kernel_rfl) (by kernel_rfl) (by exact fun _ _ _ h => h) (by rfl) ?_ hS ?_
  rotate_left
  · ((intro w hSw; (try dsimp only at hSw); go_simp) <;> with_reducible rfl)
  (try simp only [Act.put, List.setIfInBounds_toArray, List.set_cons_zero, List.set_cons_succ])
  refine any_take (i := 6) (v := ?_) rfl (by kernel_rfl) (by kernel_rfl) (by kernel_rfl) (by exact fun _ _ _ h => h) (by rfl) ?_ hS ?_
  rotate_left
  · ((intro w hSw; (try dsimp only at hSw); go_simp) <;> with_reducible rfl)
  (try simp only [Act.put, List.setIfInBounds_toArray, List.set_cons_zero, List.set_cons_succ])
  refine any_take (i := 3) (v := ?_) rfl (by kernel_rfl) (by kernel_rfl) (by kernel_rfl) (by exact fun _ _ _ h => h) (by rfl) ?_ hS ?_
  rotate_left
  · ((intro w hSw; (try dsimp only at hSw); go_simp) <;> with_reducible rfl)
  (try simp only [Act.put, List.setIfInBounds_toArray, List.set_cons_zero, List.set_cons_succ])
  refine any_take (i := 7) (v := ?_) rfl (by kernel_rfl) (by kernel_rfl) (by kernel_rfl) (by exact fun _ _ _ h => h) (by rfl) ?_ hS ?_
  rotate_left
  · ((intro w hSw; (try dsimp only at hSw); go_simp) <;> with_reducible rfl)
  (try simp only [Act.put, List.setIfInBounds_toArray, List.set_cons_zero, List.set_cons_succ])
  refine any_take (i := 4) (v := ?_) rfl (by kernel_rfl) (by kernel_rfl) (by kernel_rfl) (by exact fun _ _ _ h => h) (by rfl) ?_ hS ?_
  rotate_left
  · ((intro w hSw; have q0 := ck_later (show y1.cell? ⟨pb, 3, none⟩ = some (.int .i64 a2) from ck_at H1.out.2.2.1 3) hSw; have q1 := ck_later (show y1.cell? ⟨pb, 4, none⟩ = some (.int .i64 S2) from ck_at H1.out.2.2.1 4) hSw; have q2 := ck_later (show y1.cell? ⟨pb, 5, none⟩ = some (.int .i64 M2) from ck_at H1.out.2.2.1 5) hSw; go_simp) <;> with_reducible rfl)
  (try simp only [Act.put, List.setIfInBounds_toArray, List.set_cons_zero, List.set_cons_succ])
  refine any_take (i := 8) (v := ?_) rfl (by kernel_rfl) (by kernel_rfl) (by kernel_rfl) (by exact fun _ _ _ h => h) (by rfl) ?_ hS ?_
  rotate_left
  · ((intro w hSw; have q0 := ck_later (show y1.cell? ⟨vb, 1, none⟩ = some (.int .u64 0) from ck_at H1.out.2.2.2 1) hSw; go_simp) <;> with_reducible rfl)
  (try simp only [Act.put, List.setIfInBounds_toArray, List.set_cons_zero, List.set_cons_succ])
  have K1 : Hid _ := Q2.out w.heap.size (z1) (layF (opL o) a0 b0 m0) _ (below_then H1.out.2.1 B0).size (Own.later H1.out.1 B0) l1.out
  refine any_one (i := 9) rfl (by kernel_rfl) (fun K hK => ?_)
  go_simp
  refine (Calls.mono (K1.out)) ?_
  rintro e x1 ⟨z2, rfl, o2, hbR⟩
  have B1 : Below y1.heap.size y1 x1 := below_then B0 hbR
  clear K1
  go_wp2_with fail
  refine hK.out _ _ (by first | exact B1 | exact hbR | exact below_then hS hbR) (any_weaken (S' := fun W => Below x1.heap.size x1 W) (fun W hW => by first | exact below_then B1 hW | exact below_then hbR hW | exact below_then (below_then hS hbR) hW) _ _ _ _ ?_)
  clear hK K hS hbR
  have hS : Below x1.heap.size x1 x1 := Below.refl _ _
  refine any_take (i := 10) (v := ?_) rfl (by kernel_rfl) (by kernel_rfl) (by kernel_rfl) (by exact fun _ _ _ h => h) (by rfl) ?_ hS ?_
  rotate_left
  · ((intro w hSw; (try dsimp only at hSw); go_simp) <;> with_reducible rfl)
  (try simp only [Act.put, List.setIfInBounds_toArray, List.set_cons_zero, List.set_cons_succ])
  refine any_take (i := 11) (v := ?_) rfl (by kernel_rfl) (by kernel_rfl) (by kernel_rfl) (by exact fun _ _ _ h => h) (by rfl) ?_ hS ?_
  rotate_left
  · ((intro w hSw; (try dsimp only at hSw); go_simp) <;> with_reducible rfl)
  (try simp only [Act.put, List.setIfInBounds_toArray, List.set_cons_zero, List.set_cons_succ])
  refine any_take (i := 12) (v := ?_) rfl (by kernel_rfl) (by kernel_rfl) (by kernel_rfl) (by exact fun _ _ _ h => h) (by rfl) ?_ hS ?_
  rotate_left
  · ((intro w hSw; (try dsimp only at hSw); go_simp) <;> with_reducible rfl)
  (try simp only [Act.put, List.setIfInBounds_toArray, List.set_cons_zero, List.set_cons_succ])
  refine any_take (i := 13) (v := ?_) rfl (by kernel_rfl) (by kernel_rfl) (by kernel_rfl) (by exact fun _ _ _ h => h) (by rfl) ?_ hS ?_
  rotate_left
  · ((intro w hSw; (try dsimp only at hSw); go_simp) <;> with_reducible rfl)
  (try simp only [Act.put, List.setIfInBounds_toArray, List.set_cons_zero, List.set_cons_succ])
  refine any_take (i := 14) (v := ?_) rfl (by kernel_rfl) (by kernel_rfl) (by kernel_rfl) (by exact fun _ _ _ h => h) (by rfl) ?_ hS ?_
  rotate_left
  · ((intro w hSw; (try dsimp only at hSw); go_simp) <;> with_reducible rfl)
  (try simp only [Act.put, List.setIfInBounds_toArray, List.set_cons_zero, List.set_cons_succ])
  refine wpAnyH_done (by kernel_rfl) ?_ _
  have H2 : Hid _ := And.intro (Own.later o2 (Below.refl _ _)) (And.intro (below_then H1.out.2.1 B1) (And.intro (H1.out.2.2.1.laterB B1) (H1.out.2.2.2.laterB B1)))
  clear hS H1 o2 B0 B1
  obtain ⟨y2, hyy⟩ : ∃ y, y = x1 := ⟨_, rfl⟩
  rw [← hyy] at H2 ⊢
  clear hyy
  go_wp2_with fail
  rw [rounds_succ]
  go_wp2_with fail
  refine wp_region_held_drew (S := fun W => Below y2.heap.size y2 W) (by kernel_rfl) ((Below.refl _ _).drew) (fun hS => ?_)
  have B0 : Below y2.heap.size y2 y2.drew := ((Below.refl _ _).drew)
  refine any_take (i := 0) (v := ?_) rfl (by kernel_rfl) (by kernel_rfl) (by kernel_rfl) (by exact fun _ _ _ h => h) (by rfl) ?_ hS ?_
  rotate_left
  · ((intro w hSw; (try dsimp only at hSw); go_simp) <;> with_reducible rfl)
  (try simp only [Act.put, List.setIfInBounds_toArray, List.set_cons_zero, List.set_cons_succ])
  refine any_take (i := 1) (v := ?_) rfl (by kernel_rfl) (by kernel_rfl) (by kernel_rfl) (by exact fun _ _ _ h => h) (by rfl) ?_ hS ?_
  rotate_left
  · ((intro w hSw; (try dsimp only at hSw); go_simp) <;> with_reducible rfl)
  (try simp only [Act.put, List.setIfInBounds_toArray, List.set_cons_zero, List.set_cons_succ])
  refine any_take (i := 2) (v := ?_) rfl (by kernel_rfl) (by kernel_rfl) (by kernel_rfl) (by exact fun _ _ _ h => h) (by rfl) ?_ hS ?_
  rotate_left
  · ((intro w hSw; (try dsimp only at hSw); go_simp) <;> with_reducible rfl)
  (try simp only [Act.put, List.setIfInBounds_toArray, List.set_cons_zero, List.set_cons_succ])
  refine any_take (i := 5) (v := ?_) rfl (by kernel_rfl) (by kernel_rfl) (by kernel_rfl) (by exact fun _ _ _ h => h) (by rfl) ?_ hS ?_
  rotate_left
  · ((intro w hSw; (try dsimp only at hSw); go_simp) <;> with_reducible rfl)
  (try simp only [Act.put, List.setIfInBounds_toArray, List.set_cons_zero, List.set_cons_succ])
  refine any_take (i := 6) (v := ?_) rfl (by kernel_rfl) (by kernel_rfl) (by kernel_rfl) (by exact fun _ _ _ h => h) (by rfl) ?_ hS ?_
  rotate_left
  · ((intro w hSw; (try dsimp only at hSw); go_simp) <;> with_reducible rfl)
  (try simp only [Act.put, List.setIfInBounds_toArray, List.set_cons_zero, List.set_cons_succ])
  refine any_take (i := 3) (v := ?_) rfl (by kernel_rfl) (by kernel_rfl) (by kernel_rfl) (by exact fun _ _ _ h => h) (by rfl) ?_ hS ?_
  rotate_left
  · ((intro w hSw; (try dsimp only at hSw); go_simp) <;> with_reducible rfl)
  (try simp only [Act.put, List.setIfInBounds_toArray, List.set_cons_zero, List.set_cons_succ])
  refine any_take (i := 7) (v := ?_) rfl (by kernel_rfl) (by kernel_rfl) (by kernel_rfl) (by exact fun _ _ _ h => h) (by rfl) ?_ hS ?_
  rotate_left
  · ((intro w hSw; (try dsimp only at hSw); go_simp) <;> with_reducible rfl)
  (try simp only [Act.put, List.setIfInBounds_toArray, List.set_cons_zero, List.set_cons_succ])
  refine any_take (i := 4) (v := ?_) rfl (by kernel_rfl) (by kernel_rfl) (by kernel_rfl) (by exact fun _ _ _ h => h) (by rfl) ?_ hS ?_
  rotate_left
  · ((intro w hSw; have q0 := ck_later (show y2.cell? ⟨pb, 6, none⟩ = some (.int .i64 a1) from ck_at H2.out.2.2.1 6) hSw; have q1 := ck_later (show y2.cell? ⟨pb, 7, none⟩ = some (.int .i64 S1) from ck_at H2.out.2.2.1 7) hSw; have q2 := ck_later (show y2.cell? ⟨pb, 8, none⟩ = some (.int .i64 M1) from ck_at H2.out.2.2.1 8) hSw; go_simp) <;> with_reducible rfl)
  (try simp only [Act.put, List.setIfInBounds_toArray, List.set_cons_zero, List.set_cons_succ])
  refine any_take (i := 8) (v := ?_) rfl (by kernel_rfl) (by kernel_rfl) (by kernel_rfl) (by exact fun _ _ _ h => h) (by rfl) ?_ hS ?_
  rotate_left
  · ((intro w hSw; have q0 := ck_later (show y2.cell? ⟨vb, 2, none⟩ = some (.int .u64 X1) from ck_at H2.out.2.2.2 2) hSw; go_simp) <;> with_reducible rfl)
  (try simp only [Act.put, List.setIfInBounds_toArray, List.set_cons_zero, List.set_cons_succ])
  have K1 : Hid _ := Q1.out w.heap.size (z2) (layF (layF (opL o) a0 b0 m0) a2 b2 m2) _ (below_then H2.out.2.1 B0).size (Own.later H2.out.1 B0) l2.out
  refine any_one (i := 9) rfl (by kernel_rfl) (fun K hK => ?_)
  go_simp
  refine (Calls.mono (K1.out)) ?_
  rintro e x1 ⟨z3, rfl, o3, hbR⟩
  have B1 : Below y2.heap.size y2 x1 := below_then B0 hbR
  clear K1
  go_wp2_with fail
  refine hK.out _ _ (by first | exact B1 | exact hbR | exact below_then hS hbR) (any_weaken (S' := fun W => Below x1.heap.size x1 W) (fun W hW => by first | exact below_then B1 hW | exact below_then hbR hW | exact below_then (below_then hS hbR) hW) _ _ _ _ ?_)
  clear hK K hS hbR
  have hS : Below x1.heap.size x1 x1 := Below.refl _ _
  refine any_take (i := 10) (v := ?_) rfl (by kernel_rfl) (by kernel_rfl) (by kernel_rfl) (by exact fun _ _ _ h => h) (by rfl) ?_ hS ?_
  rotate_left
  · ((intro w hSw; (try dsimp only at hSw); go_simp) <;> with_reducible rfl)
  (try simp only [Act.put, List.setIfInBounds_toArray, List.set_cons_zero, List.set_cons_succ])
  refine any_take (i := 11) (v := ?_) rfl (by kernel_rfl) (by kernel_rfl) (by kernel_rfl) (by exact fun _ _ _ h => h) (by rfl) ?_ hS ?_
  rotate_left
  · ((intro w hSw; (try dsimp only at hSw); go_simp) <;> with_reducible rfl)
  (try simp only [Act.put, List.setIfInBounds_toArray, List.set_cons_zero, List.set_cons_succ])
  refine any_take (i := 12) (v := ?_) rfl (by kernel_rfl) (by kernel_rfl) (by kernel_rfl) (by exact fun _ _ _ h => h) (by rfl) ?_ hS ?_
  rotate_left
  · ((intro w hSw; (try dsimp only at hSw); go_simp) <;> with_reducible rfl)
  (try simp only [Act.put, List.setIfInBounds_toArray, List.set_cons_zero, List.set_cons_succ])
  refine any_take (i := 13) (v := ?_) rfl (by kernel_rfl) (by kernel_rfl) (by kernel_rfl) (by exact fun _ _ _ h => h) (by rfl) ?_ hS ?_
  rotate_left
  · ((intro w hSw; (try dsimp only at hSw); go_simp) <;> with_reducible rfl)
  (try simp only [Act.put, List.setIfInBounds_toArray, List.set_cons_zero, List.set_cons_succ])
  refine any_take (i := 14) (v := ?_) rfl (by kernel_rfl) (by kernel_rfl) (by kernel_rfl) (by exact fun _ _ _ h => h) (by rfl) ?_ hS ?_
  rotate_left
  · ((intro w hSw; (try dsimp only at hSw); go_simp) <;> with_reducible rfl)
  (try simp only [Act.put, List.setIfInBounds_toArray, List.set_cons_zero, List.set_cons_succ])
  refine wpAnyH_done (by kernel_rfl) ?_ _
  have H3 : Hid _ := And.intro (Own.later o3 (Below.refl _ _)) (And.intro (below_then H2.out.2.1 B1) (And.intro (H2.out.2.2.1.laterB B1) (H2.out.2.2.2.laterB B1)))
  clear hS H2 o3 B0 B1
  obtain ⟨y3, hyy⟩ : ∃ y, y = x1 := ⟨_, rfl⟩
  rw [← hyy] at H3 ⊢
  clear hyy
  go_wp2_with fail
  rw [rounds_succ]
  go_wp2_with fail
  refine wp_region_held_drew (S := fun W => Below y3.heap.size y3 W) (by kernel_rfl) ((Below.refl _ _).drew) (fun hS => ?_)
  have B0 : Below y3.heap.size y3 y3.drew := ((Below.refl _ _).drew)
  refine any_take (i := 0) (v := ?_) rfl (by kernel_rfl) (by kernel_rfl) (by kernel_rfl) (by exact fun _ _ _ h => h) (by rfl) ?_ hS ?_
  rotate_left
  · ((intro w hSw; (try dsimp only at hSw); go_simp) <;> with_reducible rfl)
  (try simp only [Act.put, List.setIfInBounds_toArray, List.set_cons_zero, List.set_cons_succ])
  refine any_take (i := 1) (v := ?_) rfl (by kernel_rfl) (by kernel_rfl) (by kernel_rfl) (by exact fun _ _ _ h => h) (by rfl) ?_ hS ?_
  rotate_left
  · ((intro w hSw; (try dsimp only at hSw); go_simp) <;> with_reducible rfl)
  (try simp only [Act.put, List.setIfInBounds_toArray, List.set_cons_zero, List.set_cons_succ])
  refine any_take (i := 2) (v := ?_) rfl (by kernel_rfl) (by kernel_rfl) (by kernel_rfl) (by exact fun _ _ _ h => h) (by rfl) ?_ hS ?_
  rotate_left
  · ((intro w hSw; (try dsimp only at hSw); go_simp) <;> with_reducible rfl)
  (try simp only [Act.put, List.setIfInBounds_toArray, List.set_cons_zero, List.set_cons_succ])
  refine any_take (i := 5) (v := ?_) rfl (by kernel_rfl) (by kernel_rfl) (by kernel_rfl) (by exact fun _ _ _ h => h) (by rfl) ?_ hS ?_
  rotate_left
  · ((intro w hSw; (try dsimp only at hSw); go_simp) <;> with_reducible rfl)
  (try simp only [Act.put, List.setIfInBounds_toArray, List.set_cons_zero, List.set_cons_succ])
  refine any_take (i := 6) (v := ?_) rfl (by kernel_rfl) (by kernel_rfl) (by kernel_rfl) (by exact fun _ _ _ h => h) (by rfl) ?_ hS ?_
  rotate_left
  · ((intro w hSw; (try dsimp only at hSw); go_simp) <;> with_reducible rfl)
  (try simp only [Act.put, List.setIfInBounds_toArray, List.set_cons_zero, List.set_cons_succ])
  refine any_take (i := 3) (v := ?_) rfl (by kernel_rfl) (by kernel_rfl) (by kernel_rfl) (by exact fun _ _ _ h => h) (by rfl) ?_ hS ?_
  rotate_left
  · ((intro w hSw; (try dsimp only at hSw); go_simp) <;> with_reducible rfl)
  (try simp only [Act.put, List.setIfInBounds_toArray, List.set_cons_zero, List.set_cons_succ])
  refine any_take (i := 7) (v := ?_) rfl (by kernel_rfl) (by kernel_rfl) (by kernel_rfl) (by exact fun _ _ _ h => h) (by rfl) ?_ hS ?_
  rotate_left
  · ((intro w hSw; (try dsimp only at hSw); go_simp) <;> with_reducible rfl)
  (try simp only [Act.put, List.setIfInBounds_toArray, List.set_cons_zero, List.set_cons_succ])
  refine any_take (i := 4) (v := ?_) rfl (by kernel_rfl) (by kernel_rfl) (by kernel_rfl) (by exact fun _ _ _ h => h) (by rfl) ?_ hS ?_
  rotate_left
  · ((intro w hSw; have q0 := ck_later (show y3.cell? ⟨pb, 9, none⟩ = some (.int .i64 a3) from ck_at H3.out.2.2.1 9) hSw; have q1 := ck_later (show y3.cell? ⟨pb, 10, none⟩ = some (.int .i64 S3) from ck_at H3.out.2.2.1 10) hSw; have q2 := ck_later (show y3.cell? ⟨pb, 11, none⟩ = some (.int .i64 M3) from ck_at H3.out.2.2.1 11) hSw; go_simp) <;> with_reducible rfl)
  (try simp only [Act.put, List.setIfInBounds_toArray, List.set_cons_zero, List.set_cons_succ])
  refine any_take (i := 8) (v := ?_) rfl (by kernel_rfl) (by kernel_rfl) (by kernel_rfl) (by exact fun _ _ _ h => h) (by rfl) ?_ hS ?_
  rotate_left
  · ((intro w hSw; have q0 := ck_later (show y3.cell? ⟨vb, 3, none⟩ = some (.int .u64 X3) from ck_at H3.out.2.2.2 3) hSw; go_simp) <;> with_reducible rfl)
  (try simp only [Act.put, List.setIfInBounds_toArray, List.set_cons_zero, List.set_cons_succ])
  have K1 : Hid _ := Q3.out w.heap.size (z3) (layF (layF (layF (opL o) a0 b0 m0) a2 b2 m2) a1 b1 m1) _ (below_then H3.out.2.1 B0).size (Own.later H3.out.1 B0) l3.out
  refine any_one (i := 9) rfl (by kernel_rfl) (fun K hK => ?_)
  go_simp
  refine (Calls.mono (K1.out)) ?_
  rintro e x1 ⟨z4, rfl, o4, hbR⟩
  have B1 : Below y3.heap.size y3 x1 := below_then B0 hbR
  clear K1
  go_wp2_with fail
  refine hK.out _ _ (by first | exact B1 | exact hbR | exact below_then hS hbR) (any_weaken (S' := fun W => Below x1.heap.size x1 W) (fun W hW => by first | exact below_then B1 hW | exact below_then hbR hW | exact below_then (below_then hS hbR) hW) _ _ _ _ ?_)
  clear hK K hS hbR
  have hS : Below x1.heap.size x1 x1 := Below.refl _ _
  refine any_take (i := 10) (v := ?_) rfl (by kernel_rfl) (by kernel_rfl) (by kernel_rfl) (by exact fun _ _ _ h => h) (by rfl) ?_ hS ?_
  rotate_left
  · ((intro w hSw; (try dsimp only at hSw); go_simp) <;> with_reducible rfl)
  (try simp only [Act.put, List.setIfInBounds_toArray, List.set_cons_zero, List.set_cons_succ])
  refine any_take (i := 11) (v := ?_) rfl (by kernel_rfl) (by kernel_rfl) (by kernel_rfl) (by exact fun _ _ _ h => h) (by rfl) ?_ hS ?_
  rotate_left
  · ((intro w hSw; (try dsimp only at hSw); go_simp) <;> with_reducible rfl)
  (try simp only [Act.put, List.setIfInBounds_toArray, List.set_cons_zero, List.set_cons_succ])
  refine any_take (i := 12) (v := ?_) rfl (by kernel_rfl) (by kernel_rfl) (by kernel_rfl) (by exact fun _ _ _ h => h) (by rfl) ?_ hS ?_
  rotate_left
  · ((intro w hSw; (try dsimp only at hSw); go_simp) <;> with_reducible rfl)
  (try simp only [Act.put, List.setIfInBounds_toArray, List.set_cons_zero, List.set_cons_succ])
  refine any_take (i := 13) (v := ?_) rfl (by kernel_rfl) (by kernel_rfl) (by kernel_rfl) (by exact fun _ _ _ h => h) (by rfl) ?_ hS ?_
  rotate_left
  · ((intro w hSw; (try dsimp only at hSw); go_simp) <;> with_reducible rfl)
  (try simp only [Act.put, List.setIfInBounds_toArray, List.set_cons_zero, List.set_cons_succ])
  refine any_take (i := 14) (v := ?_) rfl (by kernel_rfl) (by kernel_rfl) (by kernel_rfl) (by exact fun _ _ _ h => h) (by rfl) ?_ hS ?_
  rotate_left
  · ((intro w hSw; (try dsimp only at hSw); go_simp) <;> with_reducible rfl)
  (try simp only [Act.put, List.setIfInBounds_toArray, List.set_cons_zero, List.set_cons_succ])
  refine wpAnyH_done (by kernel_rfl) ?_ _
  have H4 : Hid _ := And.intro (Own.later o4 (Below.refl _ _)) (And.intro (below_then H3.out.2.1 B1) (And.intro (H3.out.2.2.1.laterB B1) (H3.out.2.2.2.laterB B1)))
  clear hS H3 o4 B0 B1
  obtain ⟨y4, hyy⟩ : ∃ y, y = x1 := ⟨_, rfl⟩
  rw [← hyy] at H4 ⊢
  clear hyy
  go_wp2_with fail
  rw [rounds_succ]
  go_wp2_with fail
  refine wp_region_held_drew (S := fun W => Below y4.heap.size y4 W) (by kernel_rfl) ((Below.refl _ _).drew) (fun hS => ?_)
  have B0 : Below y4.heap.size y4 y4.drew := ((Below.refl _ _).drew)
  refine any_take (i := 0) (v := ?_) rfl (by kernel_rfl) (by kernel_rfl) (by kernel_rfl) (by exact fun _ _ _ h => h) (by rfl) ?_ hS ?_
  rotate_left
  · ((intro w hSw; (try dsimp only at hSw); go_simp) <;> with_reducible rfl)
  (try simp only [Act.put, List.setIfInBounds_toArray, List.set_cons_zero, List.set_cons_succ])
  refine any_take (i := 1) (v := ?_) rfl (by kernel_rfl) (by kernel_rfl) (by kernel_rfl) (by exact fun _ _ _ h => h) (by rfl) ?_ hS ?_
  rotate_left
  · ((intro w hSw; (try dsimp only at hSw); go_simp) <;> with_reducible rfl)
  (try simp only [Act.put, List.setIfInBounds_toArray, List.set_cons_zero, List.set_cons_succ])
  refine any_take (i := 2) (v := ?_) rfl (by kernel_rfl) (by kernel_rfl) (by kernel_rfl) (by exact fun _ _ _ h => h) (by rfl) ?_ hS ?_
  rotate_left
  · ((intro w hSw; (try dsimp only at hSw); go_simp) <;> with_reducible rfl)
  (try simp only [Act.put, List.setIfInBounds_toArray, List.set_cons_zero, List.set_cons_succ])
  refine any_take (i := 5) (v := ?_) rfl (by kernel_rfl) (by kernel_rfl) (by kernel_rfl) (by exact fun _ _ _ h => h) (by rfl) ?_ hS ?_
  rotate_left
  · ((intro w hSw; (try dsimp only at hSw); go_simp) <;> with_reducible rfl)
  (try simp only [Act.put, List.setIfInBounds_toArray, List.set_cons_zero, List.set_cons_succ])
  refine any_take (i := 6) (v := ?_) rfl (by kernel_rfl) (by kernel_rfl) (by kernel_rfl) (by exact fun _ _ _ h => h) (by rfl) ?_ hS ?_
  rotate_left
  · ((intro w hSw; (try dsimp only at hSw); go_simp) <;> with_reducible rfl)
  (try simp only [Act.put, List.setIfInBounds_toArray, List.set_cons_zero, List.set_cons_succ])
  refine any_take (i := 3) (v := ?_) rfl (by kernel_rfl) (by kernel_rfl) (by kernel_rfl) (by exact fun _ _ _ h => h) (by rfl) ?_ hS ?_
  rotate_left
  · ((intro w hSw; (try dsimp only at hSw); go_simp) <;> with_reducible rfl)
  (try simp only [Act.put, List.setIfInBounds_toArray, List.set_cons_zero, List.set_cons_succ])
  refine any_take (i := 7) (v := ?_) rfl (by kernel_rfl) (by kernel_rfl) (by kernel_rfl) (by exact fun _ _ _ h => h) (by rfl) ?_ hS ?_
  rotate_left
  · ((intro w hSw; (try dsimp only at hSw); go_simp) <;> with_reducible rfl)
  (try simp only [Act.put, List.setIfInBounds_toArray, List.set_cons_zero, List.set_cons_succ])
  refine any_take (i := 4) (v := ?_) rfl (by kernel_rfl) (by kernel_rfl) (by kernel_rfl) (by exact fun _ _ _ h => h) (by rfl) ?_ hS ?_
  rotate_left
  · ((intro w hSw; have q0 := ck_later (show y4.cell? ⟨pb, 12, none⟩ = some (.int .i64 a4) from ck_at H4.out.2.2.1 12) hSw; have q1 := ck_later (show y4.cell? ⟨pb, 13, none⟩ = some (.int .i64 S4) from ck_at H4.out.2.2.1 13) hSw; have q2 := ck_later (show y4.cell? ⟨pb, 14, none⟩ = some (.int .i64 M4) from ck_at H4.out.2.2.1 14) hSw; go_simp) <;> with_reducible rfl)
  (try simp only [Act.put, List.setIfInBounds_toArray, List.set_cons_zero, List.set_cons_succ])
  refine any_take (i := 8) (v := ?_) rfl (by kernel_rfl) (by kernel_rfl) (by kernel_rfl) (by exact fun _ _ _ h => h) (by rfl) ?_ hS ?_
  rotate_left
  · ((intro w hSw; have q0 := ck_later (show y4.cell? ⟨vb, 4, none⟩ = some (.int .u64 X4) from ck_at H4.out.2.2.2 4) hSw; go_simp) <;> with_reducible rfl)
  (try simp only [Act.put, List.setIfInBounds_toArray, List.set_cons_zero, List.set_cons_succ])
  have K1 : Hid _ := Q4.out w.heap.size (z4) (layF (layF (layF (layF (opL o) a0 b0 m0) a2 b2 m2) a1 b1 m1) a3 b3 m3) _ (below_then H4.out.2.1 B0).size (Own.later H4.out.1 B0) l4.out
  refine any_one (i := 9) rfl (by kernel_rfl) (fun K hK => ?_)
  go_simp
  refine (Calls.mono (K1.out)) ?_
  rintro e x1 ⟨z5, rfl, o5, hbR⟩
  have B1 : Below y4.heap.size y4 x1 := below_then B0 hbR
  clear K1
  go_wp2_with fail
  refine hK.out _ _ (by first | exact B1 | exact hbR | exact below_then hS hbR) (any_weaken (S' := fun W => Below x1.heap.size x1 W) (fun W hW => by first | exact below_then B1 hW | exact below_then hbR hW | exact below_then (below_then hS hbR) hW) _ _ _ _ ?_)
  clear hK K hS hbR
  have hS : Below x1.heap.size x1 x1 := Below.refl _ _
  refine any_take (i := 10) (v := ?_) rfl (by kernel_rfl) (by kernel_rfl) (by kernel_rfl) (by exact fun _ _ _ h => h) (by rfl) ?_ hS ?_
  rotate_left
  · ((intro w hSw; (try dsimp only at hSw); go_simp) <;> with_reducible rfl)
  (try simp only [Act.put, List.setIfInBounds_toArray, List.set_cons_zero, List.set_cons_succ])
  refine any_take (i := 11) (v := ?_) rfl (by kernel_rfl) (by kernel_rfl) (by kernel_rfl) (by exact fun _ _ _ h => h) (by rfl) ?_ hS ?_
  rotate_left
  · ((intro w hSw; (try dsimp only at hSw); go_simp) <;> with_reducible rfl)
  (try simp only [Act.put, List.setIfInBounds_toArray, List.set_cons_zero, List.set_cons_succ])
  refine any_take (i := 12) (v := ?_) rfl (by kernel_rfl) (by kernel_rfl) (by kernel_rfl) (by exact fun _ _ _ h => h) (by rfl) ?_ hS ?_
  rotate_left
  · ((intro w hSw; (try dsimp only at hSw); go_simp) <;> with_reducible rfl)
  (try simp only [Act.put, List.setIfInBounds_toArray, List.set_cons_zero, List.set_cons_succ])
  refine any_take (i := 13) (v := ?_) rfl (by kernel_rfl) (by kernel_rfl) (by kernel_rfl) (by exact fun _ _ _ h => h) (by rfl) ?_ hS ?_
  rotate_left
  · ((intro w hSw; (try dsimp only at hSw); go_simp) <;> with_reducible rfl)
  (try simp only [Act.put, List.setIfInBounds_toArray, List.set_cons_zero, List.set_cons_succ])
  refine any_take (i := 14) (v := ?_) rfl (by kernel_rfl) (by kernel_rfl) (by kernel_rfl) (by exact fun _ _ _ h => h) (by rfl) ?_ hS ?_
  rotate_left
  · ((intro w hSw; (try dsimp only at hSw); go_simp) <;> with_reducible rfl)
  (try simp only [Act.put, List.setIfInBounds_toArray, List.set_cons_zero, List.set_cons_succ])
  refine wpAnyH_done (by kernel_rfl) ?_ _
  have H5 : Hid _ := And.intro (Own.later o5 (Below.refl _ _)) (And.intro (below_then H4.out.2.1 B1) (And.intro (H4.out.2.2.1.laterB B1) (H4.out.2.2.2.laterB B1)))
  clear hS H4 o5 B0 B1
  obtain ⟨y5, hyy⟩ : ∃ y, y = x1 := ⟨_, rfl⟩
  rw [← hyy] at H5 ⊢
  clear hyy
  go_wp2_with fail
  rw [rounds_succ]
  go_wp2_with fail
  refine wp_region_held_drew (S := fun W => Below y5.heap.size y5 W) (by kernel_rfl) ((Below.refl _ _).drew) (fun hS => ?_)
  have B0 : Below y5.heap.size y5 y5.drew := ((Below.refl _ _).drew)
  refine any_take (i := 0) (v := ?_) rfl (by kernel_rfl) (by kernel_rfl) (by kernel_rfl) (by exact fun _ _ _ h => h) (by rfl) ?_ hS ?_
  rotate_left
  · ((intro w hSw; (try dsimp only at hSw); go_simp) <;> with_reducible rfl)
  (try simp only [Act.put, List.setIfInBounds_toArray, List.set_cons_zero, List.set_cons_succ])
  refine any_take (i := 1) (v := ?_) rfl (by kernel_rfl) (by kernel_rfl) (by kernel_rfl) (by exact fun _ _ _ h => h) (by rfl) ?_ hS ?_
  rotate_left
  · ((intro w hSw; (try dsimp only at hSw); go_simp) <;> with_reducible rfl)
  (try simp only [Act.put, List.setIfInBounds_toArray, List.set_cons_zero, List.set_cons_succ])
  refine any_take (i := 2) (v := ?_) rfl (by kernel_rfl) (by kernel_rfl) (by kernel_rfl) (by exact fun _ _ _ h => h) (by rfl) ?_ hS ?_
  rotate_left
  · ((intro w hSw; (try dsimp only at hSw); go_simp) <;> with_reducible rfl)
  (try simp only [Act.put, List.setIfInBounds_toArray, List.set_cons_zero, List.set_cons_succ])
  refine any_take (i := 5) (v := ?_) rfl (by kernel_rfl) (by kernel_rfl) (by kernel_rfl) (by exact fun _ _ _ h => h) (by rfl) ?_ hS ?_
  rotate_left
  · ((intro w hSw; (try dsimp only at hSw); go_simp) <;> with_reducible rfl)
  (try simp only [Act.put, List.setIfInBounds_toArray, List.set_cons_zero, List.set_cons_succ])
  refine any_take (i := 6) (v := ?_) rfl (by kernel_rfl) (by kernel_rfl) (by kernel_rfl) (by exact fun _ _ _ h => h) (by rfl) ?_ hS ?_
  rotate_left
  · ((intro w hSw; (try dsimp only at hSw); go_simp) <;> with_reducible rfl)
  (try simp only [Act.put, List.setIfInBounds_toArray, List.set_cons_zero, List.set_cons_succ])
  refine any_take (i := 3) (v := ?_) rfl (by kernel_rfl) (by kernel_rfl) (by kernel_rfl) (by exact fun _ _ _ h => h) (by rfl) ?_ hS ?_
  rotate_left
  · ((intro w hSw; (try dsimp only at hSw); go_simp) <;> with_reducible rfl)
  (try simp only [Act.put, List.setIfInBounds_toArray, List.set_cons_zero, List.set_cons_succ])
  refine any_take (i := 7) (v := ?_) rfl (by kernel_rfl) (by kernel_rfl) (by kernel_rfl) (by exact fun _ _ _ h => h) (by rfl) ?_ hS ?_
  rotate_left
  · ((intro w hSw; (try dsimp only at hSw); go_simp) <;> with_reducible rfl)
  (try simp only [Act.put, List.setIfInBounds_toArray, List.set_cons_zero, List.set_cons_succ])
  refine any_take (i := 4) (v := ?_) rfl (by kernel_rfl) (by kernel_rfl) (by kernel_rfl) (by exact fun _ _ _ h => h) (by rfl) ?_ hS ?_
  rotate_left
  · ((intro w hSw; have q0 := ck_later (show y5.cell? ⟨pb, 15, none⟩ = some (.int .i64 a5) from ck_at H5.out.2.2.1 15) hSw; have q1 := ck_later (show y5.cell? ⟨pb, 16, none⟩ = some (.int .i64 S5) from ck_at H5.out.2.2.1 16) hSw; have q2 := ck_later (show y5.cell? ⟨pb, 17, none⟩ = some (.int .i64 M5) from ck_at H5.out.2.2.1 17) hSw; go_simp) <;> with_reducible rfl)
  (try simp only [Act.put, List.setIfInBounds_toArray, List.set_cons_zero, List.set_cons_succ])
  refine any_take (i := 8) (v := ?_) rfl (by kernel_rfl) (by kernel_rfl) (by kernel_rfl) (by exact fun _ _ _ h => h) (by rfl) ?_ hS ?_
  rotate_left
  · ((intro w hSw; have q0 := ck_later (show y5.cell? ⟨vb, 5, none⟩ = some (.int .u64 X5) from ck_at H5.out.2.2.2 5) hSw; go_simp) <;> with_reducible rfl)
  (try simp only [Act.put, List.setIfInBounds_toArray, List.set_cons_zero, List.set_cons_succ])
  have K1 : Hid _ := Q5.out w.heap.size (z5) (layF (layF (layF (layF (layF (opL o) a0 b0 m0) a2 b2 m2) a1 b1 m1) a3 b3 m3) a4 b4 m4) _ (below_then H5.out.2.1 B0).size (Own.later H5.out.1 B0) l5.out
  refine any_one (i := 9) rfl (by kernel_rfl) (fun K hK => ?_)
  go_simp
  refine (Calls.mono (K1.out)) ?_
  rintro e x1 ⟨z6, rfl, o6, hbR⟩
  have B1 : Below y5.heap.size y5 x1 := below_then B0 hbR
  clear K1
  go_wp2_with fail
  refine hK.out _ _ (by first | exact B1 | exact hbR | exact below_then hS hbR) (any_weaken (S' := fun W => Below x1.heap.size x1 W) (fun W hW => by first | exact below_then B1 hW | exact below_then hbR hW | exact below_then (below_then hS hbR) hW) _ _ _ _ ?_)
  clear hK K hS hbR
  have hS : Below x1.heap.size x1 x1 := Below.refl _ _
  refine any_take (i := 10) (v := ?_) rfl (by kernel_rfl) (by kernel_rfl) (by kernel_rfl) (by exact fun _ _ _ h => h) (by rfl) ?_ hS ?_
  rotate_left
  · ((intro w hSw; (try dsimp only at hSw); go_simp) <;> with_reducible rfl)
  (try simp only [Act.put, List.setIfInBounds_toArray, List.set_cons_zero, List.set_cons_succ])
  refine any_take (i := 11) (v := ?_) rfl (by kernel_rfl) (by kernel_rfl) (by kernel_rfl) (by exact fun _ _ _ h => h) (by rfl) ?_ hS ?_
  rotate_left
  · ((intro w hSw; (try dsimp only at hSw); go_simp) <;> with_reducible rfl)
  (try simp only [Act.put, List.setIfInBounds_toArray, List.set_cons_zero, List.set_cons_succ])
  refine any_take (i := 12) (v := ?_) rfl (by kernel_rfl) (by kernel_rfl) (by kernel_rfl) (by exact fun _ _ _ h => h) (by rfl) ?_ hS ?_
  rotate_left
  · ((intro w hSw; (try dsimp only at hSw); go_simp) <;> with_reducible rfl)
  (try simp only [Act.put, List.setIfInBounds_toArray, List.set_cons_zero, List.set_cons_succ])
  refine any_take (i := 13) (v := ?_) rfl (by kernel_rfl) (by kernel_rfl) (by kernel_rfl) (by exact fun _ _ _ h => h) (by rfl) ?_ hS ?_
  rotate_left
  · ((intro w hSw; (try dsimp only at hSw); go_simp) <;> with_reducible rfl)
  (try simp only [Act.put, List.setIfInBounds_toArray, List.set_cons_zero, List.set_cons_succ])
  refine any_take (i := 14) (v := ?_) rfl (by kernel_rfl) (by kernel_rfl) (by kernel_rfl) (by exact fun _ _ _ h => h) (by rfl) ?_ hS ?_
  rotate_left
  · ((intro w hSw; (try dsimp only at hSw); go_simp) <;> with_reducible rfl)
  (try simp only [Act.put, List.setIfInBounds_toArray, List.set_cons_zero, List.set_cons_succ])
  refine wpAnyH_done (by kernel_rfl) ?_ _
  have H6 : Hid _ := And.intro (Own.later o6 (Below.refl _ _)) (And.intro (below_then H5.out.2.1 B1) (And.intro (H5.out.2.2.1.laterB B1) (H5.out.2.2.2.laterB B1)))
  clear hS H5 o6 B0 B1
  obtain ⟨y6, hyy⟩ : ∃ y, y = x1 := ⟨_, rfl⟩
  rw [← hyy] at H6 ⊢
  clear hyy
  go_wp2_with fail
  rw [rounds_succ]
  go_wp2
  refine bodyPost_ret (v := .tuple #[z6, .int .i64 0]) (by first | rfl | simp [results, Tryd.results56, go_sem]) rfl ?_
  exact ⟨_, rfl, H6.out.1, H6.out.2.1⟩
end Go.Proofs.YtmoobfpmijdoaaaDoor

