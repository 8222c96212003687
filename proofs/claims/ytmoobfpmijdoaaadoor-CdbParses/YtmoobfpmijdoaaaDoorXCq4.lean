/- cdb, the document's: Parse. -/
import Derived.Test.YtmoobfpmijdoaaaDoorXCq4h
import Derived.Test.YtmoobfpmijdoaaaDoorXCdL1
namespace Go.Proofs.YtmoobfpmijdoaaaDoor
open Go.RowKit
set_option linter.unusedVariables false
set_option linter.unusedSimpArgs false
set_option maxRecDepth 8000

theorem one7 (a b c : Int) (v : Bool) (d e f : Int) : ∀ u ∈ [Value.int .i64 a, .int .i64 b, .int .i64 c, .bool v, .int .i64 d, .int .u64 e, .int .i64 f], u.oneCell' = true := by
  intro u hu
  simp at hu
  rcases hu with rfl | rfl | rfl | rfl | rfl | rfl | rfl <;> rfl
set_option maxHeartbeats 8000000 in
theorem rparse_size (ad : Option Addr) (c : Nat) (l : List (BitVec 8)) (w : World) (h16 : l.length ≠ 16) (hlen : l.length ≤ 140737488355328) :
    Calls Tryd.prog 22 #[.slice ad l.length c] w fun e w' => e = .returned (.tuple #[.agg (paR l).1.toArray, .int .i64 (paR l).2]) ∧ Below w.heap.size w w' := by
  have e1 : Hid (paR l = (cdbZ, 3)) := (if_pos h16 : paR l = (cdbZ, 3))
  have N0 := Blk.new' w 42 [.int .i64 0, .int .i64 0, .int .i64 0, .bool false, .int .i64 0, .int .u64 0, .int .i64 0]
  have bn0 : Below w.heap.size w (w.alloc (.cells #[.int .i64 0, .int .i64 0, .int .i64 0, .bool false, .int .i64 0, .int .u64 0, .int .i64 0] 42)) := (Below.refl _ _).alloc (Nat.le_refl _) _
  obtain ⟨w0, hw0⟩ : ∃ w0, w0 = w.alloc (.cells #[.int .i64 0, .int .i64 0, .int .i64 0, .bool false, .int .i64 0, .int .u64 0, .int .i64 0] 42) := ⟨_, rfl⟩
  rw [← hw0] at N0 bn0
  obtain ⟨w9, st, B9, g9⟩ := storeW (T := 42) (vs := [.int .i64 0, .int .i64 0, .int .i64 0, .bool false, .int .i64 0, .int .u64 0, .int .i64 0]) size_cq N0 rfl (one7 _ _ _ _ _ _ _)
  have F9 : Hid _ := And.intro B9 (bel_grown bn0 g9 (Nat.le_refl _))
  clear B9 g9 N0 bn0
  obtain ⟨n, hn⟩ : ∃ n : Nat, n = l.length := ⟨_, rfl⟩
  rw [← hn] at h16 hlen ⊢
  clear hn
  have h16' : ¬ ((n : Int) = 16) := by omega
  clear h16
  go_enter Tryd.func22, Tryd.ntmps22
  go_upto_region 1 with fail
  rw [← hw0]
  clear hw0
  go_wp2_with (refine wpList_skip rfl (exec_store rfl rfl rfl st) ?_)
  clear st
  have ld := loadV size_cq agg_cq F9.out.1
  refine bodyPost_ret (res_ct Tryd.results22 rfl ld rfl) rfl ?_
  exact ⟨by rw [e1.out]; rfl, F9.out.2⟩
set_option maxHeartbeats 8000000 in
theorem rparse_none (ad : Option Addr) (c : Nat) (l : List (BitVec 8)) (w : World) (hr : Row w ad l) (h16 : l.length = 16) (hf : findR (bt l 0) = none) :
    Calls Tryd.prog 22 #[.slice ad l.length c] w fun e w' => e = .returned (.tuple #[.agg (paR l).1.toArray, .int .i64 (paR l).2]) ∧ Below w.heap.size w w' := by
  obtain ⟨bk, off, rfl, hc⟩ : ∃ bk off, ad = some ⟨bk, off, none⟩ ∧ ∀ i, i < l.length → w.cell? ⟨bk, off + i, none⟩ = some (.int .u8 (bt l i)) := by
    rcases hr with e | ⟨bk, off, rfl, hc⟩
    · rw [e] at h16; simp at h16
    · exact ⟨bk, off, rfl, hc⟩
  have N0 := Blk.new' w 42 [.int .i64 0, .int .i64 0, .int .i64 0, .bool false, .int .i64 0, .int .u64 0, .int .i64 0]
  have bn0 : Below w.heap.size w (w.alloc (.cells #[.int .i64 0, .int .i64 0, .int .i64 0, .bool false, .int .i64 0, .int .u64 0, .int .i64 0] 42)) := (Below.refl _ _).alloc (Nat.le_refl _) _
  obtain ⟨w0, hw0⟩ : ∃ w0, w0 = w.alloc (.cells #[.int .i64 0, .int .i64 0, .int .i64 0, .bool false, .int .i64 0, .int .u64 0, .int .i64 0] 42) := ⟨_, rfl⟩
  rw [← hw0] at N0 bn0
  have hc0 := ck_later (hc 0 (by omega)) bn0
  rw [Nat.add_zero] at hc0
  have hR0 : Hid _ := And.intro (hr.later bn0) (And.intro bn0 N0)
  clear N0 bn0 hc
  have e1 : Hid (paR l = (cdbZ, 1)) := (by unfold paR; rw [if_neg (by simpa using h16), hf] : paR l = (cdbZ, 1))
  have HF : Hid (∀ W, _) := fun W => rowOf_no (bt l 0) W hf
  have hbd := bt_bd l 0
  clear hf hr
  generalize bt l 0 = op at *
  have v9 : IntKind.i64.wrap op = op := by rw [IntKind.wrap_i64]; omega
  clear hbd
  rw [h16]
  have hl16 : Hid _ := h16
  clear h16
  go_enter Tryd.func22, Tryd.ntmps22
  go_upto_region 1 with fail
  rw [← hw0]
  clear hw0
  go_wp2_with fail
  refine (Calls.mono (HF.out w0)) ?_
  rintro e w1 ⟨rfl, b1⟩
  clear HF hc0
  have N2 := Blk.new' w1 95 [.int .i64 0, .int .i64 0, .int .i64 0, .int .i64 0, .int .i64 0, .int .i64 0, .int .i64 0, .int .i64 0, .int .i64 0, .int .i64 0, .int .i64 0, .int .i64 0, .int .i64 0, .int .i64 0, .int .i64 0, .int .i64 0, .int .i64 0, .int .i64 0]
  have bn2 : Below w1.heap.size w1 (w1.alloc (.cells #[.int .i64 0, .int .i64 0, .int .i64 0, .int .i64 0, .int .i64 0, .int .i64 0, .int .i64 0, .int .i64 0, .int .i64 0, .int .i64 0, .int .i64 0, .int .i64 0, .int .i64 0, .int .i64 0, .int .i64 0, .int .i64 0, .int .i64 0, .int .i64 0] 95)) := (Below.refl _ _).alloc (Nat.le_refl _) _
  obtain ⟨w2, hw2⟩ : ∃ w2, w2 = w1.alloc (.cells #[.int .i64 0, .int .i64 0, .int .i64 0, .int .i64 0, .int .i64 0, .int .i64 0, .int .i64 0, .int .i64 0, .int .i64 0, .int .i64 0, .int .i64 0, .int .i64 0, .int .i64 0, .int .i64 0, .int .i64 0, .int .i64 0, .int .i64 0, .int .i64 0] 95) := ⟨_, rfl⟩
  rw [← hw2] at N2 bn2
  have st18 := storeW (T := 95) (vs := [.int .i64 0, .int .i64 0, .int .i64 0, .int .i64 0, .int .i64 0, .int .i64 0, .int .i64 0, .int .i64 0, .int .i64 0, .int .i64 0, .int .i64 0, .int .i64 0, .int .i64 0, .int .i64 0, .int .i64 0, .int .i64 0, .int .i64 0, .int .i64 0]) size_rr N2 rfl (by decide)
  obtain ⟨w3, st3, B3, g3⟩ := st18
  obtain ⟨rb, hrb⟩ : ∃ rb, rb = w1.heap.size := ⟨_, rfl⟩
  rw [← hrb] at st3 B3 g3
  have R3 := (hR0.out.2.2.laterB (below_then b1 bn2)).grown g3 (by have := hR0.out.2.2.lt; have := b1.size; rw [hrb]; intro e; have := Option.some.inj e; omega)
  have L3 : Below w.heap.size w w3 := bel_grown (below_then hR0.out.2.1 (below_then b1 bn2)) g3 (by have := hR0.out.2.1.size; have := b1.size; rw [hrb]; omega)
  obtain ⟨w9, st, B9, g9⟩ := storeW (T := 42) (vs := [.int .i64 0, .int .i64 0, .int .i64 0, .bool false, .int .i64 0, .int .u64 0, .int .i64 0]) size_cq R3 rfl (one7 _ _ _ _ _ _ _)
  have F9 : Hid _ := And.intro B9 (bel_grown L3 g9 (Nat.le_refl _))
  clear B9 g9 R3 L3 B3 g3 N2 bn2 b1 hR0
  go_upto_region 4 with (refine wpList_skip rfl (exec_store rfl rfl rfl (by rw [← hw2, ← hrb]; exact st3)) ?_)
  clear st3 hw2 hrb
  go_wp2_with (refine wpList_skip rfl (exec_store rfl rfl rfl st) ?_)
  clear st
  have ld := loadV size_cq agg_cq F9.out.1
  refine bodyPost_ret (res_ct Tryd.results22 rfl ld rfl) rfl ?_
  exact ⟨by rw [e1.out]; rfl, F9.out.2⟩
set_option maxHeartbeats 8000000 in
theorem rparse_true (ad : Option Addr) (c : Nat) (l : List (BitVec 8)) (w : World) (hr : Row w ad l) (h16 : l.length = 16) (o a0 b0 a1 b1 a2 b2 a3 b3 a4 b4 a5 b5 : Int) (hf : findR (bt l 0) = some ⟨o, [(a0, b0), (a1, b1), (a2, b2), (a3, b3), (a4, b4), (a5, b5)]⟩) (ho : 0 ≤ o ∧ o < 256) (p0 : PlOk a0 b0) (p1 : PlOk a1 b1) (p2 : PlOk a2 b2) (p3 : PlOk a3 b3) (p4 : PlOk a4 b4) (p5 : PlOk a5 b5) (q0 : b0 ≤ 32) (q1 : b1 ≤ 32) (q3 : b3 ≤ 32) (q5 : b5 ≤ 32) (hv : (fvB l a2 b2).toNat = 1) :
    Calls Tryd.prog 22 #[.slice ad l.length c] w fun e w' => e = .returned (.tuple #[.agg (paR l).1.toArray, .int .i64 (paR l).2]) ∧ Below w.heap.size w w' := by
  have hop : o = bt l 0 := (findR_ok hf).2
  have hrw := hr
  obtain ⟨bk, off, rfl, hc⟩ : ∃ bk off, ad = some ⟨bk, off, none⟩ ∧ ∀ i, i < l.length → w.cell? ⟨bk, off + i, none⟩ = some (.int .u8 (bt l i)) := by
    rcases hr with e | ⟨bk, off, rfl, hc⟩
    · rw [e] at h16; simp at h16
    · exact ⟨bk, off, rfl, hc⟩
  have N0 := Blk.new' w 42 [.int .i64 0, .int .i64 0, .int .i64 0, .bool false, .int .i64 0, .int .u64 0, .int .i64 0]
  have bn0 : Below w.heap.size w (w.alloc (.cells #[.int .i64 0, .int .i64 0, .int .i64 0, .bool false, .int .i64 0, .int .u64 0, .int .i64 0] 42)) := (Below.refl _ _).alloc (Nat.le_refl _) _
  obtain ⟨w0, hw0⟩ : ∃ w0, w0 = w.alloc (.cells #[.int .i64 0, .int .i64 0, .int .i64 0, .bool false, .int .i64 0, .int .u64 0, .int .i64 0] 42) := ⟨_, rfl⟩
  rw [← hw0] at N0 bn0
  have hc0 := ck_later (hc 0 (by omega)) bn0
  rw [Nat.add_zero] at hc0
  have hR0 : Hid _ := And.intro (hr.later bn0) (And.intro bn0 N0)
  clear N0 bn0 hc
  have e1 : Hid (paR l = if wrF o [((a0, b0), fvB l a0 b0), ((a1, b1), fvB l a1 b1), ((a2, b2), fvB l a2 b2), ((a3, b3), fvB l a3 b3), ((a4, b4), fvB l a4 b4), ((a5, b5), fvB l a5 b5)] 6 = l then (cdbL o [((fvB l a0 b0).toNat : Int), ((fvB l a1 b1).toNat : Int), ((fvB l a2 b2).toNat : Int), ((fvB l a3 b3).toNat : Int), ((fvB l a4 b4).toNat : Int), ((fvB l a5 b5).toNat : Int)], 0) else (cdbZ, 11)) := (by unfold paR; rw [if_neg (by simpa using h16), hf]; rfl : paR l = _)
  have e2 : layF (layF (layF (layF (layF (layF (opL o) a0 b0 (fvB l a0 b0)) a2 b2 (fvB l a2 b2)) a1 b1 (fvB l a1 b1)) a3 b3 (fvB l a3 b3)) a4 b4 (fvB l a4 b4)) a5 b5 (fvB l a5 b5) = wrF o [((a0, b0), fvB l a0 b0), ((a1, b1), fvB l a1 b1), ((a2, b2), fvB l a2 b2), ((a3, b3), fvB l a3 b3), ((a4, b4), fvB l a4 b4), ((a5, b5), fvB l a5 b5)] 6 := by
    rw [lay_swap hf (layF (opL o) a0 b0 (fvB l a0 b0)) (layF_len p0 (by simp [opL]))]
    rfl
  have HF : Hid (∀ W, _) := fun W => rowOf_yes (bt l 0) _ W hf
  have e18 : rowV ⟨o, [(a0, b0), (a1, b1), (a2, b2), (a3, b3), (a4, b4), (a5, b5)]⟩ = [.int .i64 a0, .int .i64 (szB b0 : Int), .int .i64 (b0 % 8), .int .i64 a2, .int .i64 (szB b2 : Int), .int .i64 (b2 % 8), .int .i64 a1, .int .i64 (szB b1 : Int), .int .i64 (b1 % 8), .int .i64 a3, .int .i64 (szB b3 : Int), .int .i64 (b3 % 8), .int .i64 a4, .int .i64 (szB b4 : Int), .int .i64 (b4 % 8), .int .i64 a5, .int .i64 (szB b5 : Int), .int .i64 (b5 % 8)] := rfl
  rw [e18] at HF
  clear e18
  rw [← hop] at hf HF hc0
  have hv' : ((fvB l a2 b2).toNat : Int) = 1 := by omega
  have n0 : ((fvB l a0 b0).toNat : Int) < 9223372036854775808 := (fvB_low l a0 b0 p0 q0).2
  have n1 : ((fvB l a1 b1).toNat : Int) < 9223372036854775808 := (fvB_low l a1 b1 p1 q1).2
  have n3 : ((fvB l a3 b3).toNat : Int) < 9223372036854775808 := (fvB_low l a3 b3 p3 q3).2
  have n5 : ((fvB l a5 b5).toNat : Int) < 9223372036854775808 := (fvB_low l a5 b5 p5 q5).2
  have HB : Hid (∀ W, _) := fun W => rbuild_true o a0 b0 a1 b1 a2 b2 a3 b3 a4 b4 a5 b5 (fvB l a0 b0) (fvB l a1 b1) (fvB l a2 b2) (fvB l a3 b3) (fvB l a4 b4) (fvB l a5 b5) W hf ho p0 p1 p2 p3 p4 p5 (fok_fv l a0 b0 p0) (fok_fv l a1 b1 p1) (fok_fv l a2 b2 p2) (fok_fv l a3 b3 p3) (fok_fv l a4 b4 p4) (fok_fv l a5 b5 p5) hv' n0 n1 n3 n5
  rw [e2] at HB
  clear e2
  have Q0 : Hid (∀ W, Row W (some ⟨bk, off, none⟩) l → _) := fun W hW => rget_any a0 b0 p0 (some ⟨bk, off, none⟩) c l W h16 hW
  have Q1 : Hid (∀ W, Row W (some ⟨bk, off, none⟩) l → _) := fun W hW => rget_any a1 b1 p1 (some ⟨bk, off, none⟩) c l W h16 hW
  have Q2 : Hid (∀ W, Row W (some ⟨bk, off, none⟩) l → _) := fun W hW => rget_any a2 b2 p2 (some ⟨bk, off, none⟩) c l W h16 hW
  have Q3 : Hid (∀ W, Row W (some ⟨bk, off, none⟩) l → _) := fun W hW => rget_any a3 b3 p3 (some ⟨bk, off, none⟩) c l W h16 hW
  have Q4 : Hid (∀ W, Row W (some ⟨bk, off, none⟩) l → _) := fun W hW => rget_any a4 b4 p4 (some ⟨bk, off, none⟩) c l W h16 hW
  have Q5 : Hid (∀ W, Row W (some ⟨bk, off, none⟩) l → _) := fun W hW => rget_any a5 b5 p5 (some ⟨bk, off, none⟩) c l W h16 hW
  obtain ⟨LL, hLL⟩ : ∃ LL, LL = wrF o [((a0, b0), fvB l a0 b0), ((a1, b1), fvB l a1 b1), ((a2, b2), fvB l a2 b2), ((a3, b3), fvB l a3 b3), ((a4, b4), fvB l a4 b4), ((a5, b5), fvB l a5 b5)] 6 := ⟨_, rfl⟩
  rw [← hLL] at HB e1
  clear hLL hf hr hop p0 p1 p2 p3 p4 p5 q0 q1 q3 q5
  have g0 : ∃ S M : Int, (szB b0 : Int) = S ∧ b0 % 8 = M := ⟨_, _, rfl, rfl⟩
  obtain ⟨S0, M0, hS0, hM0⟩ := g0
  simp only [hS0, hM0] at HF Q0
  clear hS0 hM0
  have g1 : ∃ S M : Int, (szB b1 : Int) = S ∧ b1 % 8 = M := ⟨_, _, rfl, rfl⟩
  obtain ⟨S1, M1, hS1, hM1⟩ := g1
  simp only [hS1, hM1] at HF Q1
  clear hS1 hM1
  have g2 : ∃ S M : Int, (szB b2 : Int) = S ∧ b2 % 8 = M := ⟨_, _, rfl, rfl⟩
  obtain ⟨S2, M2, hS2, hM2⟩ := g2
  simp only [hS2, hM2] at HF Q2
  clear hS2 hM2
  have g3 : ∃ S M : Int, (szB b3 : Int) = S ∧ b3 % 8 = M := ⟨_, _, rfl, rfl⟩
  obtain ⟨S3, M3, hS3, hM3⟩ := g3
  simp only [hS3, hM3] at HF Q3
  clear hS3 hM3
  have g4 : ∃ S M : Int, (szB b4 : Int) = S ∧ b4 % 8 = M := ⟨_, _, rfl, rfl⟩
  obtain ⟨S4, M4, hS4, hM4⟩ := g4
  simp only [hS4, hM4] at HF Q4
  clear hS4 hM4
  have g5 : ∃ S M : Int, (szB b5 : Int) = S ∧ b5 % 8 = M := ⟨_, _, rfl, rfl⟩
  obtain ⟨S5, M5, hS5, hM5⟩ := g5
  simp only [hS5, hM5] at HF Q5
  clear hS5 hM5
  have gx0 : ∃ X : Int, ((fvB l a0 b0).toNat : Int) = X ∧ 0 ≤ X := ⟨_, rfl, by omega⟩
  obtain ⟨X0, hX0, hp0⟩ := gx0
  simp only [hX0] at Q0 e1 HB n0
  clear hX0
  have gx1 : ∃ X : Int, ((fvB l a1 b1).toNat : Int) = X ∧ 0 ≤ X := ⟨_, rfl, by omega⟩
  obtain ⟨X1, hX1, hp1⟩ := gx1
  simp only [hX1] at Q1 e1 HB n1
  clear hX1
  simp only [hv'] at Q2 e1
  clear hv' hv
  have gx3 : ∃ X : Int, ((fvB l a3 b3).toNat : Int) = X ∧ 0 ≤ X := ⟨_, rfl, by omega⟩
  obtain ⟨X3, hX3, hp3⟩ := gx3
  simp only [hX3] at Q3 e1 HB n3
  clear hX3
  have gx4 : ∃ X : Int, ((fvB l a4 b4).toNat : Int) = X ∧ 0 ≤ X := ⟨_, rfl, by omega⟩
  obtain ⟨X4, hX4, hp4⟩ := gx4
  simp only [hX4] at Q4 e1 HB
  clear hX4
  have gx5 : ∃ X : Int, ((fvB l a5 b5).toNat : Int) = X ∧ 0 ≤ X := ⟨_, rfl, by omega⟩
  obtain ⟨X5, hX5, hp5⟩ := gx5
  simp only [hX5] at Q5 e1 HB n5
  clear hX5
  have c0 : IntKind.i64.wrap X0 = X0 := by rw [IntKind.wrap_i64]; omega
  have c1 : IntKind.i64.wrap X1 = X1 := by rw [IntKind.wrap_i64]; omega
  have c3 : IntKind.i64.wrap X3 = X3 := by rw [IntKind.wrap_i64]; omega
  have c5 : IntKind.i64.wrap X5 = X5 := by rw [IntKind.wrap_i64]; omega
  have v9 : IntKind.i64.wrap o = o := by rw [IntKind.wrap_i64]; omega
  clear ho n0 n1 n3 n5 hp0 hp1 hp3 hp4 hp5
  have hc00 : Hid _ := hc0
  rw [h16]
  have hl16 : Hid _ := h16
  clear h16
  go_enter Tryd.func22, Tryd.ntmps22
  go_upto_region 1 with fail
  rw [← hw0]
  clear hw0
  go_wp2_with fail
  refine (Calls.mono (HF.out w0)) ?_
  rintro e w1 ⟨rfl, b1⟩
  clear HF hc0
  have N2 := Blk.new' w1 95 [.int .i64 0, .int .i64 0, .int .i64 0, .int .i64 0, .int .i64 0, .int .i64 0, .int .i64 0, .int .i64 0, .int .i64 0, .int .i64 0, .int .i64 0, .int .i64 0, .int .i64 0, .int .i64 0, .int .i64 0, .int .i64 0, .int .i64 0, .int .i64 0]
  have bn2 : Below w1.heap.size w1 (w1.alloc (.cells #[.int .i64 0, .int .i64 0, .int .i64 0, .int .i64 0, .int .i64 0, .int .i64 0, .int .i64 0, .int .i64 0, .int .i64 0, .int .i64 0, .int .i64 0, .int .i64 0, .int .i64 0, .int .i64 0, .int .i64 0, .int .i64 0, .int .i64 0, .int .i64 0] 95)) := (Below.refl _ _).alloc (Nat.le_refl _) _
  obtain ⟨w2, hw2⟩ : ∃ w2, w2 = w1.alloc (.cells #[.int .i64 0, .int .i64 0, .int .i64 0, .int .i64 0, .int .i64 0, .int .i64 0, .int .i64 0, .int .i64 0, .int .i64 0, .int .i64 0, .int .i64 0, .int .i64 0, .int .i64 0, .int .i64 0, .int .i64 0, .int .i64 0, .int .i64 0, .int .i64 0] 95) := ⟨_, rfl⟩
  rw [← hw2] at N2 bn2
  obtain ⟨w3, st3, B3, g3⟩ := storeW (T := 95) (vs := [.int .i64 a0, .int .i64 S0, .int .i64 M0, .int .i64 a2, .int .i64 S2, .int .i64 M2, .int .i64 a1, .int .i64 S1, .int .i64 M1, .int .i64 a3, .int .i64 S3, .int .i64 M3, .int .i64 a4, .int .i64 S4, .int .i64 M4, .int .i64 a5, .int .i64 S5, .int .i64 M5]) size_rr N2 rfl (fun u hu => by simp at hu; rcases hu with rfl | rfl | rfl | rfl | rfl | rfl | rfl | rfl | rfl | rfl | rfl | rfl | rfl | rfl | rfl | rfl | rfl | rfl <;> rfl)
  obtain ⟨rb, hrb⟩ : ∃ rb, rb = w1.heap.size := ⟨_, rfl⟩
  rw [← hrb] at st3 B3 g3
  have R3 := (hR0.out.2.2.laterB (below_then b1 bn2)).grown g3 (by have := hR0.out.2.2.lt; have := b1.size; rw [hrb]; intro e; have := Option.some.inj e; omega)
  have L3 : Below w.heap.size w w3 := bel_grown (below_then hR0.out.2.1 (below_then b1 bn2)) g3 (by have := hR0.out.2.1.size; have := b1.size; rw [hrb]; omega)
  have K3 : Below w0.heap.size w0 w3 := bel_grown (below_then b1 bn2) g3 (by have := b1.size; rw [hrb]; omega)
  have hc3 := ck_later hc00.out K3
  have hz3 : rb < w3.heap.size ∧ w.heap.size < w3.heap.size ∧ rb ≠ w.heap.size := by have e1 := B3.lt; have e2 := R3.lt; have e3 := hR0.out.2.2.lt; have := b1.size; refine ⟨e1, e2, ?_⟩; rw [hrb]; omega
  have H3 : Hid _ := And.intro (hR0.out.1.later K3) (And.intro L3 (And.intro R3 (And.intro B3 hz3)))
  clear R3 L3 K3 B3 g3 N2 bn2 b1 hR0 hz3 hc00
  have N4 := Blk.new' w3 42 [.int .i64 o, .int .i64 0, .int .i64 0, .bool false, .int .i64 0, .int .u64 0, .int .i64 0]
  have bn4 : Below w3.heap.size w3 (w3.alloc (.cells #[.int .i64 o, .int .i64 0, .int .i64 0, .bool false, .int .i64 0, .int .u64 0, .int .i64 0] 42)) := (Below.refl _ _).alloc (Nat.le_refl _) _
  obtain ⟨w4, hw4⟩ : ∃ w4, w4 = w3.alloc (.cells #[.int .i64 o, .int .i64 0, .int .i64 0, .bool false, .int .i64 0, .int .u64 0, .int .i64 0] 42) := ⟨_, rfl⟩
  rw [← hw4] at N4 bn4
  obtain ⟨cb, hcb⟩ : ∃ cb, cb = w3.heap.size := ⟨_, rfl⟩
  rw [← hcb] at N4
  have hrw0 : Hid _ := hrw
  clear hrw
  have H4 : Hid _ := And.intro (And.intro (Row.later H3.out.1 bn4) (below_then H3.out.2.1 bn4)) (And.intro (H3.out.2.2.1.laterB bn4) (And.intro (H3.out.2.2.2.1.laterB bn4) (And.intro N4 (show cb ≠ rb ∧ cb ≠ w.heap.size ∧ w.heap.size ≤ cb by have := H3.out.2.2.2.2; rw [hcb]; omega))))
  clear H3 bn4 N4
  go_upto_region 4 with (refine wpList_skip rfl (exec_store rfl rfl rfl (by rw [← hw2, ← hrb]; exact st3)) ?_)
  rw [← hrb]
  clear st3 hw2 hrb
  go_upto_region 7 with fail
  rw [← hw4, ← hcb]
  clear hw4 hcb hc3
  have ld : (Instr.loadAt 93 (.pointer (some ⟨rb, 0, none⟩))).run Tryd.prog w4 = .ok (.agg #[.int .i64 a0, .int .i64 S0, .int .i64 M0]) w4 := loadW (xs := [.int .i64 a0, .int .i64 S0, .int .i64 M0]) size_rp agg_rp [] (ys := [.int .i64 a2, .int .i64 S2, .int .i64 M2, .int .i64 a1, .int .i64 S1, .int .i64 M1, .int .i64 a3, .int .i64 S3, .int .i64 M3, .int .i64 a4, .int .i64 S4, .int .i64 M4, .int .i64 a5, .int .i64 S5, .int .i64 M5]) H4.out.2.2.1
  go_wp2_with (refine wpList_value rfl (exec_load rfl rfl ld) ?_)
  clear ld
  refine (Calls.mono (Q0.out w4 H4.out.1.1)) ?_
  rintro e x0 ⟨rfl, b⟩
  clear Q0
  have Bc := H4.out.2.2.2.1.laterB b
  have sc := ck_at Bc 1
  have gc := ck_fz Bc 1
  simp only [List.getElem?_cons_zero, List.getElem?_cons_succ] at sc
  have Bd := Bc.set 1 (.int .i64 X0)
  simp only [List.set_cons_zero, List.set_cons_succ] at Bd
  have ap := H4.out.2.2.2.2
  have gs := grown_set x0 cb 1 (.int .i64 X0)
  have lw := (below_then H4.out.1.2 b).setCell (p := ⟨cb, 1, none⟩) ap.2.2 (.int .i64 X0)
  obtain ⟨w5, hw5⟩ : ∃ y, y = x0.setCell ⟨cb, 1, none⟩ (.int .i64 X0) := ⟨_, rfl⟩
  rw [← hw5] at Bd gs lw
  have H5 : Hid _ := And.intro (And.intro (Row.later hrw0.out lw) lw) (And.intro ((H4.out.2.1.laterB b).grown gs (by intro e; have := Option.some.inj e; omega)) (And.intro ((H4.out.2.2.1.laterB b).grown gs (by intro e; have := Option.some.inj e; omega)) (And.intro Bd ap)))
  clear Bc Bd gs lw ap b H4
  go_upto_region 8 with fail
  rw [← hw5]
  clear hw5 sc gc
  have ld : (Instr.loadAt 93 (.pointer (some ⟨rb, 3, none⟩))).run Tryd.prog w5 = .ok (.agg #[.int .i64 a2, .int .i64 S2, .int .i64 M2]) w5 := loadW (xs := [.int .i64 a2, .int .i64 S2, .int .i64 M2]) size_rp agg_rp [.int .i64 a0, .int .i64 S0, .int .i64 M0] (ys := [.int .i64 a1, .int .i64 S1, .int .i64 M1, .int .i64 a3, .int .i64 S3, .int .i64 M3, .int .i64 a4, .int .i64 S4, .int .i64 M4, .int .i64 a5, .int .i64 S5, .int .i64 M5]) H5.out.2.2.1
  go_wp2_with (refine wpList_value rfl (exec_load rfl rfl ld) ?_)
  clear ld
  refine (Calls.mono (Q2.out w5 H5.out.1.1)) ?_
  rintro e x1 ⟨rfl, b⟩
  clear Q2
  have Bc := H5.out.2.2.2.1.laterB b
  have sc := ck_at Bc 3
  have gc := ck_fz Bc 3
  simp only [List.getElem?_cons_zero, List.getElem?_cons_succ] at sc
  have Bd := Bc.set 3 (.bool true)
  simp only [List.set_cons_zero, List.set_cons_succ] at Bd
  have ap := H5.out.2.2.2.2
  have gs := grown_set x1 cb 3 (.bool true)
  have lw := (below_then H5.out.1.2 b).setCell (p := ⟨cb, 3, none⟩) ap.2.2 (.bool true)
  obtain ⟨w6, hw6⟩ : ∃ y, y = x1.setCell ⟨cb, 3, none⟩ (.bool true) := ⟨_, rfl⟩
  rw [← hw6] at Bd gs lw
  have H6 : Hid _ := And.intro (And.intro (Row.later hrw0.out lw) lw) (And.intro ((H5.out.2.1.laterB b).grown gs (by intro e; have := Option.some.inj e; omega)) (And.intro ((H5.out.2.2.1.laterB b).grown gs (by intro e; have := Option.some.inj e; omega)) (And.intro Bd ap)))
  clear Bc Bd gs lw ap b H5
  go_upto_region 9 with fail
  rw [← hw6]
  clear hw6 sc gc
  have ld : (Instr.loadAt 93 (.pointer (some ⟨rb, 6, none⟩))).run Tryd.prog w6 = .ok (.agg #[.int .i64 a1, .int .i64 S1, .int .i64 M1]) w6 := loadW (xs := [.int .i64 a1, .int .i64 S1, .int .i64 M1]) size_rp agg_rp [.int .i64 a0, .int .i64 S0, .int .i64 M0, .int .i64 a2, .int .i64 S2, .int .i64 M2] (ys := [.int .i64 a3, .int .i64 S3, .int .i64 M3, .int .i64 a4, .int .i64 S4, .int .i64 M4, .int .i64 a5, .int .i64 S5, .int .i64 M5]) H6.out.2.2.1
  go_wp2_with (refine wpList_value rfl (exec_load rfl rfl ld) ?_)
  clear ld
  refine (Calls.mono (Q1.out w6 H6.out.1.1)) ?_
  rintro e x2 ⟨rfl, b⟩
  clear Q1
  have Bc := H6.out.2.2.2.1.laterB b
  have sc := ck_at Bc 2
  have gc := ck_fz Bc 2
  simp only [List.getElem?_cons_zero, List.getElem?_cons_succ] at sc
  have Bd := Bc.set 2 (.int .i64 X1)
  simp only [List.set_cons_zero, List.set_cons_succ] at Bd
  have ap := H6.out.2.2.2.2
  have gs := grown_set x2 cb 2 (.int .i64 X1)
  have lw := (below_then H6.out.1.2 b).setCell (p := ⟨cb, 2, none⟩) ap.2.2 (.int .i64 X1)
  obtain ⟨w7, hw7⟩ : ∃ y, y = x2.setCell ⟨cb, 2, none⟩ (.int .i64 X1) := ⟨_, rfl⟩
  rw [← hw7] at Bd gs lw
  have H7 : Hid _ := And.intro (And.intro (Row.later hrw0.out lw) lw) (And.intro ((H6.out.2.1.laterB b).grown gs (by intro e; have := Option.some.inj e; omega)) (And.intro ((H6.out.2.2.1.laterB b).grown gs (by intro e; have := Option.some.inj e; omega)) (And.intro Bd ap)))
  clear Bc Bd gs lw ap b H6
  go_upto_region 10 with fail
  rw [← hw7]
  clear hw7 sc gc
  have ld : (Instr.loadAt 93 (.pointer (some ⟨rb, 9, none⟩))).run Tryd.prog w7 = .ok (.agg #[.int .i64 a3, .int .i64 S3, .int .i64 M3]) w7 := loadW (xs := [.int .i64 a3, .int .i64 S3, .int .i64 M3]) size_rp agg_rp [.int .i64 a0, .int .i64 S0, .int .i64 M0, .int .i64 a2, .int .i64 S2, .int .i64 M2, .int .i64 a1, .int .i64 S1, .int .i64 M1] (ys := [.int .i64 a4, .int .i64 S4, .int .i64 M4, .int .i64 a5, .int .i64 S5, .int .i64 M5]) H7.out.2.2.1
  go_wp2_with (refine wpList_value rfl (exec_load rfl rfl ld) ?_)
  clear ld
  refine (Calls.mono (Q3.out w7 H7.out.1.1)) ?_
  rintro e x3 ⟨rfl, b⟩
  clear Q3
  have Bc := H7.out.2.2.2.1.laterB b
  have sc := ck_at Bc 4
  have gc := ck_fz Bc 4
  simp only [List.getElem?_cons_zero, List.getElem?_cons_succ] at sc
  have Bd := Bc.set 4 (.int .i64 X3)
  simp only [List.set_cons_zero, List.set_cons_succ] at Bd
  have ap := H7.out.2.2.2.2
  have gs := grown_set x3 cb 4 (.int .i64 X3)
  have lw := (below_then H7.out.1.2 b).setCell (p := ⟨cb, 4, none⟩) ap.2.2 (.int .i64 X3)
  obtain ⟨w8, hw8⟩ : ∃ y, y = x3.setCell ⟨cb, 4, none⟩ (.int .i64 X3) := ⟨_, rfl⟩
  rw [← hw8] at Bd gs lw
  have H8 : Hid _ := And.intro (And.intro (Row.later hrw0.out lw) lw) (And.intro ((H7.out.2.1.laterB b).grown gs (by intro e; have := Option.some.inj e; omega)) (And.intro ((H7.out.2.2.1.laterB b).grown gs (by intro e; have := Option.some.inj e; omega)) (And.intro Bd ap)))
  clear Bc Bd gs lw ap b H7
  go_upto_region 11 with fail
  rw [← hw8]
  clear hw8 sc gc
  have ld : (Instr.loadAt 93 (.pointer (some ⟨rb, 12, none⟩))).run Tryd.prog w8 = .ok (.agg #[.int .i64 a4, .int .i64 S4, .int .i64 M4]) w8 := loadW (xs := [.int .i64 a4, .int .i64 S4, .int .i64 M4]) size_rp agg_rp [.int .i64 a0, .int .i64 S0, .int .i64 M0, .int .i64 a2, .int .i64 S2, .int .i64 M2, .int .i64 a1, .int .i64 S1, .int .i64 M1, .int .i64 a3, .int .i64 S3, .int .i64 M3] (ys := [.int .i64 a5, .int .i64 S5, .int .i64 M5]) H8.out.2.2.1
  go_wp2_with (refine wpList_value rfl (exec_load rfl rfl ld) ?_)
  clear ld
  refine (Calls.mono (Q4.out w8 H8.out.1.1)) ?_
  rintro e x4 ⟨rfl, b⟩
  clear Q4
  have Bc := H8.out.2.2.2.1.laterB b
  have sc := ck_at Bc 5
  have gc := ck_fz Bc 5
  simp only [List.getElem?_cons_zero, List.getElem?_cons_succ] at sc
  have Bd := Bc.set 5 (.int .u64 X4)
  simp only [List.set_cons_zero, List.set_cons_succ] at Bd
  have ap := H8.out.2.2.2.2
  have gs := grown_set x4 cb 5 (.int .u64 X4)
  have lw := (below_then H8.out.1.2 b).setCell (p := ⟨cb, 5, none⟩) ap.2.2 (.int .u64 X4)
  obtain ⟨w9, hw9⟩ : ∃ y, y = x4.setCell ⟨cb, 5, none⟩ (.int .u64 X4) := ⟨_, rfl⟩
  rw [← hw9] at Bd gs lw
  have H9 : Hid _ := And.intro (And.intro (Row.later hrw0.out lw) lw) (And.intro ((H8.out.2.1.laterB b).grown gs (by intro e; have := Option.some.inj e; omega)) (And.intro ((H8.out.2.2.1.laterB b).grown gs (by intro e; have := Option.some.inj e; omega)) (And.intro Bd ap)))
  clear Bc Bd gs lw ap b H8
  go_upto_region 12 with fail
  rw [← hw9]
  clear hw9 sc gc
  have ld : (Instr.loadAt 93 (.pointer (some ⟨rb, 15, none⟩))).run Tryd.prog w9 = .ok (.agg #[.int .i64 a5, .int .i64 S5, .int .i64 M5]) w9 := loadW (xs := [.int .i64 a5, .int .i64 S5, .int .i64 M5]) size_rp agg_rp [.int .i64 a0, .int .i64 S0, .int .i64 M0, .int .i64 a2, .int .i64 S2, .int .i64 M2, .int .i64 a1, .int .i64 S1, .int .i64 M1, .int .i64 a3, .int .i64 S3, .int .i64 M3, .int .i64 a4, .int .i64 S4, .int .i64 M4] (ys := []) H9.out.2.2.1
  go_wp2_with (refine wpList_value rfl (exec_load rfl rfl ld) ?_)
  clear ld
  refine (Calls.mono (Q5.out w9 H9.out.1.1)) ?_
  rintro e x5 ⟨rfl, b⟩
  clear Q5
  have Bc := H9.out.2.2.2.1.laterB b
  have sc := ck_at Bc 6
  have gc := ck_fz Bc 6
  simp only [List.getElem?_cons_zero, List.getElem?_cons_succ] at sc
  have Bd := Bc.set 6 (.int .i64 X5)
  simp only [List.set_cons_zero, List.set_cons_succ] at Bd
  have ap := H9.out.2.2.2.2
  have gs := grown_set x5 cb 6 (.int .i64 X5)
  have lw := (below_then H9.out.1.2 b).setCell (p := ⟨cb, 6, none⟩) ap.2.2 (.int .i64 X5)
  obtain ⟨w10, hw10⟩ : ∃ y, y = x5.setCell ⟨cb, 6, none⟩ (.int .i64 X5) := ⟨_, rfl⟩
  rw [← hw10] at Bd gs lw
  have H10 : Hid _ := And.intro (And.intro (Row.later hrw0.out lw) lw) (And.intro ((H9.out.2.1.laterB b).grown gs (by intro e; have := Option.some.inj e; omega)) (And.intro ((H9.out.2.2.1.laterB b).grown gs (by intro e; have := Option.some.inj e; omega)) (And.intro Bd ap)))
  clear Bc Bd gs lw ap b H9
  go_upto_region 13 with fail
  rw [← hw10]
  clear hw10 sc gc
  have ldc : (Instr.loadAt 42 (.pointer (some ⟨cb, 0, none⟩))).run Tryd.prog w10 = .ok (.agg #[.int .i64 o, .int .i64 X0, .int .i64 X1, .bool true, .int .i64 X3, .int .u64 X4, .int .i64 X5]) w10 := loadW (xs := [.int .i64 o, .int .i64 X0, .int .i64 X1, .bool true, .int .i64 X3, .int .u64 X4, .int .i64 X5]) size_cq agg_cq [] (ys := []) H10.out.2.2.2.1
  go_wp2_with (refine wpList_value rfl (exec_load rfl rfl ldc) ?_)
  clear ldc
  refine (Calls.mono (HB.out w10)) ?_
  rintro e w11 ⟨z, rfl, oz, bz⟩
  clear HB
  obtain ⟨az, nz, cz, ez, hsz⟩ := strsC oz
  subst ez
  have hcz := hsz w11 (Below.refl _ _)
  have H11 : Hid _ := And.intro (below_then H10.out.1.2 bz) (And.intro (H10.out.2.1.laterB bz) (And.intro (H10.out.2.2.2.1.laterB bz) H10.out.2.2.2.2))
  have hcl : (convert 23 9 (.slice (some ⟨bk, off, none⟩) 16 c)).run Tryd.prog w11 = .ok (.string (str l)) w11 := (Row.later H10.out.1.1 bz).str _ _ hl16.out
  clear hsz oz bz H10
  by_cases hEq : LL = l
  · have e3 : Hid (paR l = (cdbL o [X0, X1, 1, X3, X4, X5], 0)) := (e1.out.trans (if_pos hEq) : paR l = _)
    rw [hEq] at hcz
    clear e1 hEq
    have ldc : (Instr.loadAt 42 (.pointer (some ⟨cb, 0, none⟩))).run Tryd.prog w11 = .ok (.agg #[.int .i64 o, .int .i64 X0, .int .i64 X1, .bool true, .int .i64 X3, .int .u64 X4, .int .i64 X5]) w11 := loadW (xs := [.int .i64 o, .int .i64 X0, .int .i64 X1, .bool true, .int .i64 X3, .int .u64 X4, .int .i64 X5]) size_cq agg_cq [] (ys := []) H11.out.2.2.1
    obtain ⟨w12, st, B9, g9⟩ := storeW (T := 42) (vs := [.int .i64 o, .int .i64 X0, .int .i64 X1, .bool true, .int .i64 X3, .int .u64 X4, .int .i64 X5]) size_cq H11.out.2.1 rfl (one7 _ _ _ _ _ _ _)
    have F9 : Hid _ := And.intro B9 (bel_grown H11.out.1 g9 (Nat.le_refl _))
    clear B9 g9 H11
    generalize str l = sl at *
    go_wp2_with (first | (refine wpList_value rfl (exec_load rfl rfl ldc) ?_) | (refine wpList_skip rfl (exec_store rfl rfl rfl st) ?_))
    clear st ldc
    have ld := loadV size_cq agg_cq F9.out.1
    refine bodyPost_ret (res_ct Tryd.results22 rfl ld rfl) rfl ?_
    exact ⟨by rw [e3.out]; rfl, F9.out.2⟩
  · have e3 : Hid (paR l = (cdbZ, 11)) := (e1.out.trans (if_neg hEq) : paR l = _)
    have hsn : ((str LL).toList == (str l).toList) = false := by rw [str_inj]; exact decide_eq_false hEq
    clear e1 hEq
    obtain ⟨w12, st, B9, g9⟩ := storeW (T := 42) (vs := [.int .i64 0, .int .i64 0, .int .i64 0, .bool false, .int .i64 0, .int .u64 0, .int .i64 0]) size_cq H11.out.2.1 rfl (one7 _ _ _ _ _ _ _)
    have F9 : Hid _ := And.intro B9 (bel_grown H11.out.1 g9 (Nat.le_refl _))
    clear B9 g9 H11
    generalize str l = sl at *
    generalize str LL = sL at *
    go_wp2_with (refine wpList_skip rfl (exec_store rfl rfl rfl st) ?_)
    clear st
    have ld := loadV size_cq agg_cq F9.out.1
    refine bodyPost_ret (res_ct Tryd.results22 rfl ld rfl) rfl ?_
    exact ⟨by rw [e3.out]; rfl, F9.out.2⟩
set_option maxHeartbeats 8000000 in
theorem rparse_false (ad : Option Addr) (c : Nat) (l : List (BitVec 8)) (w : World) (hr : Row w ad l) (h16 : l.length = 16) (o a0 b0 a1 b1 a2 b2 a3 b3 a4 b4 a5 b5 : Int) (hf : findR (bt l 0) = some ⟨o, [(a0, b0), (a1, b1), (a2, b2), (a3, b3), (a4, b4), (a5, b5)]⟩) (ho : 0 ≤ o ∧ o < 256) (p0 : PlOk a0 b0) (p1 : PlOk a1 b1) (p2 : PlOk a2 b2) (p3 : PlOk a3 b3) (p4 : PlOk a4 b4) (p5 : PlOk a5 b5) (q0 : b0 ≤ 32) (q1 : b1 ≤ 32) (q3 : b3 ≤ 32) (q5 : b5 ≤ 32) (hv : (fvB l a2 b2).toNat = 0) :
    Calls Tryd.prog 22 #[.slice ad l.length c] w fun e w' => e = .returned (.tuple #[.agg (paR l).1.toArray, .int .i64 (paR l).2]) ∧ Below w.heap.size w w' := by
  have hop : o = bt l 0 := (findR_ok hf).2
  have hrw := hr
  obtain ⟨bk, off, rfl, hc⟩ : ∃ bk off, ad = some ⟨bk, off, none⟩ ∧ ∀ i, i < l.length → w.cell? ⟨bk, off + i, none⟩ = some (.int .u8 (bt l i)) := by
    rcases hr with e | ⟨bk, off, rfl, hc⟩
    · rw [e] at h16; simp at h16
    · exact ⟨bk, off, rfl, hc⟩
  have N0 := Blk.new' w 42 [.int .i64 0, .int .i64 0, .int .i64 0, .bool false, .int .i64 0, .int .u64 0, .int .i64 0]
  have bn0 : Below w.heap.size w (w.alloc (.cells #[.int .i64 0, .int .i64 0, .int .i64 0, .bool false, .int .i64 0, .int .u64 0, .int .i64 0] 42)) := (Below.refl _ _).alloc (Nat.le_refl _) _
  obtain ⟨w0, hw0⟩ : ∃ w0, w0 = w.alloc (.cells #[.int .i64 0, .int .i64 0, .int .i64 0, .bool false, .int .i64 0, .int .u64 0, .int .i64 0] 42) := ⟨_, rfl⟩
  rw [← hw0] at N0 bn0
  have hc0 := ck_later (hc 0 (by omega)) bn0
  rw [Nat.add_zero] at hc0
  have hR0 : Hid _ := And.intro (hr.later bn0) (And.intro bn0 N0)
  clear N0 bn0 hc
  have e1 : Hid (paR l = if wrF o [((a0, b0), fvB l a0 b0), ((a1, b1), fvB l a1 b1), ((a2, b2), fvB l a2 b2), ((a3, b3), fvB l a3 b3), ((a4, b4), fvB l a4 b4), ((a5, b5), fvB l a5 b5)] 6 = l then (cdbL o [((fvB l a0 b0).toNat : Int), ((fvB l a1 b1).toNat : Int), ((fvB l a2 b2).toNat : Int), ((fvB l a3 b3).toNat : Int), ((fvB l a4 b4).toNat : Int), ((fvB l a5 b5).toNat : Int)], 0) else (cdbZ, 11)) := (by unfold paR; rw [if_neg (by simpa using h16), hf]; rfl : paR l = _)
  have e2 : layF (layF (layF (layF (layF (layF (opL o) a0 b0 (fvB l a0 b0)) a2 b2 (fvB l a2 b2)) a1 b1 (fvB l a1 b1)) a3 b3 (fvB l a3 b3)) a4 b4 (fvB l a4 b4)) a5 b5 (fvB l a5 b5) = wrF o [((a0, b0), fvB l a0 b0), ((a1, b1), fvB l a1 b1), ((a2, b2), fvB l a2 b2), ((a3, b3), fvB l a3 b3), ((a4, b4), fvB l a4 b4), ((a5, b5), fvB l a5 b5)] 6 := by
    rw [lay_swap hf (layF (opL o) a0 b0 (fvB l a0 b0)) (layF_len p0 (by simp [opL]))]
    rfl
  have HF : Hid (∀ W, _) := fun W => rowOf_yes (bt l 0) _ W hf
  have e18 : rowV ⟨o, [(a0, b0), (a1, b1), (a2, b2), (a3, b3), (a4, b4), (a5, b5)]⟩ = [.int .i64 a0, .int .i64 (szB b0 : Int), .int .i64 (b0 % 8), .int .i64 a2, .int .i64 (szB b2 : Int), .int .i64 (b2 % 8), .int .i64 a1, .int .i64 (szB b1 : Int), .int .i64 (b1 % 8), .int .i64 a3, .int .i64 (szB b3 : Int), .int .i64 (b3 % 8), .int .i64 a4, .int .i64 (szB b4 : Int), .int .i64 (b4 % 8), .int .i64 a5, .int .i64 (szB b5 : Int), .int .i64 (b5 % 8)] := rfl
  rw [e18] at HF
  clear e18
  rw [← hop] at hf HF hc0
  have hv' : ((fvB l a2 b2).toNat : Int) = 0 := by omega
  have n0 : ((fvB l a0 b0).toNat : Int) < 9223372036854775808 := (fvB_low l a0 b0 p0 q0).2
  have n1 : ((fvB l a1 b1).toNat : Int) < 9223372036854775808 := (fvB_low l a1 b1 p1 q1).2
  have n3 : ((fvB l a3 b3).toNat : Int) < 9223372036854775808 := (fvB_low l a3 b3 p3 q3).2
  have n5 : ((fvB l a5 b5).toNat : Int) < 9223372036854775808 := (fvB_low l a5 b5 p5 q5).2
  have HB : Hid (∀ W, _) := fun W => rbuild_false o a0 b0 a1 b1 a2 b2 a3 b3 a4 b4 a5 b5 (fvB l a0 b0) (fvB l a1 b1) (fvB l a2 b2) (fvB l a3 b3) (fvB l a4 b4) (fvB l a5 b5) W hf ho p0 p1 p2 p3 p4 p5 (fok_fv l a0 b0 p0) (fok_fv l a1 b1 p1) (fok_fv l a2 b2 p2) (fok_fv l a3 b3 p3) (fok_fv l a4 b4 p4) (fok_fv l a5 b5 p5) hv' n0 n1 n3 n5
  rw [e2] at HB
  clear e2
  have Q0 : Hid (∀ W, Row W (some ⟨bk, off, none⟩) l → _) := fun W hW => rget_any a0 b0 p0 (some ⟨bk, off, none⟩) c l W h16 hW
  have Q1 : Hid (∀ W, Row W (some ⟨bk, off, none⟩) l → _) := fun W hW => rget_any a1 b1 p1 (some ⟨bk, off, none⟩) c l W h16 hW
  have Q2 : Hid (∀ W, Row W (some ⟨bk, off, none⟩) l → _) := fun W hW => rget_any a2 b2 p2 (some ⟨bk, off, none⟩) c l W h16 hW
  have Q3 : Hid (∀ W, Row W (some ⟨bk, off, none⟩) l → _) := fun W hW => rget_any a3 b3 p3 (some ⟨bk, off, none⟩) c l W h16 hW
  have Q4 : Hid (∀ W, Row W (some ⟨bk, off, none⟩) l → _) := fun W hW => rget_any a4 b4 p4 (some ⟨bk, off, none⟩) c l W h16 hW
  have Q5 : Hid (∀ W, Row W (some ⟨bk, off, none⟩) l → _) := fun W hW => rget_any a5 b5 p5 (some ⟨bk, off, none⟩) c l W h16 hW
  obtain ⟨LL, hLL⟩ : ∃ LL, LL = wrF o [((a0, b0), fvB l a0 b0), ((a1, b1), fvB l a1 b1), ((a2, b2), fvB l a2 b2), ((a3, b3), fvB l a3 b3), ((a4, b4), fvB l a4 b4), ((a5, b5), fvB l a5 b5)] 6 := ⟨_, rfl⟩
  rw [← hLL] at HB e1
  clear hLL hf hr hop p0 p1 p2 p3 p4 p5 q0 q1 q3 q5
  have g0 : ∃ S M : Int, (szB b0 : Int) = S ∧ b0 % 8 = M := ⟨_, _, rfl, rfl⟩
  obtain ⟨S0, M0, hS0, hM0⟩ := g0
  simp only [hS0, hM0] at HF Q0
  clear hS0 hM0
  have g1 : ∃ S M : Int, (szB b1 : Int) = S ∧ b1 % 8 = M := ⟨_, _, rfl, rfl⟩
  obtain ⟨S1, M1, hS1, hM1⟩ := g1
  simp only [hS1, hM1] at HF Q1
  clear hS1 hM1
  have g2 : ∃ S M : Int, (szB b2 : Int) = S ∧ b2 % 8 = M := ⟨_, _, rfl, rfl⟩
  obtain ⟨S2, M2, hS2, hM2⟩ := g2
  simp only [hS2, hM2] at HF Q2
  clear hS2 hM2
  have g3 : ∃ S M : Int, (szB b3 : Int) = S ∧ b3 % 8 = M := ⟨_, _, rfl, rfl⟩
  obtain ⟨S3, M3, hS3, hM3⟩ := g3
  simp only [hS3, hM3] at HF Q3
  clear hS3 hM3
  have g4 : ∃ S M : Int, (szB b4 : Int) = S ∧ b4 % 8 = M := ⟨_, _, rfl, rfl⟩
  obtain ⟨S4, M4, hS4, hM4⟩ := g4
  simp only [hS4, hM4] at HF Q4
  clear hS4 hM4
  have g5 : ∃ S M : Int, (szB b5 : Int) = S ∧ b5 % 8 = M := ⟨_, _, rfl, rfl⟩
  obtain ⟨S5, M5, hS5, hM5⟩ := g5
  simp only [hS5, hM5] at HF Q5
  clear hS5 hM5
  have gx0 : ∃ X : Int, ((fvB l a0 b0).toNat : Int) = X ∧ 0 ≤ X := ⟨_, rfl, by omega⟩
  obtain ⟨X0, hX0, hp0⟩ := gx0
  simp only [hX0] at Q0 e1 HB n0
  clear hX0
  have gx1 : ∃ X : Int, ((fvB l a1 b1).toNat : Int) = X ∧ 0 ≤ X := ⟨_, rfl, by omega⟩
  obtain ⟨X1, hX1, hp1⟩ := gx1
  simp only [hX1] at Q1 e1 HB n1
  clear hX1
  simp only [hv'] at Q2 e1
  clear hv' hv
  have gx3 : ∃ X : Int, ((fvB l a3 b3).toNat : Int) = X ∧ 0 ≤ X := ⟨_, rfl, by omega⟩
  obtain ⟨X3, hX3, hp3⟩ := gx3
  simp only [hX3] at Q3 e1 HB n3
  clear hX3
  have gx4 : ∃ X : Int, ((fvB l a4 b4).toNat : Int) = X ∧ 0 ≤ X := ⟨_, rfl, by omega⟩
  obtain ⟨X4, hX4, hp4⟩ := gx4
  simp only [hX4] at Q4 e1 HB
  clear hX4
  have gx5 : ∃ X : Int, ((fvB l a5 b5).toNat : Int) = X ∧ 0 ≤ X := ⟨_, rfl, by omega⟩
  obtain ⟨X5, hX5, hp5⟩ := gx5
  simp only [hX5] at Q5 e1 HB n5
  clear hX5
  have c0 : IntKind.i64.wrap X0 = X0 := by rw [IntKind.wrap_i64]; omega
  have c1 : IntKind.i64.wrap X1 = X1 := by rw [IntKind.wrap_i64]; omega
  have c3 : IntKind.i64.wrap X3 = X3 := by rw [IntKind.wrap_i64]; omega
  have c5 : IntKind.i64.wrap X5 = X5 := by rw [IntKind.wrap_i64]; omega
  have v9 : IntKind.i64.wrap o = o := by rw [IntKind.wrap_i64]; omega
  clear ho n0 n1 n3 n5 hp0 hp1 hp3 hp4 hp5
  have hc00 : Hid _ := hc0
  rw [h16]
  have hl16 : Hid _ := h16
  clear h16
  go_enter Tryd.func22, Tryd.ntmps22
  go_upto_region 1 with fail
  rw [← hw0]
  clear hw0
  go_wp2_with fail
  refine (Calls.mono (HF.out w0)) ?_
  rintro e w1 ⟨rfl, b1⟩
  clear HF hc0
  have N2 := Blk.new' w1 95 [.int .i64 0, .int .i64 0, .int .i64 0, .int .i64 0, .int .i64 0, .int .i64 0, .int .i64 0, .int .i64 0, .int .i64 0, .int .i64 0, .int .i64 0, .int .i64 0, .int .i64 0, .int .i64 0, .int .i64 0, .int .i64 0, .int .i64 0, .int .i64 0]
  have bn2 : Below w1.heap.size w1 (w1.alloc (.cells #[.int .i64 0, .int .i64 0, .int .i64 0, .int .i64 0, .int .i64 0, .int .i64 0, .int .i64 0, .int .i64 0, .int .i64 0, .int .i64 0, .int .i64 0, .int .i64 0, .int .i64 0, .int .i64 0, .int .i64 0, .int .i64 0, .int .i64 0, .int .i64 0] 95)) := (Below.refl _ _).alloc (Nat.le_refl _) _
  obtain ⟨w2, hw2⟩ : ∃ w2, w2 = w1.alloc (.cells #[.int .i64 0, .int .i64 0, .int .i64 0, .int .i64 0, .int .i64 0, .int .i64 0, .int .i64 0, .int .i64 0, .int .i64 0, .int .i64 0, .int .i64 0, .int .i64 0, .int .i64 0, .int .i64 0, .int .i64 0, .int .i64 0, .int .i64 0, .int .i64 0] 95) := ⟨_, rfl⟩
  rw [← hw2] at N2 bn2
  obtain ⟨w3, st3, B3, g3⟩ := storeW (T := 95) (vs := [.int .i64 a0, .int .i64 S0, .int .i64 M0, .int .i64 a2, .int .i64 S2, .int .i64 M2, .int .i64 a1, .int .i64 S1, .int .i64 M1, .int .i64 a3, .int .i64 S3, .int .i64 M3, .int .i64 a4, .int .i64 S4, .int .i64 M4, .int .i64 a5, .int .i64 S5, .int .i64 M5]) size_rr N2 rfl (fun u hu => by simp at hu; rcases hu with rfl | rfl | rfl | rfl | rfl | rfl | rfl | rfl | rfl | rfl | rfl | rfl | rfl | rfl | rfl | rfl | rfl | rfl <;> rfl)
  obtain ⟨rb, hrb⟩ : ∃ rb, rb = w1.heap.size := ⟨_, rfl⟩
  rw [← hrb] at st3 B3 g3
  have R3 := (hR0.out.2.2.laterB (below_then b1 bn2)).grown g3 (by have := hR0.out.2.2.lt; have := b1.size; rw [hrb]; intro e; have := Option.some.inj e; omega)
  have L3 : Below w.heap.size w w3 := bel_grown (below_then hR0.out.2.1 (below_then b1 bn2)) g3 (by have := hR0.out.2.1.size; have := b1.size; rw [hrb]; omega)
  have K3 : Below w0.heap.size w0 w3 := bel_grown (below_then b1 bn2) g3 (by have := b1.size; rw [hrb]; omega)
  have hc3 := ck_later hc00.out K3
  have hz3 : rb < w3.heap.size ∧ w.heap.size < w3.heap.size ∧ rb ≠ w.heap.size := by have e1 := B3.lt; have e2 := R3.lt; have e3 := hR0.out.2.2.lt; have := b1.size; refine ⟨e1, e2, ?_⟩; rw [hrb]; omega
  have H3 : Hid _ := And.intro (hR0.out.1.later K3) (And.intro L3 (And.intro R3 (And.intro B3 hz3)))
  clear R3 L3 K3 B3 g3 N2 bn2 b1 hR0 hz3 hc00
  have N4 := Blk.new' w3 42 [.int .i64 o, .int .i64 0, .int .i64 0, .bool false, .int .i64 0, .int .u64 0, .int .i64 0]
  have bn4 : Below w3.heap.size w3 (w3.alloc (.cells #[.int .i64 o, .int .i64 0, .int .i64 0, .bool false, .int .i64 0, .int .u64 0, .int .i64 0] 42)) := (Below.refl _ _).alloc (Nat.le_refl _) _
  obtain ⟨w4, hw4⟩ : ∃ w4, w4 = w3.alloc (.cells #[.int .i64 o, .int .i64 0, .int .i64 0, .bool false, .int .i64 0, .int .u64 0, .int .i64 0] 42) := ⟨_, rfl⟩
  rw [← hw4] at N4 bn4
  obtain ⟨cb, hcb⟩ : ∃ cb, cb = w3.heap.size := ⟨_, rfl⟩
  rw [← hcb] at N4
  have hrw0 : Hid _ := hrw
  clear hrw
  have H4 : Hid _ := And.intro (And.intro (Row.later H3.out.1 bn4) (below_then H3.out.2.1 bn4)) (And.intro (H3.out.2.2.1.laterB bn4) (And.intro (H3.out.2.2.2.1.laterB bn4) (And.intro N4 (show cb ≠ rb ∧ cb ≠ w.heap.size ∧ w.heap.size ≤ cb by have := H3.out.2.2.2.2; rw [hcb]; omega))))
  clear H3 bn4 N4
  go_upto_region 4 with (refine wpList_skip rfl (exec_store rfl rfl rfl (by rw [← hw2, ← hrb]; exact st3)) ?_)
  rw [← hrb]
  clear st3 hw2 hrb
  go_upto_region 7 with fail
  rw [← hw4, ← hcb]
  clear hw4 hcb hc3
  have ld : (Instr.loadAt 93 (.pointer (some ⟨rb, 0, none⟩))).run Tryd.prog w4 = .ok (.agg #[.int .i64 a0, .int .i64 S0, .int .i64 M0]) w4 := loadW (xs := [.int .i64 a0, .int .i64 S0, .int .i64 M0]) size_rp agg_rp [] (ys := [.int .i64 a2, .int .i64 S2, .int .i64 M2, .int .i64 a1, .int .i64 S1, .int .i64 M1, .int .i64 a3, .int .i64 S3, .int .i64 M3, .int .i64 a4, .int .i64 S4, .int .i64 M4, .int .i64 a5, .int .i64 S5, .int .i64 M5]) H4.out.2.2.1
  go_wp2_with (refine wpList_value rfl (exec_load rfl rfl ld) ?_)
  clear ld
  refine (Calls.mono (Q0.out w4 H4.out.1.1)) ?_
  rintro e x0 ⟨rfl, b⟩
  clear Q0
  have Bc := H4.out.2.2.2.1.laterB b
  have sc := ck_at Bc 1
  have gc := ck_fz Bc 1
  simp only [List.getElem?_cons_zero, List.getElem?_cons_succ] at sc
  have Bd := Bc.set 1 (.int .i64 X0)
  simp only [List.set_cons_zero, List.set_cons_succ] at Bd
  have ap := H4.out.2.2.2.2
  have gs := grown_set x0 cb 1 (.int .i64 X0)
  have lw := (below_then H4.out.1.2 b).setCell (p := ⟨cb, 1, none⟩) ap.2.2 (.int .i64 X0)
  obtain ⟨w5, hw5⟩ : ∃ y, y = x0.setCell ⟨cb, 1, none⟩ (.int .i64 X0) := ⟨_, rfl⟩
  rw [← hw5] at Bd gs lw
  have H5 : Hid _ := And.intro (And.intro (Row.later hrw0.out lw) lw) (And.intro ((H4.out.2.1.laterB b).grown gs (by intro e; have := Option.some.inj e; omega)) (And.intro ((H4.out.2.2.1.laterB b).grown gs (by intro e; have := Option.some.inj e; omega)) (And.intro Bd ap)))
  clear Bc Bd gs lw ap b H4
  go_upto_region 8 with fail
  rw [← hw5]
  clear hw5 sc gc
  have ld : (Instr.loadAt 93 (.pointer (some ⟨rb, 3, none⟩))).run Tryd.prog w5 = .ok (.agg #[.int .i64 a2, .int .i64 S2, .int .i64 M2]) w5 := loadW (xs := [.int .i64 a2, .int .i64 S2, .int .i64 M2]) size_rp agg_rp [.int .i64 a0, .int .i64 S0, .int .i64 M0] (ys := [.int .i64 a1, .int .i64 S1, .int .i64 M1, .int .i64 a3, .int .i64 S3, .int .i64 M3, .int .i64 a4, .int .i64 S4, .int .i64 M4, .int .i64 a5, .int .i64 S5, .int .i64 M5]) H5.out.2.2.1
  go_wp2_with (refine wpList_value rfl (exec_load rfl rfl ld) ?_)
  clear ld
  refine (Calls.mono (Q2.out w5 H5.out.1.1)) ?_
  rintro e x1 ⟨rfl, b⟩
  clear Q2
  have Bc := H5.out.2.2.2.1.laterB b
  have sc := ck_at Bc 3
  have gc := ck_fz Bc 3
  simp only [List.getElem?_cons_zero, List.getElem?_cons_succ] at sc
  have Bd := Bc.set 3 (.bool false)
  simp only [List.set_cons_zero, List.set_cons_succ] at Bd
  have ap := H5.out.2.2.2.2
  have gs := grown_set x1 cb 3 (.bool false)
  have lw := (below_then H5.out.1.2 b).setCell (p := ⟨cb, 3, none⟩) ap.2.2 (.bool false)
  obtain ⟨w6, hw6⟩ : ∃ y, y = x1.setCell ⟨cb, 3, none⟩ (.bool false) := ⟨_, rfl⟩
  rw [← hw6] at Bd gs lw
  have H6 : Hid _ := And.intro (And.intro (Row.later hrw0.out lw) lw) (And.intro ((H5.out.2.1.laterB b).grown gs (by intro e; have := Option.some.inj e; omega)) (And.intro ((H5.out.2.2.1.laterB b).grown gs (by intro e; have := Option.some.inj e; omega)) (And.intro Bd ap)))
  clear Bc Bd gs lw ap b H5
  go_upto_region 9 with fail
  rw [← hw6]
  clear hw6 sc gc
  have ld : (Instr.loadAt 93 (.pointer (some ⟨rb, 6, none⟩))).run Tryd.prog w6 = .ok (.agg #[.int .i64 a1, .int .i64 S1, .int .i64 M1]) w6 := loadW (xs := [.int .i64 a1, .int .i64 S1, .int .i64 M1]) size_rp agg_rp [.int .i64 a0, .int .i64 S0, .int .i64 M0, .int .i64 a2, .int .i64 S2, .int .i64 M2] (ys := [.int .i64 a3, .int .i64 S3, .int .i64 M3, .int .i64 a4, .int .i64 S4, .int .i64 M4, .int .i64 a5, .int .i64 S5, .int .i64 M5]) H6.out.2.2.1
  go_wp2_with (refine wpList_value rfl (exec_load rfl rfl ld) ?_)
  clear ld
  refine (Calls.mono (Q1.out w6 H6.out.1.1)) ?_
  rintro e x2 ⟨rfl, b⟩
  clear Q1
  have Bc := H6.out.2.2.2.1.laterB b
  have sc := ck_at Bc 2
  have gc := ck_fz Bc 2
  simp only [List.getElem?_cons_zero, List.getElem?_cons_succ] at sc
  have Bd := Bc.set 2 (.int .i64 X1)
  simp only [List.set_cons_zero, List.set_cons_succ] at Bd
  have ap := H6.out.2.2.2.2
  have gs := grown_set x2 cb 2 (.int .i64 X1)
  have lw := (below_then H6.out.1.2 b).setCell (p := ⟨cb, 2, none⟩) ap.2.2 (.int .i64 X1)
  obtain ⟨w7, hw7⟩ : ∃ y, y = x2.setCell ⟨cb, 2, none⟩ (.int .i64 X1) := ⟨_, rfl⟩
  rw [← hw7] at Bd gs lw
  have H7 : Hid _ := And.intro (And.intro (Row.later hrw0.out lw) lw) (And.intro ((H6.out.2.1.laterB b).grown gs (by intro e; have := Option.some.inj e; omega)) (And.intro ((H6.out.2.2.1.laterB b).grown gs (by intro e; have := Option.some.inj e; omega)) (And.intro Bd ap)))
  clear Bc Bd gs lw ap b H6
  go_upto_region 10 with fail
  rw [← hw7]
  clear hw7 sc gc
  have ld : (Instr.loadAt 93 (.pointer (some ⟨rb, 9, none⟩))).run Tryd.prog w7 = .ok (.agg #[.int .i64 a3, .int .i64 S3, .int .i64 M3]) w7 := loadW (xs := [.int .i64 a3, .int .i64 S3, .int .i64 M3]) size_rp agg_rp [.int .i64 a0, .int .i64 S0, .int .i64 M0, .int .i64 a2, .int .i64 S2, .int .i64 M2, .int .i64 a1, .int .i64 S1, .int .i64 M1] (ys := [.int .i64 a4, .int .i64 S4, .int .i64 M4, .int .i64 a5, .int .i64 S5, .int .i64 M5]) H7.out.2.2.1
  go_wp2_with (refine wpList_value rfl (exec_load rfl rfl ld) ?_)
  clear ld
  refine (Calls.mono (Q3.out w7 H7.out.1.1)) ?_
  rintro e x3 ⟨rfl, b⟩
  clear Q3
  have Bc := H7.out.2.2.2.1.laterB b
  have sc := ck_at Bc 4
  have gc := ck_fz Bc 4
  simp only [List.getElem?_cons_zero, List.getElem?_cons_succ] at sc
  have Bd := Bc.set 4 (.int .i64 X3)
  simp only [List.set_cons_zero, List.set_cons_succ] at Bd
  have ap := H7.out.2.2.2.2
  have gs := grown_set x3 cb 4 (.int .i64 X3)
  have lw := (below_then H7.out.1.2 b).setCell (p := ⟨cb, 4, none⟩) ap.2.2 (.int .i64 X3)
  obtain ⟨w8, hw8⟩ : ∃ y, y = x3.setCell ⟨cb, 4, none⟩ (.int .i64 X3) := ⟨_, rfl⟩
  rw [← hw8] at Bd gs lw
  have H8 : Hid _ := And.intro (And.intro (Row.later hrw0.out lw) lw) (And.intro ((H7.out.2.1.laterB b).grown gs (by intro e; have := Option.some.inj e; omega)) (And.intro ((H7.out.2.2.1.laterB b).grown gs (by intro e; have := Option.some.inj e; omega)) (And.intro Bd ap)))
  clear Bc Bd gs lw ap b H7
  go_upto_region 11 with fail
  rw [← hw8]
  clear hw8 sc gc
  have ld : (Instr.loadAt 93 (.pointer (some ⟨rb, 12, none⟩))).run Tryd.prog w8 = .ok (.agg #[.int .i64 a4, .int .i64 S4, .int .i64 M4]) w8 := loadW (xs := [.int .i64 a4, .int .i64 S4, .int .i64 M4]) size_rp agg_rp [.int .i64 a0, .int .i64 S0, .int .i64 M0, .int .i64 a2, .int .i64 S2, .int .i64 M2, .int .i64 a1, .int .i64 S1, .int .i64 M1, .int .i64 a3, .int .i64 S3, .int .i64 M3] (ys := [.int .i64 a5, .int .i64 S5, .int .i64 M5]) H8.out.2.2.1
  go_wp2_with (refine wpList_value rfl (exec_load rfl rfl ld) ?_)
  clear ld
  refine (Calls.mono (Q4.out w8 H8.out.1.1)) ?_
  rintro e x4 ⟨rfl, b⟩
  clear Q4
  have Bc := H8.out.2.2.2.1.laterB b
  have sc := ck_at Bc 5
  have gc := ck_fz Bc 5
  simp only [List.getElem?_cons_zero, List.getElem?_cons_succ] at sc
  have Bd := Bc.set 5 (.int .u64 X4)
  simp only [List.set_cons_zero, List.set_cons_succ] at Bd
  have ap := H8.out.2.2.2.2
  have gs := grown_set x4 cb 5 (.int .u64 X4)
  have lw := (below_then H8.out.1.2 b).setCell (p := ⟨cb, 5, none⟩) ap.2.2 (.int .u64 X4)
  obtain ⟨w9, hw9⟩ : ∃ y, y = x4.setCell ⟨cb, 5, none⟩ (.int .u64 X4) := ⟨_, rfl⟩
  rw [← hw9] at Bd gs lw
  have H9 : Hid _ := And.intro (And.intro (Row.later hrw0.out lw) lw) (And.intro ((H8.out.2.1.laterB b).grown gs (by intro e; have := Option.some.inj e; omega)) (And.intro ((H8.out.2.2.1.laterB b).grown gs (by intro e; have := Option.some.inj e; omega)) (And.intro Bd ap)))
  clear Bc Bd gs lw ap b H8
  go_upto_region 12 with fail
  rw [← hw9]
  clear hw9 sc gc
  have ld : (Instr.loadAt 93 (.pointer (some ⟨rb, 15, none⟩))).run Tryd.prog w9 = .ok (.agg #[.int .i64 a5, .int .i64 S5, .int .i64 M5]) w9 := loadW (xs := [.int .i64 a5, .int .i64 S5, .int .i64 M5]) size_rp agg_rp [.int .i64 a0, .int .i64 S0, .int .i64 M0, .int .i64 a2, .int .i64 S2, .int .i64 M2, .int .i64 a1, .int .i64 S1, .int .i64 M1, .int .i64 a3, .int .i64 S3, .int .i64 M3, .int .i64 a4, .int .i64 S4, .int .i64 M4] (ys := []) H9.out.2.2.1
  go_wp2_with (refine wpList_value rfl (exec_load rfl rfl ld) ?_)
  clear ld
  refine (Calls.mono (Q5.out w9 H9.out.1.1)) ?_
  rintro e x5 ⟨rfl, b⟩
  clear Q5
  have Bc := H9.out.2.2.2.1.laterB b
  have sc := ck_at Bc 6
  have gc := ck_fz Bc 6
  simp only [List.getElem?_cons_zero, List.getElem?_cons_succ] at sc
  have Bd := Bc.set 6 (.int .i64 X5)
  simp only [List.set_cons_zero, List.set_cons_succ] at Bd
  have ap := H9.out.2.2.2.2
  have gs := grown_set x5 cb 6 (.int .i64 X5)
  have lw := (below_then H9.out.1.2 b).setCell (p := ⟨cb, 6, none⟩) ap.2.2 (.int .i64 X5)
  obtain ⟨w10, hw10⟩ : ∃ y, y = x5.setCell ⟨cb, 6, none⟩ (.int .i64 X5) := ⟨_, rfl⟩
  rw [← hw10] at Bd gs lw
  have H10 : Hid _ := And.intro (And.intro (Row.later hrw0.out lw) lw) (And.intro ((H9.out.2.1.laterB b).grown gs (by intro e; have := Option.some.inj e; omega)) (And.intro ((H9.out.2.2.1.laterB b).grown gs (by intro e; have := Option.some.inj e; omega)) (And.intro Bd ap)))
  clear Bc Bd gs lw ap b H9
  go_upto_region 13 with fail
  rw [← hw10]
  clear hw10 sc gc
  have ldc : (Instr.loadAt 42 (.pointer (some ⟨cb, 0, none⟩))).run Tryd.prog w10 = .ok (.agg #[.int .i64 o, .int .i64 X0, .int .i64 X1, .bool false, .int .i64 X3, .int .u64 X4, .int .i64 X5]) w10 := loadW (xs := [.int .i64 o, .int .i64 X0, .int .i64 X1, .bool false, .int .i64 X3, .int .u64 X4, .int .i64 X5]) size_cq agg_cq [] (ys := []) H10.out.2.2.2.1
  go_wp2_with (refine wpList_value rfl (exec_load rfl rfl ldc) ?_)
  clear ldc
  refine (Calls.mono (HB.out w10)) ?_
  rintro e w11 ⟨z, rfl, oz, bz⟩
  clear HB
  obtain ⟨az, nz, cz, ez, hsz⟩ := strsC oz
  subst ez
  have hcz := hsz w11 (Below.refl _ _)
  have H11 : Hid _ := And.intro (below_then H10.out.1.2 bz) (And.intro (H10.out.2.1.laterB bz) (And.intro (H10.out.2.2.2.1.laterB bz) H10.out.2.2.2.2))
  have hcl : (convert 23 9 (.slice (some ⟨bk, off, none⟩) 16 c)).run Tryd.prog w11 = .ok (.string (str l)) w11 := (Row.later H10.out.1.1 bz).str _ _ hl16.out
  clear hsz oz bz H10
  by_cases hEq : LL = l
  · have e3 : Hid (paR l = (cdbL o [X0, X1, 0, X3, X4, X5], 0)) := (e1.out.trans (if_pos hEq) : paR l = _)
    rw [hEq] at hcz
    clear e1 hEq
    have ldc : (Instr.loadAt 42 (.pointer (some ⟨cb, 0, none⟩))).run Tryd.prog w11 = .ok (.agg #[.int .i64 o, .int .i64 X0, .int .i64 X1, .bool false, .int .i64 X3, .int .u64 X4, .int .i64 X5]) w11 := loadW (xs := [.int .i64 o, .int .i64 X0, .int .i64 X1, .bool false, .int .i64 X3, .int .u64 X4, .int .i64 X5]) size_cq agg_cq [] (ys := []) H11.out.2.2.1
    obtain ⟨w12, st, B9, g9⟩ := storeW (T := 42) (vs := [.int .i64 o, .int .i64 X0, .int .i64 X1, .bool false, .int .i64 X3, .int .u64 X4, .int .i64 X5]) size_cq H11.out.2.1 rfl (one7 _ _ _ _ _ _ _)
    have F9 : Hid _ := And.intro B9 (bel_grown H11.out.1 g9 (Nat.le_refl _))
    clear B9 g9 H11
    generalize str l = sl at *
    go_wp2_with (first | (refine wpList_value rfl (exec_load rfl rfl ldc) ?_) | (refine wpList_skip rfl (exec_store rfl rfl rfl st) ?_))
    clear st ldc
    have ld := loadV size_cq agg_cq F9.out.1
    refine bodyPost_ret (res_ct Tryd.results22 rfl ld rfl) rfl ?_
    exact ⟨by rw [e3.out]; rfl, F9.out.2⟩
  · have e3 : Hid (paR l = (cdbZ, 11)) := (e1.out.trans (if_neg hEq) : paR l = _)
    have hsn : ((str LL).toList == (str l).toList) = false := by rw [str_inj]; exact decide_eq_false hEq
    clear e1 hEq
    obtain ⟨w12, st, B9, g9⟩ := storeW (T := 42) (vs := [.int .i64 0, .int .i64 0, .int .i64 0, .bool false, .int .i64 0, .int .u64 0, .int .i64 0]) size_cq H11.out.2.1 rfl (one7 _ _ _ _ _ _ _)
    have F9 : Hid _ := And.intro B9 (bel_grown H11.out.1 g9 (Nat.le_refl _))
    clear B9 g9 H11
    generalize str l = sl at *
    generalize str LL = sL at *
    go_wp2_with (refine wpList_skip rfl (exec_store rfl rfl rfl st) ?_)
    clear st
    have ld := loadV size_cq agg_cq F9.out.1
    refine bodyPost_ret (res_ct Tryd.results22 rfl ld rfl) rfl ?_
    exact ⟨by rw [e3.out]; rfl, F9.out.2⟩
end Go.Proofs.YtmoobfpmijdoaaaDoor

