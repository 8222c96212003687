/- cdb: In and Out of reads and writes; what is built of these is parsed again. -/
import Derived.Test.YteingnaojnbchaaDoorCdE
namespace Go.Proofs.YteingnaojnbchaaDoor
open Go.RowKit
set_option linter.unusedVariables false
set_option linter.unusedSimpArgs false
set_option maxRecDepth 4000

set_option maxHeartbeats 400000 in
theorem times_64 (n : Int) (h : 0 ≤ n ∧ n ≤ 65535) (w : World) : Calls Tryd.prog 53 #[.int .i64 n, .int .i64 64] w fun e w' => e = .returned (.int .i64 (n * 64)) ∧ w = w' := by
  have q1 : min n 17179869184 = n := by omega
  have q2 : max 0 n = n := by omega
  have q3 : IntKind.i64.wrap (n * 64) = n * 64 := by rw [IntKind.wrap_i64]; omega
  have H : Hid _ := h
  clear h
  go_enter Tryd.func53, Tryd.ntmps53
  go_wp2
  · go_ret
    exact ⟨rfl, rfl⟩
  · go_ret
    exact ⟨by rw [show n = 0 by have := H.out; omega]; rfl, rfl⟩
set_option maxHeartbeats 400000 in
theorem cIn_40 (y n : Int) (h : 0 ≤ n ∧ n ≤ 65535) (w : World) : Calls Tryd.prog 18 #[.agg #[.int .i64 40, .int .i64 0, .int .i64 0, .bool false, .int .i64 0, .int .u64 y, .int .i64 n]] w fun e w' => e = .returned (.int .i64 (n * 64)) ∧ Below w.heap.size w w' := by
  have b1 : Below w.heap.size w (w.alloc (.cells #[.int .i64 40, .int .i64 0, .int .i64 0, .bool false, .int .i64 0, .int .u64 y, .int .i64 n] 35)) := (Below.refl _ _).alloc (Nat.le_refl _) _
  have B1 := Blk.new' w 35 [.int .i64 40, .int .i64 0, .int .i64 0, .bool false, .int .i64 0, .int .u64 y, .int .i64 n]
  have k0 := ck_at B1 0
  have k6 := ck_at B1 6
  simp only [List.getElem?_cons_zero, List.getElem?_cons_succ] at k0 k6
  have H1 : Hid _ := b1
  have HT : Hid (∀ X, _) := fun X => times_64 n h X
  clear b1 B1 h
  go_enter Tryd.func18, Tryd.ntmps18
  go_wp2_with fail
  refine (Calls.mono (HT.out _)) ?_
  rintro e _ ⟨rfl, rfl⟩
  clear k0 k6
  go_wp2
  go_ret
  exact ⟨rfl, H1.out⟩
set_option maxHeartbeats 400000 in
theorem cIn_136 (y n : Int) (h : 0 ≤ n ∧ n ≤ 65535) (w : World) : Calls Tryd.prog 18 #[.agg #[.int .i64 136, .int .i64 0, .int .i64 0, .bool false, .int .i64 0, .int .u64 y, .int .i64 n]] w fun e w' => e = .returned (.int .i64 (n * 64)) ∧ Below w.heap.size w w' := by
  have b1 : Below w.heap.size w (w.alloc (.cells #[.int .i64 136, .int .i64 0, .int .i64 0, .bool false, .int .i64 0, .int .u64 y, .int .i64 n] 35)) := (Below.refl _ _).alloc (Nat.le_refl _) _
  have B1 := Blk.new' w 35 [.int .i64 136, .int .i64 0, .int .i64 0, .bool false, .int .i64 0, .int .u64 y, .int .i64 n]
  have k0 := ck_at B1 0
  have k6 := ck_at B1 6
  simp only [List.getElem?_cons_zero, List.getElem?_cons_succ] at k0 k6
  have H1 : Hid _ := b1
  have HT : Hid (∀ X, _) := fun X => times_64 n h X
  clear b1 B1 h
  go_enter Tryd.func18, Tryd.ntmps18
  go_wp2_with fail
  refine (Calls.mono (HT.out _)) ?_
  rintro e _ ⟨rfl, rfl⟩
  clear k0 k6
  go_wp2
  go_ret
  exact ⟨rfl, H1.out⟩
set_option maxHeartbeats 400000 in
theorem cIn_42 (y n : Int) (h : 0 ≤ n ∧ n ≤ 65535) (w : World) : Calls Tryd.prog 18 #[.agg #[.int .i64 42, .int .i64 0, .int .i64 0, .bool false, .int .i64 0, .int .u64 y, .int .i64 n]] w fun e w' => e = .returned (.int .i64 (0)) ∧ Below w.heap.size w w' := by
  have b1 : Below w.heap.size w (w.alloc (.cells #[.int .i64 42, .int .i64 0, .int .i64 0, .bool false, .int .i64 0, .int .u64 y, .int .i64 n] 35)) := (Below.refl _ _).alloc (Nat.le_refl _) _
  have B1 := Blk.new' w 35 [.int .i64 42, .int .i64 0, .int .i64 0, .bool false, .int .i64 0, .int .u64 y, .int .i64 n]
  have k0 := ck_at B1 0
  have k6 := ck_at B1 6
  simp only [List.getElem?_cons_zero, List.getElem?_cons_succ] at k0 k6
  have H1 : Hid _ := b1
  have HT : Hid (∀ X, _) := fun X => times_64 n h X
  clear b1 B1 h
  go_enter Tryd.func18, Tryd.ntmps18
  go_wp2
  go_ret
  exact ⟨rfl, H1.out⟩
set_option maxHeartbeats 400000 in
theorem cIn_138 (y n : Int) (h : 0 ≤ n ∧ n ≤ 65535) (w : World) : Calls Tryd.prog 18 #[.agg #[.int .i64 138, .int .i64 0, .int .i64 0, .bool false, .int .i64 0, .int .u64 y, .int .i64 n]] w fun e w' => e = .returned (.int .i64 (0)) ∧ Below w.heap.size w w' := by
  have b1 : Below w.heap.size w (w.alloc (.cells #[.int .i64 138, .int .i64 0, .int .i64 0, .bool false, .int .i64 0, .int .u64 y, .int .i64 n] 35)) := (Below.refl _ _).alloc (Nat.le_refl _) _
  have B1 := Blk.new' w 35 [.int .i64 138, .int .i64 0, .int .i64 0, .bool false, .int .i64 0, .int .u64 y, .int .i64 n]
  have k0 := ck_at B1 0
  have k6 := ck_at B1 6
  simp only [List.getElem?_cons_zero, List.getElem?_cons_succ] at k0 k6
  have H1 : Hid _ := b1
  have HT : Hid (∀ X, _) := fun X => times_64 n h X
  clear b1 B1 h
  go_enter Tryd.func18, Tryd.ntmps18
  go_wp2
  go_ret
  exact ⟨rfl, H1.out⟩
set_option maxHeartbeats 400000 in
theorem cOut_40 (y n : Int) (h : 0 ≤ n ∧ n ≤ 65535) (w : World) : Calls Tryd.prog 19 #[.agg #[.int .i64 40, .int .i64 0, .int .i64 0, .bool false, .int .i64 0, .int .u64 y, .int .i64 n]] w fun e w' => e = .returned (.int .i64 (0)) ∧ Below w.heap.size w w' := by
  have b1 : Below w.heap.size w (w.alloc (.cells #[.int .i64 40, .int .i64 0, .int .i64 0, .bool false, .int .i64 0, .int .u64 y, .int .i64 n] 35)) := (Below.refl _ _).alloc (Nat.le_refl _) _
  have B1 := Blk.new' w 35 [.int .i64 40, .int .i64 0, .int .i64 0, .bool false, .int .i64 0, .int .u64 y, .int .i64 n]
  have k0 := ck_at B1 0
  have k6 := ck_at B1 6
  simp only [List.getElem?_cons_zero, List.getElem?_cons_succ] at k0 k6
  have H1 : Hid _ := b1
  have HT : Hid (∀ X, _) := fun X => times_64 n h X
  clear b1 B1 h
  go_enter Tryd.func19, Tryd.ntmps19
  go_wp2
  go_ret
  exact ⟨rfl, H1.out⟩
set_option maxHeartbeats 400000 in
theorem cOut_136 (y n : Int) (h : 0 ≤ n ∧ n ≤ 65535) (w : World) : Calls Tryd.prog 19 #[.agg #[.int .i64 136, .int .i64 0, .int .i64 0, .bool false, .int .i64 0, .int .u64 y, .int .i64 n]] w fun e w' => e = .returned (.int .i64 (0)) ∧ Below w.heap.size w w' := by
  have b1 : Below w.heap.size w (w.alloc (.cells #[.int .i64 136, .int .i64 0, .int .i64 0, .bool false, .int .i64 0, .int .u64 y, .int .i64 n] 35)) := (Below.refl _ _).alloc (Nat.le_refl _) _
  have B1 := Blk.new' w 35 [.int .i64 136, .int .i64 0, .int .i64 0, .bool false, .int .i64 0, .int .u64 y, .int .i64 n]
  have k0 := ck_at B1 0
  have k6 := ck_at B1 6
  simp only [List.getElem?_cons_zero, List.getElem?_cons_succ] at k0 k6
  have H1 : Hid _ := b1
  have HT : Hid (∀ X, _) := fun X => times_64 n h X
  clear b1 B1 h
  go_enter Tryd.func19, Tryd.ntmps19
  go_wp2
  go_ret
  exact ⟨rfl, H1.out⟩
set_option maxHeartbeats 400000 in
theorem cOut_42 (y n : Int) (h : 0 ≤ n ∧ n ≤ 65535) (w : World) : Calls Tryd.prog 19 #[.agg #[.int .i64 42, .int .i64 0, .int .i64 0, .bool false, .int .i64 0, .int .u64 y, .int .i64 n]] w fun e w' => e = .returned (.int .i64 (n * 64)) ∧ Below w.heap.size w w' := by
  have b1 : Below w.heap.size w (w.alloc (.cells #[.int .i64 42, .int .i64 0, .int .i64 0, .bool false, .int .i64 0, .int .u64 y, .int .i64 n] 35)) := (Below.refl _ _).alloc (Nat.le_refl _) _
  have B1 := Blk.new' w 35 [.int .i64 42, .int .i64 0, .int .i64 0, .bool false, .int .i64 0, .int .u64 y, .int .i64 n]
  have k0 := ck_at B1 0
  have k6 := ck_at B1 6
  simp only [List.getElem?_cons_zero, List.getElem?_cons_succ] at k0 k6
  have H1 : Hid _ := b1
  have HT : Hid (∀ X, _) := fun X => times_64 n h X
  clear b1 B1 h
  go_enter Tryd.func19, Tryd.ntmps19
  go_wp2_with fail
  refine (Calls.mono (HT.out _)) ?_
  rintro e _ ⟨rfl, rfl⟩
  clear k0 k6
  go_wp2
  go_ret
  exact ⟨rfl, H1.out⟩
set_option maxHeartbeats 400000 in
theorem cOut_138 (y n : Int) (h : 0 ≤ n ∧ n ≤ 65535) (w : World) : Calls Tryd.prog 19 #[.agg #[.int .i64 138, .int .i64 0, .int .i64 0, .bool false, .int .i64 0, .int .u64 y, .int .i64 n]] w fun e w' => e = .returned (.int .i64 (n * 64)) ∧ Below w.heap.size w w' := by
  have b1 : Below w.heap.size w (w.alloc (.cells #[.int .i64 138, .int .i64 0, .int .i64 0, .bool false, .int .i64 0, .int .u64 y, .int .i64 n] 35)) := (Below.refl _ _).alloc (Nat.le_refl _) _
  have B1 := Blk.new' w 35 [.int .i64 138, .int .i64 0, .int .i64 0, .bool false, .int .i64 0, .int .u64 y, .int .i64 n]
  have k0 := ck_at B1 0
  have k6 := ck_at B1 6
  simp only [List.getElem?_cons_zero, List.getElem?_cons_succ] at k0 k6
  have H1 : Hid _ := b1
  have HT : Hid (∀ X, _) := fun X => times_64 n h X
  clear b1 B1 h
  go_enter Tryd.func19, Tryd.ntmps19
  go_wp2_with fail
  refine (Calls.mono (HT.out _)) ?_
  rintro e _ ⟨rfl, rfl⟩
  clear k0 k6
  go_wp2
  go_ret
  exact ⟨rfl, H1.out⟩

theorem and_ones {b : Int} {m : BitVec 64} (h : BitsOk b) (ht : tkB b m = true) : m &&& onesB b = m := by
  unfold tkB at ht
  rw [decide_eq_true_eq] at ht
  apply BitVec.eq_of_toNat_eq
  rw [BitVec.toNat_and]
  have e : (onesB b).toNat = 2 ^ b.toNat - 1 := by rcases h with rfl | rfl | rfl | rfl | rfl | rfl | rfl | rfl <;> decide
  rw [e] at ht ⊢
  rw [Nat.and_two_pow_sub_one_eq_mod]
  apply Nat.mod_eq_of_lt
  have : 0 < 2 ^ b.toNat := Nat.pow_pos (by omega)
  omega
theorem numTo_low (l : List (BitVec 8)) (p : Nat) (b : List (BitVec 8)) (a k : Nat) (h : p + b.length ≤ l.length) (hk : a + k ≤ p) : numTo (over l p b) a k = numTo l a k := by
  unfold numTo over
  rw [List.drop_append_of_le_length (by simp only [List.length_take]; omega), List.take_append_of_le_length (by simp only [List.length_drop, List.length_take]; omega), List.drop_take, List.take_take, Nat.min_eq_left (by omega)]
/-- a command with a first block and a length, as bytes -/
def lgL (op a4 b4 a5 b5 : Int) (lb N : BitVec 64) : List (BitVec 8) := wrF op [((0, 0), 0#64), ((0, 0), 0#64), ((0, 0), 0#64), ((0, 0), 0#64), ((a4, b4), lb), ((a5, b5), N)] 6
theorem lgL_eq {op a4 b4 a5 b5 : Int} {lb N : BitVec 64} (h4 : b4 ≠ 0) (h5 : b5 ≠ 0) : lgL op a4 b4 a5 b5 lb N = over (over (opL op) a4.toNat (be (szB b4) lb)) a5.toNat (be (szB b5) N) := by
  show layF (layF (opL op) a4 b4 lb) a5 b5 N = _
  unfold layF
  rw [if_neg h5, if_neg h4]
theorem long_bp {op a4 b4 a5 b5 : Int} {lb N : BitVec 64} {n : Int} (hf : findR op = some ⟨op, [(0, 0), (0, 0), (0, 0), (0, 0), (a4, b4), (a5, b5)]⟩) (ho : 0 ≤ op ∧ op < 256) (p4 : PlOk a4 b4) (p5 : PlOk a5 b5) (h4 : b4 ≠ 0) (h5 : b5 ≠ 0) (h1 : 1 ≤ a4.toNat) (h45 : a4.toNat + szB b4 ≤ a5.toNat)
    (t4 : tkB b4 lb = true) (t5 : tkB b5 N = true) (hn : (N.toNat : Int) = n) :
    buR op 0 0 false 0 lb n = (some (lgL op a4 b4 a5 b5 lb N), 0) ∧ (lgL op a4 b4 a5 b5 lb N).length = 16 ∧ bt (lgL op a4 b4 a5 b5 lb N) 0 = op ∧ paR (lgL op a4 b4 a5 b5 lb N) = ([.int .i64 op, .int .i64 0, .int .i64 0, .bool false, .int .i64 0, .int .u64 (lb.toNat : Int), .int .i64 n], 0) := by
  have w4 := p4.wide h4
  have w5 := p5.wide h5
  have f4 := p4.fit
  have f5 := p5.fit
  have e := lgL_eq (op := op) (a4 := a4) (a5 := a5) (lb := lb) (N := N) h4 h5
  have l0 : (opL op).length = 16 := by simp [opL]
  have b4l : (be (szB b4) lb).length = szB b4 := be_length _ _ (by omega)
  have b5l : (be (szB b5) N).length = szB b5 := be_length _ _ (by omega)
  have l1 : (over (opL op) a4.toNat (be (szB b4) lb)).length = 16 := by rw [over_length _ _ _ (by rw [b4l, l0]; omega), l0]
  have l2 : (lgL op a4 b4 a5 b5 lb N).length = 16 := by rw [e, over_length _ _ _ (by rw [b5l, l1]; omega), l1]
  have z0 : bt (lgL op a4 b4 a5 b5 lb N) 0 = op := by
    rw [e, over_other _ _ _ 0 (by rw [b5l, l1]; omega) (.inl (by omega)), over_other _ _ _ 0 (by rw [b4l, l0]; omega) (.inl (by omega))]
    exact c8_val ho
  have x5 : fvB (lgL op a4 b4 a5 b5 lb N) a5 b5 = N := by
    unfold fvB
    rw [if_neg h5, e]
    have h := over_mid (over (opL op) a4.toNat (be (szB b4) lb)) a5.toNat (be (szB b5) N) (by rw [b5l, l1]; omega)
    rw [b5l] at h
    rw [h, num_be _ (by omega) _ (tkB_fits p5 h5 t5)]
    exact and_ones p5.bits t5
  have x4 : fvB (lgL op a4 b4 a5 b5 lb N) a4 b4 = lb := by
    unfold fvB
    rw [if_neg h4, e, numTo_low _ _ _ _ _ (by rw [b5l, l1]; omega) h45]
    have h := over_mid (opL op) a4.toNat (be (szB b4) lb) (by rw [b4l, l0]; omega)
    rw [b4l] at h
    rw [h, num_be _ (by omega) _ (tkB_fits p4 h4 t4)]
    exact and_ones p4.bits t4
  refine ⟨?_, l2, z0, ?_⟩
  · unfold buR buQ
    rw [hf]
    have ev : valB 0 0 false 0 lb n = [0#64, 0#64, 0#64, 0#64, lb, N] := by unfold valB; rw [← hn, ofInt_nat]; rfl
    simp only [ev]
    rw [if_pos, if_pos]
    · rfl
    · show (true && (true && (true && (true && (zOk (a4, b4) lb && (zOk (a5, b5) N && true)))))) = true
      have k4 : zOk (a4, b4) lb = true := by show (decide (b4 ≠ 0) || _) = true; rw [decide_eq_true h4]; rfl
      have k5 : zOk (a5, b5) N = true := by show (decide (b5 ≠ 0) || _) = true; rw [decide_eq_true h5]; rfl
      rw [k4, k5]; rfl
    · show (true && (true && (true && (true && (vOk (a4, b4) lb && (vOk (a5, b5) N && true)))))) = true
      have k4 : vOk (a4, b4) lb = true := by show (_ || tkB b4 lb) = true; rw [t4, Bool.or_true]
      have k5 : vOk (a5, b5) N = true := by show (_ || tkB b5 N) = true; rw [t5, Bool.or_true]
      rw [k4, k5]; rfl
  · have ef : fldL ⟨op, [(0, 0), (0, 0), (0, 0), (0, 0), (a4, b4), (a5, b5)]⟩ (lgL op a4 b4 a5 b5 lb N) = [((0, 0), 0#64), ((0, 0), 0#64), ((0, 0), 0#64), ((0, 0), 0#64), ((a4, b4), lb), ((a5, b5), N)] := by
      unfold fldL
      simp only [List.map_cons, List.map_nil, x4, x5]
      rfl
    unfold paR
    rw [if_neg (by rw [l2]; simp), z0, hf]
    simp only [ef]
    rw [if_pos (show wrF op [((0, 0), 0#64), ((0, 0), 0#64), ((0, 0), 0#64), ((0, 0), 0#64), ((a4, b4), lb), ((a5, b5), N)] 6 = lgL op a4 b4 a5 b5 lb N from rfl), ← hn]
    rfl
theorem tk32 {m : BitVec 64} (h : m.toNat < 4294967296) : tkB 32 m = true := by
  unfold tkB; rw [decide_eq_true_eq, show (onesB 32).toNat = 4294967295 from by decide]; omega
theorem tk64 {m : BitVec 64} (h : m.toNat < 4294967296) : tkB 64 m = true := by
  unfold tkB; rw [decide_eq_true_eq, show (onesB 64).toNat = 18446744073709551615 from by decide]; omega
theorem tk16 {m : BitVec 64} (h : m.toNat < 65536) : tkB 16 m = true := by
  unfold tkB; rw [decide_eq_true_eq, show (onesB 16).toNat = 65535 from by decide]; omega
theorem long_40 {lb N : BitVec 64} {n : Int} (h4 : lb.toNat < 4294967296) (h5 : N.toNat < 65536) (hn : (N.toNat : Int) = n) :
    buR 40 0 0 false 0 lb n = (some (lgL 40 2 32 7 16 lb N), 0) ∧ (lgL 40 2 32 7 16 lb N).length = 16 ∧ bt (lgL 40 2 32 7 16 lb N) 0 = 40 ∧ paR (lgL 40 2 32 7 16 lb N) = ([.int .i64 40, .int .i64 0, .int .i64 0, .bool false, .int .i64 0, .int .u64 (lb.toNat : Int), .int .i64 n], 0) :=
  long_bp (by kernel_rfl) (by omega) ⟨by decide, by decide, by decide⟩ ⟨by decide, by decide, by decide⟩ (by decide) (by decide) (by decide) (by decide) (tk32 h4) (tk16 h5) hn
theorem long_42 {lb N : BitVec 64} {n : Int} (h4 : lb.toNat < 4294967296) (h5 : N.toNat < 65536) (hn : (N.toNat : Int) = n) :
    buR 42 0 0 false 0 lb n = (some (lgL 42 2 32 7 16 lb N), 0) ∧ (lgL 42 2 32 7 16 lb N).length = 16 ∧ bt (lgL 42 2 32 7 16 lb N) 0 = 42 ∧ paR (lgL 42 2 32 7 16 lb N) = ([.int .i64 42, .int .i64 0, .int .i64 0, .bool false, .int .i64 0, .int .u64 (lb.toNat : Int), .int .i64 n], 0) :=
  long_bp (by kernel_rfl) (by omega) ⟨by decide, by decide, by decide⟩ ⟨by decide, by decide, by decide⟩ (by decide) (by decide) (by decide) (by decide) (tk32 h4) (tk16 h5) hn
theorem long_136 {lb N : BitVec 64} {n : Int} (h4 : lb.toNat < 4294967296) (h5 : N.toNat < 65536) (hn : (N.toNat : Int) = n) :
    buR 136 0 0 false 0 lb n = (some (lgL 136 2 64 10 32 lb N), 0) ∧ (lgL 136 2 64 10 32 lb N).length = 16 ∧ bt (lgL 136 2 64 10 32 lb N) 0 = 136 ∧ paR (lgL 136 2 64 10 32 lb N) = ([.int .i64 136, .int .i64 0, .int .i64 0, .bool false, .int .i64 0, .int .u64 (lb.toNat : Int), .int .i64 n], 0) :=
  long_bp (by kernel_rfl) (by omega) ⟨by decide, by decide, by decide⟩ ⟨by decide, by decide, by decide⟩ (by decide) (by decide) (by decide) (by decide) (tk64 h4) (tk32 (by omega)) hn
theorem long_138 {lb N : BitVec 64} {n : Int} (h4 : lb.toNat < 4294967296) (h5 : N.toNat < 65536) (hn : (N.toNat : Int) = n) :
    buR 138 0 0 false 0 lb n = (some (lgL 138 2 64 10 32 lb N), 0) ∧ (lgL 138 2 64 10 32 lb N).length = 16 ∧ bt (lgL 138 2 64 10 32 lb N) 0 = 138 ∧ paR (lgL 138 2 64 10 32 lb N) = ([.int .i64 138, .int .i64 0, .int .i64 0, .bool false, .int .i64 0, .int .u64 (lb.toNat : Int), .int .i64 n], 0) :=
  long_bp (by kernel_rfl) (by omega) ⟨by decide, by decide, by decide⟩ ⟨by decide, by decide, by decide⟩ (by decide) (by decide) (by decide) (by decide) (tk64 h4) (tk32 (by omega)) hn
end Go.Proofs.YteingnaojnbchaaDoor
