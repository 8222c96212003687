/- The walk of CdbLong. -/
import Derived.Test.YteingnaojnbchaaDoorCdI
import Derived.Test.YteingnaojnbchaaDoorCd8
import Derived.Test.YteingnaojnbchaaDoorAid
import Derived.Test.YteingnaojnbchaaDoorWrap
namespace Go.Proofs.YteingnaojnbchaaDoor
open Go.RowKit
set_option linter.unusedVariables false
set_option linter.unusedSimpArgs false
set_option maxRecDepth 4000

theorem u16_of_wf {x : Int} (h : (Lit.int .u16 x).wf = true) : ∃ y : BitVec 16, x = (y.toNat : Int) := by
  simp [Lit.wf, IntKind.min, IntKind.max, IntKind.signed, IntKind.bits] at h
  exact ⟨BitVec.ofNat 16 x.toNat, by rw [BitVec.toNat_ofNat]; omega⟩
theorem lbuild {op : Int} {lb : BitVec 64} {n : Int} {L : List (BitVec 8)} (hb : buR op 0 0 false 0 lb n = (some L, 0)) (hl : L.length = 16) (h0 : bt L 0 = op) (w : World) (hT : TblAt w) :
    Calls Tryd.prog 16 #[.agg #[.int .i64 op, .int .i64 0, .int .i64 0, .bool false, .int .i64 0, .int .u64 (lb.toNat : Int), .int .i64 n]] w fun e w' => ∃ g cap, e = .returned (.tuple #[.slice (some ⟨g, 0, none⟩) 16 cap, .int .i64 0]) ∧ w'.cell? ⟨g, 0, none⟩ = some (.int .u8 op) ∧ Row w' (some ⟨g, 0, none⟩) L ∧ 16 ≤ cap ∧ Below w.heap.size w w' := by
  refine (cBuild_any op 0 0 false 0 lb n w hT).mono ?_
  rintro e w' ⟨z, rfl, hz, b⟩
  rw [hb] at hz ⊢
  have o : Own w' w.heap.size z L := hz
  obtain ⟨az, cap, rfl, hle, -, hrw, hnn, hbs⟩ := o.open
  have hne : az ≠ none := fun h => by have := hnn h; omega
  obtain ⟨ad, rfl⟩ := Option.ne_none_iff_exists'.1 hne
  obtain ⟨g, rfl, hg⟩ := hbs ad rfl
  have ho2 : w'.ownsRow w.heap.size 5 1 (.slice (some ⟨g, 0, none⟩) 16 cap) 16 (vals L) := by have := o; unfold Own at this; rw [hl] at this; exact this
  have hc := World.ownsRow.cellAt ho2 0 (by omega)
  rw [vals_at _ _ (by omega), h0] at hc
  exact ⟨g, cap, by rw [hl], hc, hrw, by omega, b⟩
theorem lparse {op : Int} {X n : Int} {L : List (BitVec 8)} (hp : paR L = ([.int .i64 op, .int .i64 0, .int .i64 0, .bool false, .int .i64 0, .int .u64 X, .int .i64 n], 0)) (hl : L.length = 16) (g cap : Nat) (w : World) (hT : TblAt w) (hr : Row w (some ⟨g, 0, none⟩) L) :
    Calls Tryd.prog 17 #[.slice (some ⟨g, 0, none⟩) 16 cap] w fun e w' => e = .returned (.tuple #[.agg #[.int .i64 op, .int .i64 0, .int .i64 0, .bool false, .int .i64 0, .int .u64 X, .int .i64 n], .int .i64 0]) ∧ Below w.heap.size w w' := by
  have h := cParse_any (some ⟨g, 0, none⟩) cap L w hT hr (by omega)
  rw [hp, hl] at h
  exact h
set_option maxHeartbeats 16000000 in
theorem cdbLong_walk (wri : Bool) (l32 : BitVec 32) (n16 : BitVec 16) (w : World) (hT : TblAt w) :
    Calls Tryd.prog 4 #[.bool wri, .int .u32 (l32.toNat : Int), .int .u16 (n16.toNat : Int)] w fun e w' => e = .returned (.bool true) ∧ Below w.heap.size w w' := by
  obtain ⟨lb, hlb⟩ : ∃ lb : BitVec 64, lb.toNat = l32.toNat := ⟨BitVec.ofNat 64 l32.toNat, by rw [BitVec.toNat_ofNat]; have := l32.isLt; omega⟩
  obtain ⟨N, hN⟩ : ∃ N : BitVec 64, N.toNat = n16.toNat := ⟨BitVec.ofNat 64 n16.toNat, by rw [BitVec.toNat_ofNat]; have := n16.isLt; omega⟩
  have k1 := l32.isLt
  have k2 := n16.isLt
  obtain ⟨X, hX⟩ : ∃ X : Int, X = (l32.toNat : Int) := ⟨_, rfl⟩
  obtain ⟨n, hn⟩ : ∃ n : Int, n = (n16.toNat : Int) := ⟨_, rfl⟩
  have hX' : (lb.toNat : Int) = X := by omega
  have hn' : (N.toNat : Int) = n := by omega
  rw [← hX, ← hn]
  have h4 : lb.toNat < 4294967296 := by omega
  have h5 : N.toNat < 65536 := by omega
  have hbn : 0 ≤ n ∧ n ≤ 65535 := by omega
  have L40 : Hid _ := long_40 h4 h5 hn'
  have L136 : Hid _ := long_136 h4 h5 hn'
  have L42 : Hid _ := long_42 h4 h5 hn'
  have L138 : Hid _ := long_138 h4 h5 hn'
  have HB40 : Hid (∀ Y, TblAt Y → _) := fun Y hY => lbuild L40.out.1 L40.out.2.1 L40.out.2.2.1 Y hY
  have HB136 : Hid (∀ Y, TblAt Y → _) := fun Y hY => lbuild L136.out.1 L136.out.2.1 L136.out.2.2.1 Y hY
  have HB42 : Hid (∀ Y, TblAt Y → _) := fun Y hY => lbuild L42.out.1 L42.out.2.1 L42.out.2.2.1 Y hY
  have HB138 : Hid (∀ Y, TblAt Y → _) := fun Y hY => lbuild L138.out.1 L138.out.2.1 L138.out.2.2.1 Y hY
  have HP40 : Hid (∀ (g cap : Nat) (Y : World), TblAt Y → _ → _) := fun g cap Y hY hr => lparse L40.out.2.2.2 L40.out.2.1 g cap Y hY hr
  have HP136 : Hid (∀ (g cap : Nat) (Y : World), TblAt Y → _ → _) := fun g cap Y hY hr => lparse L136.out.2.2.2 L136.out.2.1 g cap Y hY hr
  have HP42 : Hid (∀ (g cap : Nat) (Y : World), TblAt Y → _ → _) := fun g cap Y hY hr => lparse L42.out.2.2.2 L42.out.2.1 g cap Y hY hr
  have HP138 : Hid (∀ (g cap : Nat) (Y : World), TblAt Y → _ → _) := fun g cap Y hY hr => lparse L138.out.2.2.2 L138.out.2.1 g cap Y hY hr
  rw [hX'] at HB40 HP40 HB136 HP136 HB42 HP42 HB138 HP138
  have HI40 : Hid (∀ Y, _) := fun Y => cIn_40 X n hbn Y
  have HI136 : Hid (∀ Y, _) := fun Y => cIn_136 X n hbn Y
  have HI42 : Hid (∀ Y, _) := fun Y => cIn_42 X n hbn Y
  have HI138 : Hid (∀ Y, _) := fun Y => cIn_138 X n hbn Y
  have HO40 : Hid (∀ Y, _) := fun Y => cOut_40 X n hbn Y
  have HO136 : Hid (∀ Y, _) := fun Y => cOut_136 X n hbn Y
  have HO42 : Hid (∀ Y, _) := fun Y => cOut_42 X n hbn Y
  have HO138 : Hid (∀ Y, _) := fun Y => cOut_138 X n hbn Y
  have v1 : IntKind.u64.wrap X = X := by rw [IntKind.wrap_u64]; omega
  have v2 : IntKind.i64.wrap n = n := by rw [IntKind.wrap_i64]; omega
  have v3 : IntKind.i64.wrap (n * 64) = n * 64 := by rw [IntKind.wrap_i64]; omega
  have v4 : IntKind.i64.wrap (64 * n) = n * 64 := by rw [IntKind.wrap_i64]; omega
  have HT : Hid (∀ X, Below w.heap.size w X → TblAt X) := fun X bX => hT.later bX
  have HT : Hid (∀ X, Below w.heap.size w X → TblAt X) := fun X bX => hT.later bX
  clear hT h4 h5 hbn hX' hn' hX hn k1 k2 hlb hN
  have b1_ : Below w.heap.size w w := Below.refl _ _
  cases wri
  · have A1 := Blk.new' w 35 [.int .i64 40, .int .i64 0, .int .i64 0, .bool false, .int .i64 0, .int .u64 X, .int .i64 n]
    have a1_ : Below w.heap.size w (w.alloc (.cells #[.int .i64 40, .int .i64 0, .int .i64 0, .bool false, .int .i64 0, .int .u64 X, .int .i64 n] 35)) := (Below.refl _ _).alloc (Nat.le_refl _) _
    obtain ⟨w1, hw1⟩ : ∃ w1, w1 = w.alloc (.cells #[.int .i64 40, .int .i64 0, .int .i64 0, .bool false, .int .i64 0, .int .u64 X, .int .i64 n] 35) := ⟨_, rfl⟩
    rw [← hw1] at A1 a1_
    have z1 : w1.heap.size = w.heap.size + 1 := by rw [hw1]; simp
    have A2 := Blk.new' w1 35 [.int .i64 136, .int .i64 0, .int .i64 0, .bool false, .int .i64 0, .int .u64 X, .int .i64 n]
    have a2_ : Below w1.heap.size w1 (w1.alloc (.cells #[.int .i64 136, .int .i64 0, .int .i64 0, .bool false, .int .i64 0, .int .u64 X, .int .i64 n] 35)) := (Below.refl _ _).alloc (Nat.le_refl _) _
    obtain ⟨w2, hw2⟩ : ∃ w2, w2 = w1.alloc (.cells #[.int .i64 136, .int .i64 0, .int .i64 0, .bool false, .int .i64 0, .int .u64 X, .int .i64 n] 35) := ⟨_, rfl⟩
    rw [← hw2] at A2 a2_
    rw [z1] at A2
    have H2 : Hid (Blk w2 w.heap.size 35 [.int .i64 40, .int .i64 0, .int .i64 0, .bool false, .int .i64 0, .int .u64 X, .int .i64 n] ∧ Blk w2 (w.heap.size + 1) 35 [.int .i64 136, .int .i64 0, .int .i64 0, .bool false, .int .i64 0, .int .u64 X, .int .i64 n] ∧ Below w.heap.size w w2) := ⟨A1.laterB a2_, A2, below_then a1_ a2_⟩
    clear A1 a1_ A2 a2_ z1 b1_
    have y0 := ck_at H2.out.1 0
    have y1 := ck_at H2.out.1 1
    have y2 := ck_at H2.out.1 2
    have y3 := ck_at H2.out.1 3
    have y4 := ck_at H2.out.1 4
    have y5 := ck_at H2.out.1 5
    have y6 := ck_at H2.out.1 6
    simp only [List.getElem?_cons_zero, List.getElem?_cons_succ] at y0 y1 y2 y3 y4 y5 y6
    go_enter Tryd.func4, Tryd.ntmps4
    go_upto_region 6 with fail
    rw [← hw1, ← hw2]
    clear hw1 hw2
    go_wp2_with fail
    clear y0 y1 y2 y3 y4 y5 y6
    refine (Calls.mono (HB40.out w2 (HT.out _ H2.out.2.2))) ?_
    rintro e w3 ⟨g, cap, rfl, cx, hr, hc, b3⟩
    have H3 : Hid (Blk w3 w.heap.size 35 [.int .i64 40, .int .i64 0, .int .i64 0, .bool false, .int .i64 0, .int .u64 X, .int .i64 n] ∧ Blk w3 (w.heap.size + 1) 35 [.int .i64 136, .int .i64 0, .int .i64 0, .bool false, .int .i64 0, .int .u64 X, .int .i64 n] ∧ Below w.heap.size w w3 ∧ w3.cell? ⟨g, 0, none⟩ = some (.int .u8 40) ∧ Row w3 (some ⟨g, 0, none⟩) _) := ⟨H2.out.1.laterB b3, H2.out.2.1.laterB b3, below_then H2.out.2.2 b3, cx, hr⟩
    clear b3 H2 cx hr hc
    have y0 := ck_at H3.out.2.1 0
    have y1 := ck_at H3.out.2.1 1
    have y2 := ck_at H3.out.2.1 2
    have y3 := ck_at H3.out.2.1 3
    have y4 := ck_at H3.out.2.1 4
    have y5 := ck_at H3.out.2.1 5
    have y6 := ck_at H3.out.2.1 6
    simp only [List.getElem?_cons_zero, List.getElem?_cons_succ] at y0 y1 y2 y3 y4 y5 y6
    go_wp2_with fail
    clear y0 y1 y2 y3 y4 y5 y6
    refine (Calls.mono (HB136.out w3 (HT.out _ H3.out.2.2.1))) ?_
    rintro e w4 ⟨g2, cap2, rfl, cy, hr, hc, b4⟩
    have cx := ck_later H3.out.2.2.2.1 b4
    have H4 : Hid (Blk w4 w.heap.size 35 [.int .i64 40, .int .i64 0, .int .i64 0, .bool false, .int .i64 0, .int .u64 X, .int .i64 n] ∧ Blk w4 (w.heap.size + 1) 35 [.int .i64 136, .int .i64 0, .int .i64 0, .bool false, .int .i64 0, .int .u64 X, .int .i64 n] ∧ Below w.heap.size w w4 ∧ Row w4 (some ⟨g, 0, none⟩) _ ∧ Row w4 (some ⟨g2, 0, none⟩) _) := ⟨H3.out.1.laterB b4, H3.out.2.1.laterB b4, below_then H3.out.2.2.1 b4, Row.later H3.out.2.2.2.2 b4, hr⟩
    clear b4 H3 hr hc
    go_wp2_with fail
    clear cx cy
    refine (Calls.mono (HP40.out g cap w4 (HT.out _ H4.out.2.2.1) H4.out.2.2.2.1)) ?_
    rintro e w5 ⟨rfl, b5⟩
    have A3 := Blk.new' w5 35 [.int .i64 40, .int .i64 0, .int .i64 0, .bool false, .int .i64 0, .int .u64 X, .int .i64 n]
    have a3_ : Below w5.heap.size w5 (w5.alloc (.cells #[.int .i64 40, .int .i64 0, .int .i64 0, .bool false, .int .i64 0, .int .u64 X, .int .i64 n] 35)) := (Below.refl _ _).alloc (Nat.le_refl _) _
    obtain ⟨w6, hw6⟩ : ∃ w6, w6 = w5.alloc (.cells #[.int .i64 40, .int .i64 0, .int .i64 0, .bool false, .int .i64 0, .int .u64 X, .int .i64 n] 35) := ⟨_, rfl⟩
    rw [← hw6] at A3 a3_
    obtain ⟨d1, hd1⟩ : ∃ d, d = w5.heap.size := ⟨_, rfl⟩
    rw [← hd1] at A3
    have H6 : Hid (Blk w6 w.heap.size 35 [.int .i64 40, .int .i64 0, .int .i64 0, .bool false, .int .i64 0, .int .u64 X, .int .i64 n] ∧ Blk w6 (w.heap.size + 1) 35 [.int .i64 136, .int .i64 0, .int .i64 0, .bool false, .int .i64 0, .int .u64 X, .int .i64 n] ∧ Below w.heap.size w w6 ∧ Row w6 (some ⟨g2, 0, none⟩) _ ∧ Blk w6 d1 35 [.int .i64 40, .int .i64 0, .int .i64 0, .bool false, .int .i64 0, .int .u64 X, .int .i64 n]) := ⟨H4.out.1.laterB (below_then b5 a3_), H4.out.2.1.laterB (below_then b5 a3_), below_then H4.out.2.2.1 (below_then b5 a3_), Row.later H4.out.2.2.2.2 (below_then b5 a3_), A3⟩
    clear b5 a3_ A3 H4
    go_upto_region 11 with fail
    rw [← hw6, ← hd1]
    clear hw6 hd1
    go_wp2_with fail
    refine (Calls.mono (HP136.out g2 cap2 w6 (HT.out _ H6.out.2.2.1) H6.out.2.2.2.1)) ?_
    rintro e w7 ⟨rfl, b7⟩
    have A4 := Blk.new' w7 35 [.int .i64 136, .int .i64 0, .int .i64 0, .bool false, .int .i64 0, .int .u64 X, .int .i64 n]
    have a4_ : Below w7.heap.size w7 (w7.alloc (.cells #[.int .i64 136, .int .i64 0, .int .i64 0, .bool false, .int .i64 0, .int .u64 X, .int .i64 n] 35)) := (Below.refl _ _).alloc (Nat.le_refl _) _
    obtain ⟨w8, hw8⟩ : ∃ w8, w8 = w7.alloc (.cells #[.int .i64 136, .int .i64 0, .int .i64 0, .bool false, .int .i64 0, .int .u64 X, .int .i64 n] 35) := ⟨_, rfl⟩
    rw [← hw8] at A4 a4_
    obtain ⟨d2, hd2⟩ : ∃ d, d = w7.heap.size := ⟨_, rfl⟩
    rw [← hd2] at A4
    have H8 : Hid (Blk w8 w.heap.size 35 [.int .i64 40, .int .i64 0, .int .i64 0, .bool false, .int .i64 0, .int .u64 X, .int .i64 n] ∧ Blk w8 (w.heap.size + 1) 35 [.int .i64 136, .int .i64 0, .int .i64 0, .bool false, .int .i64 0, .int .u64 X, .int .i64 n] ∧ Below w.heap.size w w8 ∧ Blk w8 d1 35 [.int .i64 40, .int .i64 0, .int .i64 0, .bool false, .int .i64 0, .int .u64 X, .int .i64 n] ∧ Blk w8 d2 35 [.int .i64 136, .int .i64 0, .int .i64 0, .bool false, .int .i64 0, .int .u64 X, .int .i64 n]) := ⟨H6.out.1.laterB (below_then b7 a4_), H6.out.2.1.laterB (below_then b7 a4_), below_then H6.out.2.2.1 (below_then b7 a4_), H6.out.2.2.2.2.laterB (below_then b7 a4_), A4⟩
    clear b7 a4_ A4 H6
    go_upto_region 12 with fail
    rw [← hw8, ← hd2]
    clear hw8 hd2
    refine wp_region_held_drew (S := fun W => Below w8.heap.size w8 W) (by kernel_rfl) ((Below.refl _ _).drew) (fun hS => ?_)
    have B0 : Below w8.heap.size w8 w8.drew := ((Below.refl _ _).drew)
    refine any_take (i := 0) (v := ?_) rfl (by kernel_rfl) (by kernel_rfl) (by kernel_rfl) (by exact fun _ _ _ h => h) (by rfl) ?_ hS ?_
    rotate_left
    · ((intro w hSw; (try dsimp only at hSw); go_simp) <;> with_reducible rfl)
    (try simp only [Act.put, List.setIfInBounds_toArray, List.set_cons_zero, List.set_cons_succ])
    refine any_take (i := 1) (v := ?_) rfl (by kernel_rfl) (by kernel_rfl) (by kernel_rfl) (by exact fun _ _ _ h => h) (by rfl) ?_ hS ?_
    rotate_left
    · ((intro w hSw; (try dsimp only at hSw); go_simp) <;> with_reducible rfl)
    (try simp only [Act.put, List.setIfInBounds_toArray, List.set_cons_zero, List.set_cons_succ])
    refine any_take (i := 2) (v := ?_) rfl (by kernel_rfl) (by kernel_rfl) (by kernel_rfl) (by exact fun _ _ _ h => h) (by rfl) ?_ hS ?_
    rotate_left
    · ((intro w hSw; (try dsimp only at hSw); go_simp) <;> with_reducible rfl)
    (try simp only [Act.put, List.setIfInBounds_toArray, List.set_cons_zero, List.set_cons_succ])
    refine any_take (i := 3) (v := ?_) rfl (by kernel_rfl) (by kernel_rfl) (by kernel_rfl) (by exact fun _ _ _ h => h) (by rfl) ?_ hS ?_
    rotate_left
    · ((intro w hSw; (try dsimp only at hSw); go_simp) <;> with_reducible rfl)
    (try simp only [Act.put, List.setIfInBounds_toArray, List.set_cons_zero, List.set_cons_succ])
    refine any_take (i := 4) (v := ?_) rfl (by kernel_rfl) (by kernel_rfl) (by kernel_rfl) (by exact fun _ _ _ h => h) (by rfl) ?_ hS ?_
    rotate_left
    · ((intro w hSw; (try dsimp only at hSw); go_simp) <;> with_reducible rfl)
    (try simp only [Act.put, List.setIfInBounds_toArray, List.set_cons_zero, List.set_cons_succ])
    refine any_take (i := 5) (v := ?_) rfl (by kernel_rfl) (by kernel_rfl) (by kernel_rfl) (by exact fun _ _ _ h => h) (by rfl) ?_ hS ?_
    rotate_left
    · ((intro w hSw; (try dsimp only at hSw); go_simp) <;> with_reducible rfl)
    (try simp only [Act.put, List.setIfInBounds_toArray, List.set_cons_zero, List.set_cons_succ])
    refine any_take (i := 6) (v := ?_) rfl (by kernel_rfl) (by kernel_rfl) (by kernel_rfl) (by exact fun _ _ _ h => h) (by rfl) ?_ hS ?_
    rotate_left
    · ((intro w hSw; (try dsimp only at hSw); go_simp) <;> with_reducible rfl)
    (try simp only [Act.put, List.setIfInBounds_toArray, List.set_cons_zero, List.set_cons_succ])
    refine any_take (i := 7) (v := ?_) rfl (by kernel_rfl) (by kernel_rfl) (by kernel_rfl) (by exact fun _ _ _ h => h) (by rfl) ?_ hS ?_
    rotate_left
    · ((intro w hSw; have p5 := ck_later (show w8.cell? ⟨_, 5, none⟩ = some (.int .u64 X) from ck_at H8.out.2.2.2.1 5) hSw; have p6 := ck_later (show w8.cell? ⟨_, 6, none⟩ = some (.int .i64 n) from ck_at H8.out.2.2.2.1 6) hSw; have q5 := ck_later (show w8.cell? ⟨_, 5, none⟩ = some (.int .u64 X) from ck_at H8.out.2.2.2.2 5) hSw; have q6 := ck_later (show w8.cell? ⟨_, 6, none⟩ = some (.int .i64 n) from ck_at H8.out.2.2.2.2 6) hSw; go_simp) <;> with_reducible rfl)
    (try simp only [Act.put, List.setIfInBounds_toArray, List.set_cons_zero, List.set_cons_succ])
    refine any_take (i := 8) (v := ?_) rfl (by kernel_rfl) (by kernel_rfl) (by kernel_rfl) (by exact fun _ _ _ h => h) (by rfl) ?_ hS ?_
    rotate_left
    · ((intro w hSw; have p5 := ck_later (show w8.cell? ⟨_, 5, none⟩ = some (.int .u64 X) from ck_at H8.out.2.2.2.1 5) hSw; have p6 := ck_later (show w8.cell? ⟨_, 6, none⟩ = some (.int .i64 n) from ck_at H8.out.2.2.2.1 6) hSw; have q5 := ck_later (show w8.cell? ⟨_, 5, none⟩ = some (.int .u64 X) from ck_at H8.out.2.2.2.2 5) hSw; have q6 := ck_later (show w8.cell? ⟨_, 6, none⟩ = some (.int .i64 n) from ck_at H8.out.2.2.2.2 6) hSw; go_simp) <;> with_reducible rfl)
    (try simp only [Act.put, List.setIfInBounds_toArray, List.set_cons_zero, List.set_cons_succ])
    refine any_take (i := 9) (v := ?_) rfl (by kernel_rfl) (by kernel_rfl) (by kernel_rfl) (by exact fun _ _ _ h => h) (by rfl) ?_ hS ?_
    rotate_left
    · ((intro w hSw; have p5 := ck_later (show w8.cell? ⟨_, 5, none⟩ = some (.int .u64 X) from ck_at H8.out.2.2.2.1 5) hSw; have p6 := ck_later (show w8.cell? ⟨_, 6, none⟩ = some (.int .i64 n) from ck_at H8.out.2.2.2.1 6) hSw; have q5 := ck_later (show w8.cell? ⟨_, 5, none⟩ = some (.int .u64 X) from ck_at H8.out.2.2.2.2 5) hSw; have q6 := ck_later (show w8.cell? ⟨_, 6, none⟩ = some (.int .i64 n) from ck_at H8.out.2.2.2.2 6) hSw; go_simp) <;> with_reducible rfl)
    (try simp only [Act.put, List.setIfInBounds_toArray, List.set_cons_zero, List.set_cons_succ])
    refine any_take (i := 10) (v := ?_) rfl (by kernel_rfl) (by kernel_rfl) (by kernel_rfl) (by exact fun _ _ _ h => h) (by rfl) ?_ hS ?_
    rotate_left
    · ((intro w hSw; have p5 := ck_later (show w8.cell? ⟨_, 5, none⟩ = some (.int .u64 X) from ck_at H8.out.2.2.2.1 5) hSw; have p6 := ck_later (show w8.cell? ⟨_, 6, none⟩ = some (.int .i64 n) from ck_at H8.out.2.2.2.1 6) hSw; have q5 := ck_later (show w8.cell? ⟨_, 5, none⟩ = some (.int .u64 X) from ck_at H8.out.2.2.2.2 5) hSw; have q6 := ck_later (show w8.cell? ⟨_, 6, none⟩ = some (.int .i64 n) from ck_at H8.out.2.2.2.2 6) hSw; go_simp) <;> with_reducible rfl)
    (try simp only [Act.put, List.setIfInBounds_toArray, List.set_cons_zero, List.set_cons_succ])
    refine any_take (i := 11) (v := ?_) rfl (by kernel_rfl) (by kernel_rfl) (by kernel_rfl) (by exact fun _ _ _ h => h) (by rfl) ?_ hS ?_
    rotate_left
    · ((intro w hSw; have p5 := ck_later (show w8.cell? ⟨_, 5, none⟩ = some (.int .u64 X) from ck_at H8.out.2.2.2.1 5) hSw; have p6 := ck_later (show w8.cell? ⟨_, 6, none⟩ = some (.int .i64 n) from ck_at H8.out.2.2.2.1 6) hSw; have q5 := ck_later (show w8.cell? ⟨_, 5, none⟩ = some (.int .u64 X) from ck_at H8.out.2.2.2.2 5) hSw; have q6 := ck_later (show w8.cell? ⟨_, 6, none⟩ = some (.int .i64 n) from ck_at H8.out.2.2.2.2 6) hSw; go_simp) <;> with_reducible rfl)
    (try simp only [Act.put, List.setIfInBounds_toArray, List.set_cons_zero, List.set_cons_succ])
    refine any_take (i := 12) (v := ?_) rfl (by kernel_rfl) (by kernel_rfl) (by kernel_rfl) (by exact fun _ _ _ h => h) (by rfl) ?_ hS ?_
    rotate_left
    · ((intro w hSw; have p5 := ck_later (show w8.cell? ⟨_, 5, none⟩ = some (.int .u64 X) from ck_at H8.out.2.2.2.1 5) hSw; have p6 := ck_later (show w8.cell? ⟨_, 6, none⟩ = some (.int .i64 n) from ck_at H8.out.2.2.2.1 6) hSw; have q5 := ck_later (show w8.cell? ⟨_, 5, none⟩ = some (.int .u64 X) from ck_at H8.out.2.2.2.2 5) hSw; have q6 := ck_later (show w8.cell? ⟨_, 6, none⟩ = some (.int .i64 n) from ck_at H8.out.2.2.2.2 6) hSw; go_simp) <;> with_reducible rfl)
    (try simp only [Act.put, List.setIfInBounds_toArray, List.set_cons_zero, List.set_cons_succ])
    refine any_take (i := 13) (v := ?_) rfl (by kernel_rfl) (by kernel_rfl) (by kernel_rfl) (by exact fun _ _ _ h => h) (by rfl) ?_ hS ?_
    rotate_left
    · ((intro w hSw; have p5 := ck_later (show w8.cell? ⟨_, 5, none⟩ = some (.int .u64 X) from ck_at H8.out.2.2.2.1 5) hSw; have p6 := ck_later (show w8.cell? ⟨_, 6, none⟩ = some (.int .i64 n) from ck_at H8.out.2.2.2.1 6) hSw; have q5 := ck_later (show w8.cell? ⟨_, 5, none⟩ = some (.int .u64 X) from ck_at H8.out.2.2.2.2 5) hSw; have q6 := ck_later (show w8.cell? ⟨_, 6, none⟩ = some (.int .i64 n) from ck_at H8.out.2.2.2.2 6) hSw; go_simp) <;> with_reducible rfl)
    (try simp only [Act.put, List.setIfInBounds_toArray, List.set_cons_zero, List.set_cons_succ])
    refine any_take (i := 14) (v := ?_) rfl (by kernel_rfl) (by kernel_rfl) (by kernel_rfl) (by exact fun _ _ _ h => h) (by rfl) ?_ hS ?_
    rotate_left
    · ((intro w hSw; have p5 := ck_later (show w8.cell? ⟨_, 5, none⟩ = some (.int .u64 X) from ck_at H8.out.2.2.2.1 5) hSw; have p6 := ck_later (show w8.cell? ⟨_, 6, none⟩ = some (.int .i64 n) from ck_at H8.out.2.2.2.1 6) hSw; have q5 := ck_later (show w8.cell? ⟨_, 5, none⟩ = some (.int .u64 X) from ck_at H8.out.2.2.2.2 5) hSw; have q6 := ck_later (show w8.cell? ⟨_, 6, none⟩ = some (.int .i64 n) from ck_at H8.out.2.2.2.2 6) hSw; go_simp) <;> with_reducible rfl)
    (try simp only [Act.put, List.setIfInBounds_toArray, List.set_cons_zero, List.set_cons_succ])
    refine any_take (i := 15) (v := ?_) rfl (by kernel_rfl) (by kernel_rfl) (by kernel_rfl) (by exact fun _ _ _ h => h) (by rfl) ?_ hS ?_
    rotate_left
    · ((intro w hSw; have p5 := ck_later (show w8.cell? ⟨_, 5, none⟩ = some (.int .u64 X) from ck_at H8.out.2.2.2.1 5) hSw; have p6 := ck_later (show w8.cell? ⟨_, 6, none⟩ = some (.int .i64 n) from ck_at H8.out.2.2.2.1 6) hSw; have q5 := ck_later (show w8.cell? ⟨_, 5, none⟩ = some (.int .u64 X) from ck_at H8.out.2.2.2.2 5) hSw; have q6 := ck_later (show w8.cell? ⟨_, 6, none⟩ = some (.int .i64 n) from ck_at H8.out.2.2.2.2 6) hSw; go_simp) <;> with_reducible rfl)
    (try simp only [Act.put, List.setIfInBounds_toArray, List.set_cons_zero, List.set_cons_succ])
    refine any_take (i := 16) (v := ?_) rfl (by kernel_rfl) (by kernel_rfl) (by kernel_rfl) (by exact fun _ _ _ h => h) (by rfl) ?_ hS ?_
    rotate_left
    · ((intro w hSw; have p5 := ck_later (show w8.cell? ⟨_, 5, none⟩ = some (.int .u64 X) from ck_at H8.out.2.2.2.1 5) hSw; have p6 := ck_later (show w8.cell? ⟨_, 6, none⟩ = some (.int .i64 n) from ck_at H8.out.2.2.2.1 6) hSw; have q5 := ck_later (show w8.cell? ⟨_, 5, none⟩ = some (.int .u64 X) from ck_at H8.out.2.2.2.2 5) hSw; have q6 := ck_later (show w8.cell? ⟨_, 6, none⟩ = some (.int .i64 n) from ck_at H8.out.2.2.2.2 6) hSw; go_simp) <;> with_reducible rfl)
    (try simp only [Act.put, List.setIfInBounds_toArray, List.set_cons_zero, List.set_cons_succ])
    refine any_take (i := 17) (v := ?_) rfl (by kernel_rfl) (by kernel_rfl) (by kernel_rfl) (by exact fun _ _ _ h => h) (by rfl) ?_ hS ?_
    rotate_left
    · ((intro w hSw; have p5 := ck_later (show w8.cell? ⟨_, 5, none⟩ = some (.int .u64 X) from ck_at H8.out.2.2.2.1 5) hSw; have p6 := ck_later (show w8.cell? ⟨_, 6, none⟩ = some (.int .i64 n) from ck_at H8.out.2.2.2.1 6) hSw; have q5 := ck_later (show w8.cell? ⟨_, 5, none⟩ = some (.int .u64 X) from ck_at H8.out.2.2.2.2 5) hSw; have q6 := ck_later (show w8.cell? ⟨_, 6, none⟩ = some (.int .i64 n) from ck_at H8.out.2.2.2.2 6) hSw; go_simp) <;> with_reducible rfl)
    (try simp only [Act.put, List.setIfInBounds_toArray, List.set_cons_zero, List.set_cons_succ])
    refine any_take (i := 18) (v := ?_) rfl (by kernel_rfl) (by kernel_rfl) (by kernel_rfl) (by exact fun _ _ _ h => h) (by rfl) ?_ hS ?_
    rotate_left
    · ((intro w hSw; have p5 := ck_later (show w8.cell? ⟨_, 5, none⟩ = some (.int .u64 X) from ck_at H8.out.2.2.2.1 5) hSw; have p6 := ck_later (show w8.cell? ⟨_, 6, none⟩ = some (.int .i64 n) from ck_at H8.out.2.2.2.1 6) hSw; have q5 := ck_later (show w8.cell? ⟨_, 5, none⟩ = some (.int .u64 X) from ck_at H8.out.2.2.2.2 5) hSw; have q6 := ck_later (show w8.cell? ⟨_, 6, none⟩ = some (.int .i64 n) from ck_at H8.out.2.2.2.2 6) hSw; go_simp) <;> with_reducible rfl)
    (try simp only [Act.put, List.setIfInBounds_toArray, List.set_cons_zero, List.set_cons_succ])
    refine any_take (i := 19) (v := ?_) rfl (by kernel_rfl) (by kernel_rfl) (by kernel_rfl) (by exact fun _ _ _ h => h) (by rfl) ?_ hS ?_
    rotate_left
    · ((intro w hSw; have p5 := ck_later (show w8.cell? ⟨_, 5, none⟩ = some (.int .u64 X) from ck_at H8.out.2.2.2.1 5) hSw; have p6 := ck_later (show w8.cell? ⟨_, 6, none⟩ = some (.int .i64 n) from ck_at H8.out.2.2.2.1 6) hSw; have q5 := ck_later (show w8.cell? ⟨_, 5, none⟩ = some (.int .u64 X) from ck_at H8.out.2.2.2.2 5) hSw; have q6 := ck_later (show w8.cell? ⟨_, 6, none⟩ = some (.int .i64 n) from ck_at H8.out.2.2.2.2 6) hSw; go_simp) <;> with_reducible rfl)
    (try simp only [Act.put, List.setIfInBounds_toArray, List.set_cons_zero, List.set_cons_succ])
    refine any_take (i := 20) (v := ?_) rfl (by kernel_rfl) (by kernel_rfl) (by kernel_rfl) (by exact fun _ _ _ h => h) (by rfl) ?_ hS ?_
    rotate_left
    · ((intro w hSw; have p5 := ck_later (show w8.cell? ⟨_, 5, none⟩ = some (.int .u64 X) from ck_at H8.out.2.2.2.1 5) hSw; have p6 := ck_later (show w8.cell? ⟨_, 6, none⟩ = some (.int .i64 n) from ck_at H8.out.2.2.2.1 6) hSw; have q5 := ck_later (show w8.cell? ⟨_, 5, none⟩ = some (.int .u64 X) from ck_at H8.out.2.2.2.2 5) hSw; have q6 := ck_later (show w8.cell? ⟨_, 6, none⟩ = some (.int .i64 n) from ck_at H8.out.2.2.2.2 6) hSw; go_simp) <;> with_reducible rfl)
    (try simp only [Act.put, List.setIfInBounds_toArray, List.set_cons_zero, List.set_cons_succ])
    refine any_take (i := 21) (v := ?_) rfl (by kernel_rfl) (by kernel_rfl) (by kernel_rfl) (by exact fun _ _ _ h => h) (by rfl) ?_ hS ?_
    rotate_left
    · ((intro w hSw; have p0 := ck_later (show w8.cell? ⟨_, 0, none⟩ = some (.int .i64 40) from ck_at H8.out.1 0) hSw; have p1 := ck_later (show w8.cell? ⟨_, 1, none⟩ = some (.int .i64 0) from ck_at H8.out.1 1) hSw; have p2 := ck_later (show w8.cell? ⟨_, 2, none⟩ = some (.int .i64 0) from ck_at H8.out.1 2) hSw; have p3 := ck_later (show w8.cell? ⟨_, 3, none⟩ = some (.bool false) from ck_at H8.out.1 3) hSw; have p4 := ck_later (show w8.cell? ⟨_, 4, none⟩ = some (.int .i64 0) from ck_at H8.out.1 4) hSw; have p5 := ck_later (show w8.cell? ⟨_, 5, none⟩ = some (.int .u64 X) from ck_at H8.out.1 5) hSw; have p6 := ck_later (show w8.cell? ⟨_, 6, none⟩ = some (.int .i64 n) from ck_at H8.out.1 6) hSw; have q0 := ck_later (show w8.cell? ⟨_, 0, none⟩ = some (.int .i64 136) from ck_at H8.out.2.1 0) hSw; have q1 := ck_later (show w8.cell? ⟨_, 1, none⟩ = some (.int .i64 0) from ck_at H8.out.2.1 1) hSw; have q2 := ck_later (show w8.cell? ⟨_, 2, none⟩ = some (.int .i64 0) from ck_at H8.out.2.1 2) hSw; have q3 := ck_later (show w8.cell? ⟨_, 3, none⟩ = some (.bool false) from ck_at H8.out.2.1 3) hSw; have q4 := ck_later (show w8.cell? ⟨_, 4, none⟩ = some (.int .i64 0) from ck_at H8.out.2.1 4) hSw; have q5 := ck_later (show w8.cell? ⟨_, 5, none⟩ = some (.int .u64 X) from ck_at H8.out.2.1 5) hSw; have q6 := ck_later (show w8.cell? ⟨_, 6, none⟩ = some (.int .i64 n) from ck_at H8.out.2.1 6) hSw; go_simp) <;> with_reducible rfl)
    (try simp only [Act.put, List.setIfInBounds_toArray, List.set_cons_zero, List.set_cons_succ])
    refine any_take (i := 23) (v := ?_) rfl (by kernel_rfl) (by kernel_rfl) (by kernel_rfl) (by exact fun _ _ _ h => h) (by rfl) ?_ hS ?_
    rotate_left
    · ((intro w hSw; have p0 := ck_later (show w8.cell? ⟨_, 0, none⟩ = some (.int .i64 40) from ck_at H8.out.1 0) hSw; have p1 := ck_later (show w8.cell? ⟨_, 1, none⟩ = some (.int .i64 0) from ck_at H8.out.1 1) hSw; have p2 := ck_later (show w8.cell? ⟨_, 2, none⟩ = some (.int .i64 0) from ck_at H8.out.1 2) hSw; have p3 := ck_later (show w8.cell? ⟨_, 3, none⟩ = some (.bool false) from ck_at H8.out.1 3) hSw; have p4 := ck_later (show w8.cell? ⟨_, 4, none⟩ = some (.int .i64 0) from ck_at H8.out.1 4) hSw; have p5 := ck_later (show w8.cell? ⟨_, 5, none⟩ = some (.int .u64 X) from ck_at H8.out.1 5) hSw; have p6 := ck_later (show w8.cell? ⟨_, 6, none⟩ = some (.int .i64 n) from ck_at H8.out.1 6) hSw; have q0 := ck_later (show w8.cell? ⟨_, 0, none⟩ = some (.int .i64 136) from ck_at H8.out.2.1 0) hSw; have q1 := ck_later (show w8.cell? ⟨_, 1, none⟩ = some (.int .i64 0) from ck_at H8.out.2.1 1) hSw; have q2 := ck_later (show w8.cell? ⟨_, 2, none⟩ = some (.int .i64 0) from ck_at H8.out.2.1 2) hSw; have q3 := ck_later (show w8.cell? ⟨_, 3, none⟩ = some (.bool false) from ck_at H8.out.2.1 3) hSw; have q4 := ck_later (show w8.cell? ⟨_, 4, none⟩ = some (.int .i64 0) from ck_at H8.out.2.1 4) hSw; have q5 := ck_later (show w8.cell? ⟨_, 5, none⟩ = some (.int .u64 X) from ck_at H8.out.2.1 5) hSw; have q6 := ck_later (show w8.cell? ⟨_, 6, none⟩ = some (.int .i64 n) from ck_at H8.out.2.1 6) hSw; go_simp) <;> with_reducible rfl)
    (try simp only [Act.put, List.setIfInBounds_toArray, List.set_cons_zero, List.set_cons_succ])
    refine any_one (i := 22) rfl (by kernel_rfl) (fun K hK => ?_)
    go_simp
    refine (Calls.mono (HI40.out _)) ?_
    rintro e x1 ⟨rfl, hbR⟩
    have B1 : Below w8.heap.size w8 x1 := below_then B0 hbR
    go_wp2_with fail
    refine hK.out _ _ (by first | exact B1 | exact hbR | exact below_then hS hbR) (any_weaken (S' := fun W => Below x1.heap.size x1 W) (fun W hW => by first | exact below_then B1 hW | exact below_then hbR hW | exact below_then (below_then hS hbR) hW) _ _ _ _ ?_)
    clear hK K hS hbR
    have hS : Below x1.heap.size x1 x1 := Below.refl _ _
    refine any_one (i := 24) rfl (by kernel_rfl) (fun K hK => ?_)
    go_simp
    refine (Calls.mono (HI136.out _)) ?_
    rintro e x2 ⟨rfl, hbR⟩
    have B2 : Below w8.heap.size w8 x2 := below_then B1 hbR
    go_wp2_with fail
    refine hK.out _ _ (by first | exact B2 | exact hbR | exact below_then hS hbR) (any_weaken (S' := fun W => Below x2.heap.size x2 W) (fun W hW => by first | exact below_then B2 hW | exact below_then hbR hW | exact below_then (below_then hS hbR) hW) _ _ _ _ ?_)
    clear hK K hS hbR
    have hS : Below x2.heap.size x2 x2 := Below.refl _ _
    refine any_take (i := 25) (v := ?_) rfl (by kernel_rfl) (by kernel_rfl) (by kernel_rfl) (by exact fun _ _ _ h => h) (by rfl) ?_ hS ?_
    rotate_left
    · ((intro w hSw; (try dsimp only at hSw); go_simp) <;> with_reducible rfl)
    (try simp only [Act.put, List.setIfInBounds_toArray, List.set_cons_zero, List.set_cons_succ])
    refine any_take (i := 26) (v := ?_) rfl (by kernel_rfl) (by kernel_rfl) (by kernel_rfl) (by exact fun _ _ _ h => h) (by rfl) ?_ hS ?_
    rotate_left
    · ((intro w hSw; (try dsimp only at hSw); go_simp) <;> with_reducible rfl)
    (try simp only [Act.put, List.setIfInBounds_toArray, List.set_cons_zero, List.set_cons_succ])
    refine any_take (i := 27) (v := ?_) rfl (by kernel_rfl) (by kernel_rfl) (by kernel_rfl) (by exact fun _ _ _ h => h) (by rfl) ?_ hS ?_
    rotate_left
    · ((intro w hSw; (try dsimp only at hSw); go_simp) <;> with_reducible rfl)
    (try simp only [Act.put, List.setIfInBounds_toArray, List.set_cons_zero, List.set_cons_succ])
    refine any_take (i := 28) (v := ?_) rfl (by kernel_rfl) (by kernel_rfl) (by kernel_rfl) (by exact fun _ _ _ h => h) (by rfl) ?_ hS ?_
    rotate_left
    · ((intro w hSw; have p0 := ck_later (show w8.cell? ⟨_, 0, none⟩ = some (.int .i64 40) from ck_at H8.out.1 0) (below_then B2 hSw); have p1 := ck_later (show w8.cell? ⟨_, 1, none⟩ = some (.int .i64 0) from ck_at H8.out.1 1) (below_then B2 hSw); have p2 := ck_later (show w8.cell? ⟨_, 2, none⟩ = some (.int .i64 0) from ck_at H8.out.1 2) (below_then B2 hSw); have p3 := ck_later (show w8.cell? ⟨_, 3, none⟩ = some (.bool false) from ck_at H8.out.1 3) (below_then B2 hSw); have p4 := ck_later (show w8.cell? ⟨_, 4, none⟩ = some (.int .i64 0) from ck_at H8.out.1 4) (below_then B2 hSw); have p5 := ck_later (show w8.cell? ⟨_, 5, none⟩ = some (.int .u64 X) from ck_at H8.out.1 5) (below_then B2 hSw); have p6 := ck_later (show w8.cell? ⟨_, 6, none⟩ = some (.int .i64 n) from ck_at H8.out.1 6) (below_then B2 hSw); have q0 := ck_later (show w8.cell? ⟨_, 0, none⟩ = some (.int .i64 136) from ck_at H8.out.2.1 0) (below_then B2 hSw); have q1 := ck_later (show w8.cell? ⟨_, 1, none⟩ = some (.int .i64 0) from ck_at H8.out.2.1 1) (below_then B2 hSw); have q2 := ck_later (show w8.cell? ⟨_, 2, none⟩ = some (.int .i64 0) from ck_at H8.out.2.1 2) (below_then B2 hSw); have q3 := ck_later (show w8.cell? ⟨_, 3, none⟩ = some (.bool false) from ck_at H8.out.2.1 3) (below_then B2 hSw); have q4 := ck_later (show w8.cell? ⟨_, 4, none⟩ = some (.int .i64 0) from ck_at H8.out.2.1 4) (below_then B2 hSw); have q5 := ck_later (show w8.cell? ⟨_, 5, none⟩ = some (.int .u64 X) from ck_at H8.out.2.1 5) (below_then B2 hSw); have q6 := ck_later (show w8.cell? ⟨_, 6, none⟩ = some (.int .i64 n) from ck_at H8.out.2.1 6) (below_then B2 hSw); go_simp) <;> with_reducible rfl)
    (try simp only [Act.put, List.setIfInBounds_toArray, List.set_cons_zero, List.set_cons_succ])
    refine any_take (i := 30) (v := ?_) rfl (by kernel_rfl) (by kernel_rfl) (by kernel_rfl) (by exact fun _ _ _ h => h) (by rfl) ?_ hS ?_
    rotate_left
    · ((intro w hSw; have p0 := ck_later (show w8.cell? ⟨_, 0, none⟩ = some (.int .i64 40) from ck_at H8.out.1 0) (below_then B2 hSw); have p1 := ck_later (show w8.cell? ⟨_, 1, none⟩ = some (.int .i64 0) from ck_at H8.out.1 1) (below_then B2 hSw); have p2 := ck_later (show w8.cell? ⟨_, 2, none⟩ = some (.int .i64 0) from ck_at H8.out.1 2) (below_then B2 hSw); have p3 := ck_later (show w8.cell? ⟨_, 3, none⟩ = some (.bool false) from ck_at H8.out.1 3) (below_then B2 hSw); have p4 := ck_later (show w8.cell? ⟨_, 4, none⟩ = some (.int .i64 0) from ck_at H8.out.1 4) (below_then B2 hSw); have p5 := ck_later (show w8.cell? ⟨_, 5, none⟩ = some (.int .u64 X) from ck_at H8.out.1 5) (below_then B2 hSw); have p6 := ck_later (show w8.cell? ⟨_, 6, none⟩ = some (.int .i64 n) from ck_at H8.out.1 6) (below_then B2 hSw); have q0 := ck_later (show w8.cell? ⟨_, 0, none⟩ = some (.int .i64 136) from ck_at H8.out.2.1 0) (below_then B2 hSw); have q1 := ck_later (show w8.cell? ⟨_, 1, none⟩ = some (.int .i64 0) from ck_at H8.out.2.1 1) (below_then B2 hSw); have q2 := ck_later (show w8.cell? ⟨_, 2, none⟩ = some (.int .i64 0) from ck_at H8.out.2.1 2) (below_then B2 hSw); have q3 := ck_later (show w8.cell? ⟨_, 3, none⟩ = some (.bool false) from ck_at H8.out.2.1 3) (below_then B2 hSw); have q4 := ck_later (show w8.cell? ⟨_, 4, none⟩ = some (.int .i64 0) from ck_at H8.out.2.1 4) (below_then B2 hSw); have q5 := ck_later (show w8.cell? ⟨_, 5, none⟩ = some (.int .u64 X) from ck_at H8.out.2.1 5) (below_then B2 hSw); have q6 := ck_later (show w8.cell? ⟨_, 6, none⟩ = some (.int .i64 n) from ck_at H8.out.2.1 6) (below_then B2 hSw); go_simp) <;> with_reducible rfl)
    (try simp only [Act.put, List.setIfInBounds_toArray, List.set_cons_zero, List.set_cons_succ])
    refine any_one (i := 29) rfl (by kernel_rfl) (fun K hK => ?_)
    go_simp
    refine (Calls.mono (HO40.out _)) ?_
    rintro e x3 ⟨rfl, hbR⟩
    have B3 : Below w8.heap.size w8 x3 := below_then B2 hbR
    go_wp2_with fail
    refine hK.out _ _ (by first | exact B3 | exact hbR | exact below_then hS hbR) (any_weaken (S' := fun W => Below x3.heap.size x3 W) (fun W hW => by first | exact below_then B3 hW | exact below_then hbR hW | exact below_then (below_then hS hbR) hW) _ _ _ _ ?_)
    clear hK K hS hbR
    have hS : Below x3.heap.size x3 x3 := Below.refl _ _
    refine any_one (i := 31) rfl (by kernel_rfl) (fun K hK => ?_)
    go_simp
    refine (Calls.mono (HO136.out _)) ?_
    rintro e x4 ⟨rfl, hbR⟩
    have B4 : Below w8.heap.size w8 x4 := below_then B3 hbR
    go_wp2_with fail
    refine hK.out _ _ (by first | exact B4 | exact hbR | exact below_then hS hbR) (any_weaken (S' := fun W => Below x4.heap.size x4 W) (fun W hW => by first | exact below_then B4 hW | exact below_then hbR hW | exact below_then (below_then hS hbR) hW) _ _ _ _ ?_)
    clear hK K hS hbR
    have hS : Below x4.heap.size x4 x4 := Below.refl _ _
    refine any_take (i := 32) (v := ?_) rfl (by kernel_rfl) (by kernel_rfl) (by kernel_rfl) (by exact fun _ _ _ h => h) (by rfl) ?_ hS ?_
    rotate_left
    · ((intro w hSw; (try dsimp only at hSw); go_simp) <;> with_reducible rfl)
    (try simp only [Act.put, List.setIfInBounds_toArray, List.set_cons_zero, List.set_cons_succ])
    refine any_take (i := 33) (v := ?_) rfl (by kernel_rfl) (by kernel_rfl) (by kernel_rfl) (by exact fun _ _ _ h => h) (by rfl) ?_ hS ?_
    rotate_left
    · ((intro w hSw; (try dsimp only at hSw); go_simp) <;> with_reducible rfl)
    (try simp only [Act.put, List.setIfInBounds_toArray, List.set_cons_zero, List.set_cons_succ])
    refine any_take (i := 34) (v := ?_) rfl (by kernel_rfl) (by kernel_rfl) (by kernel_rfl) (by exact fun _ _ _ h => h) (by rfl) ?_ hS ?_
    rotate_left
    · ((intro w hSw; (try dsimp only at hSw); go_simp) <;> with_reducible rfl)
    (try simp only [Act.put, List.setIfInBounds_toArray, List.set_cons_zero, List.set_cons_succ])
    refine any_take (i := 35) (v := ?_) rfl (by kernel_rfl) (by kernel_rfl) (by kernel_rfl) (by exact fun _ _ _ h => h) (by rfl) ?_ hS ?_
    rotate_left
    · ((intro w hSw; have p0 := ck_later (show w8.cell? ⟨_, 0, none⟩ = some (.int .i64 40) from ck_at H8.out.1 0) (below_then B4 hSw); have p1 := ck_later (show w8.cell? ⟨_, 1, none⟩ = some (.int .i64 0) from ck_at H8.out.1 1) (below_then B4 hSw); have p2 := ck_later (show w8.cell? ⟨_, 2, none⟩ = some (.int .i64 0) from ck_at H8.out.1 2) (below_then B4 hSw); have p3 := ck_later (show w8.cell? ⟨_, 3, none⟩ = some (.bool false) from ck_at H8.out.1 3) (below_then B4 hSw); have p4 := ck_later (show w8.cell? ⟨_, 4, none⟩ = some (.int .i64 0) from ck_at H8.out.1 4) (below_then B4 hSw); have p5 := ck_later (show w8.cell? ⟨_, 5, none⟩ = some (.int .u64 X) from ck_at H8.out.1 5) (below_then B4 hSw); have p6 := ck_later (show w8.cell? ⟨_, 6, none⟩ = some (.int .i64 n) from ck_at H8.out.1 6) (below_then B4 hSw); have q0 := ck_later (show w8.cell? ⟨_, 0, none⟩ = some (.int .i64 136) from ck_at H8.out.2.1 0) (below_then B4 hSw); have q1 := ck_later (show w8.cell? ⟨_, 1, none⟩ = some (.int .i64 0) from ck_at H8.out.2.1 1) (below_then B4 hSw); have q2 := ck_later (show w8.cell? ⟨_, 2, none⟩ = some (.int .i64 0) from ck_at H8.out.2.1 2) (below_then B4 hSw); have q3 := ck_later (show w8.cell? ⟨_, 3, none⟩ = some (.bool false) from ck_at H8.out.2.1 3) (below_then B4 hSw); have q4 := ck_later (show w8.cell? ⟨_, 4, none⟩ = some (.int .i64 0) from ck_at H8.out.2.1 4) (below_then B4 hSw); have q5 := ck_later (show w8.cell? ⟨_, 5, none⟩ = some (.int .u64 X) from ck_at H8.out.2.1 5) (below_then B4 hSw); have q6 := ck_later (show w8.cell? ⟨_, 6, none⟩ = some (.int .i64 n) from ck_at H8.out.2.1 6) (below_then B4 hSw); go_simp) <;> with_reducible rfl)
    (try simp only [Act.put, List.setIfInBounds_toArray, List.set_cons_zero, List.set_cons_succ])
    refine any_take (i := 37) (v := ?_) rfl (by kernel_rfl) (by kernel_rfl) (by kernel_rfl) (by exact fun _ _ _ h => h) (by rfl) ?_ hS ?_
    rotate_left
    · ((intro w hSw; have p0 := ck_later (show w8.cell? ⟨_, 0, none⟩ = some (.int .i64 40) from ck_at H8.out.1 0) (below_then B4 hSw); have p1 := ck_later (show w8.cell? ⟨_, 1, none⟩ = some (.int .i64 0) from ck_at H8.out.1 1) (below_then B4 hSw); have p2 := ck_later (show w8.cell? ⟨_, 2, none⟩ = some (.int .i64 0) from ck_at H8.out.1 2) (below_then B4 hSw); have p3 := ck_later (show w8.cell? ⟨_, 3, none⟩ = some (.bool false) from ck_at H8.out.1 3) (below_then B4 hSw); have p4 := ck_later (show w8.cell? ⟨_, 4, none⟩ = some (.int .i64 0) from ck_at H8.out.1 4) (below_then B4 hSw); have p5 := ck_later (show w8.cell? ⟨_, 5, none⟩ = some (.int .u64 X) from ck_at H8.out.1 5) (below_then B4 hSw); have p6 := ck_later (show w8.cell? ⟨_, 6, none⟩ = some (.int .i64 n) from ck_at H8.out.1 6) (below_then B4 hSw); have q0 := ck_later (show w8.cell? ⟨_, 0, none⟩ = some (.int .i64 136) from ck_at H8.out.2.1 0) (below_then B4 hSw); have q1 := ck_later (show w8.cell? ⟨_, 1, none⟩ = some (.int .i64 0) from ck_at H8.out.2.1 1) (below_then B4 hSw); have q2 := ck_later (show w8.cell? ⟨_, 2, none⟩ = some (.int .i64 0) from ck_at H8.out.2.1 2) (below_then B4 hSw); have q3 := ck_later (show w8.cell? ⟨_, 3, none⟩ = some (.bool false) from ck_at H8.out.2.1 3) (below_then B4 hSw); have q4 := ck_later (show w8.cell? ⟨_, 4, none⟩ = some (.int .i64 0) from ck_at H8.out.2.1 4) (below_then B4 hSw); have q5 := ck_later (show w8.cell? ⟨_, 5, none⟩ = some (.int .u64 X) from ck_at H8.out.2.1 5) (below_then B4 hSw); have q6 := ck_later (show w8.cell? ⟨_, 6, none⟩ = some (.int .i64 n) from ck_at H8.out.2.1 6) (below_then B4 hSw); go_simp) <;> with_reducible rfl)
    (try simp only [Act.put, List.setIfInBounds_toArray, List.set_cons_zero, List.set_cons_succ])
    refine any_take (i := 40) (v := ?_) rfl (by kernel_rfl) (by kernel_rfl) (by kernel_rfl) (by exact fun _ _ _ h => h) (by rfl) ?_ hS ?_
    rotate_left
    · ((intro w hSw; (try dsimp only at hSw); go_simp) <;> with_reducible rfl)
    (try simp only [Act.put, List.setIfInBounds_toArray, List.set_cons_zero, List.set_cons_succ])
    refine any_take (i := 41) (v := ?_) rfl (by kernel_rfl) (by kernel_rfl) (by kernel_rfl) (by exact fun _ _ _ h => h) (by rfl) ?_ hS ?_
    rotate_left
    · ((intro w hSw; (try dsimp only at hSw); go_simp) <;> with_reducible rfl)
    (try simp only [Act.put, List.setIfInBounds_toArray, List.set_cons_zero, List.set_cons_succ])
    refine any_take (i := 42) (v := ?_) rfl (by kernel_rfl) (by kernel_rfl) (by kernel_rfl) (by exact fun _ _ _ h => h) (by rfl) ?_ hS ?_
    rotate_left
    · ((intro w hSw; (try dsimp only at hSw); go_simp) <;> with_reducible rfl)
    (try simp only [Act.put, List.setIfInBounds_toArray, List.set_cons_zero, List.set_cons_succ])
    refine any_one (i := 36) rfl (by kernel_rfl) (fun K hK => ?_)
    go_simp
    refine (Calls.mono (HI40.out _)) ?_
    rintro e x5 ⟨rfl, hbR⟩
    have B5 : Below w8.heap.size w8 x5 := below_then B4 hbR
    go_wp2_with fail
    refine hK.out _ _ (by first | exact B5 | exact hbR | exact below_then hS hbR) (any_weaken (S' := fun W => Below x5.heap.size x5 W) (fun W hW => by first | exact below_then B5 hW | exact below_then hbR hW | exact below_then (below_then hS hbR) hW) _ _ _ _ ?_)
    clear hK K hS hbR
    have hS : Below x5.heap.size x5 x5 := Below.refl _ _
    refine any_one (i := 38) rfl (by kernel_rfl) (fun K hK => ?_)
    go_simp
    refine (Calls.mono (HO40.out _)) ?_
    rintro e x6 ⟨rfl, hbR⟩
    have B6 : Below w8.heap.size w8 x6 := below_then B5 hbR
    go_wp2_with fail
    refine hK.out _ _ (by first | exact B6 | exact hbR | exact below_then hS hbR) (any_weaken (S' := fun W => Below x6.heap.size x6 W) (fun W hW => by first | exact below_then B6 hW | exact below_then hbR hW | exact below_then (below_then hS hbR) hW) _ _ _ _ ?_)
    clear hK K hS hbR
    have hS : Below x6.heap.size x6 x6 := Below.refl _ _
    refine any_take (i := 39) (v := ?_) rfl (by kernel_rfl) (by kernel_rfl) (by kernel_rfl) (by exact fun _ _ _ h => h) (by rfl) ?_ hS ?_
    rotate_left
    · ((intro w hSw; (try dsimp only at hSw); go_simp) <;> with_reducible rfl)
    (try simp only [Act.put, List.setIfInBounds_toArray, List.set_cons_zero, List.set_cons_succ])
    refine any_take (i := 43) (v := ?_) rfl (by kernel_rfl) (by kernel_rfl) (by kernel_rfl) (by exact fun _ _ _ h => h) (by rfl) ?_ hS ?_
    rotate_left
    · ((intro w hSw; (try dsimp only at hSw); go_simp) <;> with_reducible rfl)
    (try simp only [Act.put, List.setIfInBounds_toArray, List.set_cons_zero, List.set_cons_succ])
    refine any_take (i := 44) (v := ?_) rfl (by kernel_rfl) (by kernel_rfl) (by kernel_rfl) (by exact fun _ _ _ h => h) (by rfl) ?_ hS ?_
    rotate_left
    · ((intro w hSw; (try dsimp only at hSw); go_simp) <;> with_reducible rfl)
    (try simp only [Act.put, List.setIfInBounds_toArray, List.set_cons_zero, List.set_cons_succ])
    refine any_take (i := 45) (v := ?_) rfl (by kernel_rfl) (by kernel_rfl) (by kernel_rfl) (by exact fun _ _ _ h => h) (by rfl) ?_ hS ?_
    rotate_left
    · ((intro w hSw; (try dsimp only at hSw); go_simp) <;> with_reducible rfl)
    (try simp only [Act.put, List.setIfInBounds_toArray, List.set_cons_zero, List.set_cons_succ])
    have K7 : Hid _ := known15_any _ (HT.out _ (below_then H8.out.2.2.1 B6))
    refine any_one (i := 46) rfl (by kernel_rfl) (fun K hK => ?_)
    go_simp
    refine (Calls.mono (K7.out)) ?_
    rintro e x7 ⟨rfl, hbR⟩
    have B7 : Below w8.heap.size w8 x7 := below_then B6 hbR
    clear K7
    go_wp2_with fail
    refine hK.out _ _ (by first | exact B7 | exact hbR | exact below_then hS hbR) (any_weaken (S' := fun W => Below x7.heap.size x7 W) (fun W hW => by first | exact below_then B7 hW | exact below_then hbR hW | exact below_then (below_then hS hbR) hW) _ _ _ _ ?_)
    clear hK K hS hbR
    have hS : Below x7.heap.size x7 x7 := Below.refl _ _
    refine any_take (i := 47) (v := ?_) rfl (by kernel_rfl) (by kernel_rfl) (by kernel_rfl) (by exact fun _ _ _ h => h) (by rfl) ?_ hS ?_
    rotate_left
    · ((intro w hSw; (try dsimp only at hSw); go_simp) <;> with_reducible rfl)
    (try simp only [Act.put, List.setIfInBounds_toArray, List.set_cons_zero, List.set_cons_succ])
    refine any_take (i := 48) (v := ?_) rfl (by kernel_rfl) (by kernel_rfl) (by kernel_rfl) (by exact fun _ _ _ h => h) (by rfl) ?_ hS ?_
    rotate_left
    · ((intro w hSw; (try dsimp only at hSw); go_simp) <;> with_reducible rfl)
    (try simp only [Act.put, List.setIfInBounds_toArray, List.set_cons_zero, List.set_cons_succ])
    refine wpAnyH_done (by kernel_rfl) ?_ _
    have F : Hid _ := below_then H8.out.2.2.1 B7
    clear hS H8
    go_wp2
    go_ret
    exact ⟨rfl, F.out⟩
  · have A1 := Blk.new' w 35 [.int .i64 42, .int .i64 0, .int .i64 0, .bool false, .int .i64 0, .int .u64 X, .int .i64 n]
    have a1_ : Below w.heap.size w (w.alloc (.cells #[.int .i64 42, .int .i64 0, .int .i64 0, .bool false, .int .i64 0, .int .u64 X, .int .i64 n] 35)) := (Below.refl _ _).alloc (Nat.le_refl _) _
    obtain ⟨w1, hw1⟩ : ∃ w1, w1 = w.alloc (.cells #[.int .i64 42, .int .i64 0, .int .i64 0, .bool false, .int .i64 0, .int .u64 X, .int .i64 n] 35) := ⟨_, rfl⟩
    rw [← hw1] at A1 a1_
    have z1 : w1.heap.size = w.heap.size + 1 := by rw [hw1]; simp
    have A2 := Blk.new' w1 35 [.int .i64 138, .int .i64 0, .int .i64 0, .bool false, .int .i64 0, .int .u64 X, .int .i64 n]
    have a2_ : Below w1.heap.size w1 (w1.alloc (.cells #[.int .i64 138, .int .i64 0, .int .i64 0, .bool false, .int .i64 0, .int .u64 X, .int .i64 n] 35)) := (Below.refl _ _).alloc (Nat.le_refl _) _
    obtain ⟨w2, hw2⟩ : ∃ w2, w2 = w1.alloc (.cells #[.int .i64 138, .int .i64 0, .int .i64 0, .bool false, .int .i64 0, .int .u64 X, .int .i64 n] 35) := ⟨_, rfl⟩
    rw [← hw2] at A2 a2_
    rw [z1] at A2
    have H2 : Hid (Blk w2 w.heap.size 35 [.int .i64 42, .int .i64 0, .int .i64 0, .bool false, .int .i64 0, .int .u64 X, .int .i64 n] ∧ Blk w2 (w.heap.size + 1) 35 [.int .i64 138, .int .i64 0, .int .i64 0, .bool false, .int .i64 0, .int .u64 X, .int .i64 n] ∧ Below w.heap.size w w2) := ⟨A1.laterB a2_, A2, below_then a1_ a2_⟩
    clear A1 a1_ A2 a2_ z1 b1_
    have y0 := ck_at H2.out.1 0
    have y1 := ck_at H2.out.1 1
    have y2 := ck_at H2.out.1 2
    have y3 := ck_at H2.out.1 3
    have y4 := ck_at H2.out.1 4
    have y5 := ck_at H2.out.1 5
    have y6 := ck_at H2.out.1 6
    simp only [List.getElem?_cons_zero, List.getElem?_cons_succ] at y0 y1 y2 y3 y4 y5 y6
    go_enter Tryd.func4, Tryd.ntmps4
    go_upto_region 6 with fail
    rw [← hw1, ← hw2]
    clear hw1 hw2
    go_wp2_with fail
    clear y0 y1 y2 y3 y4 y5 y6
    refine (Calls.mono (HB42.out w2 (HT.out _ H2.out.2.2))) ?_
    rintro e w3 ⟨g, cap, rfl, cx, hr, hc, b3⟩
    have H3 : Hid (Blk w3 w.heap.size 35 [.int .i64 42, .int .i64 0, .int .i64 0, .bool false, .int .i64 0, .int .u64 X, .int .i64 n] ∧ Blk w3 (w.heap.size + 1) 35 [.int .i64 138, .int .i64 0, .int .i64 0, .bool false, .int .i64 0, .int .u64 X, .int .i64 n] ∧ Below w.heap.size w w3 ∧ w3.cell? ⟨g, 0, none⟩ = some (.int .u8 42) ∧ Row w3 (some ⟨g, 0, none⟩) _) := ⟨H2.out.1.laterB b3, H2.out.2.1.laterB b3, below_then H2.out.2.2 b3, cx, hr⟩
    clear b3 H2 cx hr hc
    have y0 := ck_at H3.out.2.1 0
    have y1 := ck_at H3.out.2.1 1
    have y2 := ck_at H3.out.2.1 2
    have y3 := ck_at H3.out.2.1 3
    have y4 := ck_at H3.out.2.1 4
    have y5 := ck_at H3.out.2.1 5
    have y6 := ck_at H3.out.2.1 6
    simp only [List.getElem?_cons_zero, List.getElem?_cons_succ] at y0 y1 y2 y3 y4 y5 y6
    go_wp2_with fail
    clear y0 y1 y2 y3 y4 y5 y6
    refine (Calls.mono (HB138.out w3 (HT.out _ H3.out.2.2.1))) ?_
    rintro e w4 ⟨g2, cap2, rfl, cy, hr, hc, b4⟩
    have cx := ck_later H3.out.2.2.2.1 b4
    have H4 : Hid (Blk w4 w.heap.size 35 [.int .i64 42, .int .i64 0, .int .i64 0, .bool false, .int .i64 0, .int .u64 X, .int .i64 n] ∧ Blk w4 (w.heap.size + 1) 35 [.int .i64 138, .int .i64 0, .int .i64 0, .bool false, .int .i64 0, .int .u64 X, .int .i64 n] ∧ Below w.heap.size w w4 ∧ Row w4 (some ⟨g, 0, none⟩) _ ∧ Row w4 (some ⟨g2, 0, none⟩) _) := ⟨H3.out.1.laterB b4, H3.out.2.1.laterB b4, below_then H3.out.2.2.1 b4, Row.later H3.out.2.2.2.2 b4, hr⟩
    clear b4 H3 hr hc
    go_wp2_with fail
    clear cx cy
    refine (Calls.mono (HP42.out g cap w4 (HT.out _ H4.out.2.2.1) H4.out.2.2.2.1)) ?_
    rintro e w5 ⟨rfl, b5⟩
    have A3 := Blk.new' w5 35 [.int .i64 42, .int .i64 0, .int .i64 0, .bool false, .int .i64 0, .int .u64 X, .int .i64 n]
    have a3_ : Below w5.heap.size w5 (w5.alloc (.cells #[.int .i64 42, .int .i64 0, .int .i64 0, .bool false, .int .i64 0, .int .u64 X, .int .i64 n] 35)) := (Below.refl _ _).alloc (Nat.le_refl _) _
    obtain ⟨w6, hw6⟩ : ∃ w6, w6 = w5.alloc (.cells #[.int .i64 42, .int .i64 0, .int .i64 0, .bool false, .int .i64 0, .int .u64 X, .int .i64 n] 35) := ⟨_, rfl⟩
    rw [← hw6] at A3 a3_
    obtain ⟨d1, hd1⟩ : ∃ d, d = w5.heap.size := ⟨_, rfl⟩
    rw [← hd1] at A3
    have H6 : Hid (Blk w6 w.heap.size 35 [.int .i64 42, .int .i64 0, .int .i64 0, .bool false, .int .i64 0, .int .u64 X, .int .i64 n] ∧ Blk w6 (w.heap.size + 1) 35 [.int .i64 138, .int .i64 0, .int .i64 0, .bool false, .int .i64 0, .int .u64 X, .int .i64 n] ∧ Below w.heap.size w w6 ∧ Row w6 (some ⟨g2, 0, none⟩) _ ∧ Blk w6 d1 35 [.int .i64 42, .int .i64 0, .int .i64 0, .bool false, .int .i64 0, .int .u64 X, .int .i64 n]) := ⟨H4.out.1.laterB (below_then b5 a3_), H4.out.2.1.laterB (below_then b5 a3_), below_then H4.out.2.2.1 (below_then b5 a3_), Row.later H4.out.2.2.2.2 (below_then b5 a3_), A3⟩
    clear b5 a3_ A3 H4
    go_upto_region 11 with fail
    rw [← hw6, ← hd1]
    clear hw6 hd1
    go_wp2_with fail
    refine (Calls.mono (HP138.out g2 cap2 w6 (HT.out _ H6.out.2.2.1) H6.out.2.2.2.1)) ?_
    rintro e w7 ⟨rfl, b7⟩
    have A4 := Blk.new' w7 35 [.int .i64 138, .int .i64 0, .int .i64 0, .bool false, .int .i64 0, .int .u64 X, .int .i64 n]
    have a4_ : Below w7.heap.size w7 (w7.alloc (.cells #[.int .i64 138, .int .i64 0, .int .i64 0, .bool false, .int .i64 0, .int .u64 X, .int .i64 n] 35)) := (Below.refl _ _).alloc (Nat.le_refl _) _
    obtain ⟨w8, hw8⟩ : ∃ w8, w8 = w7.alloc (.cells #[.int .i64 138, .int .i64 0, .int .i64 0, .bool false, .int .i64 0, .int .u64 X, .int .i64 n] 35) := ⟨_, rfl⟩
    rw [← hw8] at A4 a4_
    obtain ⟨d2, hd2⟩ : ∃ d, d = w7.heap.size := ⟨_, rfl⟩
    rw [← hd2] at A4
    have H8 : Hid (Blk w8 w.heap.size 35 [.int .i64 42, .int .i64 0, .int .i64 0, .bool false, .int .i64 0, .int .u64 X, .int .i64 n] ∧ Blk w8 (w.heap.size + 1) 35 [.int .i64 138, .int .i64 0, .int .i64 0, .bool false, .int .i64 0, .int .u64 X, .int .i64 n] ∧ Below w.heap.size w w8 ∧ Blk w8 d1 35 [.int .i64 42, .int .i64 0, .int .i64 0, .bool false, .int .i64 0, .int .u64 X, .int .i64 n] ∧ Blk w8 d2 35 [.int .i64 138, .int .i64 0, .int .i64 0, .bool false, .int .i64 0, .int .u64 X, .int .i64 n]) := ⟨H6.out.1.laterB (below_then b7 a4_), H6.out.2.1.laterB (below_then b7 a4_), below_then H6.out.2.2.1 (below_then b7 a4_), H6.out.2.2.2.2.laterB (below_then b7 a4_), A4⟩
    clear b7 a4_ A4 H6
    go_upto_region 12 with fail
    rw [← hw8, ← hd2]
    clear hw8 hd2
    refine wp_region_held_drew (S := fun W => Below w8.heap.size w8 W) (by kernel_rfl) ((Below.refl _ _).drew) (fun hS => ?_)
    have B0 : Below w8.heap.size w8 w8.drew := ((Below.refl _ _).drew)
    refine any_take (i := 0) (v := ?_) rfl (by kernel_rfl) (by kernel_rfl) (by kernel_rfl) (by exact fun _ _ _ h => h) (by rfl) ?_ hS ?_
    rotate_left
    · ((intro w hSw; (try dsimp only at hSw); go_simp) <;> with_reducible rfl)
    (try simp only [Act.put, List.setIfInBounds_toArray, List.set_cons_zero, List.set_cons_succ])
    refine any_take (i := 1) (v := ?_) rfl (by kernel_rfl) (by kernel_rfl) (by kernel_rfl) (by exact fun _ _ _ h => h) (by rfl) ?_ hS ?_
    rotate_left
    · ((intro w hSw; (try dsimp only at hSw); go_simp) <;> with_reducible rfl)
    (try simp only [Act.put, List.setIfInBounds_toArray, List.set_cons_zero, List.set_cons_succ])
    refine any_take (i := 2) (v := ?_) rfl (by kernel_rfl) (by kernel_rfl) (by kernel_rfl) (by exact fun _ _ _ h => h) (by rfl) ?_ hS ?_
    rotate_left
    · ((intro w hSw; (try dsimp only at hSw); go_simp) <;> with_reducible rfl)
    (try simp only [Act.put, List.setIfInBounds_toArray, List.set_cons_zero, List.set_cons_succ])
    refine any_take (i := 3) (v := ?_) rfl (by kernel_rfl) (by kernel_rfl) (by kernel_rfl) (by exact fun _ _ _ h => h) (by rfl) ?_ hS ?_
    rotate_left
    · ((intro w hSw; (try dsimp only at hSw); go_simp) <;> with_reducible rfl)
    (try simp only [Act.put, List.setIfInBounds_toArray, List.set_cons_zero, List.set_cons_succ])
    refine any_take (i := 4) (v := ?_) rfl (by kernel_rfl) (by kernel_rfl) (by kernel_rfl) (by exact fun _ _ _ h => h) (by rfl) ?_ hS ?_
    rotate_left
    · ((intro w hSw; (try dsimp only at hSw); go_simp) <;> with_reducible rfl)
    (try simp only [Act.put, List.setIfInBounds_toArray, List.set_cons_zero, List.set_cons_succ])
    refine any_take (i := 5) (v := ?_) rfl (by kernel_rfl) (by kernel_rfl) (by kernel_rfl) (by exact fun _ _ _ h => h) (by rfl) ?_ hS ?_
    rotate_left
    · ((intro w hSw; (try dsimp only at hSw); go_simp) <;> with_reducible rfl)
    (try simp only [Act.put, List.setIfInBounds_toArray, List.set_cons_zero, List.set_cons_succ])
    refine any_take (i := 6) (v := ?_) rfl (by kernel_rfl) (by kernel_rfl) (by kernel_rfl) (by exact fun _ _ _ h => h) (by rfl) ?_ hS ?_
    rotate_left
    · ((intro w hSw; (try dsimp only at hSw); go_simp) <;> with_reducible rfl)
    (try simp only [Act.put, List.setIfInBounds_toArray, List.set_cons_zero, List.set_cons_succ])
    refine any_take (i := 7) (v := ?_) rfl (by kernel_rfl) (by kernel_rfl) (by kernel_rfl) (by exact fun _ _ _ h => h) (by rfl) ?_ hS ?_
    rotate_left
    · ((intro w hSw; have p5 := ck_later (show w8.cell? ⟨_, 5, none⟩ = some (.int .u64 X) from ck_at H8.out.2.2.2.1 5) hSw; have p6 := ck_later (show w8.cell? ⟨_, 6, none⟩ = some (.int .i64 n) from ck_at H8.out.2.2.2.1 6) hSw; have q5 := ck_later (show w8.cell? ⟨_, 5, none⟩ = some (.int .u64 X) from ck_at H8.out.2.2.2.2 5) hSw; have q6 := ck_later (show w8.cell? ⟨_, 6, none⟩ = some (.int .i64 n) from ck_at H8.out.2.2.2.2 6) hSw; go_simp) <;> with_reducible rfl)
    (try simp only [Act.put, List.setIfInBounds_toArray, List.set_cons_zero, List.set_cons_succ])
    refine any_take (i := 8) (v := ?_) rfl (by kernel_rfl) (by kernel_rfl) (by kernel_rfl) (by exact fun _ _ _ h => h) (by rfl) ?_ hS ?_
    rotate_left
    · ((intro w hSw; have p5 := ck_later (show w8.cell? ⟨_, 5, none⟩ = some (.int .u64 X) from ck_at H8.out.2.2.2.1 5) hSw; have p6 := ck_later (show w8.cell? ⟨_, 6, none⟩ = some (.int .i64 n) from ck_at H8.out.2.2.2.1 6) hSw; have q5 := ck_later (show w8.cell? ⟨_, 5, none⟩ = some (.int .u64 X) from ck_at H8.out.2.2.2.2 5) hSw; have q6 := ck_later (show w8.cell? ⟨_, 6, none⟩ = some (.int .i64 n) from ck_at H8.out.2.2.2.2 6) hSw; go_simp) <;> with_reducible rfl)
    (try simp only [Act.put, List.setIfInBounds_toArray, List.set_cons_zero, List.set_cons_succ])
    refine any_take (i := 9) (v := ?_) rfl (by kernel_rfl) (by kernel_rfl) (by kernel_rfl) (by exact fun _ _ _ h => h) (by rfl) ?_ hS ?_
    rotate_left
    · ((intro w hSw; have p5 := ck_later (show w8.cell? ⟨_, 5, none⟩ = some (.int .u64 X) from ck_at H8.out.2.2.2.1 5) hSw; have p6 := ck_later (show w8.cell? ⟨_, 6, none⟩ = some (.int .i64 n) from ck_at H8.out.2.2.2.1 6) hSw; have q5 := ck_later (show w8.cell? ⟨_, 5, none⟩ = some (.int .u64 X) from ck_at H8.out.2.2.2.2 5) hSw; have q6 := ck_later (show w8.cell? ⟨_, 6, none⟩ = some (.int .i64 n) from ck_at H8.out.2.2.2.2 6) hSw; go_simp) <;> with_reducible rfl)
    (try simp only [Act.put, List.setIfInBounds_toArray, List.set_cons_zero, List.set_cons_succ])
    refine any_take (i := 10) (v := ?_) rfl (by kernel_rfl) (by kernel_rfl) (by kernel_rfl) (by exact fun _ _ _ h => h) (by rfl) ?_ hS ?_
    rotate_left
    · ((intro w hSw; have p5 := ck_later (show w8.cell? ⟨_, 5, none⟩ = some (.int .u64 X) from ck_at H8.out.2.2.2.1 5) hSw; have p6 := ck_later (show w8.cell? ⟨_, 6, none⟩ = some (.int .i64 n) from ck_at H8.out.2.2.2.1 6) hSw; have q5 := ck_later (show w8.cell? ⟨_, 5, none⟩ = some (.int .u64 X) from ck_at H8.out.2.2.2.2 5) hSw; have q6 := ck_later (show w8.cell? ⟨_, 6, none⟩ = some (.int .i64 n) from ck_at H8.out.2.2.2.2 6) hSw; go_simp) <;> with_reducible rfl)
    (try simp only [Act.put, List.setIfInBounds_toArray, List.set_cons_zero, List.set_cons_succ])
    refine any_take (i := 11) (v := ?_) rfl (by kernel_rfl) (by kernel_rfl) (by kernel_rfl) (by exact fun _ _ _ h => h) (by rfl) ?_ hS ?_
    rotate_left
    · ((intro w hSw; have p5 := ck_later (show w8.cell? ⟨_, 5, none⟩ = some (.int .u64 X) from ck_at H8.out.2.2.2.1 5) hSw; have p6 := ck_later (show w8.cell? ⟨_, 6, none⟩ = some (.int .i64 n) from ck_at H8.out.2.2.2.1 6) hSw; have q5 := ck_later (show w8.cell? ⟨_, 5, none⟩ = some (.int .u64 X) from ck_at H8.out.2.2.2.2 5) hSw; have q6 := ck_later (show w8.cell? ⟨_, 6, none⟩ = some (.int .i64 n) from ck_at H8.out.2.2.2.2 6) hSw; go_simp) <;> with_reducible rfl)
    (try simp only [Act.put, List.setIfInBounds_toArray, List.set_cons_zero, List.set_cons_succ])
    refine any_take (i := 12) (v := ?_) rfl (by kernel_rfl) (by kernel_rfl) (by kernel_rfl) (by exact fun _ _ _ h => h) (by rfl) ?_ hS ?_
    rotate_left
    · ((intro w hSw; have p5 := ck_later (show w8.cell? ⟨_, 5, none⟩ = some (.int .u64 X) from ck_at H8.out.2.2.2.1 5) hSw; have p6 := ck_later (show w8.cell? ⟨_, 6, none⟩ = some (.int .i64 n) from ck_at H8.out.2.2.2.1 6) hSw; have q5 := ck_later (show w8.cell? ⟨_, 5, none⟩ = some (.int .u64 X) from ck_at H8.out.2.2.2.2 5) hSw; have q6 := ck_later (show w8.cell? ⟨_, 6, none⟩ = some (.int .i64 n) from ck_at H8.out.2.2.2.2 6) hSw; go_simp) <;> with_reducible rfl)
    (try simp only [Act.put, List.setIfInBounds_toArray, List.set_cons_zero, List.set_cons_succ])
    refine any_take (i := 13) (v := ?_) rfl (by kernel_rfl) (by kernel_rfl) (by kernel_rfl) (by exact fun _ _ _ h => h) (by rfl) ?_ hS ?_
    rotate_left
    · ((intro w hSw; have p5 := ck_later (show w8.cell? ⟨_, 5, none⟩ = some (.int .u64 X) from ck_at H8.out.2.2.2.1 5) hSw; have p6 := ck_later (show w8.cell? ⟨_, 6, none⟩ = some (.int .i64 n) from ck_at H8.out.2.2.2.1 6) hSw; have q5 := ck_later (show w8.cell? ⟨_, 5, none⟩ = some (.int .u64 X) from ck_at H8.out.2.2.2.2 5) hSw; have q6 := ck_later (show w8.cell? ⟨_, 6, none⟩ = some (.int .i64 n) from ck_at H8.out.2.2.2.2 6) hSw; go_simp) <;> with_reducible rfl)
    (try simp only [Act.put, List.setIfInBounds_toArray, List.set_cons_zero, List.set_cons_succ])
    refine any_take (i := 14) (v := ?_) rfl (by kernel_rfl) (by kernel_rfl) (by kernel_rfl) (by exact fun _ _ _ h => h) (by rfl) ?_ hS ?_
    rotate_left
    · ((intro w hSw; have p5 := ck_later (show w8.cell? ⟨_, 5, none⟩ = some (.int .u64 X) from ck_at H8.out.2.2.2.1 5) hSw; have p6 := ck_later (show w8.cell? ⟨_, 6, none⟩ = some (.int .i64 n) from ck_at H8.out.2.2.2.1 6) hSw; have q5 := ck_later (show w8.cell? ⟨_, 5, none⟩ = some (.int .u64 X) from ck_at H8.out.2.2.2.2 5) hSw; have q6 := ck_later (show w8.cell? ⟨_, 6, none⟩ = some (.int .i64 n) from ck_at H8.out.2.2.2.2 6) hSw; go_simp) <;> with_reducible rfl)
    (try simp only [Act.put, List.setIfInBounds_toArray, List.set_cons_zero, List.set_cons_succ])
    refine any_take (i := 15) (v := ?_) rfl (by kernel_rfl) (by kernel_rfl) (by kernel_rfl) (by exact fun _ _ _ h => h) (by rfl) ?_ hS ?_
    rotate_left
    · ((intro w hSw; have p5 := ck_later (show w8.cell? ⟨_, 5, none⟩ = some (.int .u64 X) from ck_at H8.out.2.2.2.1 5) hSw; have p6 := ck_later (show w8.cell? ⟨_, 6, none⟩ = some (.int .i64 n) from ck_at H8.out.2.2.2.1 6) hSw; have q5 := ck_later (show w8.cell? ⟨_, 5, none⟩ = some (.int .u64 X) from ck_at H8.out.2.2.2.2 5) hSw; have q6 := ck_later (show w8.cell? ⟨_, 6, none⟩ = some (.int .i64 n) from ck_at H8.out.2.2.2.2 6) hSw; go_simp) <;> with_reducible rfl)
    (try simp only [Act.put, List.setIfInBounds_toArray, List.set_cons_zero, List.set_cons_succ])
    refine any_take (i := 16) (v := ?_) rfl (by kernel_rfl) (by kernel_rfl) (by kernel_rfl) (by exact fun _ _ _ h => h) (by rfl) ?_ hS ?_
    rotate_left
    · ((intro w hSw; have p5 := ck_later (show w8.cell? ⟨_, 5, none⟩ = some (.int .u64 X) from ck_at H8.out.2.2.2.1 5) hSw; have p6 := ck_later (show w8.cell? ⟨_, 6, none⟩ = some (.int .i64 n) from ck_at H8.out.2.2.2.1 6) hSw; have q5 := ck_later (show w8.cell? ⟨_, 5, none⟩ = some (.int .u64 X) from ck_at H8.out.2.2.2.2 5) hSw; have q6 := ck_later (show w8.cell? ⟨_, 6, none⟩ = some (.int .i64 n) from ck_at H8.out.2.2.2.2 6) hSw; go_simp) <;> with_reducible rfl)
    (try simp only [Act.put, List.setIfInBounds_toArray, List.set_cons_zero, List.set_cons_succ])
    refine any_take (i := 17) (v := ?_) rfl (by kernel_rfl) (by kernel_rfl) (by kernel_rfl) (by exact fun _ _ _ h => h) (by rfl) ?_ hS ?_
    rotate_left
    · ((intro w hSw; have p5 := ck_later (show w8.cell? ⟨_, 5, none⟩ = some (.int .u64 X) from ck_at H8.out.2.2.2.1 5) hSw; have p6 := ck_later (show w8.cell? ⟨_, 6, none⟩ = some (.int .i64 n) from ck_at H8.out.2.2.2.1 6) hSw; have q5 := ck_later (show w8.cell? ⟨_, 5, none⟩ = some (.int .u64 X) from ck_at H8.out.2.2.2.2 5) hSw; have q6 := ck_later (show w8.cell? ⟨_, 6, none⟩ = some (.int .i64 n) from ck_at H8.out.2.2.2.2 6) hSw; go_simp) <;> with_reducible rfl)
    (try simp only [Act.put, List.setIfInBounds_toArray, List.set_cons_zero, List.set_cons_succ])
    refine any_take (i := 18) (v := ?_) rfl (by kernel_rfl) (by kernel_rfl) (by kernel_rfl) (by exact fun _ _ _ h => h) (by rfl) ?_ hS ?_
    rotate_left
    · ((intro w hSw; have p5 := ck_later (show w8.cell? ⟨_, 5, none⟩ = some (.int .u64 X) from ck_at H8.out.2.2.2.1 5) hSw; have p6 := ck_later (show w8.cell? ⟨_, 6, none⟩ = some (.int .i64 n) from ck_at H8.out.2.2.2.1 6) hSw; have q5 := ck_later (show w8.cell? ⟨_, 5, none⟩ = some (.int .u64 X) from ck_at H8.out.2.2.2.2 5) hSw; have q6 := ck_later (show w8.cell? ⟨_, 6, none⟩ = some (.int .i64 n) from ck_at H8.out.2.2.2.2 6) hSw; go_simp) <;> with_reducible rfl)
    (try simp only [Act.put, List.setIfInBounds_toArray, List.set_cons_zero, List.set_cons_succ])
    refine any_take (i := 19) (v := ?_) rfl (by kernel_rfl) (by kernel_rfl) (by kernel_rfl) (by exact fun _ _ _ h => h) (by rfl) ?_ hS ?_
    rotate_left
    · ((intro w hSw; have p5 := ck_later (show w8.cell? ⟨_, 5, none⟩ = some (.int .u64 X) from ck_at H8.out.2.2.2.1 5) hSw; have p6 := ck_later (show w8.cell? ⟨_, 6, none⟩ = some (.int .i64 n) from ck_at H8.out.2.2.2.1 6) hSw; have q5 := ck_later (show w8.cell? ⟨_, 5, none⟩ = some (.int .u64 X) from ck_at H8.out.2.2.2.2 5) hSw; have q6 := ck_later (show w8.cell? ⟨_, 6, none⟩ = some (.int .i64 n) from ck_at H8.out.2.2.2.2 6) hSw; go_simp) <;> with_reducible rfl)
    (try simp only [Act.put, List.setIfInBounds_toArray, List.set_cons_zero, List.set_cons_succ])
    refine any_take (i := 20) (v := ?_) rfl (by kernel_rfl) (by kernel_rfl) (by kernel_rfl) (by exact fun _ _ _ h => h) (by rfl) ?_ hS ?_
    rotate_left
    · ((intro w hSw; have p5 := ck_later (show w8.cell? ⟨_, 5, none⟩ = some (.int .u64 X) from ck_at H8.out.2.2.2.1 5) hSw; have p6 := ck_later (show w8.cell? ⟨_, 6, none⟩ = some (.int .i64 n) from ck_at H8.out.2.2.2.1 6) hSw; have q5 := ck_later (show w8.cell? ⟨_, 5, none⟩ = some (.int .u64 X) from ck_at H8.out.2.2.2.2 5) hSw; have q6 := ck_later (show w8.cell? ⟨_, 6, none⟩ = some (.int .i64 n) from ck_at H8.out.2.2.2.2 6) hSw; go_simp) <;> with_reducible rfl)
    (try simp only [Act.put, List.setIfInBounds_toArray, List.set_cons_zero, List.set_cons_succ])
    refine any_take (i := 21) (v := ?_) rfl (by kernel_rfl) (by kernel_rfl) (by kernel_rfl) (by exact fun _ _ _ h => h) (by rfl) ?_ hS ?_
    rotate_left
    · ((intro w hSw; have p0 := ck_later (show w8.cell? ⟨_, 0, none⟩ = some (.int .i64 42) from ck_at H8.out.1 0) hSw; have p1 := ck_later (show w8.cell? ⟨_, 1, none⟩ = some (.int .i64 0) from ck_at H8.out.1 1) hSw; have p2 := ck_later (show w8.cell? ⟨_, 2, none⟩ = some (.int .i64 0) from ck_at H8.out.1 2) hSw; have p3 := ck_later (show w8.cell? ⟨_, 3, none⟩ = some (.bool false) from ck_at H8.out.1 3) hSw; have p4 := ck_later (show w8.cell? ⟨_, 4, none⟩ = some (.int .i64 0) from ck_at H8.out.1 4) hSw; have p5 := ck_later (show w8.cell? ⟨_, 5, none⟩ = some (.int .u64 X) from ck_at H8.out.1 5) hSw; have p6 := ck_later (show w8.cell? ⟨_, 6, none⟩ = some (.int .i64 n) from ck_at H8.out.1 6) hSw; have q0 := ck_later (show w8.cell? ⟨_, 0, none⟩ = some (.int .i64 138) from ck_at H8.out.2.1 0) hSw; have q1 := ck_later (show w8.cell? ⟨_, 1, none⟩ = some (.int .i64 0) from ck_at H8.out.2.1 1) hSw; have q2 := ck_later (show w8.cell? ⟨_, 2, none⟩ = some (.int .i64 0) from ck_at H8.out.2.1 2) hSw; have q3 := ck_later (show w8.cell? ⟨_, 3, none⟩ = some (.bool false) from ck_at H8.out.2.1 3) hSw; have q4 := ck_later (show w8.cell? ⟨_, 4, none⟩ = some (.int .i64 0) from ck_at H8.out.2.1 4) hSw; have q5 := ck_later (show w8.cell? ⟨_, 5, none⟩ = some (.int .u64 X) from ck_at H8.out.2.1 5) hSw; have q6 := ck_later (show w8.cell? ⟨_, 6, none⟩ = some (.int .i64 n) from ck_at H8.out.2.1 6) hSw; go_simp) <;> with_reducible rfl)
    (try simp only [Act.put, List.setIfInBounds_toArray, List.set_cons_zero, List.set_cons_succ])
    refine any_take (i := 23) (v := ?_) rfl (by kernel_rfl) (by kernel_rfl) (by kernel_rfl) (by exact fun _ _ _ h => h) (by rfl) ?_ hS ?_
    rotate_left
    · ((intro w hSw; have p0 := ck_later (show w8.cell? ⟨_, 0, none⟩ = some (.int .i64 42) from ck_at H8.out.1 0) hSw; have p1 := ck_later (show w8.cell? ⟨_, 1, none⟩ = some (.int .i64 0) from ck_at H8.out.1 1) hSw; have p2 := ck_later (show w8.cell? ⟨_, 2, none⟩ = some (.int .i64 0) from ck_at H8.out.1 2) hSw; have p3 := ck_later (show w8.cell? ⟨_, 3, none⟩ = some (.bool false) from ck_at H8.out.1 3) hSw; have p4 := ck_later (show w8.cell? ⟨_, 4, none⟩ = some (.int .i64 0) from ck_at H8.out.1 4) hSw; have p5 := ck_later (show w8.cell? ⟨_, 5, none⟩ = some (.int .u64 X) from ck_at H8.out.1 5) hSw; have p6 := ck_later (show w8.cell? ⟨_, 6, none⟩ = some (.int .i64 n) from ck_at H8.out.1 6) hSw; have q0 := ck_later (show w8.cell? ⟨_, 0, none⟩ = some (.int .i64 138) from ck_at H8.out.2.1 0) hSw; have q1 := ck_later (show w8.cell? ⟨_, 1, none⟩ = some (.int .i64 0) from ck_at H8.out.2.1 1) hSw; have q2 := ck_later (show w8.cell? ⟨_, 2, none⟩ = some (.int .i64 0) from ck_at H8.out.2.1 2) hSw; have q3 := ck_later (show w8.cell? ⟨_, 3, none⟩ = some (.bool false) from ck_at H8.out.2.1 3) hSw; have q4 := ck_later (show w8.cell? ⟨_, 4, none⟩ = some (.int .i64 0) from ck_at H8.out.2.1 4) hSw; have q5 := ck_later (show w8.cell? ⟨_, 5, none⟩ = some (.int .u64 X) from ck_at H8.out.2.1 5) hSw; have q6 := ck_later (show w8.cell? ⟨_, 6, none⟩ = some (.int .i64 n) from ck_at H8.out.2.1 6) hSw; go_simp) <;> with_reducible rfl)
    (try simp only [Act.put, List.setIfInBounds_toArray, List.set_cons_zero, List.set_cons_succ])
    refine any_one (i := 22) rfl (by kernel_rfl) (fun K hK => ?_)
    go_simp
    refine (Calls.mono (HI42.out _)) ?_
    rintro e x1 ⟨rfl, hbR⟩
    have B1 : Below w8.heap.size w8 x1 := below_then B0 hbR
    go_wp2_with fail
    refine hK.out _ _ (by first | exact B1 | exact hbR | exact below_then hS hbR) (any_weaken (S' := fun W => Below x1.heap.size x1 W) (fun W hW => by first | exact below_then B1 hW | exact below_then hbR hW | exact below_then (below_then hS hbR) hW) _ _ _ _ ?_)
    clear hK K hS hbR
    have hS : Below x1.heap.size x1 x1 := Below.refl _ _
    refine any_one (i := 24) rfl (by kernel_rfl) (fun K hK => ?_)
    go_simp
    refine (Calls.mono (HI138.out _)) ?_
    rintro e x2 ⟨rfl, hbR⟩
    have B2 : Below w8.heap.size w8 x2 := below_then B1 hbR
    go_wp2_with fail
    refine hK.out _ _ (by first | exact B2 | exact hbR | exact below_then hS hbR) (any_weaken (S' := fun W => Below x2.heap.size x2 W) (fun W hW => by first | exact below_then B2 hW | exact below_then hbR hW | exact below_then (below_then hS hbR) hW) _ _ _ _ ?_)
    clear hK K hS hbR
    have hS : Below x2.heap.size x2 x2 := Below.refl _ _
    refine any_take (i := 25) (v := ?_) rfl (by kernel_rfl) (by kernel_rfl) (by kernel_rfl) (by exact fun _ _ _ h => h) (by rfl) ?_ hS ?_
    rotate_left
    · ((intro w hSw; (try dsimp only at hSw); go_simp) <;> with_reducible rfl)
    (try simp only [Act.put, List.setIfInBounds_toArray, List.set_cons_zero, List.set_cons_succ])
    refine any_take (i := 26) (v := ?_) rfl (by kernel_rfl) (by kernel_rfl) (by kernel_rfl) (by exact fun _ _ _ h => h) (by rfl) ?_ hS ?_
    rotate_left
    · ((intro w hSw; (try dsimp only at hSw); go_simp) <;> with_reducible rfl)
    (try simp only [Act.put, List.setIfInBounds_toArray, List.set_cons_zero, List.set_cons_succ])
    refine any_take (i := 27) (v := ?_) rfl (by kernel_rfl) (by kernel_rfl) (by kernel_rfl) (by exact fun _ _ _ h => h) (by rfl) ?_ hS ?_
    rotate_left
    · ((intro w hSw; (try dsimp only at hSw); go_simp) <;> with_reducible rfl)
    (try simp only [Act.put, List.setIfInBounds_toArray, List.set_cons_zero, List.set_cons_succ])
    refine any_take (i := 28) (v := ?_) rfl (by kernel_rfl) (by kernel_rfl) (by kernel_rfl) (by exact fun _ _ _ h => h) (by rfl) ?_ hS ?_
    rotate_left
    · ((intro w hSw; have p0 := ck_later (show w8.cell? ⟨_, 0, none⟩ = some (.int .i64 42) from ck_at H8.out.1 0) (below_then B2 hSw); have p1 := ck_later (show w8.cell? ⟨_, 1, none⟩ = some (.int .i64 0) from ck_at H8.out.1 1) (below_then B2 hSw); have p2 := ck_later (show w8.cell? ⟨_, 2, none⟩ = some (.int .i64 0) from ck_at H8.out.1 2) (below_then B2 hSw); have p3 := ck_later (show w8.cell? ⟨_, 3, none⟩ = some (.bool false) from ck_at H8.out.1 3) (below_then B2 hSw); have p4 := ck_later (show w8.cell? ⟨_, 4, none⟩ = some (.int .i64 0) from ck_at H8.out.1 4) (below_then B2 hSw); have p5 := ck_later (show w8.cell? ⟨_, 5, none⟩ = some (.int .u64 X) from ck_at H8.out.1 5) (below_then B2 hSw); have p6 := ck_later (show w8.cell? ⟨_, 6, none⟩ = some (.int .i64 n) from ck_at H8.out.1 6) (below_then B2 hSw); have q0 := ck_later (show w8.cell? ⟨_, 0, none⟩ = some (.int .i64 138) from ck_at H8.out.2.1 0) (below_then B2 hSw); have q1 := ck_later (show w8.cell? ⟨_, 1, none⟩ = some (.int .i64 0) from ck_at H8.out.2.1 1) (below_then B2 hSw); have q2 := ck_later (show w8.cell? ⟨_, 2, none⟩ = some (.int .i64 0) from ck_at H8.out.2.1 2) (below_then B2 hSw); have q3 := ck_later (show w8.cell? ⟨_, 3, none⟩ = some (.bool false) from ck_at H8.out.2.1 3) (below_then B2 hSw); have q4 := ck_later (show w8.cell? ⟨_, 4, none⟩ = some (.int .i64 0) from ck_at H8.out.2.1 4) (below_then B2 hSw); have q5 := ck_later (show w8.cell? ⟨_, 5, none⟩ = some (.int .u64 X) from ck_at H8.out.2.1 5) (below_then B2 hSw); have q6 := ck_later (show w8.cell? ⟨_, 6, none⟩ = some (.int .i64 n) from ck_at H8.out.2.1 6) (below_then B2 hSw); go_simp) <;> with_reducible rfl)
    (try simp only [Act.put, List.setIfInBounds_toArray, List.set_cons_zero, List.set_cons_succ])
    refine any_take (i := 30) (v := ?_) rfl (by kernel_rfl) (by kernel_rfl) (by kernel_rfl) (by exact fun _ _ _ h => h) (by rfl) ?_ hS ?_
    rotate_left
    · ((intro w hSw; have p0 := ck_later (show w8.cell? ⟨_, 0, none⟩ = some (.int .i64 42) from ck_at H8.out.1 0) (below_then B2 hSw); have p1 := ck_later (show w8.cell? ⟨_, 1, none⟩ = some (.int .i64 0) from ck_at H8.out.1 1) (below_then B2 hSw); have p2 := ck_later (show w8.cell? ⟨_, 2, none⟩ = some (.int .i64 0) from ck_at H8.out.1 2) (below_then B2 hSw); have p3 := ck_later (show w8.cell? ⟨_, 3, none⟩ = some (.bool false) from ck_at H8.out.1 3) (below_then B2 hSw); have p4 := ck_later (show w8.cell? ⟨_, 4, none⟩ = some (.int .i64 0) from ck_at H8.out.1 4) (below_then B2 hSw); have p5 := ck_later (show w8.cell? ⟨_, 5, none⟩ = some (.int .u64 X) from ck_at H8.out.1 5) (below_then B2 hSw); have p6 := ck_later (show w8.cell? ⟨_, 6, none⟩ = some (.int .i64 n) from ck_at H8.out.1 6) (below_then B2 hSw); have q0 := ck_later (show w8.cell? ⟨_, 0, none⟩ = some (.int .i64 138) from ck_at H8.out.2.1 0) (below_then B2 hSw); have q1 := ck_later (show w8.cell? ⟨_, 1, none⟩ = some (.int .i64 0) from ck_at H8.out.2.1 1) (below_then B2 hSw); have q2 := ck_later (show w8.cell? ⟨_, 2, none⟩ = some (.int .i64 0) from ck_at H8.out.2.1 2) (below_then B2 hSw); have q3 := ck_later (show w8.cell? ⟨_, 3, none⟩ = some (.bool false) from ck_at H8.out.2.1 3) (below_then B2 hSw); have q4 := ck_later (show w8.cell? ⟨_, 4, none⟩ = some (.int .i64 0) from ck_at H8.out.2.1 4) (below_then B2 hSw); have q5 := ck_later (show w8.cell? ⟨_, 5, none⟩ = some (.int .u64 X) from ck_at H8.out.2.1 5) (below_then B2 hSw); have q6 := ck_later (show w8.cell? ⟨_, 6, none⟩ = some (.int .i64 n) from ck_at H8.out.2.1 6) (below_then B2 hSw); go_simp) <;> with_reducible rfl)
    (try simp only [Act.put, List.setIfInBounds_toArray, List.set_cons_zero, List.set_cons_succ])
    refine any_one (i := 29) rfl (by kernel_rfl) (fun K hK => ?_)
    go_simp
    refine (Calls.mono (HO42.out _)) ?_
    rintro e x3 ⟨rfl, hbR⟩
    have B3 : Below w8.heap.size w8 x3 := below_then B2 hbR
    go_wp2_with fail
    refine hK.out _ _ (by first | exact B3 | exact hbR | exact below_then hS hbR) (any_weaken (S' := fun W => Below x3.heap.size x3 W) (fun W hW => by first | exact below_then B3 hW | exact below_then hbR hW | exact below_then (below_then hS hbR) hW) _ _ _ _ ?_)
    clear hK K hS hbR
    have hS : Below x3.heap.size x3 x3 := Below.refl _ _
    refine any_one (i := 31) rfl (by kernel_rfl) (fun K hK => ?_)
    go_simp
    refine (Calls.mono (HO138.out _)) ?_
    rintro e x4 ⟨rfl, hbR⟩
    have B4 : Below w8.heap.size w8 x4 := below_then B3 hbR
    go_wp2_with fail
    refine hK.out _ _ (by first | exact B4 | exact hbR | exact below_then hS hbR) (any_weaken (S' := fun W => Below x4.heap.size x4 W) (fun W hW => by first | exact below_then B4 hW | exact below_then hbR hW | exact below_then (below_then hS hbR) hW) _ _ _ _ ?_)
    clear hK K hS hbR
    have hS : Below x4.heap.size x4 x4 := Below.refl _ _
    refine any_take (i := 32) (v := ?_) rfl (by kernel_rfl) (by kernel_rfl) (by kernel_rfl) (by exact fun _ _ _ h => h) (by rfl) ?_ hS ?_
    rotate_left
    · ((intro w hSw; (try dsimp only at hSw); go_simp) <;> with_reducible rfl)
    (try simp only [Act.put, List.setIfInBounds_toArray, List.set_cons_zero, List.set_cons_succ])
    refine any_take (i := 33) (v := ?_) rfl (by kernel_rfl) (by kernel_rfl) (by kernel_rfl) (by exact fun _ _ _ h => h) (by rfl) ?_ hS ?_
    rotate_left
    · ((intro w hSw; (try dsimp only at hSw); go_simp) <;> with_reducible rfl)
    (try simp only [Act.put, List.setIfInBounds_toArray, List.set_cons_zero, List.set_cons_succ])
    refine any_take (i := 34) (v := ?_) rfl (by kernel_rfl) (by kernel_rfl) (by kernel_rfl) (by exact fun _ _ _ h => h) (by rfl) ?_ hS ?_
    rotate_left
    · ((intro w hSw; (try dsimp only at hSw); go_simp) <;> with_reducible rfl)
    (try simp only [Act.put, List.setIfInBounds_toArray, List.set_cons_zero, List.set_cons_succ])
    refine any_take (i := 35) (v := ?_) rfl (by kernel_rfl) (by kernel_rfl) (by kernel_rfl) (by exact fun _ _ _ h => h) (by rfl) ?_ hS ?_
    rotate_left
    · ((intro w hSw; have p0 := ck_later (show w8.cell? ⟨_, 0, none⟩ = some (.int .i64 42) from ck_at H8.out.1 0) (below_then B4 hSw); have p1 := ck_later (show w8.cell? ⟨_, 1, none⟩ = some (.int .i64 0) from ck_at H8.out.1 1) (below_then B4 hSw); have p2 := ck_later (show w8.cell? ⟨_, 2, none⟩ = some (.int .i64 0) from ck_at H8.out.1 2) (below_then B4 hSw); have p3 := ck_later (show w8.cell? ⟨_, 3, none⟩ = some (.bool false) from ck_at H8.out.1 3) (below_then B4 hSw); have p4 := ck_later (show w8.cell? ⟨_, 4, none⟩ = some (.int .i64 0) from ck_at H8.out.1 4) (below_then B4 hSw); have p5 := ck_later (show w8.cell? ⟨_, 5, none⟩ = some (.int .u64 X) from ck_at H8.out.1 5) (below_then B4 hSw); have p6 := ck_later (show w8.cell? ⟨_, 6, none⟩ = some (.int .i64 n) from ck_at H8.out.1 6) (below_then B4 hSw); have q0 := ck_later (show w8.cell? ⟨_, 0, none⟩ = some (.int .i64 138) from ck_at H8.out.2.1 0) (below_then B4 hSw); have q1 := ck_later (show w8.cell? ⟨_, 1, none⟩ = some (.int .i64 0) from ck_at H8.out.2.1 1) (below_then B4 hSw); have q2 := ck_later (show w8.cell? ⟨_, 2, none⟩ = some (.int .i64 0) from ck_at H8.out.2.1 2) (below_then B4 hSw); have q3 := ck_later (show w8.cell? ⟨_, 3, none⟩ = some (.bool false) from ck_at H8.out.2.1 3) (below_then B4 hSw); have q4 := ck_later (show w8.cell? ⟨_, 4, none⟩ = some (.int .i64 0) from ck_at H8.out.2.1 4) (below_then B4 hSw); have q5 := ck_later (show w8.cell? ⟨_, 5, none⟩ = some (.int .u64 X) from ck_at H8.out.2.1 5) (below_then B4 hSw); have q6 := ck_later (show w8.cell? ⟨_, 6, none⟩ = some (.int .i64 n) from ck_at H8.out.2.1 6) (below_then B4 hSw); go_simp) <;> with_reducible rfl)
    (try simp only [Act.put, List.setIfInBounds_toArray, List.set_cons_zero, List.set_cons_succ])
    refine any_take (i := 37) (v := ?_) rfl (by kernel_rfl) (by kernel_rfl) (by kernel_rfl) (by exact fun _ _ _ h => h) (by rfl) ?_ hS ?_
    rotate_left
    · ((intro w hSw; have p0 := ck_later (show w8.cell? ⟨_, 0, none⟩ = some (.int .i64 42) from ck_at H8.out.1 0) (below_then B4 hSw); have p1 := ck_later (show w8.cell? ⟨_, 1, none⟩ = some (.int .i64 0) from ck_at H8.out.1 1) (below_then B4 hSw); have p2 := ck_later (show w8.cell? ⟨_, 2, none⟩ = some (.int .i64 0) from ck_at H8.out.1 2) (below_then B4 hSw); have p3 := ck_later (show w8.cell? ⟨_, 3, none⟩ = some (.bool false) from ck_at H8.out.1 3) (below_then B4 hSw); have p4 := ck_later (show w8.cell? ⟨_, 4, none⟩ = some (.int .i64 0) from ck_at H8.out.1 4) (below_then B4 hSw); have p5 := ck_later (show w8.cell? ⟨_, 5, none⟩ = some (.int .u64 X) from ck_at H8.out.1 5) (below_then B4 hSw); have p6 := ck_later (show w8.cell? ⟨_, 6, none⟩ = some (.int .i64 n) from ck_at H8.out.1 6) (below_then B4 hSw); have q0 := ck_later (show w8.cell? ⟨_, 0, none⟩ = some (.int .i64 138) from ck_at H8.out.2.1 0) (below_then B4 hSw); have q1 := ck_later (show w8.cell? ⟨_, 1, none⟩ = some (.int .i64 0) from ck_at H8.out.2.1 1) (below_then B4 hSw); have q2 := ck_later (show w8.cell? ⟨_, 2, none⟩ = some (.int .i64 0) from ck_at H8.out.2.1 2) (below_then B4 hSw); have q3 := ck_later (show w8.cell? ⟨_, 3, none⟩ = some (.bool false) from ck_at H8.out.2.1 3) (below_then B4 hSw); have q4 := ck_later (show w8.cell? ⟨_, 4, none⟩ = some (.int .i64 0) from ck_at H8.out.2.1 4) (below_then B4 hSw); have q5 := ck_later (show w8.cell? ⟨_, 5, none⟩ = some (.int .u64 X) from ck_at H8.out.2.1 5) (below_then B4 hSw); have q6 := ck_later (show w8.cell? ⟨_, 6, none⟩ = some (.int .i64 n) from ck_at H8.out.2.1 6) (below_then B4 hSw); go_simp) <;> with_reducible rfl)
    (try simp only [Act.put, List.setIfInBounds_toArray, List.set_cons_zero, List.set_cons_succ])
    refine any_take (i := 40) (v := ?_) rfl (by kernel_rfl) (by kernel_rfl) (by kernel_rfl) (by exact fun _ _ _ h => h) (by rfl) ?_ hS ?_
    rotate_left
    · ((intro w hSw; (try dsimp only at hSw); go_simp) <;> with_reducible rfl)
    (try simp only [Act.put, List.setIfInBounds_toArray, List.set_cons_zero, List.set_cons_succ])
    refine any_take (i := 41) (v := ?_) rfl (by kernel_rfl) (by kernel_rfl) (by kernel_rfl) (by exact fun _ _ _ h => h) (by rfl) ?_ hS ?_
    rotate_left
    · ((intro w hSw; (try dsimp only at hSw); go_simp) <;> with_reducible rfl)
    (try simp only [Act.put, List.setIfInBounds_toArray, List.set_cons_zero, List.set_cons_succ])
    refine any_take (i := 42) (v := ?_) rfl (by kernel_rfl) (by kernel_rfl) (by kernel_rfl) (by exact fun _ _ _ h => h) (by rfl) ?_ hS ?_
    rotate_left
    · ((intro w hSw; (try dsimp only at hSw); go_simp) <;> with_reducible rfl)
    (try simp only [Act.put, List.setIfInBounds_toArray, List.set_cons_zero, List.set_cons_succ])
    refine any_one (i := 36) rfl (by kernel_rfl) (fun K hK => ?_)
    go_simp
    refine (Calls.mono (HI42.out _)) ?_
    rintro e x5 ⟨rfl, hbR⟩
    have B5 : Below w8.heap.size w8 x5 := below_then B4 hbR
    go_wp2_with fail
    refine hK.out _ _ (by first | exact B5 | exact hbR | exact below_then hS hbR) (any_weaken (S' := fun W => Below x5.heap.size x5 W) (fun W hW => by first | exact below_then B5 hW | exact below_then hbR hW | exact below_then (below_then hS hbR) hW) _ _ _ _ ?_)
    clear hK K hS hbR
    have hS : Below x5.heap.size x5 x5 := Below.refl _ _
    refine any_one (i := 38) rfl (by kernel_rfl) (fun K hK => ?_)
    go_simp
    refine (Calls.mono (HO42.out _)) ?_
    rintro e x6 ⟨rfl, hbR⟩
    have B6 : Below w8.heap.size w8 x6 := below_then B5 hbR
    go_wp2_with fail
    refine hK.out _ _ (by first | exact B6 | exact hbR | exact below_then hS hbR) (any_weaken (S' := fun W => Below x6.heap.size x6 W) (fun W hW => by first | exact below_then B6 hW | exact below_then hbR hW | exact below_then (below_then hS hbR) hW) _ _ _ _ ?_)
    clear hK K hS hbR
    have hS : Below x6.heap.size x6 x6 := Below.refl _ _
    refine any_take (i := 39) (v := ?_) rfl (by kernel_rfl) (by kernel_rfl) (by kernel_rfl) (by exact fun _ _ _ h => h) (by rfl) ?_ hS ?_
    rotate_left
    · ((intro w hSw; (try dsimp only at hSw); go_simp) <;> with_reducible rfl)
    (try simp only [Act.put, List.setIfInBounds_toArray, List.set_cons_zero, List.set_cons_succ])
    refine any_take (i := 43) (v := ?_) rfl (by kernel_rfl) (by kernel_rfl) (by kernel_rfl) (by exact fun _ _ _ h => h) (by rfl) ?_ hS ?_
    rotate_left
    · ((intro w hSw; (try dsimp only at hSw); go_simp) <;> with_reducible rfl)
    (try simp only [Act.put, List.setIfInBounds_toArray, List.set_cons_zero, List.set_cons_succ])
    refine any_take (i := 44) (v := ?_) rfl (by kernel_rfl) (by kernel_rfl) (by kernel_rfl) (by exact fun _ _ _ h => h) (by rfl) ?_ hS ?_
    rotate_left
    · ((intro w hSw; (try dsimp only at hSw); go_simp) <;> with_reducible rfl)
    (try simp only [Act.put, List.setIfInBounds_toArray, List.set_cons_zero, List.set_cons_succ])
    refine any_take (i := 45) (v := ?_) rfl (by kernel_rfl) (by kernel_rfl) (by kernel_rfl) (by exact fun _ _ _ h => h) (by rfl) ?_ hS ?_
    rotate_left
    · ((intro w hSw; (try dsimp only at hSw); go_simp) <;> with_reducible rfl)
    (try simp only [Act.put, List.setIfInBounds_toArray, List.set_cons_zero, List.set_cons_succ])
    have K7 : Hid _ := known15_any _ (HT.out _ (below_then H8.out.2.2.1 B6))
    refine any_one (i := 46) rfl (by kernel_rfl) (fun K hK => ?_)
    go_simp
    refine (Calls.mono (K7.out)) ?_
    rintro e x7 ⟨rfl, hbR⟩
    have B7 : Below w8.heap.size w8 x7 := below_then B6 hbR
    clear K7
    go_wp2_with fail
    refine hK.out _ _ (by first | exact B7 | exact hbR | exact below_then hS hbR) (any_weaken (S' := fun W => Below x7.heap.size x7 W) (fun W hW => by first | exact below_then B7 hW | exact below_then hbR hW | exact below_then (below_then hS hbR) hW) _ _ _ _ ?_)
    clear hK K hS hbR
    have hS : Below x7.heap.size x7 x7 := Below.refl _ _
    refine any_take (i := 47) (v := ?_) rfl (by kernel_rfl) (by kernel_rfl) (by kernel_rfl) (by exact fun _ _ _ h => h) (by rfl) ?_ hS ?_
    rotate_left
    · ((intro w hSw; (try dsimp only at hSw); go_simp) <;> with_reducible rfl)
    (try simp only [Act.put, List.setIfInBounds_toArray, List.set_cons_zero, List.set_cons_succ])
    refine any_take (i := 48) (v := ?_) rfl (by kernel_rfl) (by kernel_rfl) (by kernel_rfl) (by exact fun _ _ _ h => h) (by rfl) ?_ hS ?_
    rotate_left
    · ((intro w hSw; (try dsimp only at hSw); go_simp) <;> with_reducible rfl)
    (try simp only [Act.put, List.setIfInBounds_toArray, List.set_cons_zero, List.set_cons_succ])
    refine wpAnyH_done (by kernel_rfl) ?_ _
    have F : Hid _ := below_then H8.out.2.2.1 B7
    clear hS H8
    go_wp2
    go_ret
    exact ⟨rfl, F.out⟩
end Go.Proofs.YteingnaojnbchaaDoor
