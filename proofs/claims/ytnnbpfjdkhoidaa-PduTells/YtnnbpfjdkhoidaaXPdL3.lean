/- The walk of PduTells. -/
import Derived.Test.YtnnbpfjdkhoidaaXPdL2
import Derived.Test.YtnnbpfjdkhoidaaXPdX
import Derived.Test.YtnnbpfjdkhoidaaXSumC
namespace Go.Proofs.Ytnnbpfjdkhoidaa
open Go.RowKit
set_option linter.unusedVariables false
set_option linter.unusedSimpArgs false
set_option maxRecDepth 8000

theorem ownBlk17 {w : World} {base : Nat} {v : Value} {l : List (BitVec 8)} (h : Own w base v l) (hl : 0 < l.length) : ∃ g cap, v = .slice (some ⟨g, 0, none⟩) l.length cap ∧ base ≤ g ∧ g < w.heap.size ∧ l.length ≤ cap := by
  have h0 := h
  obtain ⟨a, cap, rfl, h1, -, -, hn, hx⟩ := h.open
  cases a with
  | none => have := hn rfl; omega
  | some y =>
    obtain ⟨g, rfl, hg⟩ := hx y rfl
    exact ⟨g, cap, rfl, hg, (World.ownsRow.lt h0 g rfl).2, h1⟩
/-- while bits are turned -/
structure TlI (w : World) (bs g BL cap1 : Nat) (P X Q : List (BitVec 8)) (q : Nat) (x : BitVec 32) (k : Nat) (Y : List (BitVec 8)) (wr : World) : Prop where
  tn : TnL X q (Crc.mask x k) Y
  no : Crc.mask x k = 0#32 → Y = X
  own : Own wr bs (.slice (some ⟨g, 0, none⟩) BL cap1) (P ++ (Y ++ Q))
  op : Blk wr (w.heap.size + 1) 29 [.bool true, .bool true, .int .i64 65536]
  be : Below w.heap.size w wr
/-- a written letter in three parts: ahead, the part whose bits are turned, behind -/
structure TlP (inD : Bool) (H d : List (BitVec 8)) (dn lo hi : Nat) (P X Q : List (BitVec 8)) : Prop where
  eq : putB true true H d = P ++ (X ++ Q)
  pl : P.length = lo
  cov : hi ≤ lo + X.length
  len : (putB true true H d).length = lo + X.length + Q.length
  flo : (lo : Int) = if inD = true then 52 else 0
  fup : (hi : Int) = if inD = true then 52 + (dn : Int) else 48
  fhi : lo ≤ hi
  head : inD = false → P = [] ∧ X = H ∧ Q = dgB true H ++ (bdy d ++ dgB (true && decide (0 < d.length)) (bdy d))
  data : inD = true → P = H ++ dgB true H ∧ X = bdy d ∧ Q = dgB (true && decide (0 < d.length)) (bdy d)
theorem tell_parts (inD : Bool) (H d : List (BitVec 8)) (dn : Nat) (hH : H.length = 48) (hd : dn < 16777216) (hdl : d.length = dn) : ∃ lo hi P X Q, TlP inD H d dn lo hi P X Q := by
  cases inD
  · refine ⟨0, 48, [], H, dgB true H ++ (bdy d ++ dgB (true && decide (0 < d.length)) (bdy d)), ⟨by unfold putB; simp, rfl, by omega, by unfold putB; simp, rfl, rfl, by omega, (fun _ => ⟨rfl, rfl, rfl⟩), (fun h => by cases h)⟩⟩
  · have hb := bdy_len d (by omega)
    have hp := pad_body dn hd
    refine ⟨52, 52 + dn, H ++ dgB true H, bdy d, dgB (true && decide (0 < d.length)) (bdy d), ⟨by unfold putB; simp [List.append_assoc], by rw [List.length_append, dgB_len, hH]; rfl, by rw [hb, hdl]; omega, ?_, rfl, by simp, by omega, (fun h => by cases h), fun _ => ⟨rfl, rfl, rfl⟩⟩⟩
    unfold putB
    simp only [List.length_append, dgB_len, hH]
    unfold dgN
    simp
    omega
set_option maxHeartbeats 8000000 in
theorem tellWalk (op fl b2 b3 lun tk w0 w1 w2 w3 w4 w5 w6 : Int) (now : Bool) (dx : Option Addr) (dn dc : Nat) (at' : Int) (x : BitVec 32) (inD : Bool) (d : List (BitVec 8)) (w : World) (hat : -9223372036854775808 ≤ at' ∧ at' ≤ 9223372036854775807) (htw : ∀ t ∈ [tk, w0, w1, w2, w3, w4, w5, w6], 0 ≤ t ∧ t < 4294967296) (hdl : d.length = dn) (hdc : dn ≤ dc) (hdn : dx = none → dc = 0) (hdm : dn ≤ 140737488351232) (hdr : Row w dx d) :
    Calls Try.prog 3 #[.agg #[.int .i64 op, .bool now, .int .i64 fl, .int .i64 b2, .int .i64 b3, .int .u64 lun, .int .u32 tk, .int .u32 w0, .int .u32 w1, .int .u32 w2, .int .u32 w3, .int .u32 w4, .int .u32 w5, .int .u32 w6, .slice dx dn dc], .int .i64 at', .int .u32 (x.toNat : Int), .bool inD] w fun e w' => e = .returned (.bool true) ∧ Below w.heap.size w w' := by
  have b0 : Below w.heap.size w (w.alloc (.cells #[.int .i64 op, .bool now, .int .i64 fl, .int .i64 b2, .int .i64 b3, .int .u64 lun, .int .u32 tk, .int .u32 w0, .int .u32 w1, .int .u32 w2, .int .u32 w3, .int .u32 w4, .int .u32 w5, .int .u32 w6, .slice dx dn dc] 27)) := (Below.refl _ _).alloc (Nat.le_refl _) _
  have N0 := Blk.new' w 27 [.int .i64 op, .bool now, .int .i64 fl, .int .i64 b2, .int .i64 b3, .int .u64 lun, .int .u32 tk, .int .u32 w0, .int .u32 w1, .int .u32 w2, .int .u32 w3, .int .u32 w4, .int .u32 w5, .int .u32 w6, .slice dx dn dc]
  have hz : (w.alloc (.cells #[.int .i64 op, .bool now, .int .i64 fl, .int .i64 b2, .int .i64 b3, .int .u64 lun, .int .u32 tk, .int .u32 w0, .int .u32 w1, .int .u32 w2, .int .u32 w3, .int .u32 w4, .int .u32 w5, .int .u32 w6, .slice dx dn dc] 27)).heap.size = w.heap.size + 1 := by simp
  have b1 : Below (w.alloc (.cells #[.int .i64 op, .bool now, .int .i64 fl, .int .i64 b2, .int .i64 b3, .int .u64 lun, .int .u32 tk, .int .u32 w0, .int .u32 w1, .int .u32 w2, .int .u32 w3, .int .u32 w4, .int .u32 w5, .int .u32 w6, .slice dx dn dc] 27)).heap.size (w.alloc (.cells #[.int .i64 op, .bool now, .int .i64 fl, .int .i64 b2, .int .i64 b3, .int .u64 lun, .int .u32 tk, .int .u32 w0, .int .u32 w1, .int .u32 w2, .int .u32 w3, .int .u32 w4, .int .u32 w5, .int .u32 w6, .slice dx dn dc] 27)) ((w.alloc (.cells #[.int .i64 op, .bool now, .int .i64 fl, .int .i64 b2, .int .i64 b3, .int .u64 lun, .int .u32 tk, .int .u32 w0, .int .u32 w1, .int .u32 w2, .int .u32 w3, .int .u32 w4, .int .u32 w5, .int .u32 w6, .slice dx dn dc] 27)).alloc (.cells #[.bool false, .bool false, .int .i64 0] 29)) := (Below.refl _ _).alloc (Nat.le_refl _) _
  have N1 := Blk.new' (w.alloc (.cells #[.int .i64 op, .bool now, .int .i64 fl, .int .i64 b2, .int .i64 b3, .int .u64 lun, .int .u32 tk, .int .u32 w0, .int .u32 w1, .int .u32 w2, .int .u32 w3, .int .u32 w4, .int .u32 w5, .int .u32 w6, .slice dx dn dc] 27)) 29 [.bool false, .bool false, .int .i64 0]
  rw [hz] at N1
  have N0 := N0.laterB b1
  have bb := below_then b0 b1
  have st := store_all (T := 29) (vs := [.bool true, .bool true, .int .i64 65536]) size_op N1 rfl (fun u hu => by simp at hu; rcases hu with rfl | rfl <;> rfl)
  obtain ⟨B9, g9⟩ := N1.whole (vs := [.bool true, .bool true, .int .i64 65536]) rfl
  have t9 := turned_grown (R := fun k => k = w.heap.size + 1) g9 (fun k hk => by cases hk; rfl)
  have bb9 := bb.trans (t9.below _ bb.size (fun k e => by omega))
  have N9 := N0.turned t9 (by omega)
  obtain ⟨wa, hwa⟩ : ∃ wa, wa = ((w.alloc (.cells #[.int .i64 op, .bool now, .int .i64 fl, .int .i64 b2, .int .i64 b3, .int .u64 lun, .int .u32 tk, .int .u32 w0, .int .u32 w1, .int .u32 w2, .int .u32 w3, .int .u32 w4, .int .u32 w5, .int .u32 w6, .slice dx dn dc] 27)).alloc (.cells #[.bool false, .bool false, .int .i64 0] 29)).setCells (w.heap.size + 1) 0 [.bool true, .bool true, .int .i64 65536] := ⟨_, rfl⟩
  rw [← hwa] at st B9 bb9 N9
  have X : Hid _ := And.intro bb9 (And.intro N9 B9)
  have HR : Hid _ := And.intro (hdr.later bb9) trivial
  clear hwa g9 t9 bb N0 N1 b0 b1 hz B9 N9 bb9 hdr
  go_enter Try.func3, Try.ntmps3
  go_wp2_with (refine wpList_skip rfl (exec_store rfl rfl rfl st) ?_)
  clear st
  refine wp_region_held_drew (S := fun W => Below wa.heap.size wa W) (by kernel_rfl) (Below.refl _ _).drew (fun hS => ?_)
  have B0 : Below wa.heap.size wa wa.drew := (Below.refl _ _).drew
  refine any_take (i := 0) (v := .agg #[.int .i64 op, .bool now, .int .i64 fl, .int .i64 b2, .int .i64 b3, .int .u64 lun, .int .u32 tk, .int .u32 w0, .int .u32 w1, .int .u32 w2, .int .u32 w3, .int .u32 w4, .int .u32 w5, .int .u32 w6, .slice dx dn dc]) rfl (by kernel_rfl) (by kernel_rfl) (by kernel_rfl) (by exact fun _ _ _ h => h) (by rfl) ?_ hS ?_
  · intro W hSW; exact exec_load rfl rfl (load_all size_q agg_q (X.out.2.1.laterB hSW))
  (try simp only [Act.put, List.setIfInBounds_toArray, List.set_cons_zero, List.set_cons_succ])
  refine any_take (i := 2) (v := .agg #[.bool true, .bool true, .int .i64 65536]) rfl (by kernel_rfl) (by kernel_rfl) (by kernel_rfl) (by exact fun _ _ _ h => h) (by rfl) ?_ hS ?_
  · intro W hSW; exact exec_load rfl rfl (load_all size_op agg_op (X.out.2.2.laterB hSW))
  (try simp only [Act.put, List.setIfInBounds_toArray, List.set_cons_zero, List.set_cons_succ])
  refine any_one (i := 1) rfl (by kernel_rfl) (fun K hK => ?_)
  go_simp
  refine (Calls.mono (pgiven_any op fl b2 b3 lun tk w0 w1 w2 w3 w4 w5 w6 now dx dn dc d _ hdl hdc hdn hdm (HR.out.1.later hS))) ?_
  rintro e x1 ⟨zx, zc, rfl, oz, hbR⟩
  have B1 : Below wa.heap.size wa x1 := below_then B0 hbR
  go_wp2_with fail
  refine hK.out _ _ (by first | exact B1 | exact hbR | exact below_then hS hbR) (any_weaken (S' := fun W => Below x1.heap.size x1 W) (fun W hW => by first | exact below_then B1 hW | exact below_then hbR hW | exact below_then (below_then hS hbR) hW) _ _ _ _ ?_)
  clear hK K hS hbR
  have hS : Below x1.heap.size x1 x1 := Below.refl _ _
  obtain ⟨za, zcc, hzz, hz1, -, hz2, hz3, -⟩ := oz.open
  rw [hdl] at hzz
  cases hzz
  rw [hdl] at hz1
  refine any_one (i := 3) rfl (by kernel_rfl) (fun K hK => ?_)
  go_simp
  refine (Calls.mono (pPut_any op fl b2 b3 lun tk w0 w1 w2 w3 w4 w5 w6 now zx dn zc true true 65536 d _ htw hdl hz1 hz3 hz2)) ?_
  rintro e x2 ⟨zb, rfl, ob, hbR⟩
  have B2 : Below wa.heap.size wa x2 := below_then B1 hbR
  go_wp2_with fail
  refine hK.out _ _ (by first | exact B2 | exact hbR | exact below_then hS hbR) (any_weaken (S' := fun W => Below x2.heap.size x2 W) (fun W hW => by first | exact below_then B2 hW | exact below_then hbR hW | exact below_then (below_then hS hbR) hW) _ _ _ _ ?_)
  clear hK K hS hbR
  have hS : Below x2.heap.size x2 x2 := Below.refl _ _
  refine any_take (i := 4) (v := ?_) rfl (by kernel_rfl) (by kernel_rfl) (by kernel_rfl) (by exact fun _ _ _ h => h) (by rfl) ?_ hS ?_
  rotate_left
  · ((intro w hSw; (try dsimp only at hSw); go_simp) <;> with_reducible rfl)
  (try simp only [Act.put, List.setIfInBounds_toArray, List.set_cons_zero, List.set_cons_succ])
  refine any_take (i := 5) (v := ?_) rfl (by kernel_rfl) (by kernel_rfl) (by kernel_rfl) (by exact fun _ _ _ h => h) (by rfl) ?_ hS ?_
  rotate_left
  · ((intro w hSw; (try dsimp only at hSw); go_simp) <;> with_reducible rfl)
  (try simp only [Act.put, List.setIfInBounds_toArray, List.set_cons_zero, List.set_cons_succ])
  refine any_take (i := 6) (v := ?_) rfl (by kernel_rfl) (by kernel_rfl) (by kernel_rfl) (by exact fun _ _ _ h => h) (by rfl) ?_ hS ?_
  rotate_left
  · ((intro w hSw; (try dsimp only at hSw); go_simp) <;> with_reducible rfl)
  (try simp only [Act.put, List.setIfInBounds_toArray, List.set_cons_zero, List.set_cons_succ])
  refine any_take (i := 7) (v := ?_) rfl (by kernel_rfl) (by kernel_rfl) (by kernel_rfl) (by exact fun _ _ _ h => h) (by rfl) ?_ hS ?_
  rotate_left
  · ((intro w hSw; (try dsimp only at hSw); go_simp) <;> with_reducible rfl)
  (try simp only [Act.put, List.setIfInBounds_toArray, List.set_cons_zero, List.set_cons_succ])
  refine any_take (i := 8) (v := ?_) rfl (by kernel_rfl) (by kernel_rfl) (by kernel_rfl) (by exact fun _ _ _ h => h) (by rfl) ?_ hS ?_
  rotate_left
  · ((intro w hSw; (try dsimp only at hSw); go_simp) <;> with_reducible rfl)
  (try simp only [Act.put, List.setIfInBounds_toArray, List.set_cons_zero, List.set_cons_succ])
  refine wpAnyH_done (by kernel_rfl) ?_ _
  have Y : Hid _ := And.intro (below_then X.out.1 B2) (And.intro (X.out.2.1.laterB B2) (And.intro (X.out.2.2.laterB B2) (And.intro ob (X.out.2.2.laterB B1).lt)))
  clear ob oz hz1 hz2 hz3 B0 B1 B2 hS X HR
  have hPE : Hid (∀ E, E = putE 65536 op fl b2 b3 dn → E = 0 → canP op fl b2 b3 = true ∧ (dn : Int) ≤ 65536) := by
    intro E e1 e2
    rw [e1] at e2
    unfold putE at e2
    by_cases hq : (okO 65536 && canP op fl b2 b3) = true
    · rw [if_pos hq] at e2
      by_cases hm : (65536 : Int) < (dn : Int)
      · rw [if_pos hm] at e2; cases e2
      · have := Bool.and_eq_true_iff.1 hq; exact ⟨this.2, by omega⟩
    · rw [if_neg hq] at e2; cases e2
  obtain ⟨E, hE⟩ : ∃ E, E = putE 65536 op fl b2 b3 dn := ⟨_, rfl⟩
  rw [← hE] at Y ⊢
  have HE : Hid _ := hE
  clear hE
  by_cases h0 : E = 0
  · subst h0
    obtain ⟨hcp, hsz⟩ := hPE.out 0 HE.out rfl
    obtain ⟨q0, -⟩ := canP_of hcp
    have Y1 := Y.out.2.2.2.1
    rw [if_pos rfl] at Y1
    have hbt := pdH_bytes op now fl b2 b3 dn lun tk w0 w1 w2 w3 w4 w5 w6 q0 (by omega)
    have hHl := pdH_len op now fl b2 b3 dn lun tk w0 w1 w2 w3 w4 w5 w6
    have hHc := pdH_cnt op now fl b2 b3 dn lun tk w0 w1 w2 w3 w4 w5 w6 (by omega)
    obtain ⟨H, hH⟩ : ∃ H, H = pdH op now fl b2 b3 dn lun tk w0 w1 w2 w3 w4 w5 w6 := ⟨_, rfl⟩
    rw [← hH] at Y1 hbt hHl hHc
    clear hH
    have HK : HdOk17 H d 65536 := ⟨hHl, by rw [hHc, hdl], hbt.2.1, hbt.1, by rw [hdl]; exact hsz, by omega⟩
    have hBl := putB_len true true H d (by omega)
    rw [hHl, hdl, show dgN true = 4 from rfl] at hBl
    have hpb := pad_body dn (by omega)
    have hbd := bdy_len d (by omega)
    rw [hdl] at hbd
    have hdg := dgN_le (true && decide (0 < dn))
    obtain ⟨g, cap1, hv, hg1, hg2, hc1⟩ := ownBlk17 Y1 (by omega)
    subst hv
    obtain ⟨BL, hBL⟩ : ∃ BL, BL = (putB true true H d).length := ⟨_, rfl⟩
    rw [← hBL] at hBl hc1 ⊢
    have y14 := blk_at Y.out.2.1 14
    simp only [List.getElem?_cons_zero, List.getElem?_cons_succ] at y14
    have F : Hid _ := And.intro Y.out.1 (And.intro Y.out.2.2.1 (And.intro Y1 (And.intro HK (And.intro hBL (And.intro Y.out.2.2.2.2 hg1)))))
    have HB : Hid _ := And.intro hBl (And.intro hpb (And.intro hbd hdg))
    clear Y Y1 hPE HE hbt hcp q0 HK hBL hg1 hHc
    obtain ⟨lo, hi, P, X, Q, hPX⟩ : ∃ lo hi P X Q, TlP inD H d dn lo hi P X Q := tell_parts inD H d dn hHl (by omega) hdl
    have hhi := hPX.fhi
    have hBLh : hi ≤ BL ∧ BL ≤ 131072 := by have h1 := HB.out; have h2 := hPX.len; rw [← F.out.2.2.2.2.1] at h2; have h3 := hPX.cov; omega
    have y14' := y14
    have HX : Hid _ := hPX
    have hdn3 : (dn : Int) ≤ 65536 := by omega
    have hdn4 : -9223372036854775808 ≤ (52 : Int) + (dn : Int) ∧ (52 : Int) + (dn : Int) ≤ 9223372036854775807 := by omega
    have HQ : Hid _ := And.intro hHl (And.intro hdl (And.intro hhi (And.intro hBLh hat)))
    clear hHl hdl hhi hat hsz hpb hbd hdg hBl hdc hdn hdm htw hPX
    go_upto_if 33 with fail
    go_cut [12, 13] from 34 to 145 (fun a b wx => a = .int .i64 (lo : Int) ∧ b = .int .i64 (hi : Int) ∧ wx = x2)
    case first =>
      have h1 := HX.out.flo
      have h2 := HX.out.fup
      cases inD
      · go_wp2
        go_meet
        exact ⟨by rw [h1]; rfl, by rw [h2]; rfl, rfl⟩
      · go_wp2
        go_meet
        exact ⟨by rw [h1]; rfl, by rw [h2]; simp, rfl⟩
    case rest =>
    obtain ⟨rfl, rfl, hwx⟩ := hcut
    obtain rfl := hwx.symm
    clear hwx y14 y14' hdn3 hdn4
    have l1 : ¬ (BL : Int) < (hi : Int) := by have := HQ.out.2.2.2.1; omega
    have l3 : (hi : Int) ≤ (BL : Int) := by omega
    by_cases hlh : lo = hi
    · subst hlh
      have FF : Hid _ := F.out.1
      have HKn : Hid _ := known17_any x2
      clear F HB HX HQ
      go_wp2_with fail
      refine (Calls.mono HKn.out) ?_
      rintro e w8 ⟨rfl, b8⟩
      have F8 : Hid _ := below_then FF.out b8
      clear b8 HKn FF
      go_wp2
      go_ret
      exact ⟨by first | rfl | simp, F8.out⟩
    have l2 : ¬ (lo : Int) = (hi : Int) := by omega
    have hlo : lo < hi := by have := HQ.out.2.2.1; omega
    have hB1 := HQ.out.2.2.2.1
    have e1 : ((hi : Int) - (lo : Int)) = ((hi - lo : Nat) : Int) := by omega
    have e2 : 8 * ((hi - lo : Nat) : Int) = ((8 * (hi - lo) : Nat) : Int) := by omega
    have HC : Hid _ := ct_any at' (8 * (hi - lo)) x2 HQ.out.2.2.2.2 (by omega) (by omega)
    rw [← e2, ← e1] at HC
    have v1 : -9223372036854775808 ≤ 8 * (lo : Int) ∧ 8 * (lo : Int) ≤ 9223372036854775807 := by omega
    have v2 : -9223372036854775808 ≤ (hi : Int) - (lo : Int) ∧ (hi : Int) - (lo : Int) ≤ 9223372036854775807 := by omega
    have v3 : -9223372036854775808 ≤ 8 * ((hi : Int) - (lo : Int)) ∧ 8 * ((hi : Int) - (lo : Int)) ≤ 9223372036854775807 := by omega
    have HE : Hid _ := And.intro hlh (And.intro hlo hB1)
    clear e1 e2 hlh hlo hB1
    go_wp2_with fail
    refine (Calls.mono HC.out) ?_
    rintro e w' ⟨q, rfl, hq, hw'⟩
    obtain rfl := hw'
    clear HC v1 v2 v3
    have v4 : -9223372036854775808 ≤ 8 * (lo : Int) + (q : Int) ∧ 8 * (lo : Int) + (q : Int) ≤ 9223372036854775807 := by have := HE.out.2; omega
    have O0 := F.out.2.2.1
    rw [← F.out.2.2.2.2.1, HX.out.eq] at O0
    have hLn := HX.out.len
    have S0 : Hid _ := (⟨TnL.start X q, (fun _ => rfl), O0, F.out.2.1, F.out.1⟩ : TlI w x1.heap.size g BL cap1 P X Q q x 0 X x2)
    have eT0 : 8 * (lo : Int) + (q : Int) = ((8 * lo + q : Nat) : Int) := by omega
    have eT : Hid _ := eT0
    clear eT0
    have hT : 8 * P.length + q = 8 * lo + q := by rw [HX.out.pl]
    have hTX : q < 8 * (hi - lo) := hq
    have HT : Hid _ := And.intro hT (And.intro hTX (And.intro HX.out.cov (And.intro HX.out.pl hLn)))
    have HBL : Hid _ := F.out.2.2.2.2.1
    have HBL : Hid _ := And.intro F.out.2.2.2.2.1 (And.intro F.out.2.2.2.1 F.out.2.2.2.2.2)
    have qh0 : ((8 * lo + q : Nat) : Int) ≤ 10000000 := by have := HE.out.2; omega
    have HQh : Hid _ := qh0
    clear qh0
    have hhT : 8 * lo + q < 8 * hi := by have := HE.out.2; omega
    have HhT : Hid _ := hhT
    clear O0 hLn hT hTX hq F hhT
    go_wp2_with fail
    rw [eT.out]
    clear eT v4
    generalize hTT : 8 * lo + q = T at *
    clear hTT
    have qh := HQh.out
    go_loopw [14, 15] (fun av iv wr => ∃ (k : Nat) (Y : List (BitVec 8)), k ≤ 32 ∧ iv = .int .i64 k ∧ av = .bool (!decide (Crc.mask x k = 0#32)) ∧ TlI w x1.heap.size g BL cap1 P X Q q x k Y wr) (fun _ iv _ => 32 - (intOf iv).toNat)
    case atStart => exact ⟨0, X, by omega, rfl, rfl, S0.out⟩
    case round =>
      obtain ⟨k, Y, hk, rfl, rfl, hI⟩ := hrel
      clear S0
      have hbl := HE.out.2.2
      have hYl : (P ++ (Y ++ Q)).length = BL := by have h1 := HBL.out.1; rw [h1, HT.out.2.2.2.2, List.length_append, List.length_append, hI.tn.len, HT.out.2.2.2.1]; omega
      by_cases hlt : k < 32 ∧ T + k < 8 * hi
      · obtain ⟨hlt, hlt2⟩ := hlt
        have q0 : (T : Int) + (k : Int) < 8 * (hi : Int) := by omega
        have q1 : (k : Int) < 32 := by omega
        have q2 : ((T : Int) + (k : Int)) / 8 < (BL : Int) := by omega
        have hb32 := bit32t x k
        cases hb : x.getLsbD k with
        | false =>
          rw [hb] at hb32
          simp only [Bool.false_eq_true, if_false] at hb32
          have R : Hid _ := (⟨by rw [Crc.mask_no x k hb]; exact hI.tn, by rw [Crc.mask_no x k hb]; exact hI.no, hI.own, hI.op, hI.be⟩ : TlI w x1.heap.size g BL cap1 P X Q q x (k + 1) Y wr)
          have RM : Hid _ := Crc.mask_no x k hb
          clear hI hYl hb hbl
          go_wp2
          go_roundw
          case rel => exact ⟨k + 1, Y, by omega, by go_num, by rw [RM.out], R.out⟩
          case measure => simp [intOf]; omega
        | true =>
          rw [hb] at hb32
          simp only [if_true] at hb32
          have hin : q + k < 8 * X.length := by have h1 := HT.out.1; have h2 := HT.out.2.2.1; have h3 := HT.out.2.2.2.1; omega
          have ho2 : wr.ownsRow x1.heap.size 5 1 (.slice (some ⟨g, 0, none⟩) BL cap1) BL (vals (P ++ (Y ++ Q))) := by have := hI.own; unfold Own at this; rw [hYl] at this; exact this
          have hc := World.ownsRow.cellAt ho2 ((T + k) / 8) (by omega)
          rw [vals_at _ _ (by omega)] at hc
          have hf := World.ownsRow.frozenAt ho2 ((T + k) / 8)
          have hbd := bt_bd (P ++ (Y ++ Q)) ((T + k) / 8)
          have R0 := World.ownsRow.stored ho2 ((T + k) / 8) (.int .u8 (((P ++ (Y ++ Q)).getD ((T + k) / 8) 0#8 ^^^ (1#8 <<< ((T + k) % 8))).toNat : Int))
          have hsm := set_mid P Y Q q k (by rw [hI.tn.len]; exact hin)
          rw [HT.out.1] at hsm
          have tnn := hI.tn.turn hlt hin
          rw [← Crc.mask_yes x k hb] at tnn
          rw [vals_set7, hsm, ← turn_val7] at R0
          have hnb : ¬ Crc.mask x (k + 1) = 0#32 := Crc.mask_any x k hlt hb
          have hgo : w.heap.size + 1 < x1.heap.size ∧ x1.heap.size ≤ g := by have := HBL.out.2.2; omega
          have hYl2 : (P ++ (Y.set ((q + k) / 8) (Y.getD ((q + k) / 8) 0#8 ^^^ (1#8 <<< ((q + k) % 8))) ++ Q)).length = BL := by rw [← hYl]; simp
          have R : Hid _ := (⟨tnn, fun e => absurd e hnb, by unfold Own; rw [hYl2]; exact R0.1, hI.op.turned (turned_grown (R := fun k => k = g) R0.2 (fun k e => by cases e; rfl)) (by omega), hI.be.grown R0.2 hI.be.size (by intro k' hk'; cases hk'; omega)⟩ : TlI w x1.heap.size g BL cap1 P X Q q x (k + 1) _ _)
          have RN : Hid _ := hnb
          clear hI hYl ho2 R0 hsm tnn hnb hgo hYl2 hin hb hbl
          go_wp2
          go_roundw
          case rel => exact ⟨k + 1, _, by omega, by go_num, by rw [decide_eq_false RN.out]; rfl, R.out⟩
          case measure => simp [intOf]; omega
      · have hstop : ¬ (k : Int) < 32 ∨ ((k : Int) < 32 ∧ ¬ ((T : Int) + (k : Int) < 8 * (hi : Int))) := by omega
        have o0 := blk_at hI.op 0
        have o1 := blk_at hI.op 1
        have o2 := blk_at hI.op 2
        simp only [List.getElem?_cons_zero, List.getElem?_cons_succ] at o0 o1 o2
        have HN : Hid _ := pNew_yes true true 65536 wr (by decide)
        have HI : Hid _ := And.intro hI hYl
        have HMK : Hid _ := (rfl : Crc.mask x k = Crc.mask x k)
        clear hI hYl hlt hbl
        generalize hmk : Crc.mask x k = mk at HMK ⊢
        have HM2 : Hid _ := hmk
        clear hmk
        rcases hstop with hstop | ⟨hst1, hstop⟩
        · cases hmz : decide (mk = 0#32)
          · have hnz : ¬ mk = 0#32 := of_decide_eq_false hmz
            cases inD
            · go_wp2_with fail
              refine (Calls.mono HN.out) ?_
              rintro e u1 ⟨rg, rfl, hrg, R1, b1⟩
              have own1 := HI.out.1.own.later b1
              obtain ⟨av, cv, hv, hcv, -, hrow, hnil, -⟩ := own1.open
              rw [HI.out.2] at hv hcv
              rw [Value.slice.injEq] at hv
              obtain ⟨rfl, -, rfl⟩ := hv
              have hbl := HE.out.2.2
              have HFd : Hid _ := pFeed_yes rg none true true 65536 [] u1 _ BL _ _ R1 (by simp) HI.out.2 hrow hnil hcv (by omega) (by simp; omega)
              have J1 : Hid _ := And.intro (below_then HI.out.1.be b1) (Nat.le_trans HI.out.1.be.size hrg)
              clear R1 b1 own1 hrow HN hrg o0 o1 o2 hnil hcv hbl
              go_wp2_with fail
              refine (Calls.mono HFd.out) ?_
              rintro e u2 ⟨rfl, q2, R2, S2⟩
              rw [List.nil_append] at R2
              have hbw := HI.out.1.be.size
              obtain ⟨B2, N2⟩ := S2.below w.heap.size J1.out.1.size J1.out.2 (fun k e => by cases e)
              have J2 : Hid _ := And.intro (J1.out.1.trans B2) N2
              have HNx : Hid _ := pNext_any rg q2 true true 65536 _ u2 R2 (by rw [HI.out.2]; have := HE.out.2.2; omega)
              clear S2 R2 HFd B2 N2 hbw
              go_wp2_with fail
              refine (Calls.mono HNx.out) ?_
              rintro e u3 N3
              obtain ⟨e1, e2, e3⟩ := HX.out.head rfl
              have hwk : wkM true true 65536 (P ++ (Y ++ Q)) = (12, false) := by have htn := HI.out.1.tn; rw [HM2.out] at htn; rw [e1, e3, List.nil_append]; subst e2; exact head_turned true 65536 htn HQ.out.1 hnz
              obtain ⟨rfl, R3, S3⟩ := N3.die (by rw [hwk]) (by rw [hwk]; decide)
              have hw1 : (wkM true true 65536 (P ++ (Y ++ Q))).1 = 12 := by rw [hwk]
              rw [hw1]
              obtain ⟨B3, -⟩ := S3.below w.heap.size J2.out.1.size J1.out.2 J2.out.2
              obtain ⟨u4, st, -, b4⟩ := newP u3 zP rfl zP_one
              have F : Hid _ := below_then (J2.out.1.trans B3) b4
              have HDd : Hid _ := pDead_any rg none true true 65536 [] true u4 (R3.later b4)
              unfold zP at st
              clear N3 HNx R3 S3 B3 hwk hw1 e1 e2 e3 J1 J2 HI
              go_wp2_with (refine wpList_skip rfl (exec_store rfl rfl rfl st) ?_)
              clear st
              go_wp2_with fail
              refine (Calls.mono HDd.out) ?_
              rintro e u5 ⟨rfl, hu5⟩
              obtain rfl := hu5.symm
              clear hu5 HDd
              go_wp2_with fail
              refine (Calls.mono (known17_any _)) ?_
              rintro e u9 ⟨rfl, b9⟩
              have F9 : Hid _ := below_then F.out b9
              clear b9 F
              go_wp2
              go_ret
              exact ⟨by first | rfl | simp, F9.out⟩
            · go_wp2_with fail
              refine (Calls.mono HN.out) ?_
              rintro e u1 ⟨rg, rfl, hrg, R1, b1⟩
              have own1 := HI.out.1.own.later b1
              obtain ⟨av, cv, hv, hcv, -, hrow, hnil, -⟩ := own1.open
              rw [HI.out.2] at hv hcv
              rw [Value.slice.injEq] at hv
              obtain ⟨rfl, -, rfl⟩ := hv
              have hbl := HE.out.2.2
              have HFd : Hid _ := pFeed_yes rg none true true 65536 [] u1 _ BL _ _ R1 (by simp) HI.out.2 hrow hnil hcv (by omega) (by simp; omega)
              have J1 : Hid _ := And.intro (below_then HI.out.1.be b1) (Nat.le_trans HI.out.1.be.size hrg)
              clear R1 b1 own1 hrow HN hrg o0 o1 o2 hnil hcv hbl
              go_wp2_with fail
              refine (Calls.mono HFd.out) ?_
              rintro e u2 ⟨rfl, q2, R2, S2⟩
              rw [List.nil_append] at R2
              have hbw := HI.out.1.be.size
              obtain ⟨B2, N2⟩ := S2.below w.heap.size J1.out.1.size J1.out.2 (fun k e => by cases e)
              have J2 : Hid _ := And.intro (J1.out.1.trans B2) N2
              have HNx : Hid _ := pNext_any rg q2 true true 65536 _ u2 R2 (by rw [HI.out.2]; have := HE.out.2.2; omega)
              clear S2 R2 HFd B2 N2 hbw
              go_wp2_with fail
              refine (Calls.mono HNx.out) ?_
              rintro e u3 N3
              obtain ⟨e1, e2, e3⟩ := HX.out.data rfl
              have hd0 : 0 < d.length := by have h1 := HX.out.flo; have h2 := HX.out.fup; have h3 := HQ.out.2.1; have h4 := HE.out.2.1; simp at h1 h2; omega
              have hwk := (show wkM true true 65536 (P ++ (Y ++ Q)) = (12, true) from by have htn := HI.out.1.tn; rw [HM2.out] at htn; rw [e1, e3, List.append_assoc, decide_eq_true hd0]; subst e2; exact data_turned 65536 HBL.out.2.1 htn hd0 hnz)
              obtain ⟨z, q3, rfl, oz, -, R3, S3⟩ := N3.tell (by rw [hwk])
              have hw1 : (wkM true true 65536 (P ++ (Y ++ Q))).1 = 12 := by rw [hwk]
              rw [hw1]
              obtain ⟨B3, -⟩ := S3.below w.heap.size J2.out.1.size J1.out.2 J2.out.2
              obtain ⟨az, cz, hz9, -⟩ := oz.open
              clear oz
              generalize hnz9 : (if (wkM true true 65536 (P ++ (Y ++ Q))).1 = 0 then _ else _ : List (BitVec 8)).length = nz at hz9
              clear hnz9
              subst hz9
              obtain ⟨u4, st, -, b4⟩ := newP u3 (pdV (lH (P ++ (Y ++ Q))) (.slice az nz cz)) rfl (pdV_one _ _ rfl)
              have F : Hid _ := below_then (J2.out.1.trans B3) b4
              have HDd : Hid _ := pDead_any rg q3 true true 65536 _ false u4 (R3.later b4)
              clear N3 HNx R3 S3 B3 hwk hw1 e1 e2 e3 J1 J2 HI hd0
              go_wp2_with (refine wpList_skip rfl (exec_store rfl rfl rfl st) ?_)
              clear st
              go_wp2_with fail
              refine (Calls.mono HDd.out) ?_
              rintro e u5 ⟨rfl, hu5⟩
              obtain rfl := hu5.symm
              clear hu5 HDd
              go_wp2_with fail
              refine (Calls.mono (known17_any _)) ?_
              rintro e u9 ⟨rfl, b9⟩
              have F9 : Hid _ := below_then F.out b9
              clear b9 F
              go_wp2
              go_ret
              exact ⟨by first | rfl | simp, F9.out⟩
          · go_wp2_with fail
            refine (Calls.mono HN.out) ?_
            rintro e u1 ⟨rg, rfl, hrg, R1, b1⟩
            have own1 := HI.out.1.own.later b1
            obtain ⟨av, cv, hv, hcv, -, hrow, hnil, -⟩ := own1.open
            rw [HI.out.2] at hv hcv
            rw [Value.slice.injEq] at hv
            obtain ⟨rfl, -, rfl⟩ := hv
            have hbl := HE.out.2.2
            have HFd : Hid _ := pFeed_yes rg none true true 65536 [] u1 _ BL _ _ R1 (by simp) HI.out.2 hrow hnil hcv (by omega) (by simp; omega)
            have J1 : Hid _ := And.intro (below_then HI.out.1.be b1) (Nat.le_trans HI.out.1.be.size hrg)
            clear R1 b1 own1 hrow HN hrg o0 o1 o2 hnil hcv hbl
            go_wp2_with fail
            refine (Calls.mono HFd.out) ?_
            rintro e u2 ⟨rfl, q2, R2, S2⟩
            rw [List.nil_append] at R2
            have hbw := HI.out.1.be.size
            obtain ⟨B2, N2⟩ := S2.below w.heap.size J1.out.1.size J1.out.2 (fun k e => by cases e)
            have J2 : Hid _ := And.intro (J1.out.1.trans B2) N2
            have HNx : Hid _ := pNext_any rg q2 true true 65536 _ u2 R2 (by rw [HI.out.2]; have := HE.out.2.2; omega)
            clear S2 R2 HFd B2 N2 hbw
            go_wp2_with fail
            refine (Calls.mono HNx.out) ?_
            rintro e u3 N3
            have hY : Y = X := HI.out.1.no (by rw [HM2.out]; exact of_decide_eq_true hmz)
            have hwk := (show wkM true true 65536 (P ++ (Y ++ Q)) = (0, true) from by rw [hY, ← HX.out.eq]; have := put_whole true true H d [] 65536 HBL.out.2.1; rw [List.append_nil] at this; exact this)
            obtain ⟨z, q3, rfl, oz, -, R3, S3⟩ := N3.tell (by rw [hwk])
            have hw1 : (wkM true true 65536 (P ++ (Y ++ Q))).1 = 0 := by rw [hwk]
            rw [hw1]
            obtain ⟨B3, -⟩ := S3.below w.heap.size J2.out.1.size J1.out.2 J2.out.2
            obtain ⟨az, cz, hz9, -⟩ := oz.open
            clear oz
            generalize hnz9 : (if (wkM true true 65536 (P ++ (Y ++ Q))).1 = 0 then _ else _ : List (BitVec 8)).length = nz at hz9
            clear hnz9
            subst hz9
            obtain ⟨u4, st, -, b4⟩ := newP u3 (pdV (lH (P ++ (Y ++ Q))) (.slice az nz cz)) rfl (pdV_one _ _ rfl)
            have F : Hid _ := below_then (J2.out.1.trans B3) b4
            clear N3 HNx R3 S3 B3 hwk hw1 hY J1 J2 HI
            go_wp2_with (refine wpList_skip rfl (exec_store rfl rfl rfl st) ?_)
            clear st
            go_wp2_with fail
            refine (Calls.mono (known17_any _)) ?_
            rintro e u9 ⟨rfl, b9⟩
            have F9 : Hid _ := below_then F.out b9
            clear b9 F
            go_wp2
            go_ret
            exact ⟨by first | rfl | simp, F9.out⟩
        · cases hmz : decide (mk = 0#32)
          · have hnz : ¬ mk = 0#32 := of_decide_eq_false hmz
            cases inD
            · go_wp2_with fail
              refine (Calls.mono HN.out) ?_
              rintro e u1 ⟨rg, rfl, hrg, R1, b1⟩
              have own1 := HI.out.1.own.later b1
              obtain ⟨av, cv, hv, hcv, -, hrow, hnil, -⟩ := own1.open
              rw [HI.out.2] at hv hcv
              rw [Value.slice.injEq] at hv
              obtain ⟨rfl, -, rfl⟩ := hv
              have hbl := HE.out.2.2
              have HFd : Hid _ := pFeed_yes rg none true true 65536 [] u1 _ BL _ _ R1 (by simp) HI.out.2 hrow hnil hcv (by omega) (by simp; omega)
              have J1 : Hid _ := And.intro (below_then HI.out.1.be b1) (Nat.le_trans HI.out.1.be.size hrg)
              clear R1 b1 own1 hrow HN hrg o0 o1 o2 hnil hcv hbl
              go_wp2_with fail
              refine (Calls.mono HFd.out) ?_
              rintro e u2 ⟨rfl, q2, R2, S2⟩
              rw [List.nil_append] at R2
              have hbw := HI.out.1.be.size
              obtain ⟨B2, N2⟩ := S2.below w.heap.size J1.out.1.size J1.out.2 (fun k e => by cases e)
              have J2 : Hid _ := And.intro (J1.out.1.trans B2) N2
              have HNx : Hid _ := pNext_any rg q2 true true 65536 _ u2 R2 (by rw [HI.out.2]; have := HE.out.2.2; omega)
              clear S2 R2 HFd B2 N2 hbw
              go_wp2_with fail
              refine (Calls.mono HNx.out) ?_
              rintro e u3 N3
              obtain ⟨e1, e2, e3⟩ := HX.out.head rfl
              have hwk : wkM true true 65536 (P ++ (Y ++ Q)) = (12, false) := by have htn := HI.out.1.tn; rw [HM2.out] at htn; rw [e1, e3, List.nil_append]; subst e2; exact head_turned true 65536 htn HQ.out.1 hnz
              obtain ⟨rfl, R3, S3⟩ := N3.die (by rw [hwk]) (by rw [hwk]; decide)
              have hw1 : (wkM true true 65536 (P ++ (Y ++ Q))).1 = 12 := by rw [hwk]
              rw [hw1]
              obtain ⟨B3, -⟩ := S3.below w.heap.size J2.out.1.size J1.out.2 J2.out.2
              obtain ⟨u4, st, -, b4⟩ := newP u3 zP rfl zP_one
              have F : Hid _ := below_then (J2.out.1.trans B3) b4
              have HDd : Hid _ := pDead_any rg none true true 65536 [] true u4 (R3.later b4)
              unfold zP at st
              clear N3 HNx R3 S3 B3 hwk hw1 e1 e2 e3 J1 J2 HI
              go_wp2_with (refine wpList_skip rfl (exec_store rfl rfl rfl st) ?_)
              clear st
              go_wp2_with fail
              refine (Calls.mono HDd.out) ?_
              rintro e u5 ⟨rfl, hu5⟩
              obtain rfl := hu5.symm
              clear hu5 HDd
              go_wp2_with fail
              refine (Calls.mono (known17_any _)) ?_
              rintro e u9 ⟨rfl, b9⟩
              have F9 : Hid _ := below_then F.out b9
              clear b9 F
              go_wp2
              go_ret
              exact ⟨by first | rfl | simp, F9.out⟩
            · go_wp2_with fail
              refine (Calls.mono HN.out) ?_
              rintro e u1 ⟨rg, rfl, hrg, R1, b1⟩
              have own1 := HI.out.1.own.later b1
              obtain ⟨av, cv, hv, hcv, -, hrow, hnil, -⟩ := own1.open
              rw [HI.out.2] at hv hcv
              rw [Value.slice.injEq] at hv
              obtain ⟨rfl, -, rfl⟩ := hv
              have hbl := HE.out.2.2
              have HFd : Hid _ := pFeed_yes rg none true true 65536 [] u1 _ BL _ _ R1 (by simp) HI.out.2 hrow hnil hcv (by omega) (by simp; omega)
              have J1 : Hid _ := And.intro (below_then HI.out.1.be b1) (Nat.le_trans HI.out.1.be.size hrg)
              clear R1 b1 own1 hrow HN hrg o0 o1 o2 hnil hcv hbl
              go_wp2_with fail
              refine (Calls.mono HFd.out) ?_
              rintro e u2 ⟨rfl, q2, R2, S2⟩
              rw [List.nil_append] at R2
              have hbw := HI.out.1.be.size
              obtain ⟨B2, N2⟩ := S2.below w.heap.size J1.out.1.size J1.out.2 (fun k e => by cases e)
              have J2 : Hid _ := And.intro (J1.out.1.trans B2) N2
              have HNx : Hid _ := pNext_any rg q2 true true 65536 _ u2 R2 (by rw [HI.out.2]; have := HE.out.2.2; omega)
              clear S2 R2 HFd B2 N2 hbw
              go_wp2_with fail
              refine (Calls.mono HNx.out) ?_
              rintro e u3 N3
              obtain ⟨e1, e2, e3⟩ := HX.out.data rfl
              have hd0 : 0 < d.length := by have h1 := HX.out.flo; have h2 := HX.out.fup; have h3 := HQ.out.2.1; have h4 := HE.out.2.1; simp at h1 h2; omega
              have hwk := (show wkM true true 65536 (P ++ (Y ++ Q)) = (12, true) from by have htn := HI.out.1.tn; rw [HM2.out] at htn; rw [e1, e3, List.append_assoc, decide_eq_true hd0]; subst e2; exact data_turned 65536 HBL.out.2.1 htn hd0 hnz)
              obtain ⟨z, q3, rfl, oz, -, R3, S3⟩ := N3.tell (by rw [hwk])
              have hw1 : (wkM true true 65536 (P ++ (Y ++ Q))).1 = 12 := by rw [hwk]
              rw [hw1]
              obtain ⟨B3, -⟩ := S3.below w.heap.size J2.out.1.size J1.out.2 J2.out.2
              obtain ⟨az, cz, hz9, -⟩ := oz.open
              clear oz
              generalize hnz9 : (if (wkM true true 65536 (P ++ (Y ++ Q))).1 = 0 then _ else _ : List (BitVec 8)).length = nz at hz9
              clear hnz9
              subst hz9
              obtain ⟨u4, st, -, b4⟩ := newP u3 (pdV (lH (P ++ (Y ++ Q))) (.slice az nz cz)) rfl (pdV_one _ _ rfl)
              have F : Hid _ := below_then (J2.out.1.trans B3) b4
              have HDd : Hid _ := pDead_any rg q3 true true 65536 _ false u4 (R3.later b4)
              clear N3 HNx R3 S3 B3 hwk hw1 e1 e2 e3 J1 J2 HI hd0
              go_wp2_with (refine wpList_skip rfl (exec_store rfl rfl rfl st) ?_)
              clear st
              go_wp2_with fail
              refine (Calls.mono HDd.out) ?_
              rintro e u5 ⟨rfl, hu5⟩
              obtain rfl := hu5.symm
              clear hu5 HDd
              go_wp2_with fail
              refine (Calls.mono (known17_any _)) ?_
              rintro e u9 ⟨rfl, b9⟩
              have F9 : Hid _ := below_then F.out b9
              clear b9 F
              go_wp2
              go_ret
              exact ⟨by first | rfl | simp, F9.out⟩
          · go_wp2_with fail
            refine (Calls.mono HN.out) ?_
            rintro e u1 ⟨rg, rfl, hrg, R1, b1⟩
            have own1 := HI.out.1.own.later b1
            obtain ⟨av, cv, hv, hcv, -, hrow, hnil, -⟩ := own1.open
            rw [HI.out.2] at hv hcv
            rw [Value.slice.injEq] at hv
            obtain ⟨rfl, -, rfl⟩ := hv
            have hbl := HE.out.2.2
            have HFd : Hid _ := pFeed_yes rg none true true 65536 [] u1 _ BL _ _ R1 (by simp) HI.out.2 hrow hnil hcv (by omega) (by simp; omega)
            have J1 : Hid _ := And.intro (below_then HI.out.1.be b1) (Nat.le_trans HI.out.1.be.size hrg)
            clear R1 b1 own1 hrow HN hrg o0 o1 o2 hnil hcv hbl
            go_wp2_with fail
            refine (Calls.mono HFd.out) ?_
            rintro e u2 ⟨rfl, q2, R2, S2⟩
            rw [List.nil_append] at R2
            have hbw := HI.out.1.be.size
            obtain ⟨B2, N2⟩ := S2.below w.heap.size J1.out.1.size J1.out.2 (fun k e => by cases e)
            have J2 : Hid _ := And.intro (J1.out.1.trans B2) N2
            have HNx : Hid _ := pNext_any rg q2 true true 65536 _ u2 R2 (by rw [HI.out.2]; have := HE.out.2.2; omega)
            clear S2 R2 HFd B2 N2 hbw
            go_wp2_with fail
            refine (Calls.mono HNx.out) ?_
            rintro e u3 N3
            have hY : Y = X := HI.out.1.no (by rw [HM2.out]; exact of_decide_eq_true hmz)
            have hwk := (show wkM true true 65536 (P ++ (Y ++ Q)) = (0, true) from by rw [hY, ← HX.out.eq]; have := put_whole true true H d [] 65536 HBL.out.2.1; rw [List.append_nil] at this; exact this)
            obtain ⟨z, q3, rfl, oz, -, R3, S3⟩ := N3.tell (by rw [hwk])
            have hw1 : (wkM true true 65536 (P ++ (Y ++ Q))).1 = 0 := by rw [hwk]
            rw [hw1]
            obtain ⟨B3, -⟩ := S3.below w.heap.size J2.out.1.size J1.out.2 J2.out.2
            obtain ⟨az, cz, hz9, -⟩ := oz.open
            clear oz
            generalize hnz9 : (if (wkM true true 65536 (P ++ (Y ++ Q))).1 = 0 then _ else _ : List (BitVec 8)).length = nz at hz9
            clear hnz9
            subst hz9
            obtain ⟨u4, st, -, b4⟩ := newP u3 (pdV (lH (P ++ (Y ++ Q))) (.slice az nz cz)) rfl (pdV_one _ _ rfl)
            have F : Hid _ := below_then (J2.out.1.trans B3) b4
            clear N3 HNx R3 S3 B3 hwk hw1 hY J1 J2 HI
            go_wp2_with (refine wpList_skip rfl (exec_store rfl rfl rfl st) ?_)
            clear st
            go_wp2_with fail
            refine (Calls.mono (known17_any _)) ?_
            rintro e u9 ⟨rfl, b9⟩
            have F9 : Hid _ := below_then F.out b9
            clear b9 F
            go_wp2
            go_ret
            exact ⟨by first | rfl | simp, F9.out⟩
  · have F : Hid _ := Y.out.1
    have HK : Hid _ := known17_any x2
    clear Y hPE HE
    go_wp2_with fail
    refine (Calls.mono HK.out) ?_
    rintro e x4 ⟨rfl, b4⟩
    have F4 : Hid _ := below_then F.out b4
    clear b4 HK F
    go_wp2
    go_ret
    exact ⟨by first | rfl | simp, F4.out⟩
theorem pduTells_walk (c0 : Int) (c1 : Bool) (c2 c3 c4 : Int) (c5 : BitVec 64) (c6 c7_0 c7_1 c7_2 c7_3 c7_4 c7_5 c7_6 : BitVec 32) (c8 : List (BitVec 8)) (c8x : Option Addr) (c8c : Nat) (at' : Int) (x : BitVec 32) (inD : Bool) (w : World) (B0 : I64 c0 ∧ I64 c2 ∧ I64 c3 ∧ I64 c4 ∧ DatOk w c8x c8 c8c) (B1 : I64 at') :
    Calls Try.prog 3 #[.agg #[.int .i64 c0, .bool c1, .int .i64 c2, .int .i64 c3, .int .i64 c4, .int .u64 (c5.toNat : Int), .int .u32 (c6.toNat : Int), .int .u32 (c7_0.toNat : Int), .int .u32 (c7_1.toNat : Int), .int .u32 (c7_2.toNat : Int), .int .u32 (c7_3.toNat : Int), .int .u32 (c7_4.toNat : Int), .int .u32 (c7_5.toNat : Int), .int .u32 (c7_6.toNat : Int), .slice c8x c8.length c8c], .int .i64 at', .int .u32 (x.toNat : Int), .bool inD] w fun e w' => e = .returned (.bool true) ∧ Below w.heap.size w w' := by
  have D := B0.2.2.2.2
  have h32 : ∀ x : BitVec 32, 0 ≤ (x.toNat : Int) ∧ (x.toNat : Int) < 4294967296 := fun x => by have := x.isLt; omega
  exact tellWalk c0 c2 c3 c4 (c5.toNat : Int) (c6.toNat : Int) (c7_0.toNat : Int) (c7_1.toNat : Int) (c7_2.toNat : Int) (c7_3.toNat : Int) (c7_4.toNat : Int) (c7_5.toNat : Int) (c7_6.toNat : Int) c1 c8x c8.length c8c at' x inD c8 w B1 (by intro t ht; simp only [List.mem_cons, List.mem_nil_iff, or_false] at ht; rcases ht with rfl | rfl | rfl | rfl | rfl | rfl | rfl | rfl <;> exact h32 _) rfl D.le D.nil D.most D.row
end Go.Proofs.Ytnnbpfjdkhoidaa

