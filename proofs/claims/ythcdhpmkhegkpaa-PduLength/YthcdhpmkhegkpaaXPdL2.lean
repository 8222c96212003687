/- The walk of PduLength. -/
import Derived.Test.YthcdhpmkhegkpaaXPdG
import Derived.Test.YthcdhpmkhegkpaaXPdP
import Derived.Test.YthcdhpmkhegkpaaXPdA
namespace Go.Proofs.Ythcdhpmkhegkpaa
open Go.RowKit
set_option linter.unusedVariables false
set_option linter.unusedSimpArgs false
set_option maxRecDepth 8000

theorem agg_q (w : World) : (isAgg 27).run Try.prog w = .ok true w := agg_of Try.underlying27 rfl w
theorem size_o29 : (Try.prog.info? 29).map (·.size) = some 3 := by kernel_rfl
theorem agg_o29 (w : World) : (isAgg 29).run Try.prog w = .ok true w := agg_of Try.underlying29 rfl w
set_option maxHeartbeats 8000000 in
theorem lenWalk (op fl b2 b3 lun tk w0 w1 w2 w3 w4 w5 w6 : Int) (now : Bool) (dx : Option Addr) (dn dc : Nat) (hs ds : Bool) (mo : Int) (d : List (BitVec 8)) (w : World) (htw : ∀ t ∈ [tk, w0, w1, w2, w3, w4, w5, w6], 0 ≤ t ∧ t < 4294967296) (hdl : d.length = dn) (hdc : dn ≤ dc) (hdn : dx = none → dc = 0) (hdm : dn ≤ 140737488351232) (hdr : Row w dx d) :
    Calls Try.prog 8 #[.agg #[.int .i64 op, .bool now, .int .i64 fl, .int .i64 b2, .int .i64 b3, .int .u64 lun, .int .u32 tk, .int .u32 w0, .int .u32 w1, .int .u32 w2, .int .u32 w3, .int .u32 w4, .int .u32 w5, .int .u32 w6, .slice dx dn dc], .agg #[.bool hs, .bool ds, .int .i64 mo]] w fun e w' => e = .returned (.bool true) ∧ Below w.heap.size w w' := by
  have b0 : Below w.heap.size w (w.alloc (.cells #[.int .i64 op, .bool now, .int .i64 fl, .int .i64 b2, .int .i64 b3, .int .u64 lun, .int .u32 tk, .int .u32 w0, .int .u32 w1, .int .u32 w2, .int .u32 w3, .int .u32 w4, .int .u32 w5, .int .u32 w6, .slice dx dn dc] 27)) := (Below.refl _ _).alloc (Nat.le_refl _) _
  have N0 := Blk.new' w 27 [.int .i64 op, .bool now, .int .i64 fl, .int .i64 b2, .int .i64 b3, .int .u64 lun, .int .u32 tk, .int .u32 w0, .int .u32 w1, .int .u32 w2, .int .u32 w3, .int .u32 w4, .int .u32 w5, .int .u32 w6, .slice dx dn dc]
  have hz : (w.alloc (.cells #[.int .i64 op, .bool now, .int .i64 fl, .int .i64 b2, .int .i64 b3, .int .u64 lun, .int .u32 tk, .int .u32 w0, .int .u32 w1, .int .u32 w2, .int .u32 w3, .int .u32 w4, .int .u32 w5, .int .u32 w6, .slice dx dn dc] 27)).heap.size = w.heap.size + 1 := by simp
  have b1 : Below (w.alloc (.cells #[.int .i64 op, .bool now, .int .i64 fl, .int .i64 b2, .int .i64 b3, .int .u64 lun, .int .u32 tk, .int .u32 w0, .int .u32 w1, .int .u32 w2, .int .u32 w3, .int .u32 w4, .int .u32 w5, .int .u32 w6, .slice dx dn dc] 27)).heap.size (w.alloc (.cells #[.int .i64 op, .bool now, .int .i64 fl, .int .i64 b2, .int .i64 b3, .int .u64 lun, .int .u32 tk, .int .u32 w0, .int .u32 w1, .int .u32 w2, .int .u32 w3, .int .u32 w4, .int .u32 w5, .int .u32 w6, .slice dx dn dc] 27)) ((w.alloc (.cells #[.int .i64 op, .bool now, .int .i64 fl, .int .i64 b2, .int .i64 b3, .int .u64 lun, .int .u32 tk, .int .u32 w0, .int .u32 w1, .int .u32 w2, .int .u32 w3, .int .u32 w4, .int .u32 w5, .int .u32 w6, .slice dx dn dc] 27)).alloc (.cells #[.bool hs, .bool ds, .int .i64 mo] 29)) := (Below.refl _ _).alloc (Nat.le_refl _) _
  have N1 := Blk.new' (w.alloc (.cells #[.int .i64 op, .bool now, .int .i64 fl, .int .i64 b2, .int .i64 b3, .int .u64 lun, .int .u32 tk, .int .u32 w0, .int .u32 w1, .int .u32 w2, .int .u32 w3, .int .u32 w4, .int .u32 w5, .int .u32 w6, .slice dx dn dc] 27)) 29 [.bool hs, .bool ds, .int .i64 mo]
  rw [hz] at N1
  have N0 := N0.laterB b1
  have bb := below_then b0 b1
  have X : Hid _ := And.intro bb (And.intro N0 N1)
  have HR : Hid _ := And.intro (hdr.later bb) trivial
  clear b0 N0 hz b1 N1 bb hdr
  go_enter Try.func8, Try.ntmps8
  go_wp2_with fail
  generalize ((w.alloc (.cells #[.int .i64 op, .bool now, .int .i64 fl, .int .i64 b2, .int .i64 b3, .int .u64 lun, .int .u32 tk, .int .u32 w0, .int .u32 w1, .int .u32 w2, .int .u32 w3, .int .u32 w4, .int .u32 w5, .int .u32 w6, .slice dx dn dc] 27)).alloc (.cells #[.bool hs, .bool ds, .int .i64 mo] 29)) = wa at *
  refine wp_region_held_drew (S := fun W => Below wa.heap.size wa W) (by kernel_rfl) (Below.refl _ _).drew (fun hS => ?_)
  have B0 : Below wa.heap.size wa wa.drew := (Below.refl _ _).drew
  refine any_take (i := 0) (v := .agg #[.int .i64 op, .bool now, .int .i64 fl, .int .i64 b2, .int .i64 b3, .int .u64 lun, .int .u32 tk, .int .u32 w0, .int .u32 w1, .int .u32 w2, .int .u32 w3, .int .u32 w4, .int .u32 w5, .int .u32 w6, .slice dx dn dc]) rfl (by kernel_rfl) (by kernel_rfl) (by kernel_rfl) (by exact fun _ _ _ h => h) (by rfl) ?_ hS ?_
  · intro W hSW; exact exec_load rfl rfl (load_all size_q agg_q (X.out.2.1.laterB hSW))
  (try simp only [Act.put, List.setIfInBounds_toArray, List.set_cons_zero, List.set_cons_succ])
  refine any_take (i := 2) (v := .agg #[.bool hs, .bool ds, .int .i64 mo]) rfl (by kernel_rfl) (by kernel_rfl) (by kernel_rfl) (by exact fun _ _ _ h => h) (by rfl) ?_ hS ?_
  · intro W hSW; exact exec_load rfl rfl (load_all size_o29 agg_o29 (X.out.2.2.laterB hSW))
  (try simp only [Act.put, List.setIfInBounds_toArray, List.set_cons_zero, List.set_cons_succ])
  refine any_one (i := 1) rfl (by kernel_rfl) (fun K hK => ?_)
  go_simp
  refine (Calls.mono (pgiven_any op fl b2 b3 lun tk w0 w1 w2 w3 w4 w5 w6 now dx dn dc d _ hdl hdc hdn hdm (HR.out.1.later hS))) ?_
  rintro e x1 ⟨zx, zc, rfl, oz, hbR⟩
  have B1 : Below wa.heap.size wa x1 := below_then B0 hbR
  go_wp2_with fail
  refine hK.out _ _ (by first | exact B1 | exact hbR | exact below_then hS hbR) (any_weaken (S' := fun W => Below x1.heap.size x1 W) (fun W hW => by first | exact below_then B1 hW | exact below_then hbR hW | exact below_then (below_then hS hbR) hW) _ _ _ _ ?_)
  clear hK K hS hbR
  have hS : Below x1.heap.size x1 x1 := Below.refl _ _
  refine any_one (i := 3) rfl (by kernel_rfl) (fun K hK => ?_)
  go_simp
  refine (Calls.mono (popts_any hs ds mo _)) ?_
  rintro e x2 ⟨rfl, hbR⟩
  have oz := oz.later hbR
  have B2 : Below wa.heap.size wa x2 := below_then B1 hbR
  go_wp2_with fail
  refine hK.out _ _ (by first | exact B2 | exact hbR | exact below_then hS hbR) (any_weaken (S' := fun W => Below x2.heap.size x2 W) (fun W hW => by first | exact below_then B2 hW | exact below_then hbR hW | exact below_then (below_then hS hbR) hW) _ _ _ _ ?_)
  clear hK K hS hbR
  have hS : Below x2.heap.size x2 x2 := Below.refl _ _
  obtain ⟨za, zcc, hzz, hz1, -, hz2, hz3, -⟩ := oz.open
  rw [hdl] at hzz
  cases hzz
  rw [hdl] at hz1
  refine any_one (i := 4) rfl (by kernel_rfl) (fun K hK => ?_)
  go_simp
  refine (Calls.mono (pPut_any op fl b2 b3 lun tk w0 w1 w2 w3 w4 w5 w6 now zx dn zc hs ds mo d _ htw hdl hz1 hz3 hz2)) ?_
  rintro e x3 ⟨zb, rfl, ob, hbR⟩
  have B3 : Below wa.heap.size wa x3 := below_then B2 hbR
  go_wp2_with fail
  refine hK.out _ _ (by first | exact B3 | exact hbR | exact below_then hS hbR) (any_weaken (S' := fun W => Below x3.heap.size x3 W) (fun W hW => by first | exact below_then B3 hW | exact below_then hbR hW | exact below_then (below_then hS hbR) hW) _ _ _ _ ?_)
  clear hK K hS hbR
  have hS : Below x3.heap.size x3 x3 := Below.refl _ _
  refine any_take (i := 5) (v := ?_) rfl (by kernel_rfl) (by kernel_rfl) (by kernel_rfl) (by exact fun _ _ _ h => h) (by rfl) ?_ hS ?_
  rotate_left
  · ((intro w hSw; (try dsimp only at hSw); go_simp) <;> with_reducible rfl)
  (try simp only [Act.put, List.setIfInBounds_toArray, List.set_cons_zero, List.set_cons_succ])
  refine any_take (i := 6) (v := ?_) rfl (by kernel_rfl) (by kernel_rfl) (by kernel_rfl) (by exact fun _ _ _ h => h) (by rfl) ?_ hS ?_
  rotate_left
  · ((intro w hSw; (try dsimp only at hSw); go_simp) <;> with_reducible rfl)
  (try simp only [Act.put, List.setIfInBounds_toArray, List.set_cons_zero, List.set_cons_succ])
  refine any_take (i := 7) (v := ?_) rfl (by kernel_rfl) (by kernel_rfl) (by kernel_rfl) (by exact fun _ _ _ h => h) (by rfl) ?_ hS ?_
  rotate_left
  · ((intro w hSw; (try dsimp only at hSw); go_simp) <;> with_reducible rfl)
  (try simp only [Act.put, List.setIfInBounds_toArray, List.set_cons_zero, List.set_cons_succ])
  refine any_take (i := 8) (v := ?_) rfl (by kernel_rfl) (by kernel_rfl) (by kernel_rfl) (by exact fun _ _ _ h => h) (by rfl) ?_ hS ?_
  rotate_left
  · ((intro w hSw; (try dsimp only at hSw); go_simp) <;> with_reducible rfl)
  (try simp only [Act.put, List.setIfInBounds_toArray, List.set_cons_zero, List.set_cons_succ])
  refine any_take (i := 9) (v := ?_) rfl (by kernel_rfl) (by kernel_rfl) (by kernel_rfl) (by exact fun _ _ _ h => h) (by rfl) ?_ hS ?_
  rotate_left
  · ((intro w hSw; (try dsimp only at hSw); go_simp) <;> with_reducible rfl)
  (try simp only [Act.put, List.setIfInBounds_toArray, List.set_cons_zero, List.set_cons_succ])
  refine wpAnyH_done (by kernel_rfl) ?_ _
  have Y : Hid _ := And.intro (below_then X.out.1 B3) (And.intro (X.out.2.1.laterB B3) (And.intro (X.out.2.2.laterB B3) ob))
  clear ob oz hz1 hz2 hz3 B0 B1 B2 B3 hS X HR
  have hPE : Hid (∀ E, E = putE mo op fl b2 b3 dn → E = 0 → okO mo = true ∧ canP op fl b2 b3 = true ∧ (dn : Int) ≤ mo) := by
    intro E e1 e2
    rw [e1] at e2
    unfold putE at e2
    by_cases hq : (okO mo && canP op fl b2 b3) = true
    · rw [if_pos hq] at e2
      by_cases hm : mo < (dn : Int)
      · rw [if_pos hm] at e2; cases e2
      · have := Bool.and_eq_true_iff.1 hq; exact ⟨this.1, this.2, by omega⟩
    · rw [if_neg hq] at e2; cases e2
  obtain ⟨E, hE⟩ : ∃ E, E = putE mo op fl b2 b3 dn := ⟨_, rfl⟩
  rw [← hE] at Y ⊢
  have HE : Hid _ := hE
  clear hE
  by_cases h0 : E = 0
  · subst h0
    obtain ⟨ho, hcp, hsz⟩ := hPE.out 0 HE.out rfl
    obtain ⟨q0, -⟩ := canP_of hcp
    have hmo : 48 ≤ mo ∧ mo ≤ 65536 := of_decide_eq_true ho
    have Y1 := Y.out.2.2.2
    rw [if_pos rfl] at Y1
    have hbt := pdH_bytes op now fl b2 b3 dn lun tk w0 w1 w2 w3 w4 w5 w6 q0 (by omega)
    have hHl := pdH_len op now fl b2 b3 dn lun tk w0 w1 w2 w3 w4 w5 w6
    obtain ⟨H, hH⟩ : ∃ H, H = pdH op now fl b2 b3 dn lun tk w0 w1 w2 w3 w4 w5 w6 := ⟨_, rfl⟩
    rw [← hH] at Y1 hbt hHl
    clear hH
    have hBl := putB_len hs ds H d (by omega)
    have a0 := putB_at hs ds H d 0 (by omega)
    have a4 := putB_at hs ds H d 4 (by omega)
    have a5 := putB_at hs ds H d 5 (by omega)
    have a6 := putB_at hs ds H d 6 (by omega)
    have a7 := putB_at hs ds H d 7 (by omega)
    rw [← a0, ← a4, ← a5, ← a6, ← a7] at hbt
    clear a0 a4 a5 a6 a7
    rw [hHl, hdl] at hBl
    obtain ⟨B, hB⟩ : ∃ B, B = putB hs ds H d := ⟨_, rfl⟩
    rw [← hB] at Y1 hbt hBl
    clear hB hHl
    obtain ⟨ba, bc, hb, hb1, -, hb2, -, -⟩ := Y1.open
    subst hb
    obtain ⟨bz, oo, rfl, hcz⟩ : ∃ b off, ba = some ⟨b, off, none⟩ ∧ ∀ i, i < B.length → x3.cell? ⟨b, off + i, none⟩ = some (.int .u8 (bt B i)) := by
      rcases hb2 with q | ⟨b, off, q1, q2⟩
      · rw [q] at hBl; simp at hBl; omega
      · exact ⟨b, off, q1, q2⟩
    have hL48 : 48 ≤ B.length := by omega
    have k0 := hcz 0 (by omega)
    have k4 := hcz 4 (by omega)
    have k5 := hcz 5 (by omega)
    have k6 := hcz 6 (by omega)
    have k7 := hcz 7 (by omega)
    simp only [Nat.add_zero] at k0
    have e0 := bt_lt B 0
    have e5 := bt_lt B 5
    have e6 := bt_lt B 6
    have e7 := bt_lt B 7
    rw [hbt.2.1] at k4
    obtain ⟨hlt, -, hsum⟩ := hbt
    generalize bt B 0 = t0 at *
    generalize bt B 5 = t5 at *
    generalize bt B 6 = t6 at *
    generalize bt B 7 = t7 at *
    generalize B.length = BL at *
    have y14 := blk_at Y.out.2.1 14
    have o0 := blk_at Y.out.2.2.1 0
    have o1 := blk_at Y.out.2.2.1 1
    simp only [List.getElem?_cons_zero, List.getElem?_cons_succ] at y14 o0 o1
    have F : Hid _ := Y.out.1
    have KC : Hid _ := And.intro k0 (And.intro k4 (And.intro k5 (And.intro k6 k7)))
    have HS : Hid _ := And.intro hlt (And.intro hsum (And.intro e0 (And.intro e5 (And.intro e6 (And.intro e7 hBl)))))
    clear Y Y1 hPE HE hb2 hcz k0 k4 k5 k6 k7 hlt hsum e0 e5 e6 e7 hBl ho hcp q0
    have hpb := pad_body dn (by omega)
    have HP : Hid _ := hpb
    clear hpb
    have v1 : IntKind.i64.wrap ((48 : Int) + (dn : Int)) = ((48 + dn : Nat) : Int) := by rw [IntKind.wrap_i64]; omega
    have HB4 : Hid (bodyN dn % 4 = 0) := by have : bodyN dn % 4 = 0 := (by unfold bodyN; omega); exact this
    go_wp2_with fail
    clear v1
    go_loopw [7] (fun nv wr => ∃ n : Nat, nv = .int .i64 (n : Int) ∧ 48 + dn ≤ n ∧ n ≤ 48 + bodyN dn ∧ wr = x3) (fun nv _ => 48 + bodyN dn - (intOf nv).toNat)
    case atStart => exact ⟨48 + dn, rfl, Nat.le_refl _, by have := HP.out.2.1; omega, rfl⟩
    case round =>
      obtain ⟨n, rfl, hn1, hn2, hwr⟩ := hrel
      obtain rfl := hwr.symm
      have hpl := HP.out.2.2
      have hb4 := HB4.out
      have r1 : Int.tmod (n : Int) 4 = ((n % 4 : Nat) : Int) := by rw [Int.tmod_eq_emod_of_nonneg (by omega)]; omega
      by_cases h4 : n % 4 = 0
      · obtain rfl : n = 48 + bodyN dn := by omega
        have r2 : ((48 + bodyN dn) % 4 : Nat) = 0 := h4
        rw [h4] at r1
        clear r2 hn1 hn2
        obtain ⟨NN, hNN⟩ : ∃ NN : Nat, NN = 48 + bodyN dn := ⟨_, rfl⟩
        rw [← hNN] at r1 ⊢
        have HNN : Hid _ := hNN
        clear hNN h4 hb4
        have hNB : NN ≤ 70000 := by have := HNN.out; omega
        have HC : Hid (∀ W, Below x3.heap.size x3 W → W.cell? ⟨bz, oo, none⟩ = some (.int .u8 t0) ∧ W.cell? ⟨bz, oo + 4, none⟩ = some (.int .u8 0) ∧ W.cell? ⟨bz, oo + 5, none⟩ = some (.int .u8 t5) ∧ W.cell? ⟨bz, oo + 6, none⟩ = some (.int .u8 t6) ∧ W.cell? ⟨bz, oo + 7, none⟩ = some (.int .u8 t7) ∧ W.cell? ⟨w.heap.size, 14, none⟩ = some (.slice dx dn dc)) := fun W hb => ⟨cell_on hb KC.out.1, cell_on hb KC.out.2.1, cell_on hb KC.out.2.2.1, cell_on hb KC.out.2.2.2.1, cell_on hb KC.out.2.2.2.2, cell_on hb y14⟩
        obtain ⟨hlt, hsum, e0, e5, e6, e7, -⟩ := HS.out
        have s1 : IntKind.i64.wrap (t5 * 65536) = t5 * 65536 := by rw [IntKind.wrap_i64]; omega
        have s2 : IntKind.i64.wrap (t6 * 256) = t6 * 256 := by rw [IntKind.wrap_i64]; omega
        have s3 : IntKind.i64.wrap (t5 * 65536 + t6 * 256) = t5 * 65536 + t6 * 256 := by rw [IntKind.wrap_i64]; omega
        have s4 : IntKind.i64.wrap (t5 * 65536 + t6 * 256 + t7) = (dn : Int) := by rw [hsum, IntKind.wrap_i64]; omega
        have c5 : IntKind.i64.wrap t5 = t5 := by rw [IntKind.wrap_i64]; omega
        have c6 : IntKind.i64.wrap t6 = t6 := by rw [IntKind.wrap_i64]; omega
        have c7 : IntKind.i64.wrap t7 = t7 := by rw [IntKind.wrap_i64]; omega
        have i0 : 0 < BL := by omega
        have i4 : (4 : Int) < (BL : Int) := by omega
        have i5 : (5 : Int) < (BL : Int) := by omega
        have i6 : (6 : Int) < (BL : Int) := by omega
        have i7 : (7 : Int) < (BL : Int) := by omega
        clear hsum e0 e5 e6 e7
        cases hs
        · cases ds
          · have HDS : Hid (decide (0 < dn) = decide (0 < dn)) := rfl
            have hBL : BL = NN + 0 := by have := HS.out.2.2.2.2.2.2; have := HNN.out; simp only [dgN, HDS.out, Bool.true_and, Bool.false_and, if_true, if_false, Bool.false_eq_true] at *; omega
            simp only [Nat.add_zero] at hBL
            subst hBL
            go_wp2_with fail
            clear o0 o1 y14 r1
            refine wp_region_held_drew (S := fun W => Below x3.heap.size x3 W) (by kernel_rfl) (Below.refl _ _).drew (fun hS => ?_)
            have B0 : Below x3.heap.size x3 x3.drew := (Below.refl _ _).drew
            refine any_take (i := 0) (v := ?_) rfl (by kernel_rfl) (by kernel_rfl) (by kernel_rfl) (by exact fun _ _ _ h => h) (by rfl) ?_ hS ?_
            rotate_left
            · ((intro w hSw; obtain ⟨k0, k4, k5, k6, k7, y14⟩ := HC.out _ hSw; go_simp) <;> with_reducible rfl)
            (try simp only [Act.put, List.setIfInBounds_toArray, List.set_cons_zero, List.set_cons_succ])
            refine any_take (i := 1) (v := ?_) rfl (by kernel_rfl) (by kernel_rfl) (by kernel_rfl) (by exact fun _ _ _ h => h) (by rfl) ?_ hS ?_
            rotate_left
            · ((intro w hSw; obtain ⟨k0, k4, k5, k6, k7, y14⟩ := HC.out _ hSw; go_simp) <;> with_reducible rfl)
            (try simp only [Act.put, List.setIfInBounds_toArray, List.set_cons_zero, List.set_cons_succ])
            refine any_take (i := 2) (v := ?_) rfl (by kernel_rfl) (by kernel_rfl) (by kernel_rfl) (by exact fun _ _ _ h => h) (by rfl) ?_ hS ?_
            rotate_left
            · ((intro w hSw; obtain ⟨k0, k4, k5, k6, k7, y14⟩ := HC.out _ hSw; go_simp) <;> with_reducible rfl)
            (try simp only [Act.put, List.setIfInBounds_toArray, List.set_cons_zero, List.set_cons_succ])
            refine any_take (i := 3) (v := ?_) rfl (by kernel_rfl) (by kernel_rfl) (by kernel_rfl) (by exact fun _ _ _ h => h) (by rfl) ?_ hS ?_
            rotate_left
            · ((intro w hSw; obtain ⟨k0, k4, k5, k6, k7, y14⟩ := HC.out _ hSw; go_simp) <;> with_reducible rfl)
            (try simp only [Act.put, List.setIfInBounds_toArray, List.set_cons_zero, List.set_cons_succ])
            refine any_take (i := 4) (v := ?_) rfl (by kernel_rfl) (by kernel_rfl) (by kernel_rfl) (by exact fun _ _ _ h => h) (by rfl) ?_ hS ?_
            rotate_left
            · ((intro w hSw; obtain ⟨k0, k4, k5, k6, k7, y14⟩ := HC.out _ hSw; go_simp) <;> with_reducible rfl)
            (try simp only [Act.put, List.setIfInBounds_toArray, List.set_cons_zero, List.set_cons_succ])
            refine any_take (i := 5) (v := ?_) rfl (by kernel_rfl) (by kernel_rfl) (by kernel_rfl) (by exact fun _ _ _ h => h) (by rfl) ?_ hS ?_
            rotate_left
            · ((intro w hSw; obtain ⟨k0, k4, k5, k6, k7, y14⟩ := HC.out _ hSw; go_simp) <;> with_reducible rfl)
            (try simp only [Act.put, List.setIfInBounds_toArray, List.set_cons_zero, List.set_cons_succ])
            refine any_take (i := 6) (v := ?_) rfl (by kernel_rfl) (by kernel_rfl) (by kernel_rfl) (by exact fun _ _ _ h => h) (by rfl) ?_ hS ?_
            rotate_left
            · ((intro w hSw; obtain ⟨k0, k4, k5, k6, k7, y14⟩ := HC.out _ hSw; go_simp) <;> with_reducible rfl)
            (try simp only [Act.put, List.setIfInBounds_toArray, List.set_cons_zero, List.set_cons_succ])
            refine any_take (i := 7) (v := ?_) rfl (by kernel_rfl) (by kernel_rfl) (by kernel_rfl) (by exact fun _ _ _ h => h) (by rfl) ?_ hS ?_
            rotate_left
            · ((intro w hSw; obtain ⟨k0, k4, k5, k6, k7, y14⟩ := HC.out _ hSw; go_simp) <;> with_reducible rfl)
            (try simp only [Act.put, List.setIfInBounds_toArray, List.set_cons_zero, List.set_cons_succ])
            refine any_take (i := 8) (v := ?_) rfl (by kernel_rfl) (by kernel_rfl) (by kernel_rfl) (by exact fun _ _ _ h => h) (by rfl) ?_ hS ?_
            rotate_left
            · ((intro w hSw; obtain ⟨k0, k4, k5, k6, k7, y14⟩ := HC.out _ hSw; go_simp) <;> with_reducible rfl)
            (try simp only [Act.put, List.setIfInBounds_toArray, List.set_cons_zero, List.set_cons_succ])
            refine any_take (i := 9) (v := ?_) rfl (by kernel_rfl) (by kernel_rfl) (by kernel_rfl) (by exact fun _ _ _ h => h) (by rfl) ?_ hS ?_
            rotate_left
            · ((intro w hSw; obtain ⟨k0, k4, k5, k6, k7, y14⟩ := HC.out _ hSw; go_simp) <;> with_reducible rfl)
            (try simp only [Act.put, List.setIfInBounds_toArray, List.set_cons_zero, List.set_cons_succ])
            refine any_take (i := 10) (v := ?_) rfl (by kernel_rfl) (by kernel_rfl) (by kernel_rfl) (by exact fun _ _ _ h => h) (by rfl) ?_ hS ?_
            rotate_left
            · ((intro w hSw; obtain ⟨k0, k4, k5, k6, k7, y14⟩ := HC.out _ hSw; go_simp) <;> with_reducible rfl)
            (try simp only [Act.put, List.setIfInBounds_toArray, List.set_cons_zero, List.set_cons_succ])
            refine any_take (i := 11) (v := ?_) rfl (by kernel_rfl) (by kernel_rfl) (by kernel_rfl) (by exact fun _ _ _ h => h) (by rfl) ?_ hS ?_
            rotate_left
            · ((intro w hSw; obtain ⟨k0, k4, k5, k6, k7, y14⟩ := HC.out _ hSw; go_simp) <;> with_reducible rfl)
            (try simp only [Act.put, List.setIfInBounds_toArray, List.set_cons_zero, List.set_cons_succ])
            refine any_take (i := 12) (v := ?_) rfl (by kernel_rfl) (by kernel_rfl) (by kernel_rfl) (by exact fun _ _ _ h => h) (by rfl) ?_ hS ?_
            rotate_left
            · ((intro w hSw; obtain ⟨k0, k4, k5, k6, k7, y14⟩ := HC.out _ hSw; go_simp) <;> with_reducible rfl)
            (try simp only [Act.put, List.setIfInBounds_toArray, List.set_cons_zero, List.set_cons_succ])
            refine any_take (i := 13) (v := ?_) rfl (by kernel_rfl) (by kernel_rfl) (by kernel_rfl) (by exact fun _ _ _ h => h) (by rfl) ?_ hS ?_
            rotate_left
            · ((intro w hSw; obtain ⟨k0, k4, k5, k6, k7, y14⟩ := HC.out _ hSw; go_simp) <;> with_reducible rfl)
            (try simp only [Act.put, List.setIfInBounds_toArray, List.set_cons_zero, List.set_cons_succ])
            refine any_take (i := 14) (v := ?_) rfl (by kernel_rfl) (by kernel_rfl) (by kernel_rfl) (by exact fun _ _ _ h => h) (by rfl) ?_ hS ?_
            rotate_left
            · ((intro w hSw; obtain ⟨k0, k4, k5, k6, k7, y14⟩ := HC.out _ hSw; go_simp) <;> with_reducible rfl)
            (try simp only [Act.put, List.setIfInBounds_toArray, List.set_cons_zero, List.set_cons_succ])
            refine any_take (i := 15) (v := ?_) rfl (by kernel_rfl) (by kernel_rfl) (by kernel_rfl) (by exact fun _ _ _ h => h) (by rfl) ?_ hS ?_
            rotate_left
            · ((intro w hSw; obtain ⟨k0, k4, k5, k6, k7, y14⟩ := HC.out _ hSw; go_simp) <;> with_reducible rfl)
            (try simp only [Act.put, List.setIfInBounds_toArray, List.set_cons_zero, List.set_cons_succ])
            refine any_take (i := 16) (v := ?_) rfl (by kernel_rfl) (by kernel_rfl) (by kernel_rfl) (by exact fun _ _ _ h => h) (by rfl) ?_ hS ?_
            rotate_left
            · ((intro w hSw; obtain ⟨k0, k4, k5, k6, k7, y14⟩ := HC.out _ hSw; go_simp) <;> with_reducible rfl)
            (try simp only [Act.put, List.setIfInBounds_toArray, List.set_cons_zero, List.set_cons_succ])
            refine any_take (i := 17) (v := ?_) rfl (by kernel_rfl) (by kernel_rfl) (by kernel_rfl) (by exact fun _ _ _ h => h) (by rfl) ?_ hS ?_
            rotate_left
            · ((intro w hSw; obtain ⟨k0, k4, k5, k6, k7, y14⟩ := HC.out _ hSw; go_simp) <;> with_reducible rfl)
            (try simp only [Act.put, List.setIfInBounds_toArray, List.set_cons_zero, List.set_cons_succ])
            refine any_take (i := 18) (v := ?_) rfl (by kernel_rfl) (by kernel_rfl) (by kernel_rfl) (by exact fun _ _ _ h => h) (by rfl) ?_ hS ?_
            rotate_left
            · ((intro w hSw; obtain ⟨k0, k4, k5, k6, k7, y14⟩ := HC.out _ hSw; go_simp) <;> with_reducible rfl)
            (try simp only [Act.put, List.setIfInBounds_toArray, List.set_cons_zero, List.set_cons_succ])
            refine any_take (i := 19) (v := ?_) rfl (by kernel_rfl) (by kernel_rfl) (by kernel_rfl) (by exact fun _ _ _ h => h) (by rfl) ?_ hS ?_
            rotate_left
            · ((intro w hSw; obtain ⟨k0, k4, k5, k6, k7, y14⟩ := HC.out _ hSw; go_simp) <;> with_reducible rfl)
            (try simp only [Act.put, List.setIfInBounds_toArray, List.set_cons_zero, List.set_cons_succ])
            refine any_take (i := 20) (v := ?_) rfl (by kernel_rfl) (by kernel_rfl) (by kernel_rfl) (by exact fun _ _ _ h => h) (by rfl) ?_ hS ?_
            rotate_left
            · ((intro w hSw; obtain ⟨k0, k4, k5, k6, k7, y14⟩ := HC.out _ hSw; go_simp) <;> with_reducible rfl)
            (try simp only [Act.put, List.setIfInBounds_toArray, List.set_cons_zero, List.set_cons_succ])
            refine any_take (i := 21) (v := ?_) rfl (by kernel_rfl) (by kernel_rfl) (by kernel_rfl) (by exact fun _ _ _ h => h) (by rfl) ?_ hS ?_
            rotate_left
            · ((intro w hSw; obtain ⟨k0, k4, k5, k6, k7, y14⟩ := HC.out _ hSw; go_simp) <;> with_reducible rfl)
            (try simp only [Act.put, List.setIfInBounds_toArray, List.set_cons_zero, List.set_cons_succ])
            refine any_take (i := 22) (v := ?_) rfl (by kernel_rfl) (by kernel_rfl) (by kernel_rfl) (by exact fun _ _ _ h => h) (by rfl) ?_ hS ?_
            rotate_left
            · ((intro w hSw; obtain ⟨k0, k4, k5, k6, k7, y14⟩ := HC.out _ hSw; go_simp) <;> with_reducible rfl)
            (try simp only [Act.put, List.setIfInBounds_toArray, List.set_cons_zero, List.set_cons_succ])
            refine any_take (i := 23) (v := ?_) rfl (by kernel_rfl) (by kernel_rfl) (by kernel_rfl) (by exact fun _ _ _ h => h) (by rfl) ?_ hS ?_
            rotate_left
            · ((intro w hSw; obtain ⟨k0, k4, k5, k6, k7, y14⟩ := HC.out _ hSw; go_simp) <;> with_reducible rfl)
            (try simp only [Act.put, List.setIfInBounds_toArray, List.set_cons_zero, List.set_cons_succ])
            refine any_take (i := 24) (v := ?_) rfl (by kernel_rfl) (by kernel_rfl) (by kernel_rfl) (by exact fun _ _ _ h => h) (by rfl) ?_ hS ?_
            rotate_left
            · ((intro w hSw; obtain ⟨k0, k4, k5, k6, k7, y14⟩ := HC.out _ hSw; go_simp) <;> with_reducible rfl)
            (try simp only [Act.put, List.setIfInBounds_toArray, List.set_cons_zero, List.set_cons_succ])
            refine any_take (i := 25) (v := ?_) rfl (by kernel_rfl) (by kernel_rfl) (by kernel_rfl) (by exact fun _ _ _ h => h) (by rfl) ?_ hS ?_
            rotate_left
            · ((intro w hSw; obtain ⟨k0, k4, k5, k6, k7, y14⟩ := HC.out _ hSw; go_simp) <;> with_reducible rfl)
            (try simp only [Act.put, List.setIfInBounds_toArray, List.set_cons_zero, List.set_cons_succ])
            refine any_take (i := 26) (v := ?_) rfl (by kernel_rfl) (by kernel_rfl) (by kernel_rfl) (by exact fun _ _ _ h => h) (by rfl) ?_ hS ?_
            rotate_left
            · ((intro w hSw; obtain ⟨k0, k4, k5, k6, k7, y14⟩ := HC.out _ hSw; go_simp) <;> with_reducible rfl)
            (try simp only [Act.put, List.setIfInBounds_toArray, List.set_cons_zero, List.set_cons_succ])
            refine any_take (i := 27) (v := ?_) rfl (by kernel_rfl) (by kernel_rfl) (by kernel_rfl) (by exact fun _ _ _ h => h) (by rfl) ?_ hS ?_
            rotate_left
            · ((intro w hSw; obtain ⟨k0, k4, k5, k6, k7, y14⟩ := HC.out _ hSw; go_simp) <;> with_reducible rfl)
            (try simp only [Act.put, List.setIfInBounds_toArray, List.set_cons_zero, List.set_cons_succ])
            refine any_take (i := 28) (v := ?_) rfl (by kernel_rfl) (by kernel_rfl) (by kernel_rfl) (by exact fun _ _ _ h => h) (by rfl) ?_ hS ?_
            rotate_left
            · ((intro w hSw; obtain ⟨k0, k4, k5, k6, k7, y14⟩ := HC.out _ hSw; go_simp) <;> with_reducible rfl)
            (try simp only [Act.put, List.setIfInBounds_toArray, List.set_cons_zero, List.set_cons_succ])
            refine any_take (i := 29) (v := ?_) rfl (by kernel_rfl) (by kernel_rfl) (by kernel_rfl) (by exact fun _ _ _ h => h) (by rfl) ?_ hS ?_
            rotate_left
            · ((intro w hSw; obtain ⟨k0, k4, k5, k6, k7, y14⟩ := HC.out _ hSw; go_simp) <;> with_reducible rfl)
            (try simp only [Act.put, List.setIfInBounds_toArray, List.set_cons_zero, List.set_cons_succ])
            refine any_take (i := 30) (v := ?_) rfl (by kernel_rfl) (by kernel_rfl) (by kernel_rfl) (by exact fun _ _ _ h => h) (by rfl) ?_ hS ?_
            rotate_left
            · ((intro w hSw; obtain ⟨k0, k4, k5, k6, k7, y14⟩ := HC.out _ hSw; go_simp) <;> with_reducible rfl)
            (try simp only [Act.put, List.setIfInBounds_toArray, List.set_cons_zero, List.set_cons_succ])
            refine any_take (i := 31) (v := ?_) rfl (by kernel_rfl) (by kernel_rfl) (by kernel_rfl) (by exact fun _ _ _ h => h) (by rfl) ?_ hS ?_
            rotate_left
            · ((intro w hSw; obtain ⟨k0, k4, k5, k6, k7, y14⟩ := HC.out _ hSw; go_simp) <;> with_reducible rfl)
            (try simp only [Act.put, List.setIfInBounds_toArray, List.set_cons_zero, List.set_cons_succ])
            refine any_take (i := 32) (v := ?_) rfl (by kernel_rfl) (by kernel_rfl) (by kernel_rfl) (by exact fun _ _ _ h => h) (by rfl) ?_ hS ?_
            rotate_left
            · ((intro w hSw; obtain ⟨k0, k4, k5, k6, k7, y14⟩ := HC.out _ hSw; go_simp) <;> with_reducible rfl)
            (try simp only [Act.put, List.setIfInBounds_toArray, List.set_cons_zero, List.set_cons_succ])
            refine any_take (i := 33) (v := ?_) rfl (by kernel_rfl) (by kernel_rfl) (by kernel_rfl) (by exact fun _ _ _ h => h) (by rfl) ?_ hS ?_
            rotate_left
            · ((intro w hSw; obtain ⟨k0, k4, k5, k6, k7, y14⟩ := HC.out _ hSw; go_simp) <;> with_reducible rfl)
            (try simp only [Act.put, List.setIfInBounds_toArray, List.set_cons_zero, List.set_cons_succ])
            refine any_take (i := 34) (v := ?_) rfl (by kernel_rfl) (by kernel_rfl) (by kernel_rfl) (by exact fun _ _ _ h => h) (by rfl) ?_ hS ?_
            rotate_left
            · ((intro w hSw; obtain ⟨k0, k4, k5, k6, k7, y14⟩ := HC.out _ hSw; go_simp) <;> with_reducible rfl)
            (try simp only [Act.put, List.setIfInBounds_toArray, List.set_cons_zero, List.set_cons_succ])
            refine any_take (i := 35) (v := ?_) rfl (by kernel_rfl) (by kernel_rfl) (by kernel_rfl) (by exact fun _ _ _ h => h) (by rfl) ?_ hS ?_
            rotate_left
            · ((intro w hSw; obtain ⟨k0, k4, k5, k6, k7, y14⟩ := HC.out _ hSw; go_simp) <;> with_reducible rfl)
            (try simp only [Act.put, List.setIfInBounds_toArray, List.set_cons_zero, List.set_cons_succ])
            refine any_take (i := 36) (v := ?_) rfl (by kernel_rfl) (by kernel_rfl) (by kernel_rfl) (by exact fun _ _ _ h => h) (by rfl) ?_ hS ?_
            rotate_left
            · ((intro w hSw; obtain ⟨k0, k4, k5, k6, k7, y14⟩ := HC.out _ hSw; go_simp) <;> with_reducible rfl)
            (try simp only [Act.put, List.setIfInBounds_toArray, List.set_cons_zero, List.set_cons_succ])
            refine any_take (i := 37) (v := ?_) rfl (by kernel_rfl) (by kernel_rfl) (by kernel_rfl) (by exact fun _ _ _ h => h) (by rfl) ?_ hS ?_
            rotate_left
            · ((intro w hSw; obtain ⟨k0, k4, k5, k6, k7, y14⟩ := HC.out _ hSw; go_simp) <;> with_reducible rfl)
            (try simp only [Act.put, List.setIfInBounds_toArray, List.set_cons_zero, List.set_cons_succ])
            refine any_take (i := 38) (v := ?_) rfl (by kernel_rfl) (by kernel_rfl) (by kernel_rfl) (by exact fun _ _ _ h => h) (by rfl) ?_ hS ?_
            rotate_left
            · ((intro w hSw; obtain ⟨k0, k4, k5, k6, k7, y14⟩ := HC.out _ hSw; go_simp) <;> with_reducible rfl)
            (try simp only [Act.put, List.setIfInBounds_toArray, List.set_cons_zero, List.set_cons_succ])
            refine any_one (i := 39) rfl (by kernel_rfl) (fun K hK => ?_)
            go_simp
            refine (Calls.mono (known17_any _)) ?_
            rintro e x4 ⟨rfl, hb4'⟩
            have G4 : Hid _ := below_then F.out (below_then hS hb4')
            go_wp2_with fail
            refine hK.out _ _ (below_then hS hb4') ?_
            clear hK K
            have hS : Below x3.heap.size x3 x4 := below_then hS hb4'
            refine any_take (i := 40) (v := ?_) rfl (by kernel_rfl) (by kernel_rfl) (by kernel_rfl) (by exact fun _ _ _ h => h) (by rfl) ?_ hS ?_
            rotate_left
            · ((intro w hSw; skip; go_simp) <;> with_reducible rfl)
            (try simp only [Act.put, List.setIfInBounds_toArray, List.set_cons_zero, List.set_cons_succ])
            refine any_take (i := 41) (v := ?_) rfl (by kernel_rfl) (by kernel_rfl) (by kernel_rfl) (by exact fun _ _ _ h => h) (by rfl) ?_ hS ?_
            rotate_left
            · ((intro w hSw; skip; go_simp) <;> with_reducible rfl)
            (try simp only [Act.put, List.setIfInBounds_toArray, List.set_cons_zero, List.set_cons_succ])
            refine wpAnyH_done (by kernel_rfl) ?_ _
            go_wp2
            go_ret
            exact ⟨by first | rfl | simp, G4.out⟩
          · by_cases hp : 0 < dn
            · have HDS : Hid _ := show decide (0 < dn) = true from decide_eq_true hp
              have hpi : (0 : Int) < (dn : Int) := by omega
              have hBL : BL = NN + 4 := by have := HS.out.2.2.2.2.2.2; have := HNN.out; simp only [dgN, HDS.out, Bool.true_and, Bool.false_and, if_true, if_false, Bool.false_eq_true] at *; omega
              have u0 : IntKind.i64.wrap ((NN : Int) + 4) = (BL : Int) := by rw [IntKind.wrap_i64]; omega
              clear hBL
              go_wp2_with fail
              clear o0 o1 y14 r1
              clear u0
              refine wp_region_held_drew (S := fun W => Below x3.heap.size x3 W) (by kernel_rfl) (Below.refl _ _).drew (fun hS => ?_)
              have B0 : Below x3.heap.size x3 x3.drew := (Below.refl _ _).drew
              refine any_take (i := 0) (v := ?_) rfl (by kernel_rfl) (by kernel_rfl) (by kernel_rfl) (by exact fun _ _ _ h => h) (by rfl) ?_ hS ?_
              rotate_left
              · ((intro w hSw; obtain ⟨k0, k4, k5, k6, k7, y14⟩ := HC.out _ hSw; go_simp) <;> with_reducible rfl)
              (try simp only [Act.put, List.setIfInBounds_toArray, List.set_cons_zero, List.set_cons_succ])
              refine any_take (i := 1) (v := ?_) rfl (by kernel_rfl) (by kernel_rfl) (by kernel_rfl) (by exact fun _ _ _ h => h) (by rfl) ?_ hS ?_
              rotate_left
              · ((intro w hSw; obtain ⟨k0, k4, k5, k6, k7, y14⟩ := HC.out _ hSw; go_simp) <;> with_reducible rfl)
              (try simp only [Act.put, List.setIfInBounds_toArray, List.set_cons_zero, List.set_cons_succ])
              refine any_take (i := 2) (v := ?_) rfl (by kernel_rfl) (by kernel_rfl) (by kernel_rfl) (by exact fun _ _ _ h => h) (by rfl) ?_ hS ?_
              rotate_left
              · ((intro w hSw; obtain ⟨k0, k4, k5, k6, k7, y14⟩ := HC.out _ hSw; go_simp) <;> with_reducible rfl)
              (try simp only [Act.put, List.setIfInBounds_toArray, List.set_cons_zero, List.set_cons_succ])
              refine any_take (i := 3) (v := ?_) rfl (by kernel_rfl) (by kernel_rfl) (by kernel_rfl) (by exact fun _ _ _ h => h) (by rfl) ?_ hS ?_
              rotate_left
              · ((intro w hSw; obtain ⟨k0, k4, k5, k6, k7, y14⟩ := HC.out _ hSw; go_simp) <;> with_reducible rfl)
              (try simp only [Act.put, List.setIfInBounds_toArray, List.set_cons_zero, List.set_cons_succ])
              refine any_take (i := 4) (v := ?_) rfl (by kernel_rfl) (by kernel_rfl) (by kernel_rfl) (by exact fun _ _ _ h => h) (by rfl) ?_ hS ?_
              rotate_left
              · ((intro w hSw; obtain ⟨k0, k4, k5, k6, k7, y14⟩ := HC.out _ hSw; go_simp) <;> with_reducible rfl)
              (try simp only [Act.put, List.setIfInBounds_toArray, List.set_cons_zero, List.set_cons_succ])
              refine any_take (i := 5) (v := ?_) rfl (by kernel_rfl) (by kernel_rfl) (by kernel_rfl) (by exact fun _ _ _ h => h) (by rfl) ?_ hS ?_
              rotate_left
              · ((intro w hSw; obtain ⟨k0, k4, k5, k6, k7, y14⟩ := HC.out _ hSw; go_simp) <;> with_reducible rfl)
              (try simp only [Act.put, List.setIfInBounds_toArray, List.set_cons_zero, List.set_cons_succ])
              refine any_take (i := 6) (v := ?_) rfl (by kernel_rfl) (by kernel_rfl) (by kernel_rfl) (by exact fun _ _ _ h => h) (by rfl) ?_ hS ?_
              rotate_left
              · ((intro w hSw; obtain ⟨k0, k4, k5, k6, k7, y14⟩ := HC.out _ hSw; go_simp) <;> with_reducible rfl)
              (try simp only [Act.put, List.setIfInBounds_toArray, List.set_cons_zero, List.set_cons_succ])
              refine any_take (i := 7) (v := ?_) rfl (by kernel_rfl) (by kernel_rfl) (by kernel_rfl) (by exact fun _ _ _ h => h) (by rfl) ?_ hS ?_
              rotate_left
              · ((intro w hSw; obtain ⟨k0, k4, k5, k6, k7, y14⟩ := HC.out _ hSw; go_simp) <;> with_reducible rfl)
              (try simp only [Act.put, List.setIfInBounds_toArray, List.set_cons_zero, List.set_cons_succ])
              refine any_take (i := 8) (v := ?_) rfl (by kernel_rfl) (by kernel_rfl) (by kernel_rfl) (by exact fun _ _ _ h => h) (by rfl) ?_ hS ?_
              rotate_left
              · ((intro w hSw; obtain ⟨k0, k4, k5, k6, k7, y14⟩ := HC.out _ hSw; go_simp) <;> with_reducible rfl)
              (try simp only [Act.put, List.setIfInBounds_toArray, List.set_cons_zero, List.set_cons_succ])
              refine any_take (i := 9) (v := ?_) rfl (by kernel_rfl) (by kernel_rfl) (by kernel_rfl) (by exact fun _ _ _ h => h) (by rfl) ?_ hS ?_
              rotate_left
              · ((intro w hSw; obtain ⟨k0, k4, k5, k6, k7, y14⟩ := HC.out _ hSw; go_simp) <;> with_reducible rfl)
              (try simp only [Act.put, List.setIfInBounds_toArray, List.set_cons_zero, List.set_cons_succ])
              refine any_take (i := 10) (v := ?_) rfl (by kernel_rfl) (by kernel_rfl) (by kernel_rfl) (by exact fun _ _ _ h => h) (by rfl) ?_ hS ?_
              rotate_left
              · ((intro w hSw; obtain ⟨k0, k4, k5, k6, k7, y14⟩ := HC.out _ hSw; go_simp) <;> with_reducible rfl)
              (try simp only [Act.put, List.setIfInBounds_toArray, List.set_cons_zero, List.set_cons_succ])
              refine any_take (i := 11) (v := ?_) rfl (by kernel_rfl) (by kernel_rfl) (by kernel_rfl) (by exact fun _ _ _ h => h) (by rfl) ?_ hS ?_
              rotate_left
              · ((intro w hSw; obtain ⟨k0, k4, k5, k6, k7, y14⟩ := HC.out _ hSw; go_simp) <;> with_reducible rfl)
              (try simp only [Act.put, List.setIfInBounds_toArray, List.set_cons_zero, List.set_cons_succ])
              refine any_take (i := 12) (v := ?_) rfl (by kernel_rfl) (by kernel_rfl) (by kernel_rfl) (by exact fun _ _ _ h => h) (by rfl) ?_ hS ?_
              rotate_left
              · ((intro w hSw; obtain ⟨k0, k4, k5, k6, k7, y14⟩ := HC.out _ hSw; go_simp) <;> with_reducible rfl)
              (try simp only [Act.put, List.setIfInBounds_toArray, List.set_cons_zero, List.set_cons_succ])
              refine any_take (i := 13) (v := ?_) rfl (by kernel_rfl) (by kernel_rfl) (by kernel_rfl) (by exact fun _ _ _ h => h) (by rfl) ?_ hS ?_
              rotate_left
              · ((intro w hSw; obtain ⟨k0, k4, k5, k6, k7, y14⟩ := HC.out _ hSw; go_simp) <;> with_reducible rfl)
              (try simp only [Act.put, List.setIfInBounds_toArray, List.set_cons_zero, List.set_cons_succ])
              refine any_take (i := 14) (v := ?_) rfl (by kernel_rfl) (by kernel_rfl) (by kernel_rfl) (by exact fun _ _ _ h => h) (by rfl) ?_ hS ?_
              rotate_left
              · ((intro w hSw; obtain ⟨k0, k4, k5, k6, k7, y14⟩ := HC.out _ hSw; go_simp) <;> with_reducible rfl)
              (try simp only [Act.put, List.setIfInBounds_toArray, List.set_cons_zero, List.set_cons_succ])
              refine any_take (i := 15) (v := ?_) rfl (by kernel_rfl) (by kernel_rfl) (by kernel_rfl) (by exact fun _ _ _ h => h) (by rfl) ?_ hS ?_
              rotate_left
              · ((intro w hSw; obtain ⟨k0, k4, k5, k6, k7, y14⟩ := HC.out _ hSw; go_simp) <;> with_reducible rfl)
              (try simp only [Act.put, List.setIfInBounds_toArray, List.set_cons_zero, List.set_cons_succ])
              refine any_take (i := 16) (v := ?_) rfl (by kernel_rfl) (by kernel_rfl) (by kernel_rfl) (by exact fun _ _ _ h => h) (by rfl) ?_ hS ?_
              rotate_left
              · ((intro w hSw; obtain ⟨k0, k4, k5, k6, k7, y14⟩ := HC.out _ hSw; go_simp) <;> with_reducible rfl)
              (try simp only [Act.put, List.setIfInBounds_toArray, List.set_cons_zero, List.set_cons_succ])
              refine any_take (i := 17) (v := ?_) rfl (by kernel_rfl) (by kernel_rfl) (by kernel_rfl) (by exact fun _ _ _ h => h) (by rfl) ?_ hS ?_
              rotate_left
              · ((intro w hSw; obtain ⟨k0, k4, k5, k6, k7, y14⟩ := HC.out _ hSw; go_simp) <;> with_reducible rfl)
              (try simp only [Act.put, List.setIfInBounds_toArray, List.set_cons_zero, List.set_cons_succ])
              refine any_take (i := 18) (v := ?_) rfl (by kernel_rfl) (by kernel_rfl) (by kernel_rfl) (by exact fun _ _ _ h => h) (by rfl) ?_ hS ?_
              rotate_left
              · ((intro w hSw; obtain ⟨k0, k4, k5, k6, k7, y14⟩ := HC.out _ hSw; go_simp) <;> with_reducible rfl)
              (try simp only [Act.put, List.setIfInBounds_toArray, List.set_cons_zero, List.set_cons_succ])
              refine any_take (i := 19) (v := ?_) rfl (by kernel_rfl) (by kernel_rfl) (by kernel_rfl) (by exact fun _ _ _ h => h) (by rfl) ?_ hS ?_
              rotate_left
              · ((intro w hSw; obtain ⟨k0, k4, k5, k6, k7, y14⟩ := HC.out _ hSw; go_simp) <;> with_reducible rfl)
              (try simp only [Act.put, List.setIfInBounds_toArray, List.set_cons_zero, List.set_cons_succ])
              refine any_take (i := 20) (v := ?_) rfl (by kernel_rfl) (by kernel_rfl) (by kernel_rfl) (by exact fun _ _ _ h => h) (by rfl) ?_ hS ?_
              rotate_left
              · ((intro w hSw; obtain ⟨k0, k4, k5, k6, k7, y14⟩ := HC.out _ hSw; go_simp) <;> with_reducible rfl)
              (try simp only [Act.put, List.setIfInBounds_toArray, List.set_cons_zero, List.set_cons_succ])
              refine any_take (i := 21) (v := ?_) rfl (by kernel_rfl) (by kernel_rfl) (by kernel_rfl) (by exact fun _ _ _ h => h) (by rfl) ?_ hS ?_
              rotate_left
              · ((intro w hSw; obtain ⟨k0, k4, k5, k6, k7, y14⟩ := HC.out _ hSw; go_simp) <;> with_reducible rfl)
              (try simp only [Act.put, List.setIfInBounds_toArray, List.set_cons_zero, List.set_cons_succ])
              refine any_take (i := 22) (v := ?_) rfl (by kernel_rfl) (by kernel_rfl) (by kernel_rfl) (by exact fun _ _ _ h => h) (by rfl) ?_ hS ?_
              rotate_left
              · ((intro w hSw; obtain ⟨k0, k4, k5, k6, k7, y14⟩ := HC.out _ hSw; go_simp) <;> with_reducible rfl)
              (try simp only [Act.put, List.setIfInBounds_toArray, List.set_cons_zero, List.set_cons_succ])
              refine any_take (i := 23) (v := ?_) rfl (by kernel_rfl) (by kernel_rfl) (by kernel_rfl) (by exact fun _ _ _ h => h) (by rfl) ?_ hS ?_
              rotate_left
              · ((intro w hSw; obtain ⟨k0, k4, k5, k6, k7, y14⟩ := HC.out _ hSw; go_simp) <;> with_reducible rfl)
              (try simp only [Act.put, List.setIfInBounds_toArray, List.set_cons_zero, List.set_cons_succ])
              refine any_take (i := 24) (v := ?_) rfl (by kernel_rfl) (by kernel_rfl) (by kernel_rfl) (by exact fun _ _ _ h => h) (by rfl) ?_ hS ?_
              rotate_left
              · ((intro w hSw; obtain ⟨k0, k4, k5, k6, k7, y14⟩ := HC.out _ hSw; go_simp) <;> with_reducible rfl)
              (try simp only [Act.put, List.setIfInBounds_toArray, List.set_cons_zero, List.set_cons_succ])
              refine any_take (i := 25) (v := ?_) rfl (by kernel_rfl) (by kernel_rfl) (by kernel_rfl) (by exact fun _ _ _ h => h) (by rfl) ?_ hS ?_
              rotate_left
              · ((intro w hSw; obtain ⟨k0, k4, k5, k6, k7, y14⟩ := HC.out _ hSw; go_simp) <;> with_reducible rfl)
              (try simp only [Act.put, List.setIfInBounds_toArray, List.set_cons_zero, List.set_cons_succ])
              refine any_take (i := 26) (v := ?_) rfl (by kernel_rfl) (by kernel_rfl) (by kernel_rfl) (by exact fun _ _ _ h => h) (by rfl) ?_ hS ?_
              rotate_left
              · ((intro w hSw; obtain ⟨k0, k4, k5, k6, k7, y14⟩ := HC.out _ hSw; go_simp) <;> with_reducible rfl)
              (try simp only [Act.put, List.setIfInBounds_toArray, List.set_cons_zero, List.set_cons_succ])
              refine any_take (i := 27) (v := ?_) rfl (by kernel_rfl) (by kernel_rfl) (by kernel_rfl) (by exact fun _ _ _ h => h) (by rfl) ?_ hS ?_
              rotate_left
              · ((intro w hSw; obtain ⟨k0, k4, k5, k6, k7, y14⟩ := HC.out _ hSw; go_simp) <;> with_reducible rfl)
              (try simp only [Act.put, List.setIfInBounds_toArray, List.set_cons_zero, List.set_cons_succ])
              refine any_take (i := 28) (v := ?_) rfl (by kernel_rfl) (by kernel_rfl) (by kernel_rfl) (by exact fun _ _ _ h => h) (by rfl) ?_ hS ?_
              rotate_left
              · ((intro w hSw; obtain ⟨k0, k4, k5, k6, k7, y14⟩ := HC.out _ hSw; go_simp) <;> with_reducible rfl)
              (try simp only [Act.put, List.setIfInBounds_toArray, List.set_cons_zero, List.set_cons_succ])
              refine any_take (i := 29) (v := ?_) rfl (by kernel_rfl) (by kernel_rfl) (by kernel_rfl) (by exact fun _ _ _ h => h) (by rfl) ?_ hS ?_
              rotate_left
              · ((intro w hSw; obtain ⟨k0, k4, k5, k6, k7, y14⟩ := HC.out _ hSw; go_simp) <;> with_reducible rfl)
              (try simp only [Act.put, List.setIfInBounds_toArray, List.set_cons_zero, List.set_cons_succ])
              refine any_take (i := 30) (v := ?_) rfl (by kernel_rfl) (by kernel_rfl) (by kernel_rfl) (by exact fun _ _ _ h => h) (by rfl) ?_ hS ?_
              rotate_left
              · ((intro w hSw; obtain ⟨k0, k4, k5, k6, k7, y14⟩ := HC.out _ hSw; go_simp) <;> with_reducible rfl)
              (try simp only [Act.put, List.setIfInBounds_toArray, List.set_cons_zero, List.set_cons_succ])
              refine any_take (i := 31) (v := ?_) rfl (by kernel_rfl) (by kernel_rfl) (by kernel_rfl) (by exact fun _ _ _ h => h) (by rfl) ?_ hS ?_
              rotate_left
              · ((intro w hSw; obtain ⟨k0, k4, k5, k6, k7, y14⟩ := HC.out _ hSw; go_simp) <;> with_reducible rfl)
              (try simp only [Act.put, List.setIfInBounds_toArray, List.set_cons_zero, List.set_cons_succ])
              refine any_take (i := 32) (v := ?_) rfl (by kernel_rfl) (by kernel_rfl) (by kernel_rfl) (by exact fun _ _ _ h => h) (by rfl) ?_ hS ?_
              rotate_left
              · ((intro w hSw; obtain ⟨k0, k4, k5, k6, k7, y14⟩ := HC.out _ hSw; go_simp) <;> with_reducible rfl)
              (try simp only [Act.put, List.setIfInBounds_toArray, List.set_cons_zero, List.set_cons_succ])
              refine any_take (i := 33) (v := ?_) rfl (by kernel_rfl) (by kernel_rfl) (by kernel_rfl) (by exact fun _ _ _ h => h) (by rfl) ?_ hS ?_
              rotate_left
              · ((intro w hSw; obtain ⟨k0, k4, k5, k6, k7, y14⟩ := HC.out _ hSw; go_simp) <;> with_reducible rfl)
              (try simp only [Act.put, List.setIfInBounds_toArray, List.set_cons_zero, List.set_cons_succ])
              refine any_take (i := 34) (v := ?_) rfl (by kernel_rfl) (by kernel_rfl) (by kernel_rfl) (by exact fun _ _ _ h => h) (by rfl) ?_ hS ?_
              rotate_left
              · ((intro w hSw; obtain ⟨k0, k4, k5, k6, k7, y14⟩ := HC.out _ hSw; go_simp) <;> with_reducible rfl)
              (try simp only [Act.put, List.setIfInBounds_toArray, List.set_cons_zero, List.set_cons_succ])
              refine any_take (i := 35) (v := ?_) rfl (by kernel_rfl) (by kernel_rfl) (by kernel_rfl) (by exact fun _ _ _ h => h) (by rfl) ?_ hS ?_
              rotate_left
              · ((intro w hSw; obtain ⟨k0, k4, k5, k6, k7, y14⟩ := HC.out _ hSw; go_simp) <;> with_reducible rfl)
              (try simp only [Act.put, List.setIfInBounds_toArray, List.set_cons_zero, List.set_cons_succ])
              refine any_take (i := 36) (v := ?_) rfl (by kernel_rfl) (by kernel_rfl) (by kernel_rfl) (by exact fun _ _ _ h => h) (by rfl) ?_ hS ?_
              rotate_left
              · ((intro w hSw; obtain ⟨k0, k4, k5, k6, k7, y14⟩ := HC.out _ hSw; go_simp) <;> with_reducible rfl)
              (try simp only [Act.put, List.setIfInBounds_toArray, List.set_cons_zero, List.set_cons_succ])
              refine any_take (i := 37) (v := ?_) rfl (by kernel_rfl) (by kernel_rfl) (by kernel_rfl) (by exact fun _ _ _ h => h) (by rfl) ?_ hS ?_
              rotate_left
              · ((intro w hSw; obtain ⟨k0, k4, k5, k6, k7, y14⟩ := HC.out _ hSw; go_simp) <;> with_reducible rfl)
              (try simp only [Act.put, List.setIfInBounds_toArray, List.set_cons_zero, List.set_cons_succ])
              refine any_take (i := 38) (v := ?_) rfl (by kernel_rfl) (by kernel_rfl) (by kernel_rfl) (by exact fun _ _ _ h => h) (by rfl) ?_ hS ?_
              rotate_left
              · ((intro w hSw; obtain ⟨k0, k4, k5, k6, k7, y14⟩ := HC.out _ hSw; go_simp) <;> with_reducible rfl)
              (try simp only [Act.put, List.setIfInBounds_toArray, List.set_cons_zero, List.set_cons_succ])
              refine any_one (i := 39) rfl (by kernel_rfl) (fun K hK => ?_)
              go_simp
              refine (Calls.mono (known17_any _)) ?_
              rintro e x4 ⟨rfl, hb4'⟩
              have G4 : Hid _ := below_then F.out (below_then hS hb4')
              go_wp2_with fail
              refine hK.out _ _ (below_then hS hb4') ?_
              clear hK K
              have hS : Below x3.heap.size x3 x4 := below_then hS hb4'
              refine any_take (i := 40) (v := ?_) rfl (by kernel_rfl) (by kernel_rfl) (by kernel_rfl) (by exact fun _ _ _ h => h) (by rfl) ?_ hS ?_
              rotate_left
              · ((intro w hSw; skip; go_simp) <;> with_reducible rfl)
              (try simp only [Act.put, List.setIfInBounds_toArray, List.set_cons_zero, List.set_cons_succ])
              refine any_take (i := 41) (v := ?_) rfl (by kernel_rfl) (by kernel_rfl) (by kernel_rfl) (by exact fun _ _ _ h => h) (by rfl) ?_ hS ?_
              rotate_left
              · ((intro w hSw; skip; go_simp) <;> with_reducible rfl)
              (try simp only [Act.put, List.setIfInBounds_toArray, List.set_cons_zero, List.set_cons_succ])
              refine wpAnyH_done (by kernel_rfl) ?_ _
              go_wp2
              go_ret
              exact ⟨by first | rfl | simp, G4.out⟩
            · have HDS : Hid _ := show decide (0 < dn) = false from decide_eq_false hp
              have hpi : ¬ (0 : Int) < (dn : Int) := by omega
              have hBL : BL = NN + 0 := by have := HS.out.2.2.2.2.2.2; have := HNN.out; simp only [dgN, HDS.out, Bool.true_and, Bool.false_and, if_true, if_false, Bool.false_eq_true] at *; omega
              simp only [Nat.add_zero] at hBL
              subst hBL
              go_wp2_with fail
              clear o0 o1 y14 r1
              refine wp_region_held_drew (S := fun W => Below x3.heap.size x3 W) (by kernel_rfl) (Below.refl _ _).drew (fun hS => ?_)
              have B0 : Below x3.heap.size x3 x3.drew := (Below.refl _ _).drew
              refine any_take (i := 0) (v := ?_) rfl (by kernel_rfl) (by kernel_rfl) (by kernel_rfl) (by exact fun _ _ _ h => h) (by rfl) ?_ hS ?_
              rotate_left
              · ((intro w hSw; obtain ⟨k0, k4, k5, k6, k7, y14⟩ := HC.out _ hSw; go_simp) <;> with_reducible rfl)
              (try simp only [Act.put, List.setIfInBounds_toArray, List.set_cons_zero, List.set_cons_succ])
              refine any_take (i := 1) (v := ?_) rfl (by kernel_rfl) (by kernel_rfl) (by kernel_rfl) (by exact fun _ _ _ h => h) (by rfl) ?_ hS ?_
              rotate_left
              · ((intro w hSw; obtain ⟨k0, k4, k5, k6, k7, y14⟩ := HC.out _ hSw; go_simp) <;> with_reducible rfl)
              (try simp only [Act.put, List.setIfInBounds_toArray, List.set_cons_zero, List.set_cons_succ])
              refine any_take (i := 2) (v := ?_) rfl (by kernel_rfl) (by kernel_rfl) (by kernel_rfl) (by exact fun _ _ _ h => h) (by rfl) ?_ hS ?_
              rotate_left
              · ((intro w hSw; obtain ⟨k0, k4, k5, k6, k7, y14⟩ := HC.out _ hSw; go_simp) <;> with_reducible rfl)
              (try simp only [Act.put, List.setIfInBounds_toArray, List.set_cons_zero, List.set_cons_succ])
              refine any_take (i := 3) (v := ?_) rfl (by kernel_rfl) (by kernel_rfl) (by kernel_rfl) (by exact fun _ _ _ h => h) (by rfl) ?_ hS ?_
              rotate_left
              · ((intro w hSw; obtain ⟨k0, k4, k5, k6, k7, y14⟩ := HC.out _ hSw; go_simp) <;> with_reducible rfl)
              (try simp only [Act.put, List.setIfInBounds_toArray, List.set_cons_zero, List.set_cons_succ])
              refine any_take (i := 4) (v := ?_) rfl (by kernel_rfl) (by kernel_rfl) (by kernel_rfl) (by exact fun _ _ _ h => h) (by rfl) ?_ hS ?_
              rotate_left
              · ((intro w hSw; obtain ⟨k0, k4, k5, k6, k7, y14⟩ := HC.out _ hSw; go_simp) <;> with_reducible rfl)
              (try simp only [Act.put, List.setIfInBounds_toArray, List.set_cons_zero, List.set_cons_succ])
              refine any_take (i := 5) (v := ?_) rfl (by kernel_rfl) (by kernel_rfl) (by kernel_rfl) (by exact fun _ _ _ h => h) (by rfl) ?_ hS ?_
              rotate_left
              · ((intro w hSw; obtain ⟨k0, k4, k5, k6, k7, y14⟩ := HC.out _ hSw; go_simp) <;> with_reducible rfl)
              (try simp only [Act.put, List.setIfInBounds_toArray, List.set_cons_zero, List.set_cons_succ])
              refine any_take (i := 6) (v := ?_) rfl (by kernel_rfl) (by kernel_rfl) (by kernel_rfl) (by exact fun _ _ _ h => h) (by rfl) ?_ hS ?_
              rotate_left
              · ((intro w hSw; obtain ⟨k0, k4, k5, k6, k7, y14⟩ := HC.out _ hSw; go_simp) <;> with_reducible rfl)
              (try simp only [Act.put, List.setIfInBounds_toArray, List.set_cons_zero, List.set_cons_succ])
              refine any_take (i := 7) (v := ?_) rfl (by kernel_rfl) (by kernel_rfl) (by kernel_rfl) (by exact fun _ _ _ h => h) (by rfl) ?_ hS ?_
              rotate_left
              · ((intro w hSw; obtain ⟨k0, k4, k5, k6, k7, y14⟩ := HC.out _ hSw; go_simp) <;> with_reducible rfl)
              (try simp only [Act.put, List.setIfInBounds_toArray, List.set_cons_zero, List.set_cons_succ])
              refine any_take (i := 8) (v := ?_) rfl (by kernel_rfl) (by kernel_rfl) (by kernel_rfl) (by exact fun _ _ _ h => h) (by rfl) ?_ hS ?_
              rotate_left
              · ((intro w hSw; obtain ⟨k0, k4, k5, k6, k7, y14⟩ := HC.out _ hSw; go_simp) <;> with_reducible rfl)
              (try simp only [Act.put, List.setIfInBounds_toArray, List.set_cons_zero, List.set_cons_succ])
              refine any_take (i := 9) (v := ?_) rfl (by kernel_rfl) (by kernel_rfl) (by kernel_rfl) (by exact fun _ _ _ h => h) (by rfl) ?_ hS ?_
              rotate_left
              · ((intro w hSw; obtain ⟨k0, k4, k5, k6, k7, y14⟩ := HC.out _ hSw; go_simp) <;> with_reducible rfl)
              (try simp only [Act.put, List.setIfInBounds_toArray, List.set_cons_zero, List.set_cons_succ])
              refine any_take (i := 10) (v := ?_) rfl (by kernel_rfl) (by kernel_rfl) (by kernel_rfl) (by exact fun _ _ _ h => h) (by rfl) ?_ hS ?_
              rotate_left
              · ((intro w hSw; obtain ⟨k0, k4, k5, k6, k7, y14⟩ := HC.out _ hSw; go_simp) <;> with_reducible rfl)
              (try simp only [Act.put, List.setIfInBounds_toArray, List.set_cons_zero, List.set_cons_succ])
              refine any_take (i := 11) (v := ?_) rfl (by kernel_rfl) (by kernel_rfl) (by kernel_rfl) (by exact fun _ _ _ h => h) (by rfl) ?_ hS ?_
              rotate_left
              · ((intro w hSw; obtain ⟨k0, k4, k5, k6, k7, y14⟩ := HC.out _ hSw; go_simp) <;> with_reducible rfl)
              (try simp only [Act.put, List.setIfInBounds_toArray, List.set_cons_zero, List.set_cons_succ])
              refine any_take (i := 12) (v := ?_) rfl (by kernel_rfl) (by kernel_rfl) (by kernel_rfl) (by exact fun _ _ _ h => h) (by rfl) ?_ hS ?_
              rotate_left
              · ((intro w hSw; obtain ⟨k0, k4, k5, k6, k7, y14⟩ := HC.out _ hSw; go_simp) <;> with_reducible rfl)
              (try simp only [Act.put, List.setIfInBounds_toArray, List.set_cons_zero, List.set_cons_succ])
              refine any_take (i := 13) (v := ?_) rfl (by kernel_rfl) (by kernel_rfl) (by kernel_rfl) (by exact fun _ _ _ h => h) (by rfl) ?_ hS ?_
              rotate_left
              · ((intro w hSw; obtain ⟨k0, k4, k5, k6, k7, y14⟩ := HC.out _ hSw; go_simp) <;> with_reducible rfl)
              (try simp only [Act.put, List.setIfInBounds_toArray, List.set_cons_zero, List.set_cons_succ])
              refine any_take (i := 14) (v := ?_) rfl (by kernel_rfl) (by kernel_rfl) (by kernel_rfl) (by exact fun _ _ _ h => h) (by rfl) ?_ hS ?_
              rotate_left
              · ((intro w hSw; obtain ⟨k0, k4, k5, k6, k7, y14⟩ := HC.out _ hSw; go_simp) <;> with_reducible rfl)
              (try simp only [Act.put, List.setIfInBounds_toArray, List.set_cons_zero, List.set_cons_succ])
              refine any_take (i := 15) (v := ?_) rfl (by kernel_rfl) (by kernel_rfl) (by kernel_rfl) (by exact fun _ _ _ h => h) (by rfl) ?_ hS ?_
              rotate_left
              · ((intro w hSw; obtain ⟨k0, k4, k5, k6, k7, y14⟩ := HC.out _ hSw; go_simp) <;> with_reducible rfl)
              (try simp only [Act.put, List.setIfInBounds_toArray, List.set_cons_zero, List.set_cons_succ])
              refine any_take (i := 16) (v := ?_) rfl (by kernel_rfl) (by kernel_rfl) (by kernel_rfl) (by exact fun _ _ _ h => h) (by rfl) ?_ hS ?_
              rotate_left
              · ((intro w hSw; obtain ⟨k0, k4, k5, k6, k7, y14⟩ := HC.out _ hSw; go_simp) <;> with_reducible rfl)
              (try simp only [Act.put, List.setIfInBounds_toArray, List.set_cons_zero, List.set_cons_succ])
              refine any_take (i := 17) (v := ?_) rfl (by kernel_rfl) (by kernel_rfl) (by kernel_rfl) (by exact fun _ _ _ h => h) (by rfl) ?_ hS ?_
              rotate_left
              · ((intro w hSw; obtain ⟨k0, k4, k5, k6, k7, y14⟩ := HC.out _ hSw; go_simp) <;> with_reducible rfl)
              (try simp only [Act.put, List.setIfInBounds_toArray, List.set_cons_zero, List.set_cons_succ])
              refine any_take (i := 18) (v := ?_) rfl (by kernel_rfl) (by kernel_rfl) (by kernel_rfl) (by exact fun _ _ _ h => h) (by rfl) ?_ hS ?_
              rotate_left
              · ((intro w hSw; obtain ⟨k0, k4, k5, k6, k7, y14⟩ := HC.out _ hSw; go_simp) <;> with_reducible rfl)
              (try simp only [Act.put, List.setIfInBounds_toArray, List.set_cons_zero, List.set_cons_succ])
              refine any_take (i := 19) (v := ?_) rfl (by kernel_rfl) (by kernel_rfl) (by kernel_rfl) (by exact fun _ _ _ h => h) (by rfl) ?_ hS ?_
              rotate_left
              · ((intro w hSw; obtain ⟨k0, k4, k5, k6, k7, y14⟩ := HC.out _ hSw; go_simp) <;> with_reducible rfl)
              (try simp only [Act.put, List.setIfInBounds_toArray, List.set_cons_zero, List.set_cons_succ])
              refine any_take (i := 20) (v := ?_) rfl (by kernel_rfl) (by kernel_rfl) (by kernel_rfl) (by exact fun _ _ _ h => h) (by rfl) ?_ hS ?_
              rotate_left
              · ((intro w hSw; obtain ⟨k0, k4, k5, k6, k7, y14⟩ := HC.out _ hSw; go_simp) <;> with_reducible rfl)
              (try simp only [Act.put, List.setIfInBounds_toArray, List.set_cons_zero, List.set_cons_succ])
              refine any_take (i := 21) (v := ?_) rfl (by kernel_rfl) (by kernel_rfl) (by kernel_rfl) (by exact fun _ _ _ h => h) (by rfl) ?_ hS ?_
              rotate_left
              · ((intro w hSw; obtain ⟨k0, k4, k5, k6, k7, y14⟩ := HC.out _ hSw; go_simp) <;> with_reducible rfl)
              (try simp only [Act.put, List.setIfInBounds_toArray, List.set_cons_zero, List.set_cons_succ])
              refine any_take (i := 22) (v := ?_) rfl (by kernel_rfl) (by kernel_rfl) (by kernel_rfl) (by exact fun _ _ _ h => h) (by rfl) ?_ hS ?_
              rotate_left
              · ((intro w hSw; obtain ⟨k0, k4, k5, k6, k7, y14⟩ := HC.out _ hSw; go_simp) <;> with_reducible rfl)
              (try simp only [Act.put, List.setIfInBounds_toArray, List.set_cons_zero, List.set_cons_succ])
              refine any_take (i := 23) (v := ?_) rfl (by kernel_rfl) (by kernel_rfl) (by kernel_rfl) (by exact fun _ _ _ h => h) (by rfl) ?_ hS ?_
              rotate_left
              · ((intro w hSw; obtain ⟨k0, k4, k5, k6, k7, y14⟩ := HC.out _ hSw; go_simp) <;> with_reducible rfl)
              (try simp only [Act.put, List.setIfInBounds_toArray, List.set_cons_zero, List.set_cons_succ])
              refine any_take (i := 24) (v := ?_) rfl (by kernel_rfl) (by kernel_rfl) (by kernel_rfl) (by exact fun _ _ _ h => h) (by rfl) ?_ hS ?_
              rotate_left
              · ((intro w hSw; obtain ⟨k0, k4, k5, k6, k7, y14⟩ := HC.out _ hSw; go_simp) <;> with_reducible rfl)
              (try simp only [Act.put, List.setIfInBounds_toArray, List.set_cons_zero, List.set_cons_succ])
              refine any_take (i := 25) (v := ?_) rfl (by kernel_rfl) (by kernel_rfl) (by kernel_rfl) (by exact fun _ _ _ h => h) (by rfl) ?_ hS ?_
              rotate_left
              · ((intro w hSw; obtain ⟨k0, k4, k5, k6, k7, y14⟩ := HC.out _ hSw; go_simp) <;> with_reducible rfl)
              (try simp only [Act.put, List.setIfInBounds_toArray, List.set_cons_zero, List.set_cons_succ])
              refine any_take (i := 26) (v := ?_) rfl (by kernel_rfl) (by kernel_rfl) (by kernel_rfl) (by exact fun _ _ _ h => h) (by rfl) ?_ hS ?_
              rotate_left
              · ((intro w hSw; obtain ⟨k0, k4, k5, k6, k7, y14⟩ := HC.out _ hSw; go_simp) <;> with_reducible rfl)
              (try simp only [Act.put, List.setIfInBounds_toArray, List.set_cons_zero, List.set_cons_succ])
              refine any_take (i := 27) (v := ?_) rfl (by kernel_rfl) (by kernel_rfl) (by kernel_rfl) (by exact fun _ _ _ h => h) (by rfl) ?_ hS ?_
              rotate_left
              · ((intro w hSw; obtain ⟨k0, k4, k5, k6, k7, y14⟩ := HC.out _ hSw; go_simp) <;> with_reducible rfl)
              (try simp only [Act.put, List.setIfInBounds_toArray, List.set_cons_zero, List.set_cons_succ])
              refine any_take (i := 28) (v := ?_) rfl (by kernel_rfl) (by kernel_rfl) (by kernel_rfl) (by exact fun _ _ _ h => h) (by rfl) ?_ hS ?_
              rotate_left
              · ((intro w hSw; obtain ⟨k0, k4, k5, k6, k7, y14⟩ := HC.out _ hSw; go_simp) <;> with_reducible rfl)
              (try simp only [Act.put, List.setIfInBounds_toArray, List.set_cons_zero, List.set_cons_succ])
              refine any_take (i := 29) (v := ?_) rfl (by kernel_rfl) (by kernel_rfl) (by kernel_rfl) (by exact fun _ _ _ h => h) (by rfl) ?_ hS ?_
              rotate_left
              · ((intro w hSw; obtain ⟨k0, k4, k5, k6, k7, y14⟩ := HC.out _ hSw; go_simp) <;> with_reducible rfl)
              (try simp only [Act.put, List.setIfInBounds_toArray, List.set_cons_zero, List.set_cons_succ])
              refine any_take (i := 30) (v := ?_) rfl (by kernel_rfl) (by kernel_rfl) (by kernel_rfl) (by exact fun _ _ _ h => h) (by rfl) ?_ hS ?_
              rotate_left
              · ((intro w hSw; obtain ⟨k0, k4, k5, k6, k7, y14⟩ := HC.out _ hSw; go_simp) <;> with_reducible rfl)
              (try simp only [Act.put, List.setIfInBounds_toArray, List.set_cons_zero, List.set_cons_succ])
              refine any_take (i := 31) (v := ?_) rfl (by kernel_rfl) (by kernel_rfl) (by kernel_rfl) (by exact fun _ _ _ h => h) (by rfl) ?_ hS ?_
              rotate_left
              · ((intro w hSw; obtain ⟨k0, k4, k5, k6, k7, y14⟩ := HC.out _ hSw; go_simp) <;> with_reducible rfl)
              (try simp only [Act.put, List.setIfInBounds_toArray, List.set_cons_zero, List.set_cons_succ])
              refine any_take (i := 32) (v := ?_) rfl (by kernel_rfl) (by kernel_rfl) (by kernel_rfl) (by exact fun _ _ _ h => h) (by rfl) ?_ hS ?_
              rotate_left
              · ((intro w hSw; obtain ⟨k0, k4, k5, k6, k7, y14⟩ := HC.out _ hSw; go_simp) <;> with_reducible rfl)
              (try simp only [Act.put, List.setIfInBounds_toArray, List.set_cons_zero, List.set_cons_succ])
              refine any_take (i := 33) (v := ?_) rfl (by kernel_rfl) (by kernel_rfl) (by kernel_rfl) (by exact fun _ _ _ h => h) (by rfl) ?_ hS ?_
              rotate_left
              · ((intro w hSw; obtain ⟨k0, k4, k5, k6, k7, y14⟩ := HC.out _ hSw; go_simp) <;> with_reducible rfl)
              (try simp only [Act.put, List.setIfInBounds_toArray, List.set_cons_zero, List.set_cons_succ])
              refine any_take (i := 34) (v := ?_) rfl (by kernel_rfl) (by kernel_rfl) (by kernel_rfl) (by exact fun _ _ _ h => h) (by rfl) ?_ hS ?_
              rotate_left
              · ((intro w hSw; obtain ⟨k0, k4, k5, k6, k7, y14⟩ := HC.out _ hSw; go_simp) <;> with_reducible rfl)
              (try simp only [Act.put, List.setIfInBounds_toArray, List.set_cons_zero, List.set_cons_succ])
              refine any_take (i := 35) (v := ?_) rfl (by kernel_rfl) (by kernel_rfl) (by kernel_rfl) (by exact fun _ _ _ h => h) (by rfl) ?_ hS ?_
              rotate_left
              · ((intro w hSw; obtain ⟨k0, k4, k5, k6, k7, y14⟩ := HC.out _ hSw; go_simp) <;> with_reducible rfl)
              (try simp only [Act.put, List.setIfInBounds_toArray, List.set_cons_zero, List.set_cons_succ])
              refine any_take (i := 36) (v := ?_) rfl (by kernel_rfl) (by kernel_rfl) (by kernel_rfl) (by exact fun _ _ _ h => h) (by rfl) ?_ hS ?_
              rotate_left
              · ((intro w hSw; obtain ⟨k0, k4, k5, k6, k7, y14⟩ := HC.out _ hSw; go_simp) <;> with_reducible rfl)
              (try simp only [Act.put, List.setIfInBounds_toArray, List.set_cons_zero, List.set_cons_succ])
              refine any_take (i := 37) (v := ?_) rfl (by kernel_rfl) (by kernel_rfl) (by kernel_rfl) (by exact fun _ _ _ h => h) (by rfl) ?_ hS ?_
              rotate_left
              · ((intro w hSw; obtain ⟨k0, k4, k5, k6, k7, y14⟩ := HC.out _ hSw; go_simp) <;> with_reducible rfl)
              (try simp only [Act.put, List.setIfInBounds_toArray, List.set_cons_zero, List.set_cons_succ])
              refine any_take (i := 38) (v := ?_) rfl (by kernel_rfl) (by kernel_rfl) (by kernel_rfl) (by exact fun _ _ _ h => h) (by rfl) ?_ hS ?_
              rotate_left
              · ((intro w hSw; obtain ⟨k0, k4, k5, k6, k7, y14⟩ := HC.out _ hSw; go_simp) <;> with_reducible rfl)
              (try simp only [Act.put, List.setIfInBounds_toArray, List.set_cons_zero, List.set_cons_succ])
              refine any_one (i := 39) rfl (by kernel_rfl) (fun K hK => ?_)
              go_simp
              refine (Calls.mono (known17_any _)) ?_
              rintro e x4 ⟨rfl, hb4'⟩
              have G4 : Hid _ := below_then F.out (below_then hS hb4')
              go_wp2_with fail
              refine hK.out _ _ (below_then hS hb4') ?_
              clear hK K
              have hS : Below x3.heap.size x3 x4 := below_then hS hb4'
              refine any_take (i := 40) (v := ?_) rfl (by kernel_rfl) (by kernel_rfl) (by kernel_rfl) (by exact fun _ _ _ h => h) (by rfl) ?_ hS ?_
              rotate_left
              · ((intro w hSw; skip; go_simp) <;> with_reducible rfl)
              (try simp only [Act.put, List.setIfInBounds_toArray, List.set_cons_zero, List.set_cons_succ])
              refine any_take (i := 41) (v := ?_) rfl (by kernel_rfl) (by kernel_rfl) (by kernel_rfl) (by exact fun _ _ _ h => h) (by rfl) ?_ hS ?_
              rotate_left
              · ((intro w hSw; skip; go_simp) <;> with_reducible rfl)
              (try simp only [Act.put, List.setIfInBounds_toArray, List.set_cons_zero, List.set_cons_succ])
              refine wpAnyH_done (by kernel_rfl) ?_ _
              go_wp2
              go_ret
              exact ⟨by first | rfl | simp, G4.out⟩
        · cases ds
          · have HDS : Hid (decide (0 < dn) = decide (0 < dn)) := rfl
            have hBL : BL = NN + 4 := by have := HS.out.2.2.2.2.2.2; have := HNN.out; simp only [dgN, HDS.out, Bool.true_and, Bool.false_and, if_true, if_false, Bool.false_eq_true] at *; omega
            have u0 : IntKind.i64.wrap ((NN : Int) + 4) = (BL : Int) := by rw [IntKind.wrap_i64]; omega
            clear hBL
            go_wp2_with fail
            clear o0 o1 y14 r1
            clear u0
            refine wp_region_held_drew (S := fun W => Below x3.heap.size x3 W) (by kernel_rfl) (Below.refl _ _).drew (fun hS => ?_)
            have B0 : Below x3.heap.size x3 x3.drew := (Below.refl _ _).drew
            refine any_take (i := 0) (v := ?_) rfl (by kernel_rfl) (by kernel_rfl) (by kernel_rfl) (by exact fun _ _ _ h => h) (by rfl) ?_ hS ?_
            rotate_left
            · ((intro w hSw; obtain ⟨k0, k4, k5, k6, k7, y14⟩ := HC.out _ hSw; go_simp) <;> with_reducible rfl)
            (try simp only [Act.put, List.setIfInBounds_toArray, List.set_cons_zero, List.set_cons_succ])
            refine any_take (i := 1) (v := ?_) rfl (by kernel_rfl) (by kernel_rfl) (by kernel_rfl) (by exact fun _ _ _ h => h) (by rfl) ?_ hS ?_
            rotate_left
            · ((intro w hSw; obtain ⟨k0, k4, k5, k6, k7, y14⟩ := HC.out _ hSw; go_simp) <;> with_reducible rfl)
            (try simp only [Act.put, List.setIfInBounds_toArray, List.set_cons_zero, List.set_cons_succ])
            refine any_take (i := 2) (v := ?_) rfl (by kernel_rfl) (by kernel_rfl) (by kernel_rfl) (by exact fun _ _ _ h => h) (by rfl) ?_ hS ?_
            rotate_left
            · ((intro w hSw; obtain ⟨k0, k4, k5, k6, k7, y14⟩ := HC.out _ hSw; go_simp) <;> with_reducible rfl)
            (try simp only [Act.put, List.setIfInBounds_toArray, List.set_cons_zero, List.set_cons_succ])
            refine any_take (i := 3) (v := ?_) rfl (by kernel_rfl) (by kernel_rfl) (by kernel_rfl) (by exact fun _ _ _ h => h) (by rfl) ?_ hS ?_
            rotate_left
            · ((intro w hSw; obtain ⟨k0, k4, k5, k6, k7, y14⟩ := HC.out _ hSw; go_simp) <;> with_reducible rfl)
            (try simp only [Act.put, List.setIfInBounds_toArray, List.set_cons_zero, List.set_cons_succ])
            refine any_take (i := 4) (v := ?_) rfl (by kernel_rfl) (by kernel_rfl) (by kernel_rfl) (by exact fun _ _ _ h => h) (by rfl) ?_ hS ?_
            rotate_left
            · ((intro w hSw; obtain ⟨k0, k4, k5, k6, k7, y14⟩ := HC.out _ hSw; go_simp) <;> with_reducible rfl)
            (try simp only [Act.put, List.setIfInBounds_toArray, List.set_cons_zero, List.set_cons_succ])
            refine any_take (i := 5) (v := ?_) rfl (by kernel_rfl) (by kernel_rfl) (by kernel_rfl) (by exact fun _ _ _ h => h) (by rfl) ?_ hS ?_
            rotate_left
            · ((intro w hSw; obtain ⟨k0, k4, k5, k6, k7, y14⟩ := HC.out _ hSw; go_simp) <;> with_reducible rfl)
            (try simp only [Act.put, List.setIfInBounds_toArray, List.set_cons_zero, List.set_cons_succ])
            refine any_take (i := 6) (v := ?_) rfl (by kernel_rfl) (by kernel_rfl) (by kernel_rfl) (by exact fun _ _ _ h => h) (by rfl) ?_ hS ?_
            rotate_left
            · ((intro w hSw; obtain ⟨k0, k4, k5, k6, k7, y14⟩ := HC.out _ hSw; go_simp) <;> with_reducible rfl)
            (try simp only [Act.put, List.setIfInBounds_toArray, List.set_cons_zero, List.set_cons_succ])
            refine any_take (i := 7) (v := ?_) rfl (by kernel_rfl) (by kernel_rfl) (by kernel_rfl) (by exact fun _ _ _ h => h) (by rfl) ?_ hS ?_
            rotate_left
            · ((intro w hSw; obtain ⟨k0, k4, k5, k6, k7, y14⟩ := HC.out _ hSw; go_simp) <;> with_reducible rfl)
            (try simp only [Act.put, List.setIfInBounds_toArray, List.set_cons_zero, List.set_cons_succ])
            refine any_take (i := 8) (v := ?_) rfl (by kernel_rfl) (by kernel_rfl) (by kernel_rfl) (by exact fun _ _ _ h => h) (by rfl) ?_ hS ?_
            rotate_left
            · ((intro w hSw; obtain ⟨k0, k4, k5, k6, k7, y14⟩ := HC.out _ hSw; go_simp) <;> with_reducible rfl)
            (try simp only [Act.put, List.setIfInBounds_toArray, List.set_cons_zero, List.set_cons_succ])
            refine any_take (i := 9) (v := ?_) rfl (by kernel_rfl) (by kernel_rfl) (by kernel_rfl) (by exact fun _ _ _ h => h) (by rfl) ?_ hS ?_
            rotate_left
            · ((intro w hSw; obtain ⟨k0, k4, k5, k6, k7, y14⟩ := HC.out _ hSw; go_simp) <;> with_reducible rfl)
            (try simp only [Act.put, List.setIfInBounds_toArray, List.set_cons_zero, List.set_cons_succ])
            refine any_take (i := 10) (v := ?_) rfl (by kernel_rfl) (by kernel_rfl) (by kernel_rfl) (by exact fun _ _ _ h => h) (by rfl) ?_ hS ?_
            rotate_left
            · ((intro w hSw; obtain ⟨k0, k4, k5, k6, k7, y14⟩ := HC.out _ hSw; go_simp) <;> with_reducible rfl)
            (try simp only [Act.put, List.setIfInBounds_toArray, List.set_cons_zero, List.set_cons_succ])
            refine any_take (i := 11) (v := ?_) rfl (by kernel_rfl) (by kernel_rfl) (by kernel_rfl) (by exact fun _ _ _ h => h) (by rfl) ?_ hS ?_
            rotate_left
            · ((intro w hSw; obtain ⟨k0, k4, k5, k6, k7, y14⟩ := HC.out _ hSw; go_simp) <;> with_reducible rfl)
            (try simp only [Act.put, List.setIfInBounds_toArray, List.set_cons_zero, List.set_cons_succ])
            refine any_take (i := 12) (v := ?_) rfl (by kernel_rfl) (by kernel_rfl) (by kernel_rfl) (by exact fun _ _ _ h => h) (by rfl) ?_ hS ?_
            rotate_left
            · ((intro w hSw; obtain ⟨k0, k4, k5, k6, k7, y14⟩ := HC.out _ hSw; go_simp) <;> with_reducible rfl)
            (try simp only [Act.put, List.setIfInBounds_toArray, List.set_cons_zero, List.set_cons_succ])
            refine any_take (i := 13) (v := ?_) rfl (by kernel_rfl) (by kernel_rfl) (by kernel_rfl) (by exact fun _ _ _ h => h) (by rfl) ?_ hS ?_
            rotate_left
            · ((intro w hSw; obtain ⟨k0, k4, k5, k6, k7, y14⟩ := HC.out _ hSw; go_simp) <;> with_reducible rfl)
            (try simp only [Act.put, List.setIfInBounds_toArray, List.set_cons_zero, List.set_cons_succ])
            refine any_take (i := 14) (v := ?_) rfl (by kernel_rfl) (by kernel_rfl) (by kernel_rfl) (by exact fun _ _ _ h => h) (by rfl) ?_ hS ?_
            rotate_left
            · ((intro w hSw; obtain ⟨k0, k4, k5, k6, k7, y14⟩ := HC.out _ hSw; go_simp) <;> with_reducible rfl)
            (try simp only [Act.put, List.setIfInBounds_toArray, List.set_cons_zero, List.set_cons_succ])
            refine any_take (i := 15) (v := ?_) rfl (by kernel_rfl) (by kernel_rfl) (by kernel_rfl) (by exact fun _ _ _ h => h) (by rfl) ?_ hS ?_
            rotate_left
            · ((intro w hSw; obtain ⟨k0, k4, k5, k6, k7, y14⟩ := HC.out _ hSw; go_simp) <;> with_reducible rfl)
            (try simp only [Act.put, List.setIfInBounds_toArray, List.set_cons_zero, List.set_cons_succ])
            refine any_take (i := 16) (v := ?_) rfl (by kernel_rfl) (by kernel_rfl) (by kernel_rfl) (by exact fun _ _ _ h => h) (by rfl) ?_ hS ?_
            rotate_left
            · ((intro w hSw; obtain ⟨k0, k4, k5, k6, k7, y14⟩ := HC.out _ hSw; go_simp) <;> with_reducible rfl)
            (try simp only [Act.put, List.setIfInBounds_toArray, List.set_cons_zero, List.set_cons_succ])
            refine any_take (i := 17) (v := ?_) rfl (by kernel_rfl) (by kernel_rfl) (by kernel_rfl) (by exact fun _ _ _ h => h) (by rfl) ?_ hS ?_
            rotate_left
            · ((intro w hSw; obtain ⟨k0, k4, k5, k6, k7, y14⟩ := HC.out _ hSw; go_simp) <;> with_reducible rfl)
            (try simp only [Act.put, List.setIfInBounds_toArray, List.set_cons_zero, List.set_cons_succ])
            refine any_take (i := 18) (v := ?_) rfl (by kernel_rfl) (by kernel_rfl) (by kernel_rfl) (by exact fun _ _ _ h => h) (by rfl) ?_ hS ?_
            rotate_left
            · ((intro w hSw; obtain ⟨k0, k4, k5, k6, k7, y14⟩ := HC.out _ hSw; go_simp) <;> with_reducible rfl)
            (try simp only [Act.put, List.setIfInBounds_toArray, List.set_cons_zero, List.set_cons_succ])
            refine any_take (i := 19) (v := ?_) rfl (by kernel_rfl) (by kernel_rfl) (by kernel_rfl) (by exact fun _ _ _ h => h) (by rfl) ?_ hS ?_
            rotate_left
            · ((intro w hSw; obtain ⟨k0, k4, k5, k6, k7, y14⟩ := HC.out _ hSw; go_simp) <;> with_reducible rfl)
            (try simp only [Act.put, List.setIfInBounds_toArray, List.set_cons_zero, List.set_cons_succ])
            refine any_take (i := 20) (v := ?_) rfl (by kernel_rfl) (by kernel_rfl) (by kernel_rfl) (by exact fun _ _ _ h => h) (by rfl) ?_ hS ?_
            rotate_left
            · ((intro w hSw; obtain ⟨k0, k4, k5, k6, k7, y14⟩ := HC.out _ hSw; go_simp) <;> with_reducible rfl)
            (try simp only [Act.put, List.setIfInBounds_toArray, List.set_cons_zero, List.set_cons_succ])
            refine any_take (i := 21) (v := ?_) rfl (by kernel_rfl) (by kernel_rfl) (by kernel_rfl) (by exact fun _ _ _ h => h) (by rfl) ?_ hS ?_
            rotate_left
            · ((intro w hSw; obtain ⟨k0, k4, k5, k6, k7, y14⟩ := HC.out _ hSw; go_simp) <;> with_reducible rfl)
            (try simp only [Act.put, List.setIfInBounds_toArray, List.set_cons_zero, List.set_cons_succ])
            refine any_take (i := 22) (v := ?_) rfl (by kernel_rfl) (by kernel_rfl) (by kernel_rfl) (by exact fun _ _ _ h => h) (by rfl) ?_ hS ?_
            rotate_left
            · ((intro w hSw; obtain ⟨k0, k4, k5, k6, k7, y14⟩ := HC.out _ hSw; go_simp) <;> with_reducible rfl)
            (try simp only [Act.put, List.setIfInBounds_toArray, List.set_cons_zero, List.set_cons_succ])
            refine any_take (i := 23) (v := ?_) rfl (by kernel_rfl) (by kernel_rfl) (by kernel_rfl) (by exact fun _ _ _ h => h) (by rfl) ?_ hS ?_
            rotate_left
            · ((intro w hSw; obtain ⟨k0, k4, k5, k6, k7, y14⟩ := HC.out _ hSw; go_simp) <;> with_reducible rfl)
            (try simp only [Act.put, List.setIfInBounds_toArray, List.set_cons_zero, List.set_cons_succ])
            refine any_take (i := 24) (v := ?_) rfl (by kernel_rfl) (by kernel_rfl) (by kernel_rfl) (by exact fun _ _ _ h => h) (by rfl) ?_ hS ?_
            rotate_left
            · ((intro w hSw; obtain ⟨k0, k4, k5, k6, k7, y14⟩ := HC.out _ hSw; go_simp) <;> with_reducible rfl)
            (try simp only [Act.put, List.setIfInBounds_toArray, List.set_cons_zero, List.set_cons_succ])
            refine any_take (i := 25) (v := ?_) rfl (by kernel_rfl) (by kernel_rfl) (by kernel_rfl) (by exact fun _ _ _ h => h) (by rfl) ?_ hS ?_
            rotate_left
            · ((intro w hSw; obtain ⟨k0, k4, k5, k6, k7, y14⟩ := HC.out _ hSw; go_simp) <;> with_reducible rfl)
            (try simp only [Act.put, List.setIfInBounds_toArray, List.set_cons_zero, List.set_cons_succ])
            refine any_take (i := 26) (v := ?_) rfl (by kernel_rfl) (by kernel_rfl) (by kernel_rfl) (by exact fun _ _ _ h => h) (by rfl) ?_ hS ?_
            rotate_left
            · ((intro w hSw; obtain ⟨k0, k4, k5, k6, k7, y14⟩ := HC.out _ hSw; go_simp) <;> with_reducible rfl)
            (try simp only [Act.put, List.setIfInBounds_toArray, List.set_cons_zero, List.set_cons_succ])
            refine any_take (i := 27) (v := ?_) rfl (by kernel_rfl) (by kernel_rfl) (by kernel_rfl) (by exact fun _ _ _ h => h) (by rfl) ?_ hS ?_
            rotate_left
            · ((intro w hSw; obtain ⟨k0, k4, k5, k6, k7, y14⟩ := HC.out _ hSw; go_simp) <;> with_reducible rfl)
            (try simp only [Act.put, List.setIfInBounds_toArray, List.set_cons_zero, List.set_cons_succ])
            refine any_take (i := 28) (v := ?_) rfl (by kernel_rfl) (by kernel_rfl) (by kernel_rfl) (by exact fun _ _ _ h => h) (by rfl) ?_ hS ?_
            rotate_left
            · ((intro w hSw; obtain ⟨k0, k4, k5, k6, k7, y14⟩ := HC.out _ hSw; go_simp) <;> with_reducible rfl)
            (try simp only [Act.put, List.setIfInBounds_toArray, List.set_cons_zero, List.set_cons_succ])
            refine any_take (i := 29) (v := ?_) rfl (by kernel_rfl) (by kernel_rfl) (by kernel_rfl) (by exact fun _ _ _ h => h) (by rfl) ?_ hS ?_
            rotate_left
            · ((intro w hSw; obtain ⟨k0, k4, k5, k6, k7, y14⟩ := HC.out _ hSw; go_simp) <;> with_reducible rfl)
            (try simp only [Act.put, List.setIfInBounds_toArray, List.set_cons_zero, List.set_cons_succ])
            refine any_take (i := 30) (v := ?_) rfl (by kernel_rfl) (by kernel_rfl) (by kernel_rfl) (by exact fun _ _ _ h => h) (by rfl) ?_ hS ?_
            rotate_left
            · ((intro w hSw; obtain ⟨k0, k4, k5, k6, k7, y14⟩ := HC.out _ hSw; go_simp) <;> with_reducible rfl)
            (try simp only [Act.put, List.setIfInBounds_toArray, List.set_cons_zero, List.set_cons_succ])
            refine any_take (i := 31) (v := ?_) rfl (by kernel_rfl) (by kernel_rfl) (by kernel_rfl) (by exact fun _ _ _ h => h) (by rfl) ?_ hS ?_
            rotate_left
            · ((intro w hSw; obtain ⟨k0, k4, k5, k6, k7, y14⟩ := HC.out _ hSw; go_simp) <;> with_reducible rfl)
            (try simp only [Act.put, List.setIfInBounds_toArray, List.set_cons_zero, List.set_cons_succ])
            refine any_take (i := 32) (v := ?_) rfl (by kernel_rfl) (by kernel_rfl) (by kernel_rfl) (by exact fun _ _ _ h => h) (by rfl) ?_ hS ?_
            rotate_left
            · ((intro w hSw; obtain ⟨k0, k4, k5, k6, k7, y14⟩ := HC.out _ hSw; go_simp) <;> with_reducible rfl)
            (try simp only [Act.put, List.setIfInBounds_toArray, List.set_cons_zero, List.set_cons_succ])
            refine any_take (i := 33) (v := ?_) rfl (by kernel_rfl) (by kernel_rfl) (by kernel_rfl) (by exact fun _ _ _ h => h) (by rfl) ?_ hS ?_
            rotate_left
            · ((intro w hSw; obtain ⟨k0, k4, k5, k6, k7, y14⟩ := HC.out _ hSw; go_simp) <;> with_reducible rfl)
            (try simp only [Act.put, List.setIfInBounds_toArray, List.set_cons_zero, List.set_cons_succ])
            refine any_take (i := 34) (v := ?_) rfl (by kernel_rfl) (by kernel_rfl) (by kernel_rfl) (by exact fun _ _ _ h => h) (by rfl) ?_ hS ?_
            rotate_left
            · ((intro w hSw; obtain ⟨k0, k4, k5, k6, k7, y14⟩ := HC.out _ hSw; go_simp) <;> with_reducible rfl)
            (try simp only [Act.put, List.setIfInBounds_toArray, List.set_cons_zero, List.set_cons_succ])
            refine any_take (i := 35) (v := ?_) rfl (by kernel_rfl) (by kernel_rfl) (by kernel_rfl) (by exact fun _ _ _ h => h) (by rfl) ?_ hS ?_
            rotate_left
            · ((intro w hSw; obtain ⟨k0, k4, k5, k6, k7, y14⟩ := HC.out _ hSw; go_simp) <;> with_reducible rfl)
            (try simp only [Act.put, List.setIfInBounds_toArray, List.set_cons_zero, List.set_cons_succ])
            refine any_take (i := 36) (v := ?_) rfl (by kernel_rfl) (by kernel_rfl) (by kernel_rfl) (by exact fun _ _ _ h => h) (by rfl) ?_ hS ?_
            rotate_left
            · ((intro w hSw; obtain ⟨k0, k4, k5, k6, k7, y14⟩ := HC.out _ hSw; go_simp) <;> with_reducible rfl)
            (try simp only [Act.put, List.setIfInBounds_toArray, List.set_cons_zero, List.set_cons_succ])
            refine any_take (i := 37) (v := ?_) rfl (by kernel_rfl) (by kernel_rfl) (by kernel_rfl) (by exact fun _ _ _ h => h) (by rfl) ?_ hS ?_
            rotate_left
            · ((intro w hSw; obtain ⟨k0, k4, k5, k6, k7, y14⟩ := HC.out _ hSw; go_simp) <;> with_reducible rfl)
            (try simp only [Act.put, List.setIfInBounds_toArray, List.set_cons_zero, List.set_cons_succ])
            refine any_take (i := 38) (v := ?_) rfl (by kernel_rfl) (by kernel_rfl) (by kernel_rfl) (by exact fun _ _ _ h => h) (by rfl) ?_ hS ?_
            rotate_left
            · ((intro w hSw; obtain ⟨k0, k4, k5, k6, k7, y14⟩ := HC.out _ hSw; go_simp) <;> with_reducible rfl)
            (try simp only [Act.put, List.setIfInBounds_toArray, List.set_cons_zero, List.set_cons_succ])
            refine any_one (i := 39) rfl (by kernel_rfl) (fun K hK => ?_)
            go_simp
            refine (Calls.mono (known17_any _)) ?_
            rintro e x4 ⟨rfl, hb4'⟩
            have G4 : Hid _ := below_then F.out (below_then hS hb4')
            go_wp2_with fail
            refine hK.out _ _ (below_then hS hb4') ?_
            clear hK K
            have hS : Below x3.heap.size x3 x4 := below_then hS hb4'
            refine any_take (i := 40) (v := ?_) rfl (by kernel_rfl) (by kernel_rfl) (by kernel_rfl) (by exact fun _ _ _ h => h) (by rfl) ?_ hS ?_
            rotate_left
            · ((intro w hSw; skip; go_simp) <;> with_reducible rfl)
            (try simp only [Act.put, List.setIfInBounds_toArray, List.set_cons_zero, List.set_cons_succ])
            refine any_take (i := 41) (v := ?_) rfl (by kernel_rfl) (by kernel_rfl) (by kernel_rfl) (by exact fun _ _ _ h => h) (by rfl) ?_ hS ?_
            rotate_left
            · ((intro w hSw; skip; go_simp) <;> with_reducible rfl)
            (try simp only [Act.put, List.setIfInBounds_toArray, List.set_cons_zero, List.set_cons_succ])
            refine wpAnyH_done (by kernel_rfl) ?_ _
            go_wp2
            go_ret
            exact ⟨by first | rfl | simp, G4.out⟩
          · by_cases hp : 0 < dn
            · have HDS : Hid _ := show decide (0 < dn) = true from decide_eq_true hp
              have hpi : (0 : Int) < (dn : Int) := by omega
              have hBL : BL = NN + 8 := by have := HS.out.2.2.2.2.2.2; have := HNN.out; simp only [dgN, HDS.out, Bool.true_and, Bool.false_and, if_true, if_false, Bool.false_eq_true] at *; omega
              obtain ⟨M, hM⟩ : ∃ M : Nat, M = NN + 4 := ⟨_, rfl⟩
              have u0 : IntKind.i64.wrap ((NN : Int) + 4) = (M : Int) := by rw [IntKind.wrap_i64]; omega
              have u1 : IntKind.i64.wrap ((M : Int) + 4) = (BL : Int) := by rw [IntKind.wrap_i64]; omega
              clear hM
              clear hBL
              go_wp2_with fail
              clear o0 o1 y14 r1
              clear u0 u1
              refine wp_region_held_drew (S := fun W => Below x3.heap.size x3 W) (by kernel_rfl) (Below.refl _ _).drew (fun hS => ?_)
              have B0 : Below x3.heap.size x3 x3.drew := (Below.refl _ _).drew
              refine any_take (i := 0) (v := ?_) rfl (by kernel_rfl) (by kernel_rfl) (by kernel_rfl) (by exact fun _ _ _ h => h) (by rfl) ?_ hS ?_
              rotate_left
              · ((intro w hSw; obtain ⟨k0, k4, k5, k6, k7, y14⟩ := HC.out _ hSw; go_simp) <;> with_reducible rfl)
              (try simp only [Act.put, List.setIfInBounds_toArray, List.set_cons_zero, List.set_cons_succ])
              refine any_take (i := 1) (v := ?_) rfl (by kernel_rfl) (by kernel_rfl) (by kernel_rfl) (by exact fun _ _ _ h => h) (by rfl) ?_ hS ?_
              rotate_left
              · ((intro w hSw; obtain ⟨k0, k4, k5, k6, k7, y14⟩ := HC.out _ hSw; go_simp) <;> with_reducible rfl)
              (try simp only [Act.put, List.setIfInBounds_toArray, List.set_cons_zero, List.set_cons_succ])
              refine any_take (i := 2) (v := ?_) rfl (by kernel_rfl) (by kernel_rfl) (by kernel_rfl) (by exact fun _ _ _ h => h) (by rfl) ?_ hS ?_
              rotate_left
              · ((intro w hSw; obtain ⟨k0, k4, k5, k6, k7, y14⟩ := HC.out _ hSw; go_simp) <;> with_reducible rfl)
              (try simp only [Act.put, List.setIfInBounds_toArray, List.set_cons_zero, List.set_cons_succ])
              refine any_take (i := 3) (v := ?_) rfl (by kernel_rfl) (by kernel_rfl) (by kernel_rfl) (by exact fun _ _ _ h => h) (by rfl) ?_ hS ?_
              rotate_left
              · ((intro w hSw; obtain ⟨k0, k4, k5, k6, k7, y14⟩ := HC.out _ hSw; go_simp) <;> with_reducible rfl)
              (try simp only [Act.put, List.setIfInBounds_toArray, List.set_cons_zero, List.set_cons_succ])
              refine any_take (i := 4) (v := ?_) rfl (by kernel_rfl) (by kernel_rfl) (by kernel_rfl) (by exact fun _ _ _ h => h) (by rfl) ?_ hS ?_
              rotate_left
              · ((intro w hSw; obtain ⟨k0, k4, k5, k6, k7, y14⟩ := HC.out _ hSw; go_simp) <;> with_reducible rfl)
              (try simp only [Act.put, List.setIfInBounds_toArray, List.set_cons_zero, List.set_cons_succ])
              refine any_take (i := 5) (v := ?_) rfl (by kernel_rfl) (by kernel_rfl) (by kernel_rfl) (by exact fun _ _ _ h => h) (by rfl) ?_ hS ?_
              rotate_left
              · ((intro w hSw; obtain ⟨k0, k4, k5, k6, k7, y14⟩ := HC.out _ hSw; go_simp) <;> with_reducible rfl)
              (try simp only [Act.put, List.setIfInBounds_toArray, List.set_cons_zero, List.set_cons_succ])
              refine any_take (i := 6) (v := ?_) rfl (by kernel_rfl) (by kernel_rfl) (by kernel_rfl) (by exact fun _ _ _ h => h) (by rfl) ?_ hS ?_
              rotate_left
              · ((intro w hSw; obtain ⟨k0, k4, k5, k6, k7, y14⟩ := HC.out _ hSw; go_simp) <;> with_reducible rfl)
              (try simp only [Act.put, List.setIfInBounds_toArray, List.set_cons_zero, List.set_cons_succ])
              refine any_take (i := 7) (v := ?_) rfl (by kernel_rfl) (by kernel_rfl) (by kernel_rfl) (by exact fun _ _ _ h => h) (by rfl) ?_ hS ?_
              rotate_left
              · ((intro w hSw; obtain ⟨k0, k4, k5, k6, k7, y14⟩ := HC.out _ hSw; go_simp) <;> with_reducible rfl)
              (try simp only [Act.put, List.setIfInBounds_toArray, List.set_cons_zero, List.set_cons_succ])
              refine any_take (i := 8) (v := ?_) rfl (by kernel_rfl) (by kernel_rfl) (by kernel_rfl) (by exact fun _ _ _ h => h) (by rfl) ?_ hS ?_
              rotate_left
              · ((intro w hSw; obtain ⟨k0, k4, k5, k6, k7, y14⟩ := HC.out _ hSw; go_simp) <;> with_reducible rfl)
              (try simp only [Act.put, List.setIfInBounds_toArray, List.set_cons_zero, List.set_cons_succ])
              refine any_take (i := 9) (v := ?_) rfl (by kernel_rfl) (by kernel_rfl) (by kernel_rfl) (by exact fun _ _ _ h => h) (by rfl) ?_ hS ?_
              rotate_left
              · ((intro w hSw; obtain ⟨k0, k4, k5, k6, k7, y14⟩ := HC.out _ hSw; go_simp) <;> with_reducible rfl)
              (try simp only [Act.put, List.setIfInBounds_toArray, List.set_cons_zero, List.set_cons_succ])
              refine any_take (i := 10) (v := ?_) rfl (by kernel_rfl) (by kernel_rfl) (by kernel_rfl) (by exact fun _ _ _ h => h) (by rfl) ?_ hS ?_
              rotate_left
              · ((intro w hSw; obtain ⟨k0, k4, k5, k6, k7, y14⟩ := HC.out _ hSw; go_simp) <;> with_reducible rfl)
              (try simp only [Act.put, List.setIfInBounds_toArray, List.set_cons_zero, List.set_cons_succ])
              refine any_take (i := 11) (v := ?_) rfl (by kernel_rfl) (by kernel_rfl) (by kernel_rfl) (by exact fun _ _ _ h => h) (by rfl) ?_ hS ?_
              rotate_left
              · ((intro w hSw; obtain ⟨k0, k4, k5, k6, k7, y14⟩ := HC.out _ hSw; go_simp) <;> with_reducible rfl)
              (try simp only [Act.put, List.setIfInBounds_toArray, List.set_cons_zero, List.set_cons_succ])
              refine any_take (i := 12) (v := ?_) rfl (by kernel_rfl) (by kernel_rfl) (by kernel_rfl) (by exact fun _ _ _ h => h) (by rfl) ?_ hS ?_
              rotate_left
              · ((intro w hSw; obtain ⟨k0, k4, k5, k6, k7, y14⟩ := HC.out _ hSw; go_simp) <;> with_reducible rfl)
              (try simp only [Act.put, List.setIfInBounds_toArray, List.set_cons_zero, List.set_cons_succ])
              refine any_take (i := 13) (v := ?_) rfl (by kernel_rfl) (by kernel_rfl) (by kernel_rfl) (by exact fun _ _ _ h => h) (by rfl) ?_ hS ?_
              rotate_left
              · ((intro w hSw; obtain ⟨k0, k4, k5, k6, k7, y14⟩ := HC.out _ hSw; go_simp) <;> with_reducible rfl)
              (try simp only [Act.put, List.setIfInBounds_toArray, List.set_cons_zero, List.set_cons_succ])
              refine any_take (i := 14) (v := ?_) rfl (by kernel_rfl) (by kernel_rfl) (by kernel_rfl) (by exact fun _ _ _ h => h) (by rfl) ?_ hS ?_
              rotate_left
              · ((intro w hSw; obtain ⟨k0, k4, k5, k6, k7, y14⟩ := HC.out _ hSw; go_simp) <;> with_reducible rfl)
              (try simp only [Act.put, List.setIfInBounds_toArray, List.set_cons_zero, List.set_cons_succ])
              refine any_take (i := 15) (v := ?_) rfl (by kernel_rfl) (by kernel_rfl) (by kernel_rfl) (by exact fun _ _ _ h => h) (by rfl) ?_ hS ?_
              rotate_left
              · ((intro w hSw; obtain ⟨k0, k4, k5, k6, k7, y14⟩ := HC.out _ hSw; go_simp) <;> with_reducible rfl)
              (try simp only [Act.put, List.setIfInBounds_toArray, List.set_cons_zero, List.set_cons_succ])
              refine any_take (i := 16) (v := ?_) rfl (by kernel_rfl) (by kernel_rfl) (by kernel_rfl) (by exact fun _ _ _ h => h) (by rfl) ?_ hS ?_
              rotate_left
              · ((intro w hSw; obtain ⟨k0, k4, k5, k6, k7, y14⟩ := HC.out _ hSw; go_simp) <;> with_reducible rfl)
              (try simp only [Act.put, List.setIfInBounds_toArray, List.set_cons_zero, List.set_cons_succ])
              refine any_take (i := 17) (v := ?_) rfl (by kernel_rfl) (by kernel_rfl) (by kernel_rfl) (by exact fun _ _ _ h => h) (by rfl) ?_ hS ?_
              rotate_left
              · ((intro w hSw; obtain ⟨k0, k4, k5, k6, k7, y14⟩ := HC.out _ hSw; go_simp) <;> with_reducible rfl)
              (try simp only [Act.put, List.setIfInBounds_toArray, List.set_cons_zero, List.set_cons_succ])
              refine any_take (i := 18) (v := ?_) rfl (by kernel_rfl) (by kernel_rfl) (by kernel_rfl) (by exact fun _ _ _ h => h) (by rfl) ?_ hS ?_
              rotate_left
              · ((intro w hSw; obtain ⟨k0, k4, k5, k6, k7, y14⟩ := HC.out _ hSw; go_simp) <;> with_reducible rfl)
              (try simp only [Act.put, List.setIfInBounds_toArray, List.set_cons_zero, List.set_cons_succ])
              refine any_take (i := 19) (v := ?_) rfl (by kernel_rfl) (by kernel_rfl) (by kernel_rfl) (by exact fun _ _ _ h => h) (by rfl) ?_ hS ?_
              rotate_left
              · ((intro w hSw; obtain ⟨k0, k4, k5, k6, k7, y14⟩ := HC.out _ hSw; go_simp) <;> with_reducible rfl)
              (try simp only [Act.put, List.setIfInBounds_toArray, List.set_cons_zero, List.set_cons_succ])
              refine any_take (i := 20) (v := ?_) rfl (by kernel_rfl) (by kernel_rfl) (by kernel_rfl) (by exact fun _ _ _ h => h) (by rfl) ?_ hS ?_
              rotate_left
              · ((intro w hSw; obtain ⟨k0, k4, k5, k6, k7, y14⟩ := HC.out _ hSw; go_simp) <;> with_reducible rfl)
              (try simp only [Act.put, List.setIfInBounds_toArray, List.set_cons_zero, List.set_cons_succ])
              refine any_take (i := 21) (v := ?_) rfl (by kernel_rfl) (by kernel_rfl) (by kernel_rfl) (by exact fun _ _ _ h => h) (by rfl) ?_ hS ?_
              rotate_left
              · ((intro w hSw; obtain ⟨k0, k4, k5, k6, k7, y14⟩ := HC.out _ hSw; go_simp) <;> with_reducible rfl)
              (try simp only [Act.put, List.setIfInBounds_toArray, List.set_cons_zero, List.set_cons_succ])
              refine any_take (i := 22) (v := ?_) rfl (by kernel_rfl) (by kernel_rfl) (by kernel_rfl) (by exact fun _ _ _ h => h) (by rfl) ?_ hS ?_
              rotate_left
              · ((intro w hSw; obtain ⟨k0, k4, k5, k6, k7, y14⟩ := HC.out _ hSw; go_simp) <;> with_reducible rfl)
              (try simp only [Act.put, List.setIfInBounds_toArray, List.set_cons_zero, List.set_cons_succ])
              refine any_take (i := 23) (v := ?_) rfl (by kernel_rfl) (by kernel_rfl) (by kernel_rfl) (by exact fun _ _ _ h => h) (by rfl) ?_ hS ?_
              rotate_left
              · ((intro w hSw; obtain ⟨k0, k4, k5, k6, k7, y14⟩ := HC.out _ hSw; go_simp) <;> with_reducible rfl)
              (try simp only [Act.put, List.setIfInBounds_toArray, List.set_cons_zero, List.set_cons_succ])
              refine any_take (i := 24) (v := ?_) rfl (by kernel_rfl) (by kernel_rfl) (by kernel_rfl) (by exact fun _ _ _ h => h) (by rfl) ?_ hS ?_
              rotate_left
              · ((intro w hSw; obtain ⟨k0, k4, k5, k6, k7, y14⟩ := HC.out _ hSw; go_simp) <;> with_reducible rfl)
              (try simp only [Act.put, List.setIfInBounds_toArray, List.set_cons_zero, List.set_cons_succ])
              refine any_take (i := 25) (v := ?_) rfl (by kernel_rfl) (by kernel_rfl) (by kernel_rfl) (by exact fun _ _ _ h => h) (by rfl) ?_ hS ?_
              rotate_left
              · ((intro w hSw; obtain ⟨k0, k4, k5, k6, k7, y14⟩ := HC.out _ hSw; go_simp) <;> with_reducible rfl)
              (try simp only [Act.put, List.setIfInBounds_toArray, List.set_cons_zero, List.set_cons_succ])
              refine any_take (i := 26) (v := ?_) rfl (by kernel_rfl) (by kernel_rfl) (by kernel_rfl) (by exact fun _ _ _ h => h) (by rfl) ?_ hS ?_
              rotate_left
              · ((intro w hSw; obtain ⟨k0, k4, k5, k6, k7, y14⟩ := HC.out _ hSw; go_simp) <;> with_reducible rfl)
              (try simp only [Act.put, List.setIfInBounds_toArray, List.set_cons_zero, List.set_cons_succ])
              refine any_take (i := 27) (v := ?_) rfl (by kernel_rfl) (by kernel_rfl) (by kernel_rfl) (by exact fun _ _ _ h => h) (by rfl) ?_ hS ?_
              rotate_left
              · ((intro w hSw; obtain ⟨k0, k4, k5, k6, k7, y14⟩ := HC.out _ hSw; go_simp) <;> with_reducible rfl)
              (try simp only [Act.put, List.setIfInBounds_toArray, List.set_cons_zero, List.set_cons_succ])
              refine any_take (i := 28) (v := ?_) rfl (by kernel_rfl) (by kernel_rfl) (by kernel_rfl) (by exact fun _ _ _ h => h) (by rfl) ?_ hS ?_
              rotate_left
              · ((intro w hSw; obtain ⟨k0, k4, k5, k6, k7, y14⟩ := HC.out _ hSw; go_simp) <;> with_reducible rfl)
              (try simp only [Act.put, List.setIfInBounds_toArray, List.set_cons_zero, List.set_cons_succ])
              refine any_take (i := 29) (v := ?_) rfl (by kernel_rfl) (by kernel_rfl) (by kernel_rfl) (by exact fun _ _ _ h => h) (by rfl) ?_ hS ?_
              rotate_left
              · ((intro w hSw; obtain ⟨k0, k4, k5, k6, k7, y14⟩ := HC.out _ hSw; go_simp) <;> with_reducible rfl)
              (try simp only [Act.put, List.setIfInBounds_toArray, List.set_cons_zero, List.set_cons_succ])
              refine any_take (i := 30) (v := ?_) rfl (by kernel_rfl) (by kernel_rfl) (by kernel_rfl) (by exact fun _ _ _ h => h) (by rfl) ?_ hS ?_
              rotate_left
              · ((intro w hSw; obtain ⟨k0, k4, k5, k6, k7, y14⟩ := HC.out _ hSw; go_simp) <;> with_reducible rfl)
              (try simp only [Act.put, List.setIfInBounds_toArray, List.set_cons_zero, List.set_cons_succ])
              refine any_take (i := 31) (v := ?_) rfl (by kernel_rfl) (by kernel_rfl) (by kernel_rfl) (by exact fun _ _ _ h => h) (by rfl) ?_ hS ?_
              rotate_left
              · ((intro w hSw; obtain ⟨k0, k4, k5, k6, k7, y14⟩ := HC.out _ hSw; go_simp) <;> with_reducible rfl)
              (try simp only [Act.put, List.setIfInBounds_toArray, List.set_cons_zero, List.set_cons_succ])
              refine any_take (i := 32) (v := ?_) rfl (by kernel_rfl) (by kernel_rfl) (by kernel_rfl) (by exact fun _ _ _ h => h) (by rfl) ?_ hS ?_
              rotate_left
              · ((intro w hSw; obtain ⟨k0, k4, k5, k6, k7, y14⟩ := HC.out _ hSw; go_simp) <;> with_reducible rfl)
              (try simp only [Act.put, List.setIfInBounds_toArray, List.set_cons_zero, List.set_cons_succ])
              refine any_take (i := 33) (v := ?_) rfl (by kernel_rfl) (by kernel_rfl) (by kernel_rfl) (by exact fun _ _ _ h => h) (by rfl) ?_ hS ?_
              rotate_left
              · ((intro w hSw; obtain ⟨k0, k4, k5, k6, k7, y14⟩ := HC.out _ hSw; go_simp) <;> with_reducible rfl)
              (try simp only [Act.put, List.setIfInBounds_toArray, List.set_cons_zero, List.set_cons_succ])
              refine any_take (i := 34) (v := ?_) rfl (by kernel_rfl) (by kernel_rfl) (by kernel_rfl) (by exact fun _ _ _ h => h) (by rfl) ?_ hS ?_
              rotate_left
              · ((intro w hSw; obtain ⟨k0, k4, k5, k6, k7, y14⟩ := HC.out _ hSw; go_simp) <;> with_reducible rfl)
              (try simp only [Act.put, List.setIfInBounds_toArray, List.set_cons_zero, List.set_cons_succ])
              refine any_take (i := 35) (v := ?_) rfl (by kernel_rfl) (by kernel_rfl) (by kernel_rfl) (by exact fun _ _ _ h => h) (by rfl) ?_ hS ?_
              rotate_left
              · ((intro w hSw; obtain ⟨k0, k4, k5, k6, k7, y14⟩ := HC.out _ hSw; go_simp) <;> with_reducible rfl)
              (try simp only [Act.put, List.setIfInBounds_toArray, List.set_cons_zero, List.set_cons_succ])
              refine any_take (i := 36) (v := ?_) rfl (by kernel_rfl) (by kernel_rfl) (by kernel_rfl) (by exact fun _ _ _ h => h) (by rfl) ?_ hS ?_
              rotate_left
              · ((intro w hSw; obtain ⟨k0, k4, k5, k6, k7, y14⟩ := HC.out _ hSw; go_simp) <;> with_reducible rfl)
              (try simp only [Act.put, List.setIfInBounds_toArray, List.set_cons_zero, List.set_cons_succ])
              refine any_take (i := 37) (v := ?_) rfl (by kernel_rfl) (by kernel_rfl) (by kernel_rfl) (by exact fun _ _ _ h => h) (by rfl) ?_ hS ?_
              rotate_left
              · ((intro w hSw; obtain ⟨k0, k4, k5, k6, k7, y14⟩ := HC.out _ hSw; go_simp) <;> with_reducible rfl)
              (try simp only [Act.put, List.setIfInBounds_toArray, List.set_cons_zero, List.set_cons_succ])
              refine any_take (i := 38) (v := ?_) rfl (by kernel_rfl) (by kernel_rfl) (by kernel_rfl) (by exact fun _ _ _ h => h) (by rfl) ?_ hS ?_
              rotate_left
              · ((intro w hSw; obtain ⟨k0, k4, k5, k6, k7, y14⟩ := HC.out _ hSw; go_simp) <;> with_reducible rfl)
              (try simp only [Act.put, List.setIfInBounds_toArray, List.set_cons_zero, List.set_cons_succ])
              refine any_one (i := 39) rfl (by kernel_rfl) (fun K hK => ?_)
              go_simp
              refine (Calls.mono (known17_any _)) ?_
              rintro e x4 ⟨rfl, hb4'⟩
              have G4 : Hid _ := below_then F.out (below_then hS hb4')
              go_wp2_with fail
              refine hK.out _ _ (below_then hS hb4') ?_
              clear hK K
              have hS : Below x3.heap.size x3 x4 := below_then hS hb4'
              refine any_take (i := 40) (v := ?_) rfl (by kernel_rfl) (by kernel_rfl) (by kernel_rfl) (by exact fun _ _ _ h => h) (by rfl) ?_ hS ?_
              rotate_left
              · ((intro w hSw; skip; go_simp) <;> with_reducible rfl)
              (try simp only [Act.put, List.setIfInBounds_toArray, List.set_cons_zero, List.set_cons_succ])
              refine any_take (i := 41) (v := ?_) rfl (by kernel_rfl) (by kernel_rfl) (by kernel_rfl) (by exact fun _ _ _ h => h) (by rfl) ?_ hS ?_
              rotate_left
              · ((intro w hSw; skip; go_simp) <;> with_reducible rfl)
              (try simp only [Act.put, List.setIfInBounds_toArray, List.set_cons_zero, List.set_cons_succ])
              refine wpAnyH_done (by kernel_rfl) ?_ _
              go_wp2
              go_ret
              exact ⟨by first | rfl | simp, G4.out⟩
            · have HDS : Hid _ := show decide (0 < dn) = false from decide_eq_false hp
              have hpi : ¬ (0 : Int) < (dn : Int) := by omega
              have hBL : BL = NN + 4 := by have := HS.out.2.2.2.2.2.2; have := HNN.out; simp only [dgN, HDS.out, Bool.true_and, Bool.false_and, if_true, if_false, Bool.false_eq_true] at *; omega
              have u0 : IntKind.i64.wrap ((NN : Int) + 4) = (BL : Int) := by rw [IntKind.wrap_i64]; omega
              clear hBL
              go_wp2_with fail
              clear o0 o1 y14 r1
              clear u0
              refine wp_region_held_drew (S := fun W => Below x3.heap.size x3 W) (by kernel_rfl) (Below.refl _ _).drew (fun hS => ?_)
              have B0 : Below x3.heap.size x3 x3.drew := (Below.refl _ _).drew
              refine any_take (i := 0) (v := ?_) rfl (by kernel_rfl) (by kernel_rfl) (by kernel_rfl) (by exact fun _ _ _ h => h) (by rfl) ?_ hS ?_
              rotate_left
              · ((intro w hSw; obtain ⟨k0, k4, k5, k6, k7, y14⟩ := HC.out _ hSw; go_simp) <;> with_reducible rfl)
              (try simp only [Act.put, List.setIfInBounds_toArray, List.set_cons_zero, List.set_cons_succ])
              refine any_take (i := 1) (v := ?_) rfl (by kernel_rfl) (by kernel_rfl) (by kernel_rfl) (by exact fun _ _ _ h => h) (by rfl) ?_ hS ?_
              rotate_left
              · ((intro w hSw; obtain ⟨k0, k4, k5, k6, k7, y14⟩ := HC.out _ hSw; go_simp) <;> with_reducible rfl)
              (try simp only [Act.put, List.setIfInBounds_toArray, List.set_cons_zero, List.set_cons_succ])
              refine any_take (i := 2) (v := ?_) rfl (by kernel_rfl) (by kernel_rfl) (by kernel_rfl) (by exact fun _ _ _ h => h) (by rfl) ?_ hS ?_
              rotate_left
              · ((intro w hSw; obtain ⟨k0, k4, k5, k6, k7, y14⟩ := HC.out _ hSw; go_simp) <;> with_reducible rfl)
              (try simp only [Act.put, List.setIfInBounds_toArray, List.set_cons_zero, List.set_cons_succ])
              refine any_take (i := 3) (v := ?_) rfl (by kernel_rfl) (by kernel_rfl) (by kernel_rfl) (by exact fun _ _ _ h => h) (by rfl) ?_ hS ?_
              rotate_left
              · ((intro w hSw; obtain ⟨k0, k4, k5, k6, k7, y14⟩ := HC.out _ hSw; go_simp) <;> with_reducible rfl)
              (try simp only [Act.put, List.setIfInBounds_toArray, List.set_cons_zero, List.set_cons_succ])
              refine any_take (i := 4) (v := ?_) rfl (by kernel_rfl) (by kernel_rfl) (by kernel_rfl) (by exact fun _ _ _ h => h) (by rfl) ?_ hS ?_
              rotate_left
              · ((intro w hSw; obtain ⟨k0, k4, k5, k6, k7, y14⟩ := HC.out _ hSw; go_simp) <;> with_reducible rfl)
              (try simp only [Act.put, List.setIfInBounds_toArray, List.set_cons_zero, List.set_cons_succ])
              refine any_take (i := 5) (v := ?_) rfl (by kernel_rfl) (by kernel_rfl) (by kernel_rfl) (by exact fun _ _ _ h => h) (by rfl) ?_ hS ?_
              rotate_left
              · ((intro w hSw; obtain ⟨k0, k4, k5, k6, k7, y14⟩ := HC.out _ hSw; go_simp) <;> with_reducible rfl)
              (try simp only [Act.put, List.setIfInBounds_toArray, List.set_cons_zero, List.set_cons_succ])
              refine any_take (i := 6) (v := ?_) rfl (by kernel_rfl) (by kernel_rfl) (by kernel_rfl) (by exact fun _ _ _ h => h) (by rfl) ?_ hS ?_
              rotate_left
              · ((intro w hSw; obtain ⟨k0, k4, k5, k6, k7, y14⟩ := HC.out _ hSw; go_simp) <;> with_reducible rfl)
              (try simp only [Act.put, List.setIfInBounds_toArray, List.set_cons_zero, List.set_cons_succ])
              refine any_take (i := 7) (v := ?_) rfl (by kernel_rfl) (by kernel_rfl) (by kernel_rfl) (by exact fun _ _ _ h => h) (by rfl) ?_ hS ?_
              rotate_left
              · ((intro w hSw; obtain ⟨k0, k4, k5, k6, k7, y14⟩ := HC.out _ hSw; go_simp) <;> with_reducible rfl)
              (try simp only [Act.put, List.setIfInBounds_toArray, List.set_cons_zero, List.set_cons_succ])
              refine any_take (i := 8) (v := ?_) rfl (by kernel_rfl) (by kernel_rfl) (by kernel_rfl) (by exact fun _ _ _ h => h) (by rfl) ?_ hS ?_
              rotate_left
              · ((intro w hSw; obtain ⟨k0, k4, k5, k6, k7, y14⟩ := HC.out _ hSw; go_simp) <;> with_reducible rfl)
              (try simp only [Act.put, List.setIfInBounds_toArray, List.set_cons_zero, List.set_cons_succ])
              refine any_take (i := 9) (v := ?_) rfl (by kernel_rfl) (by kernel_rfl) (by kernel_rfl) (by exact fun _ _ _ h => h) (by rfl) ?_ hS ?_
              rotate_left
              · ((intro w hSw; obtain ⟨k0, k4, k5, k6, k7, y14⟩ := HC.out _ hSw; go_simp) <;> with_reducible rfl)
              (try simp only [Act.put, List.setIfInBounds_toArray, List.set_cons_zero, List.set_cons_succ])
              refine any_take (i := 10) (v := ?_) rfl (by kernel_rfl) (by kernel_rfl) (by kernel_rfl) (by exact fun _ _ _ h => h) (by rfl) ?_ hS ?_
              rotate_left
              · ((intro w hSw; obtain ⟨k0, k4, k5, k6, k7, y14⟩ := HC.out _ hSw; go_simp) <;> with_reducible rfl)
              (try simp only [Act.put, List.setIfInBounds_toArray, List.set_cons_zero, List.set_cons_succ])
              refine any_take (i := 11) (v := ?_) rfl (by kernel_rfl) (by kernel_rfl) (by kernel_rfl) (by exact fun _ _ _ h => h) (by rfl) ?_ hS ?_
              rotate_left
              · ((intro w hSw; obtain ⟨k0, k4, k5, k6, k7, y14⟩ := HC.out _ hSw; go_simp) <;> with_reducible rfl)
              (try simp only [Act.put, List.setIfInBounds_toArray, List.set_cons_zero, List.set_cons_succ])
              refine any_take (i := 12) (v := ?_) rfl (by kernel_rfl) (by kernel_rfl) (by kernel_rfl) (by exact fun _ _ _ h => h) (by rfl) ?_ hS ?_
              rotate_left
              · ((intro w hSw; obtain ⟨k0, k4, k5, k6, k7, y14⟩ := HC.out _ hSw; go_simp) <;> with_reducible rfl)
              (try simp only [Act.put, List.setIfInBounds_toArray, List.set_cons_zero, List.set_cons_succ])
              refine any_take (i := 13) (v := ?_) rfl (by kernel_rfl) (by kernel_rfl) (by kernel_rfl) (by exact fun _ _ _ h => h) (by rfl) ?_ hS ?_
              rotate_left
              · ((intro w hSw; obtain ⟨k0, k4, k5, k6, k7, y14⟩ := HC.out _ hSw; go_simp) <;> with_reducible rfl)
              (try simp only [Act.put, List.setIfInBounds_toArray, List.set_cons_zero, List.set_cons_succ])
              refine any_take (i := 14) (v := ?_) rfl (by kernel_rfl) (by kernel_rfl) (by kernel_rfl) (by exact fun _ _ _ h => h) (by rfl) ?_ hS ?_
              rotate_left
              · ((intro w hSw; obtain ⟨k0, k4, k5, k6, k7, y14⟩ := HC.out _ hSw; go_simp) <;> with_reducible rfl)
              (try simp only [Act.put, List.setIfInBounds_toArray, List.set_cons_zero, List.set_cons_succ])
              refine any_take (i := 15) (v := ?_) rfl (by kernel_rfl) (by kernel_rfl) (by kernel_rfl) (by exact fun _ _ _ h => h) (by rfl) ?_ hS ?_
              rotate_left
              · ((intro w hSw; obtain ⟨k0, k4, k5, k6, k7, y14⟩ := HC.out _ hSw; go_simp) <;> with_reducible rfl)
              (try simp only [Act.put, List.setIfInBounds_toArray, List.set_cons_zero, List.set_cons_succ])
              refine any_take (i := 16) (v := ?_) rfl (by kernel_rfl) (by kernel_rfl) (by kernel_rfl) (by exact fun _ _ _ h => h) (by rfl) ?_ hS ?_
              rotate_left
              · ((intro w hSw; obtain ⟨k0, k4, k5, k6, k7, y14⟩ := HC.out _ hSw; go_simp) <;> with_reducible rfl)
              (try simp only [Act.put, List.setIfInBounds_toArray, List.set_cons_zero, List.set_cons_succ])
              refine any_take (i := 17) (v := ?_) rfl (by kernel_rfl) (by kernel_rfl) (by kernel_rfl) (by exact fun _ _ _ h => h) (by rfl) ?_ hS ?_
              rotate_left
              · ((intro w hSw; obtain ⟨k0, k4, k5, k6, k7, y14⟩ := HC.out _ hSw; go_simp) <;> with_reducible rfl)
              (try simp only [Act.put, List.setIfInBounds_toArray, List.set_cons_zero, List.set_cons_succ])
              refine any_take (i := 18) (v := ?_) rfl (by kernel_rfl) (by kernel_rfl) (by kernel_rfl) (by exact fun _ _ _ h => h) (by rfl) ?_ hS ?_
              rotate_left
              · ((intro w hSw; obtain ⟨k0, k4, k5, k6, k7, y14⟩ := HC.out _ hSw; go_simp) <;> with_reducible rfl)
              (try simp only [Act.put, List.setIfInBounds_toArray, List.set_cons_zero, List.set_cons_succ])
              refine any_take (i := 19) (v := ?_) rfl (by kernel_rfl) (by kernel_rfl) (by kernel_rfl) (by exact fun _ _ _ h => h) (by rfl) ?_ hS ?_
              rotate_left
              · ((intro w hSw; obtain ⟨k0, k4, k5, k6, k7, y14⟩ := HC.out _ hSw; go_simp) <;> with_reducible rfl)
              (try simp only [Act.put, List.setIfInBounds_toArray, List.set_cons_zero, List.set_cons_succ])
              refine any_take (i := 20) (v := ?_) rfl (by kernel_rfl) (by kernel_rfl) (by kernel_rfl) (by exact fun _ _ _ h => h) (by rfl) ?_ hS ?_
              rotate_left
              · ((intro w hSw; obtain ⟨k0, k4, k5, k6, k7, y14⟩ := HC.out _ hSw; go_simp) <;> with_reducible rfl)
              (try simp only [Act.put, List.setIfInBounds_toArray, List.set_cons_zero, List.set_cons_succ])
              refine any_take (i := 21) (v := ?_) rfl (by kernel_rfl) (by kernel_rfl) (by kernel_rfl) (by exact fun _ _ _ h => h) (by rfl) ?_ hS ?_
              rotate_left
              · ((intro w hSw; obtain ⟨k0, k4, k5, k6, k7, y14⟩ := HC.out _ hSw; go_simp) <;> with_reducible rfl)
              (try simp only [Act.put, List.setIfInBounds_toArray, List.set_cons_zero, List.set_cons_succ])
              refine any_take (i := 22) (v := ?_) rfl (by kernel_rfl) (by kernel_rfl) (by kernel_rfl) (by exact fun _ _ _ h => h) (by rfl) ?_ hS ?_
              rotate_left
              · ((intro w hSw; obtain ⟨k0, k4, k5, k6, k7, y14⟩ := HC.out _ hSw; go_simp) <;> with_reducible rfl)
              (try simp only [Act.put, List.setIfInBounds_toArray, List.set_cons_zero, List.set_cons_succ])
              refine any_take (i := 23) (v := ?_) rfl (by kernel_rfl) (by kernel_rfl) (by kernel_rfl) (by exact fun _ _ _ h => h) (by rfl) ?_ hS ?_
              rotate_left
              · ((intro w hSw; obtain ⟨k0, k4, k5, k6, k7, y14⟩ := HC.out _ hSw; go_simp) <;> with_reducible rfl)
              (try simp only [Act.put, List.setIfInBounds_toArray, List.set_cons_zero, List.set_cons_succ])
              refine any_take (i := 24) (v := ?_) rfl (by kernel_rfl) (by kernel_rfl) (by kernel_rfl) (by exact fun _ _ _ h => h) (by rfl) ?_ hS ?_
              rotate_left
              · ((intro w hSw; obtain ⟨k0, k4, k5, k6, k7, y14⟩ := HC.out _ hSw; go_simp) <;> with_reducible rfl)
              (try simp only [Act.put, List.setIfInBounds_toArray, List.set_cons_zero, List.set_cons_succ])
              refine any_take (i := 25) (v := ?_) rfl (by kernel_rfl) (by kernel_rfl) (by kernel_rfl) (by exact fun _ _ _ h => h) (by rfl) ?_ hS ?_
              rotate_left
              · ((intro w hSw; obtain ⟨k0, k4, k5, k6, k7, y14⟩ := HC.out _ hSw; go_simp) <;> with_reducible rfl)
              (try simp only [Act.put, List.setIfInBounds_toArray, List.set_cons_zero, List.set_cons_succ])
              refine any_take (i := 26) (v := ?_) rfl (by kernel_rfl) (by kernel_rfl) (by kernel_rfl) (by exact fun _ _ _ h => h) (by rfl) ?_ hS ?_
              rotate_left
              · ((intro w hSw; obtain ⟨k0, k4, k5, k6, k7, y14⟩ := HC.out _ hSw; go_simp) <;> with_reducible rfl)
              (try simp only [Act.put, List.setIfInBounds_toArray, List.set_cons_zero, List.set_cons_succ])
              refine any_take (i := 27) (v := ?_) rfl (by kernel_rfl) (by kernel_rfl) (by kernel_rfl) (by exact fun _ _ _ h => h) (by rfl) ?_ hS ?_
              rotate_left
              · ((intro w hSw; obtain ⟨k0, k4, k5, k6, k7, y14⟩ := HC.out _ hSw; go_simp) <;> with_reducible rfl)
              (try simp only [Act.put, List.setIfInBounds_toArray, List.set_cons_zero, List.set_cons_succ])
              refine any_take (i := 28) (v := ?_) rfl (by kernel_rfl) (by kernel_rfl) (by kernel_rfl) (by exact fun _ _ _ h => h) (by rfl) ?_ hS ?_
              rotate_left
              · ((intro w hSw; obtain ⟨k0, k4, k5, k6, k7, y14⟩ := HC.out _ hSw; go_simp) <;> with_reducible rfl)
              (try simp only [Act.put, List.setIfInBounds_toArray, List.set_cons_zero, List.set_cons_succ])
              refine any_take (i := 29) (v := ?_) rfl (by kernel_rfl) (by kernel_rfl) (by kernel_rfl) (by exact fun _ _ _ h => h) (by rfl) ?_ hS ?_
              rotate_left
              · ((intro w hSw; obtain ⟨k0, k4, k5, k6, k7, y14⟩ := HC.out _ hSw; go_simp) <;> with_reducible rfl)
              (try simp only [Act.put, List.setIfInBounds_toArray, List.set_cons_zero, List.set_cons_succ])
              refine any_take (i := 30) (v := ?_) rfl (by kernel_rfl) (by kernel_rfl) (by kernel_rfl) (by exact fun _ _ _ h => h) (by rfl) ?_ hS ?_
              rotate_left
              · ((intro w hSw; obtain ⟨k0, k4, k5, k6, k7, y14⟩ := HC.out _ hSw; go_simp) <;> with_reducible rfl)
              (try simp only [Act.put, List.setIfInBounds_toArray, List.set_cons_zero, List.set_cons_succ])
              refine any_take (i := 31) (v := ?_) rfl (by kernel_rfl) (by kernel_rfl) (by kernel_rfl) (by exact fun _ _ _ h => h) (by rfl) ?_ hS ?_
              rotate_left
              · ((intro w hSw; obtain ⟨k0, k4, k5, k6, k7, y14⟩ := HC.out _ hSw; go_simp) <;> with_reducible rfl)
              (try simp only [Act.put, List.setIfInBounds_toArray, List.set_cons_zero, List.set_cons_succ])
              refine any_take (i := 32) (v := ?_) rfl (by kernel_rfl) (by kernel_rfl) (by kernel_rfl) (by exact fun _ _ _ h => h) (by rfl) ?_ hS ?_
              rotate_left
              · ((intro w hSw; obtain ⟨k0, k4, k5, k6, k7, y14⟩ := HC.out _ hSw; go_simp) <;> with_reducible rfl)
              (try simp only [Act.put, List.setIfInBounds_toArray, List.set_cons_zero, List.set_cons_succ])
              refine any_take (i := 33) (v := ?_) rfl (by kernel_rfl) (by kernel_rfl) (by kernel_rfl) (by exact fun _ _ _ h => h) (by rfl) ?_ hS ?_
              rotate_left
              · ((intro w hSw; obtain ⟨k0, k4, k5, k6, k7, y14⟩ := HC.out _ hSw; go_simp) <;> with_reducible rfl)
              (try simp only [Act.put, List.setIfInBounds_toArray, List.set_cons_zero, List.set_cons_succ])
              refine any_take (i := 34) (v := ?_) rfl (by kernel_rfl) (by kernel_rfl) (by kernel_rfl) (by exact fun _ _ _ h => h) (by rfl) ?_ hS ?_
              rotate_left
              · ((intro w hSw; obtain ⟨k0, k4, k5, k6, k7, y14⟩ := HC.out _ hSw; go_simp) <;> with_reducible rfl)
              (try simp only [Act.put, List.setIfInBounds_toArray, List.set_cons_zero, List.set_cons_succ])
              refine any_take (i := 35) (v := ?_) rfl (by kernel_rfl) (by kernel_rfl) (by kernel_rfl) (by exact fun _ _ _ h => h) (by rfl) ?_ hS ?_
              rotate_left
              · ((intro w hSw; obtain ⟨k0, k4, k5, k6, k7, y14⟩ := HC.out _ hSw; go_simp) <;> with_reducible rfl)
              (try simp only [Act.put, List.setIfInBounds_toArray, List.set_cons_zero, List.set_cons_succ])
              refine any_take (i := 36) (v := ?_) rfl (by kernel_rfl) (by kernel_rfl) (by kernel_rfl) (by exact fun _ _ _ h => h) (by rfl) ?_ hS ?_
              rotate_left
              · ((intro w hSw; obtain ⟨k0, k4, k5, k6, k7, y14⟩ := HC.out _ hSw; go_simp) <;> with_reducible rfl)
              (try simp only [Act.put, List.setIfInBounds_toArray, List.set_cons_zero, List.set_cons_succ])
              refine any_take (i := 37) (v := ?_) rfl (by kernel_rfl) (by kernel_rfl) (by kernel_rfl) (by exact fun _ _ _ h => h) (by rfl) ?_ hS ?_
              rotate_left
              · ((intro w hSw; obtain ⟨k0, k4, k5, k6, k7, y14⟩ := HC.out _ hSw; go_simp) <;> with_reducible rfl)
              (try simp only [Act.put, List.setIfInBounds_toArray, List.set_cons_zero, List.set_cons_succ])
              refine any_take (i := 38) (v := ?_) rfl (by kernel_rfl) (by kernel_rfl) (by kernel_rfl) (by exact fun _ _ _ h => h) (by rfl) ?_ hS ?_
              rotate_left
              · ((intro w hSw; obtain ⟨k0, k4, k5, k6, k7, y14⟩ := HC.out _ hSw; go_simp) <;> with_reducible rfl)
              (try simp only [Act.put, List.setIfInBounds_toArray, List.set_cons_zero, List.set_cons_succ])
              refine any_one (i := 39) rfl (by kernel_rfl) (fun K hK => ?_)
              go_simp
              refine (Calls.mono (known17_any _)) ?_
              rintro e x4 ⟨rfl, hb4'⟩
              have G4 : Hid _ := below_then F.out (below_then hS hb4')
              go_wp2_with fail
              refine hK.out _ _ (below_then hS hb4') ?_
              clear hK K
              have hS : Below x3.heap.size x3 x4 := below_then hS hb4'
              refine any_take (i := 40) (v := ?_) rfl (by kernel_rfl) (by kernel_rfl) (by kernel_rfl) (by exact fun _ _ _ h => h) (by rfl) ?_ hS ?_
              rotate_left
              · ((intro w hSw; skip; go_simp) <;> with_reducible rfl)
              (try simp only [Act.put, List.setIfInBounds_toArray, List.set_cons_zero, List.set_cons_succ])
              refine any_take (i := 41) (v := ?_) rfl (by kernel_rfl) (by kernel_rfl) (by kernel_rfl) (by exact fun _ _ _ h => h) (by rfl) ?_ hS ?_
              rotate_left
              · ((intro w hSw; skip; go_simp) <;> with_reducible rfl)
              (try simp only [Act.put, List.setIfInBounds_toArray, List.set_cons_zero, List.set_cons_succ])
              refine wpAnyH_done (by kernel_rfl) ?_ _
              go_wp2
              go_ret
              exact ⟨by first | rfl | simp, G4.out⟩
      · have r3 : ¬ ((n % 4 : Nat) : Int) = 0 := by omega
        have r4 : IntKind.i64.wrap ((n : Int) + 1) = ((n + 1 : Nat) : Int) := by rw [IntKind.wrap_i64]; omega
        go_wp2
        go_roundw
        case rel => exact ⟨n + 1, by go_num, by omega, by omega, by first | rfl | trivial⟩
        case measure => simp [intOf]; omega
  · have Y1 := Y.out.2.2.2
    rw [if_neg h0] at Y1
    obtain ⟨ba, bc, hb, -⟩ := Y1.open
    subst hb
    have F : Hid _ := Y.out.1
    have HK : Hid _ := known17_any x3
    clear Y Y1 hPE HE
    go_wp2_with fail
    refine (Calls.mono HK.out) ?_
    rintro e x4 ⟨rfl, b4⟩
    have F4 : Hid _ := below_then F.out b4
    clear b4 HK F
    go_wp2
    go_ret
    exact ⟨by first | rfl | simp, F4.out⟩
theorem pduLength_walk (c0 : Int) (c1 : Bool) (c2 c3 c4 : Int) (c5 : BitVec 64) (c6 c7_0 c7_1 c7_2 c7_3 c7_4 c7_5 c7_6 : BitVec 32) (c8 : List (BitVec 8)) (c8x : Option Addr) (c8c : Nat) (o0 o1 : Bool) (o2 : Int) (w : World) (B0 : I64 c0 ∧ I64 c2 ∧ I64 c3 ∧ I64 c4 ∧ DatOk w c8x c8 c8c) (B1 : I64 o2) :
    Calls Try.prog 8 #[.agg #[.int .i64 c0, .bool c1, .int .i64 c2, .int .i64 c3, .int .i64 c4, .int .u64 (c5.toNat : Int), .int .u32 (c6.toNat : Int), .int .u32 (c7_0.toNat : Int), .int .u32 (c7_1.toNat : Int), .int .u32 (c7_2.toNat : Int), .int .u32 (c7_3.toNat : Int), .int .u32 (c7_4.toNat : Int), .int .u32 (c7_5.toNat : Int), .int .u32 (c7_6.toNat : Int), .slice c8x c8.length c8c], .agg #[.bool o0, .bool o1, .int .i64 o2]] w fun e w' => e = .returned (.bool true) ∧ Below w.heap.size w w' := by
  have D := B0.2.2.2.2
  have h32 : ∀ x : BitVec 32, 0 ≤ (x.toNat : Int) ∧ (x.toNat : Int) < 4294967296 := fun x => by have := x.isLt; omega
  exact lenWalk c0 c2 c3 c4 (c5.toNat : Int) (c6.toNat : Int) (c7_0.toNat : Int) (c7_1.toNat : Int) (c7_2.toNat : Int) (c7_3.toNat : Int) (c7_4.toNat : Int) (c7_5.toNat : Int) (c7_6.toNat : Int) c1 c8x c8.length c8c o0 o1 o2 c8 w (by intro t ht; simp only [List.mem_cons, List.mem_nil_iff, or_false] at ht; rcases ht with rfl | rfl | rfl | rfl | rfl | rfl | rfl | rfl <;> exact h32 _) rfl D.le D.nil D.most D.row
end Go.Proofs.Ythcdhpmkhegkpaa

