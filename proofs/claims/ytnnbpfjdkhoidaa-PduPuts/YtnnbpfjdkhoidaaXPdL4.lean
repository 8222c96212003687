/- The walk of PduPuts. -/
import Derived.Test.YtnnbpfjdkhoidaaXPdR2
import Derived.Test.YtnnbpfjdkhoidaaXPdU
import Derived.Test.YtnnbpfjdkhoidaaXPdQ
import Derived.Test.YtnnbpfjdkhoidaaXPdL2
import Derived.Test.YtnnbpfjdkhoidaaXPdA
namespace Go.Proofs.Ytnnbpfjdkhoidaa
open Go.RowKit
set_option linter.unusedVariables false
set_option linter.unusedSimpArgs false
set_option maxRecDepth 8000

theorem rqPut_any (op fl b2 b3 lun tk w0 w1 w2 w3 w4 w5 w6 : Int) (now : Bool) (dx : Option Addr) (dn dc : Nat) (hs ds : Bool) (mo : Int) (d : List (BitVec 8)) (w : World) (htw : ∀ t ∈ [tk, w0, w1, w2, w3, w4, w5, w6], 0 ≤ t ∧ t < 4294967296) (hdl : d.length = dn) (hdc : dn ≤ dc) (hdn : dx = none → dc = 0) (hdr : Row w dx d) :
    Calls Try.prog 18 #[.agg #[.int .i64 op, .bool now, .int .i64 fl, .int .i64 b2, .int .i64 b3, .int .u64 lun, .int .u32 tk, .int .u32 w0, .int .u32 w1, .int .u32 w2, .int .u32 w3, .int .u32 w4, .int .u32 w5, .int .u32 w6, .slice dx dn dc], .agg #[.bool hs, .bool ds, .int .i64 mo]] w fun e w' => ∃ z, e = .returned (.tuple #[z, .int .i64 (putE mo op fl b2 b3 dn)]) ∧ Own w' w.heap.size z (if putE mo op fl b2 b3 dn = 0 then putB hs ds (pdH op now fl b2 b3 dn lun tk w0 w1 w2 w3 w4 w5 w6) d else []) ∧ Below w.heap.size w w' := by
  by_cases hc : okO mo = false ∨ canP op fl b2 b3 = false
  · have e : putE mo op fl b2 b3 dn = 1 := by unfold putE; rcases hc with hc | hc <;> rw [hc] <;> simp
    refine (rPut_arg op fl b2 b3 lun tk w0 w1 w2 w3 w4 w5 w6 now dx dn dc hs ds mo d w hc).mono ?_
    rintro e' w' ⟨rfl, b⟩
    exact ⟨_, by rw [e], by rw [e, if_neg (by decide)]; exact Own.nil _ _, b⟩
  · have ho : okO mo = true := by cases h : okO mo; exact absurd (.inl h) hc; rfl
    have hcp : canP op fl b2 b3 = true := by cases h : canP op fl b2 b3; exact absurd (.inr h) hc; rfl
    by_cases hsz : mo < (dn : Int)
    · have e : putE mo op fl b2 b3 dn = 3 := by unfold putE; rw [ho, hcp]; exact if_pos hsz
      refine (rPut_size op fl b2 b3 lun tk w0 w1 w2 w3 w4 w5 w6 now dx dn dc hs ds mo d w ho hcp hsz).mono ?_
      rintro e' w' ⟨rfl, b⟩
      exact ⟨_, by rw [e], by rw [e, if_neg (by decide)]; exact Own.nil _ _, b⟩
    · have e : putE mo op fl b2 b3 dn = 0 := by unfold putE; rw [ho, hcp]; exact if_neg hsz
      have hmo : 48 ≤ mo ∧ mo ≤ 65536 := of_decide_eq_true ho
      refine (rqPut_yes op fl b2 b3 lun tk w0 w1 w2 w3 w4 w5 w6 now dx dn dc hs ds mo d w ho hcp (by omega) (by omega) htw hdl hdc hdn hdr).mono ?_
      rintro e' w' ⟨z, rfl, o, b⟩
      exact ⟨z, by rw [e], by rw [e, if_pos rfl]; exact o, b⟩
theorem put_len (hs ds : Bool) (mo op fl b2 b3 : Int) (now : Bool) (lun tk w0 w1 w2 w3 w4 w5 w6 : Int) (dn : Nat) (d : List (BitVec 8)) (hdl : d.length = dn) : (if putE mo op fl b2 b3 dn = 0 then putB hs ds (pdH op now fl b2 b3 dn lun tk w0 w1 w2 w3 w4 w5 w6) d else []).length ≤ 1000000 := by
  by_cases h : putE mo op fl b2 b3 dn = 0
  · rw [if_pos h]
    have hd : dn ≤ 65536 := by
      unfold putE at h
      by_cases hq : (okO mo && canP op fl b2 b3) = true
      · rw [if_pos hq] at h
        have hk := Bool.and_eq_true_iff.1 hq
        have hmo : 48 ≤ mo ∧ mo ≤ 65536 := of_decide_eq_true hk.1
        by_cases hm : mo < (dn : Int)
        · rw [if_pos hm] at h; cases h
        · omega
      · rw [if_neg hq] at h; cases h
    rw [putB_len hs ds _ d (by omega), pdH_len]
    have := dgN_le hs
    have := dgN_le (ds && decide (0 < d.length))
    have := pad_body d.length (by omega)
    omega
  · rw [if_neg h]; simp
set_option maxHeartbeats 16000000 in
theorem putsWalk (op fl b2 b3 lun tk w0 w1 w2 w3 w4 w5 w6 : Int) (now : Bool) (dx : Option Addr) (dn dc : Nat) (hs ds : Bool) (mo : Int) (d : List (BitVec 8)) (w : World) (opk : Int) (hdm : dn ≤ 140737488351232) (htw : ∀ t ∈ [tk, w0, w1, w2, w3, w4, w5, w6], 0 ≤ t ∧ t < 4294967296) (hdl : d.length = dn) (hdc : dn ≤ dc) (hdn : dx = none → dc = 0) (hdr : Row w dx d) :
    Calls Try.prog 6 #[.agg #[.int .i64 op, .bool now, .int .i64 fl, .int .i64 b2, .int .i64 b3, .int .u64 lun, .int .u32 tk, .int .u32 w0, .int .u32 w1, .int .u32 w2, .int .u32 w3, .int .u32 w4, .int .u32 w5, .int .u32 w6, .slice dx dn dc], .agg #[.bool hs, .bool ds, .int .i64 mo], .int .i64 opk] w fun e w' => e = .returned (.bool true) ∧ Below w.heap.size w w' := by
  have b0 : Below w.heap.size w (w.alloc (.cells #[.int .i64 op, .bool now, .int .i64 fl, .int .i64 b2, .int .i64 b3, .int .u64 lun, .int .u32 tk, .int .u32 w0, .int .u32 w1, .int .u32 w2, .int .u32 w3, .int .u32 w4, .int .u32 w5, .int .u32 w6, .slice dx dn dc] 27)) := (Below.refl _ _).alloc (Nat.le_refl _) _
  have N0 := Blk.new' w 27 [.int .i64 op, .bool now, .int .i64 fl, .int .i64 b2, .int .i64 b3, .int .u64 lun, .int .u32 tk, .int .u32 w0, .int .u32 w1, .int .u32 w2, .int .u32 w3, .int .u32 w4, .int .u32 w5, .int .u32 w6, .slice dx dn dc]
  have hz : (w.alloc (.cells #[.int .i64 op, .bool now, .int .i64 fl, .int .i64 b2, .int .i64 b3, .int .u64 lun, .int .u32 tk, .int .u32 w0, .int .u32 w1, .int .u32 w2, .int .u32 w3, .int .u32 w4, .int .u32 w5, .int .u32 w6, .slice dx dn dc] 27)).heap.size = w.heap.size + 1 := by simp
  have b1 : Below (w.alloc (.cells #[.int .i64 op, .bool now, .int .i64 fl, .int .i64 b2, .int .i64 b3, .int .u64 lun, .int .u32 tk, .int .u32 w0, .int .u32 w1, .int .u32 w2, .int .u32 w3, .int .u32 w4, .int .u32 w5, .int .u32 w6, .slice dx dn dc] 27)).heap.size (w.alloc (.cells #[.int .i64 op, .bool now, .int .i64 fl, .int .i64 b2, .int .i64 b3, .int .u64 lun, .int .u32 tk, .int .u32 w0, .int .u32 w1, .int .u32 w2, .int .u32 w3, .int .u32 w4, .int .u32 w5, .int .u32 w6, .slice dx dn dc] 27)) ((w.alloc (.cells #[.int .i64 op, .bool now, .int .i64 fl, .int .i64 b2, .int .i64 b3, .int .u64 lun, .int .u32 tk, .int .u32 w0, .int .u32 w1, .int .u32 w2, .int .u32 w3, .int .u32 w4, .int .u32 w5, .int .u32 w6, .slice dx dn dc] 27)).alloc (.cells #[.bool hs, .bool ds, .int .i64 mo] 46)) := (Below.refl _ _).alloc (Nat.le_refl _) _
  have N1 := Blk.new' (w.alloc (.cells #[.int .i64 op, .bool now, .int .i64 fl, .int .i64 b2, .int .i64 b3, .int .u64 lun, .int .u32 tk, .int .u32 w0, .int .u32 w1, .int .u32 w2, .int .u32 w3, .int .u32 w4, .int .u32 w5, .int .u32 w6, .slice dx dn dc] 27)) 46 [.bool hs, .bool ds, .int .i64 mo]
  rw [hz] at N1
  have N0 := N0.laterB b1
  have bb := below_then b0 b1
  have ld := load_all (T := 27) (xs := [.int .i64 op, .bool now, .int .i64 fl, .int .i64 b2, .int .i64 b3, .int .u64 lun, .int .u32 tk, .int .u32 w0, .int .u32 w1, .int .u32 w2, .int .u32 w3, .int .u32 w4, .int .u32 w5, .int .u32 w6, .slice dx dn dc]) size_q agg_q N0
  have X : Hid _ := And.intro bb (And.intro N0 N1)
  have HG : Hid _ := pgiven_any op fl b2 b3 lun tk w0 w1 w2 w3 w4 w5 w6 now dx dn dc d _ hdl hdc hdn hdm (hdr.later bb)
  have HR : Hid _ := And.intro hdr trivial
  clear b0 N0 hz b1 N1 bb hdr
  go_enter Try.func6, Try.ntmps6
  go_wp2_with (refine wpList_value rfl (exec_load rfl rfl ld) ?_)
  clear ld
  generalize ((w.alloc (.cells #[.int .i64 op, .bool now, .int .i64 fl, .int .i64 b2, .int .i64 b3, .int .u64 lun, .int .u32 tk, .int .u32 w0, .int .u32 w1, .int .u32 w2, .int .u32 w3, .int .u32 w4, .int .u32 w5, .int .u32 w6, .slice dx dn dc] 27)).alloc (.cells #[.bool hs, .bool ds, .int .i64 mo] 46)) = wa at *
  refine (Calls.mono HG.out) ?_
  rintro e va ⟨zx, zc, rfl, oz, bg⟩
  clear HG
  obtain ⟨vb, st, NZ, bz⟩ := newP va [.int .i64 op, .bool now, .int .i64 fl, .int .i64 b2, .int .i64 b3, .int .u64 lun, .int .u32 tk, .int .u32 w0, .int .u32 w1, .int .u32 w2, .int .u32 w3, .int .u32 w4, .int .u32 w5, .int .u32 w6, .slice zx dn zc] rfl (fun u hu => by simp at hu; rcases hu with rfl | rfl | rfl | rfl | rfl | rfl | rfl | rfl | rfl | rfl | rfl | rfl | rfl | rfl | rfl <;> rfl)
  have b2' := below_then bg bz
  have Y : Hid _ := And.intro (below_then X.out.1 b2') (And.intro (X.out.2.1.laterB b2') (And.intro (X.out.2.2.laterB b2') (And.intro NZ (oz.later bz))))
  clear oz bg bz b2' NZ X
  go_wp2_with (refine wpList_skip rfl (exec_store rfl rfl rfl st) ?_)
  clear st
  generalize va.heap.size = ob at *
  refine wp_region_held_drew (S := fun W => Below vb.heap.size vb W) (by kernel_rfl) (Below.refl _ _).drew (fun hS => ?_)
  have B0 : Below vb.heap.size vb vb.drew := (Below.refl _ _).drew
  refine any_take (i := 0) (v := .agg #[.int .i64 op, .bool now, .int .i64 fl, .int .i64 b2, .int .i64 b3, .int .u64 lun, .int .u32 tk, .int .u32 w0, .int .u32 w1, .int .u32 w2, .int .u32 w3, .int .u32 w4, .int .u32 w5, .int .u32 w6, .slice zx dn zc]) rfl (by kernel_rfl) (by kernel_rfl) (by kernel_rfl) (by exact fun _ _ _ h => h) (by rfl) ?_ hS ?_
  · intro W hSW; exact exec_load rfl rfl (load_all size_pd agg_pd (Y.out.2.2.2.1.laterB hSW))
  (try simp only [Act.put, List.setIfInBounds_toArray, List.set_cons_zero, List.set_cons_succ])
  refine any_take (i := 1) (v := .agg #[.bool hs, .bool ds, .int .i64 mo]) rfl (by kernel_rfl) (by kernel_rfl) (by kernel_rfl) (by exact fun _ _ _ h => h) (by rfl) ?_ hS ?_
  · intro W hSW; exact exec_load rfl rfl (load_all size_o29 agg_o29 (Y.out.2.2.1.laterB hSW))
  (try simp only [Act.put, List.setIfInBounds_toArray, List.set_cons_zero, List.set_cons_succ])
  refine any_one (i := 2) rfl (by kernel_rfl) (fun K hK => ?_)
  go_simp
  refine (Calls.mono (popts_any hs ds mo _)) ?_
  rintro e x1 ⟨rfl, hbR⟩
  have B1 : Below vb.heap.size vb x1 := below_then B0 hbR
  go_wp2_with fail
  refine hK.out _ _ (by first | exact B1 | exact hbR | exact below_then hS hbR) (any_weaken (S' := fun W => Below x1.heap.size x1 W) (fun W hW => by first | exact below_then B1 hW | exact below_then hbR hW | exact below_then (below_then hS hbR) hW) _ _ _ _ ?_)
  clear hK K hS hbR
  have hS : Below x1.heap.size x1 x1 := Below.refl _ _
  have oz := Y.out.2.2.2.2.later B1
  obtain ⟨za, zcc, hzz, hz1, -, hz2, hz3, -⟩ := oz.open
  rw [hdl] at hzz
  cases hzz
  rw [hdl] at hz1
  refine any_one (i := 3) rfl (by kernel_rfl) (fun K hK => ?_)
  go_simp
  refine (Calls.mono (pPut_any op fl b2 b3 lun tk w0 w1 w2 w3 w4 w5 w6 now zx dn zc hs ds mo d _ htw hdl hz1 hz3 hz2)) ?_
  rintro e x2 ⟨zb, rfl, ox, hbR⟩
  have B2 : Below vb.heap.size vb x2 := below_then B1 hbR
  go_wp2_with fail
  refine hK.out _ _ (by first | exact B2 | exact hbR | exact below_then hS hbR) (any_weaken (S' := fun W => Below x2.heap.size x2 W) (fun W hW => by first | exact below_then B2 hW | exact below_then hbR hW | exact below_then (below_then hS hbR) hW) _ _ _ _ ?_)
  clear hK K hS hbR
  have hS : Below x2.heap.size x2 x2 := Below.refl _ _
  refine any_take (i := 4) (v := ?_) rfl (by kernel_rfl) (by kernel_rfl) (by kernel_rfl) (by exact fun _ _ _ h => h) (by rfl) ?_ hS ?_
  rotate_left
  · ((intro w hSw; (try dsimp only at hSw); go_simp) <;> with_reducible rfl)
  (try simp only [Act.put, List.setIfInBounds_toArray, List.set_cons_zero, List.set_cons_succ])
  refine any_take (i := 5) (v := ?_) rfl (by kernel_rfl) (by kernel_rfl) (by kernel_rfl) (by exact fun _ _ _ h => h) (by rfl) ?_ hS ?_
  rotate_left
  · ((intro w hSw; (try dsimp only at hSw); go_simp) <;> with_reducible rfl)
  (try simp only [Act.put, List.setIfInBounds_toArray, List.set_cons_zero, List.set_cons_succ])
  refine any_take (i := 6) (v := ?_) rfl (by kernel_rfl) (by kernel_rfl) (by kernel_rfl) (by exact fun _ _ _ h => h) (by rfl) ?_ hS ?_
  rotate_left
  · ((intro w hSw; (try dsimp only at hSw); go_simp) <;> with_reducible rfl)
  (try simp only [Act.put, List.setIfInBounds_toArray, List.set_cons_zero, List.set_cons_succ])
  refine any_take (i := 7) (v := ?_) rfl (by kernel_rfl) (by kernel_rfl) (by kernel_rfl) (by exact fun _ _ _ h => h) (by rfl) ?_ hS ?_
  rotate_left
  · ((intro w hSw; (try dsimp only at hSw); go_simp) <;> with_reducible rfl)
  (try simp only [Act.put, List.setIfInBounds_toArray, List.set_cons_zero, List.set_cons_succ])
  refine any_take (i := 8) (v := ?_) rfl (by kernel_rfl) (by kernel_rfl) (by kernel_rfl) (by exact fun _ _ _ h => h) (by rfl) ?_ hS ?_
  rotate_left
  · ((intro w hSw; (try dsimp only at hSw); go_simp) <;> with_reducible rfl)
  (try simp only [Act.put, List.setIfInBounds_toArray, List.set_cons_zero, List.set_cons_succ])
  refine wpAnyH_done (by kernel_rfl) ?_ _
  have hB1 : vb.heap.size ≤ x1.heap.size := B1.size
  have HRP : Hid _ := rqPut_any op fl b2 b3 lun tk w0 w1 w2 w3 w4 w5 w6 now dx dn dc hs ds mo d x2 htw hdl hdc hdn (HR.out.1.later (below_then Y.out.1 B2))
  have hlen := put_len hs ds mo op fl b2 b3 now lun tk w0 w1 w2 w3 w4 w5 w6 dn d hdl
  generalize (if putE mo op fl b2 b3 dn = 0 then putB hs ds (pdH op now fl b2 b3 dn lun tk w0 w1 w2 w3 w4 w5 w6) d else []) = BX at *
  generalize putE mo op fl b2 b3 dn = E at *
  have HLn : Hid _ := And.intro hlen (And.intro hdl hB1)
  have G : Hid _ := And.intro B2 ox
  have l1 := load_all (T := 27) (xs := [.int .i64 op, .bool now, .int .i64 fl, .int .i64 b2, .int .i64 b3, .int .u64 lun, .int .u32 tk, .int .u32 w0, .int .u32 w1, .int .u32 w2, .int .u32 w3, .int .u32 w4, .int .u32 w5, .int .u32 w6, .slice dx dn dc]) size_q agg_q (Y.out.2.1.laterB B2)
  have l2 := load_all (T := 46) (xs := [.bool hs, .bool ds, .int .i64 mo]) size_o29 agg_o29 (Y.out.2.2.1.laterB B2)
  clear hlen hB1 ox B0 B1 B2 hS oz hz1 hz2 hz3 htw hdl hdc hdn hdm
  go_wp2_with (first | (refine wpList_value rfl (exec_load rfl rfl l1) ?_; clear l1) | (refine wpList_value rfl (exec_load rfl rfl l2) ?_; clear l2))
  refine (Calls.mono HRP.out) ?_
  rintro e x3 ⟨yb, rfl, oy, b3⟩
  have HKn : Hid _ := pKnown_any opk x3
  have G3 : Hid _ := And.intro (below_then G.out.1 b3) (And.intro (G.out.2.later b3) oy)
  clear HRP oy b3 G
  go_wp2_with fail
  refine (Calls.mono HKn.out) ?_
  rintro e x4 ⟨rfl, b4⟩
  have HKr : Hid _ := rKnown_any opk x4
  have G4 : Hid _ := And.intro (below_then G3.out.1 b4) (And.intro (G3.out.2.1.later b4) (G3.out.2.2.later b4))
  clear HKn b4 G3
  generalize toB opk = tb at *
  generalize inB opk = ib at *
  go_wp2_with fail
  refine (Calls.mono HKr.out) ?_
  rintro e w' ⟨rfl, hw'⟩
  obtain rfl := hw'.symm
  clear hw' HKr
  obtain ⟨xa, xc, hxv, -, -, rX, -, -⟩ := G4.out.2.1.open
  subst hxv
  obtain ⟨ya, yc, hyv, -, -, rY, -, -⟩ := G4.out.2.2.open
  subst hyv
  have RX : Hid _ := And.intro rX rY
  clear rX rY
  have rZ : Row x4 zx d := by obtain ⟨za, zcc, hzz, -, -, hz2, -, -⟩ := (Y.out.2.2.2.2.later G4.out.1).open; rw [HLn.out.2.1] at hzz; cases hzz; exact hz2
  have rD : Row x4 dx d := HR.out.1.later (below_then Y.out.1 G4.out.1)
  have RZ : Hid _ := And.intro rZ rD
  clear rZ rD
  go_wp2_with fail
  refine wp_region_held_drew (S := fun W => Below x4.heap.size x4 W) (by kernel_rfl) (Below.refl _ _).drew (fun hS => ?_)
  have B0 : Below x4.heap.size x4 x4.drew := (Below.refl _ _).drew
  refine any_take (i := 0) (v := ?_) rfl (by kernel_rfl) (by kernel_rfl) (by kernel_rfl) (by exact fun _ _ _ h => h) (by rfl) ?_ hS ?_
  rotate_left
  · ((intro W hSw; have s1 := Row.str (RX.out.1.later hSw) _ xc rfl; have s2 := Row.str (RX.out.2.later hSw) _ yc rfl; clear hSw; go_simp) <;> with_reducible rfl)
  (try simp only [Act.put, List.setIfInBounds_toArray, List.set_cons_zero, List.set_cons_succ])
  refine any_take (i := 1) (v := ?_) rfl (by kernel_rfl) (by kernel_rfl) (by kernel_rfl) (by exact fun _ _ _ h => h) (by rfl) ?_ hS ?_
  rotate_left
  · ((intro W hSw; have s1 := Row.str (RX.out.1.later hSw) _ xc rfl; have s2 := Row.str (RX.out.2.later hSw) _ yc rfl; clear hSw; go_simp) <;> with_reducible rfl)
  (try simp only [Act.put, List.setIfInBounds_toArray, List.set_cons_zero, List.set_cons_succ])
  refine any_take (i := 2) (v := ?_) rfl (by kernel_rfl) (by kernel_rfl) (by kernel_rfl) (by exact fun _ _ _ h => h) (by rfl) ?_ hS ?_
  rotate_left
  · ((intro W hSw; have s1 := Row.str (RX.out.1.later hSw) _ xc rfl; have s2 := Row.str (RX.out.2.later hSw) _ yc rfl; clear hSw; go_simp) <;> with_reducible rfl)
  (try simp only [Act.put, List.setIfInBounds_toArray, List.set_cons_zero, List.set_cons_succ])
  refine any_take (i := 3) (v := ?_) rfl (by kernel_rfl) (by kernel_rfl) (by kernel_rfl) (by exact fun _ _ _ h => h) (by rfl) ?_ hS ?_
  rotate_left
  · ((intro W hSw; have s1 := Row.str (RX.out.1.later hSw) _ xc rfl; have s2 := Row.str (RX.out.2.later hSw) _ yc rfl; clear hSw; go_simp) <;> with_reducible rfl)
  (try simp only [Act.put, List.setIfInBounds_toArray, List.set_cons_zero, List.set_cons_succ])
  refine any_take (i := 4) (v := ?_) rfl (by kernel_rfl) (by kernel_rfl) (by kernel_rfl) (by exact fun _ _ _ h => h) (by rfl) ?_ hS ?_
  rotate_left
  · ((intro W hSw; have s1 := Row.str (RX.out.1.later hSw) _ xc rfl; have s2 := Row.str (RX.out.2.later hSw) _ yc rfl; clear hSw; go_simp) <;> with_reducible rfl)
  (try simp only [Act.put, List.setIfInBounds_toArray, List.set_cons_zero, List.set_cons_succ])
  refine any_take (i := 5) (v := ?_) rfl (by kernel_rfl) (by kernel_rfl) (by kernel_rfl) (by exact fun _ _ _ h => h) (by rfl) ?_ hS ?_
  rotate_left
  · ((intro W hSw; have s1 := Row.str (RX.out.1.later hSw) _ xc rfl; have s2 := Row.str (RX.out.2.later hSw) _ yc rfl; clear hSw; go_simp) <;> with_reducible rfl)
  (try simp only [Act.put, List.setIfInBounds_toArray, List.set_cons_zero, List.set_cons_succ])
  refine any_take (i := 6) (v := ?_) rfl (by kernel_rfl) (by kernel_rfl) (by kernel_rfl) (by exact fun _ _ _ h => h) (by rfl) ?_ hS ?_
  rotate_left
  · ((intro W hSw; have s1 := Row.str (RX.out.1.later hSw) _ xc rfl; have s2 := Row.str (RX.out.2.later hSw) _ yc rfl; clear hSw; go_simp) <;> with_reducible rfl)
  (try simp only [Act.put, List.setIfInBounds_toArray, List.set_cons_zero, List.set_cons_succ])
  refine any_take (i := 7) (v := ?_) rfl (by kernel_rfl) (by kernel_rfl) (by kernel_rfl) (by exact fun _ _ _ h => h) (by rfl) ?_ hS ?_
  rotate_left
  · ((intro W hSw; have s1 := Row.str (RX.out.1.later hSw) _ xc rfl; have s2 := Row.str (RX.out.2.later hSw) _ yc rfl; clear hSw; go_simp) <;> with_reducible rfl)
  (try simp only [Act.put, List.setIfInBounds_toArray, List.set_cons_zero, List.set_cons_succ])
  refine any_take (i := 8) (v := ?_) rfl (by kernel_rfl) (by kernel_rfl) (by kernel_rfl) (by exact fun _ _ _ h => h) (by rfl) ?_ hS ?_
  rotate_left
  · ((intro W hSw; have s1 := Row.str (RX.out.1.later hSw) _ xc rfl; have s2 := Row.str (RX.out.2.later hSw) _ yc rfl; clear hSw; go_simp) <;> with_reducible rfl)
  (try simp only [Act.put, List.setIfInBounds_toArray, List.set_cons_zero, List.set_cons_succ])
  refine any_take (i := 9) (v := ?_) rfl (by kernel_rfl) (by kernel_rfl) (by kernel_rfl) (by exact fun _ _ _ h => h) (by rfl) ?_ hS ?_
  rotate_left
  · ((intro W hSw; have s1 := Row.str (RX.out.1.later hSw) _ xc rfl; have s2 := Row.str (RX.out.2.later hSw) _ yc rfl; clear hSw; go_simp) <;> with_reducible rfl)
  (try simp only [Act.put, List.setIfInBounds_toArray, List.set_cons_zero, List.set_cons_succ])
  refine any_take (i := 10) (v := ?_) rfl (by kernel_rfl) (by kernel_rfl) (by kernel_rfl) (by exact fun _ _ _ h => h) (by rfl) ?_ hS ?_
  rotate_left
  · ((intro W hSw; have s1 := Row.str (RX.out.1.later hSw) _ xc rfl; have s2 := Row.str (RX.out.2.later hSw) _ yc rfl; clear hSw; go_simp) <;> with_reducible rfl)
  (try simp only [Act.put, List.setIfInBounds_toArray, List.set_cons_zero, List.set_cons_succ])
  refine any_take (i := 11) (v := ?_) rfl (by kernel_rfl) (by kernel_rfl) (by kernel_rfl) (by exact fun _ _ _ h => h) (by rfl) ?_ hS ?_
  rotate_left
  · ((intro W hSw; have s1 := Row.str (RX.out.1.later hSw) _ xc rfl; have s2 := Row.str (RX.out.2.later hSw) _ yc rfl; clear hSw; go_simp) <;> with_reducible rfl)
  (try simp only [Act.put, List.setIfInBounds_toArray, List.set_cons_zero, List.set_cons_succ])
  refine any_take (i := 12) (v := ?_) rfl (by kernel_rfl) (by kernel_rfl) (by kernel_rfl) (by exact fun _ _ _ h => h) (by rfl) ?_ hS ?_
  rotate_left
  · ((intro W hSw; have s1 := Row.str (RX.out.1.later hSw) _ xc rfl; have s2 := Row.str (RX.out.2.later hSw) _ yc rfl; clear hSw; go_simp) <;> with_reducible rfl)
  (try simp only [Act.put, List.setIfInBounds_toArray, List.set_cons_zero, List.set_cons_succ])
  refine any_take (i := 13) (v := ?_) rfl (by kernel_rfl) (by kernel_rfl) (by kernel_rfl) (by exact fun _ _ _ h => h) (by rfl) ?_ hS ?_
  rotate_left
  · ((intro W hSw; have s1 := Row.str (RX.out.1.later hSw) _ xc rfl; have s2 := Row.str (RX.out.2.later hSw) _ yc rfl; clear hSw; go_simp) <;> with_reducible rfl)
  (try simp only [Act.put, List.setIfInBounds_toArray, List.set_cons_zero, List.set_cons_succ])
  refine any_take (i := 14) (v := ?_) rfl (by kernel_rfl) (by kernel_rfl) (by kernel_rfl) (by exact fun _ _ _ h => h) (by rfl) ?_ hS ?_
  rotate_left
  · ((intro W hSw; have s1 := Row.str (RX.out.1.later hSw) _ xc rfl; have s2 := Row.str (RX.out.2.later hSw) _ yc rfl; clear hSw; go_simp) <;> with_reducible rfl)
  (try simp only [Act.put, List.setIfInBounds_toArray, List.set_cons_zero, List.set_cons_succ])
  refine any_take (i := 15) (v := ?_) rfl (by kernel_rfl) (by kernel_rfl) (by kernel_rfl) (by exact fun _ _ _ h => h) (by rfl) ?_ hS ?_
  rotate_left
  · ((intro W hSw; have s1 := Row.str (RX.out.1.later hSw) _ xc rfl; have s2 := Row.str (RX.out.2.later hSw) _ yc rfl; clear hSw; go_simp) <;> with_reducible rfl)
  (try simp only [Act.put, List.setIfInBounds_toArray, List.set_cons_zero, List.set_cons_succ])
  refine any_take (i := 16) (v := ?_) rfl (by kernel_rfl) (by kernel_rfl) (by kernel_rfl) (by exact fun _ _ _ h => h) (by rfl) ?_ hS ?_
  rotate_left
  · ((intro W hSw; have s1 := Row.str (RX.out.1.later hSw) _ xc rfl; have s2 := Row.str (RX.out.2.later hSw) _ yc rfl; clear hSw; go_simp) <;> with_reducible rfl)
  (try simp only [Act.put, List.setIfInBounds_toArray, List.set_cons_zero, List.set_cons_succ])
  refine any_take (i := 17) (v := ?_) rfl (by kernel_rfl) (by kernel_rfl) (by kernel_rfl) (by exact fun _ _ _ h => h) (by rfl) ?_ hS ?_
  rotate_left
  · ((intro W hSw; have s1 := Row.str (RX.out.1.later hSw) _ xc rfl; have s2 := Row.str (RX.out.2.later hSw) _ yc rfl; clear hSw; go_simp) <;> with_reducible rfl)
  (try simp only [Act.put, List.setIfInBounds_toArray, List.set_cons_zero, List.set_cons_succ])
  refine any_take (i := 18) (v := ?_) rfl (by kernel_rfl) (by kernel_rfl) (by kernel_rfl) (by exact fun _ _ _ h => h) (by rfl) ?_ hS ?_
  rotate_left
  · ((intro W hSw; have s1 := Row.str (RX.out.1.later hSw) _ xc rfl; have s2 := Row.str (RX.out.2.later hSw) _ yc rfl; clear hSw; go_simp) <;> with_reducible rfl)
  (try simp only [Act.put, List.setIfInBounds_toArray, List.set_cons_zero, List.set_cons_succ])
  refine any_take (i := 19) (v := ?_) rfl (by kernel_rfl) (by kernel_rfl) (by kernel_rfl) (by exact fun _ _ _ h => h) (by rfl) ?_ hS ?_
  rotate_left
  · ((intro W hSw; have s1 := Row.str (RX.out.1.later hSw) _ xc rfl; have s2 := Row.str (RX.out.2.later hSw) _ yc rfl; clear hSw; go_simp) <;> with_reducible rfl)
  (try simp only [Act.put, List.setIfInBounds_toArray, List.set_cons_zero, List.set_cons_succ])
  refine any_take (i := 20) (v := ?_) rfl (by kernel_rfl) (by kernel_rfl) (by kernel_rfl) (by exact fun _ _ _ h => h) (by rfl) ?_ hS ?_
  rotate_left
  · ((intro W hSw; have s1 := Row.str (RX.out.1.later hSw) _ xc rfl; have s2 := Row.str (RX.out.2.later hSw) _ yc rfl; clear hSw; go_simp) <;> with_reducible rfl)
  (try simp only [Act.put, List.setIfInBounds_toArray, List.set_cons_zero, List.set_cons_succ])
  refine any_take (i := 21) (v := .agg #[.int .i64 op, .bool now, .int .i64 fl, .int .i64 b2, .int .i64 b3, .int .u64 lun, .int .u32 tk, .int .u32 w0, .int .u32 w1, .int .u32 w2, .int .u32 w3, .int .u32 w4, .int .u32 w5, .int .u32 w6, .slice zx dn zc]) rfl (by kernel_rfl) (by kernel_rfl) (by kernel_rfl) (by exact fun _ _ _ h => h) (by rfl) ?_ hS ?_
  · intro W hSW; exact exec_load rfl rfl (load_all size_pd agg_pd (Y.out.2.2.2.1.laterB (below_then G4.out.1 hSW)))
  (try simp only [Act.put, List.setIfInBounds_toArray, List.set_cons_zero, List.set_cons_succ])
  refine any_take (i := 23) (v := .agg #[.int .i64 op, .bool now, .int .i64 fl, .int .i64 b2, .int .i64 b3, .int .u64 lun, .int .u32 tk, .int .u32 w0, .int .u32 w1, .int .u32 w2, .int .u32 w3, .int .u32 w4, .int .u32 w5, .int .u32 w6, .slice dx dn dc]) rfl (by kernel_rfl) (by kernel_rfl) (by kernel_rfl) (by exact fun _ _ _ h => h) (by rfl) ?_ hS ?_
  · intro W hSW; exact exec_load rfl rfl (load_all size_q agg_q (Y.out.2.1.laterB (below_then G4.out.1 hSW)))
  (try simp only [Act.put, List.setIfInBounds_toArray, List.set_cons_zero, List.set_cons_succ])
  refine any_one (i := 22) rfl (by kernel_rfl) (fun K hK => ?_)
  go_simp
  refine (Calls.mono (ptaken_any op fl b2 b3 lun tk w0 w1 w2 w3 w4 w5 w6 now zx dn zc _)) ?_
  rintro e p1 ⟨rfl, hbR⟩
  have B1 : Below x4.heap.size x4 p1 := below_then B0 hbR
  go_wp2_with fail
  refine hK.out _ _ (by first | exact B1 | exact hbR | exact below_then hS hbR) (any_weaken (S' := fun W => Below p1.heap.size p1 W) (fun W hW => by first | exact below_then B1 hW | exact below_then hbR hW | exact below_then (below_then hS hbR) hW) _ _ _ _ ?_)
  clear hK K hS hbR
  have hS : Below p1.heap.size p1 p1 := Below.refl _ _
  refine any_one (i := 24) rfl (by kernel_rfl) (fun K hK => ?_)
  go_simp
  refine (Calls.mono (pSame_yes op fl b2 b3 lun tk w0 w1 w2 w3 w4 w5 w6 now zx dn zc dx dc d _ HLn.out.2.1 (RZ.out.1.later B1) (RZ.out.2.later B1))) ?_
  rintro e p2 ⟨rfl, hbR⟩
  have B2 : Below x4.heap.size x4 p2 := below_then B1 hbR
  go_wp2_with fail
  refine hK.out _ _ (by first | exact B2 | exact hbR | exact below_then hS hbR) (any_weaken (S' := fun W => Below p2.heap.size p2 W) (fun W hW => by first | exact below_then B2 hW | exact below_then hbR hW | exact below_then (below_then hS hbR) hW) _ _ _ _ ?_)
  clear hK K hS hbR
  have hS : Below p2.heap.size p2 p2 := Below.refl _ _
  refine any_take (i := 25) (v := ?_) rfl (by kernel_rfl) (by kernel_rfl) (by kernel_rfl) (by exact fun _ _ _ h => h) (by rfl) ?_ hS ?_
  rotate_left
  · ((intro W hSw; skip; clear hSw; go_simp) <;> with_reducible rfl)
  (try simp only [Act.put, List.setIfInBounds_toArray, List.set_cons_zero, List.set_cons_succ])
  refine any_take (i := 26) (v := ?_) rfl (by kernel_rfl) (by kernel_rfl) (by kernel_rfl) (by exact fun _ _ _ h => h) (by rfl) ?_ hS ?_
  rotate_left
  · ((intro W hSw; skip; clear hSw; go_simp) <;> with_reducible rfl)
  (try simp only [Act.put, List.setIfInBounds_toArray, List.set_cons_zero, List.set_cons_succ])
  refine wpAnyH_done (by kernel_rfl) ?_ _
  have HSp : Hid _ := Spoil_own _ _ _ p2 (G4.out.2.1.later B2) (by have := HLn.out.1; omega)
  have HB2 : Hid _ := B2
  clear B0 B1 B2 hS
  go_wp2_with fail
  refine (Calls.mono HSp.out) ?_
  rintro e s1 ⟨rfl, hgs⟩
  have bs : Below vb.heap.size vb s1 := (below_then G4.out.1 HB2.out).grown hgs (below_then G4.out.1 HB2.out).size (fun k hk => Nat.le_trans HLn.out.2.2 (World.ownsRow.lt G4.out.2.1 k hk).1)
  have G5 : Hid _ := bs
  have rZ : Row s1 zx d := by obtain ⟨za, zcc, hzz, -, -, hz2, -, -⟩ := (Y.out.2.2.2.2.later bs).open; rw [HLn.out.2.1] at hzz; cases hzz; exact hz2
  have rD : Row s1 dx d := HR.out.1.later (below_then Y.out.1 bs)
  have RZ : Hid _ := And.intro rZ rD
  clear rZ rD bs hgs HSp G4 HB2 RX
  go_wp2_with fail
  refine wp_region_held_drew (S := fun W => Below s1.heap.size s1 W) (by kernel_rfl) (Below.refl _ _).drew (fun hS => ?_)
  have B0 : Below s1.heap.size s1 s1.drew := (Below.refl _ _).drew
  refine any_take (i := 0) (v := .agg #[.int .i64 op, .bool now, .int .i64 fl, .int .i64 b2, .int .i64 b3, .int .u64 lun, .int .u32 tk, .int .u32 w0, .int .u32 w1, .int .u32 w2, .int .u32 w3, .int .u32 w4, .int .u32 w5, .int .u32 w6, .slice zx dn zc]) rfl (by kernel_rfl) (by kernel_rfl) (by kernel_rfl) (by exact fun _ _ _ h => h) (by rfl) ?_ hS ?_
  · intro W hSW; exact exec_load rfl rfl (load_all size_pd agg_pd (Y.out.2.2.2.1.laterB (below_then G5.out hSW)))
  (try simp only [Act.put, List.setIfInBounds_toArray, List.set_cons_zero, List.set_cons_succ])
  refine any_take (i := 2) (v := .agg #[.int .i64 op, .bool now, .int .i64 fl, .int .i64 b2, .int .i64 b3, .int .u64 lun, .int .u32 tk, .int .u32 w0, .int .u32 w1, .int .u32 w2, .int .u32 w3, .int .u32 w4, .int .u32 w5, .int .u32 w6, .slice dx dn dc]) rfl (by kernel_rfl) (by kernel_rfl) (by kernel_rfl) (by exact fun _ _ _ h => h) (by rfl) ?_ hS ?_
  · intro W hSW; exact exec_load rfl rfl (load_all size_q agg_q (Y.out.2.1.laterB (below_then G5.out hSW)))
  (try simp only [Act.put, List.setIfInBounds_toArray, List.set_cons_zero, List.set_cons_succ])
  refine any_one (i := 1) rfl (by kernel_rfl) (fun K hK => ?_)
  go_simp
  refine (Calls.mono (ptaken_any op fl b2 b3 lun tk w0 w1 w2 w3 w4 w5 w6 now zx dn zc _)) ?_
  rintro e r1 ⟨rfl, hbR⟩
  have B1 : Below s1.heap.size s1 r1 := below_then B0 hbR
  go_wp2_with fail
  refine hK.out _ _ (by first | exact B1 | exact hbR | exact below_then hS hbR) (any_weaken (S' := fun W => Below r1.heap.size r1 W) (fun W hW => by first | exact below_then B1 hW | exact below_then hbR hW | exact below_then (below_then hS hbR) hW) _ _ _ _ ?_)
  clear hK K hS hbR
  have hS : Below r1.heap.size r1 r1 := Below.refl _ _
  refine any_one (i := 3) rfl (by kernel_rfl) (fun K hK => ?_)
  go_simp
  refine (Calls.mono (pSame_yes op fl b2 b3 lun tk w0 w1 w2 w3 w4 w5 w6 now zx dn zc dx dc d _ HLn.out.2.1 (RZ.out.1.later B1) (RZ.out.2.later B1))) ?_
  rintro e r2 ⟨rfl, hbR⟩
  have B2 : Below s1.heap.size s1 r2 := below_then B1 hbR
  go_wp2_with fail
  refine hK.out _ _ (by first | exact B2 | exact hbR | exact below_then hS hbR) (any_weaken (S' := fun W => Below r2.heap.size r2 W) (fun W hW => by first | exact below_then B2 hW | exact below_then hbR hW | exact below_then (below_then hS hbR) hW) _ _ _ _ ?_)
  clear hK K hS hbR
  have hS : Below r2.heap.size r2 r2 := Below.refl _ _
  refine any_take (i := 4) (v := ?_) rfl (by kernel_rfl) (by kernel_rfl) (by kernel_rfl) (by exact fun _ _ _ h => h) (by rfl) ?_ hS ?_
  rotate_left
  · ((intro W hSw; skip; clear hSw; go_simp) <;> with_reducible rfl)
  (try simp only [Act.put, List.setIfInBounds_toArray, List.set_cons_zero, List.set_cons_succ])
  refine any_one (i := 5) rfl (by kernel_rfl) (fun K hK => ?_)
  go_simp
  refine (Calls.mono (known17_any _)) ?_
  rintro e r3 ⟨rfl, hbR⟩
  have B3 : Below s1.heap.size s1 r3 := below_then B2 hbR
  go_wp2_with fail
  refine hK.out _ _ (by first | exact B3 | exact hbR | exact below_then hS hbR) (any_weaken (S' := fun W => Below r3.heap.size r3 W) (fun W hW => by first | exact below_then B3 hW | exact below_then hbR hW | exact below_then (below_then hS hbR) hW) _ _ _ _ ?_)
  clear hK K hS hbR
  have hS : Below r3.heap.size r3 r3 := Below.refl _ _
  refine any_take (i := 6) (v := ?_) rfl (by kernel_rfl) (by kernel_rfl) (by kernel_rfl) (by exact fun _ _ _ h => h) (by rfl) ?_ hS ?_
  rotate_left
  · ((intro W hSw; skip; clear hSw; go_simp) <;> with_reducible rfl)
  (try simp only [Act.put, List.setIfInBounds_toArray, List.set_cons_zero, List.set_cons_succ])
  refine any_take (i := 7) (v := ?_) rfl (by kernel_rfl) (by kernel_rfl) (by kernel_rfl) (by exact fun _ _ _ h => h) (by rfl) ?_ hS ?_
  rotate_left
  · ((intro W hSw; skip; clear hSw; go_simp) <;> with_reducible rfl)
  (try simp only [Act.put, List.setIfInBounds_toArray, List.set_cons_zero, List.set_cons_succ])
  refine wpAnyH_done (by kernel_rfl) ?_ _
  have F : Hid _ := below_then Y.out.1 (below_then G5.out B3)
  clear B0 B1 B2 B3 hS
  go_wp2
  go_ret
  exact ⟨by first | rfl | simp, F.out⟩
theorem pduPuts_walk (c0 : Int) (c1 : Bool) (c2 c3 c4 : Int) (c5 : BitVec 64) (c6 c7_0 c7_1 c7_2 c7_3 c7_4 c7_5 c7_6 : BitVec 32) (c8 : List (BitVec 8)) (c8x : Option Addr) (c8c : Nat) (o0 o1 : Bool) (o2 : Int) (opk : Int) (w : World) (B0 : I64 c0 ∧ I64 c2 ∧ I64 c3 ∧ I64 c4 ∧ DatOk w c8x c8 c8c) (B1 : I64 o2) (B2 : I64 opk) :
    Calls Try.prog 6 #[.agg #[.int .i64 c0, .bool c1, .int .i64 c2, .int .i64 c3, .int .i64 c4, .int .u64 (c5.toNat : Int), .int .u32 (c6.toNat : Int), .int .u32 (c7_0.toNat : Int), .int .u32 (c7_1.toNat : Int), .int .u32 (c7_2.toNat : Int), .int .u32 (c7_3.toNat : Int), .int .u32 (c7_4.toNat : Int), .int .u32 (c7_5.toNat : Int), .int .u32 (c7_6.toNat : Int), .slice c8x c8.length c8c], .agg #[.bool o0, .bool o1, .int .i64 o2], .int .i64 opk] w fun e w' => e = .returned (.bool true) ∧ Below w.heap.size w w' := by
  have D := B0.2.2.2.2
  have h32 : ∀ x : BitVec 32, 0 ≤ (x.toNat : Int) ∧ (x.toNat : Int) < 4294967296 := fun x => by have := x.isLt; omega
  exact putsWalk c0 c2 c3 c4 (c5.toNat : Int) (c6.toNat : Int) (c7_0.toNat : Int) (c7_1.toNat : Int) (c7_2.toNat : Int) (c7_3.toNat : Int) (c7_4.toNat : Int) (c7_5.toNat : Int) (c7_6.toNat : Int) c1 c8x c8.length c8c o0 o1 o2 c8 w opk D.most (by intro t ht; simp only [List.mem_cons, List.mem_nil_iff, or_false] at ht; rcases ht with rfl | rfl | rfl | rfl | rfl | rfl | rfl | rfl <;> exact h32 _) rfl D.le D.nil D.row
end Go.Proofs.Ytnnbpfjdkhoidaa

