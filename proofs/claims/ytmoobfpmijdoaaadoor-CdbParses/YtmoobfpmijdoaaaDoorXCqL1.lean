/- The walk of CdbParses. -/
import Derived.Test.YtmoobfpmijdoaaaDoorXCq1
import Derived.Test.YtmoobfpmijdoaaaDoorXCq6
import Derived.Test.YtmoobfpmijdoaaaDoorXCdL1
import Derived.Test.YtmoobfpmijdoaaaDoorXCdL2
import Derived.Test.YtmoobfpmijdoaaaDoorXWrap
namespace Go.Proofs.YtmoobfpmijdoaaaDoor
open Go.RowKit
set_option linter.unusedVariables false
set_option linter.unusedSimpArgs false
set_option maxRecDepth 8000

theorem size_cp : (Tryd.prog.info? 35).map (·.size) = some 7 := by kernel_rfl
theorem agg_cp (w : World) : (isAgg 35).run Tryd.prog w = .ok true w := by rfl
set_option maxHeartbeats 16000000 in
theorem cdbParses_core (a0 : Option Addr) (len0 cap0 : Nat) (l0 : List (BitVec 8)) (op : Int) (w : World) (hT : TblAt w) (hS : SizAt w) (B0 : Arg 140737488351232 w a0 len0 cap0 l0) (o X0 X1 : Int) (v : Bool) (X3 X4 X5 E : Int) (hpa : paR l0 = ([.int .i64 o, .int .i64 X0, .int .i64 X1, .bool v, .int .i64 X3, .int .u64 X4, .int .i64 X5], E)) (hE : E = 0 → (∃ k, k < 14 ∧ (rowK k).o = o) ∧ Few X5 ∧ ∀ W, TblAt W → Calls Tryd.prog 16 #[.agg #[.int .i64 o, .int .i64 X0, .int .i64 X1, .bool v, .int .i64 X3, .int .u64 X4, .int .i64 X5]] W fun e w' => ∃ z, e = .returned (.tuple #[z, .int .i64 0]) ∧ Own w' W.heap.size z l0 ∧ Below W.heap.size W w') :
    Calls Tryd.prog 6 #[.slice a0 len0 cap0, .int .i64 op] w fun e w' => e = .returned (.bool true) ∧ Below w.heap.size w w' := by
  have hlen0 := B0.len_eq
  subst hlen0
  have hq1 : l0.length ≤ 140737488351232 := Nat.le_trans B0.le B0.bound
  have HL : Hid _ := Lent_any a0 l0.length cap0 l0 w B0
  have H0 : Hid _ := And.intro B0.row (And.intro hq1 (And.intro B0.le B0.isNil))
  have HT : Hid (∀ X, Below w.heap.size w X → TblAt X ∧ SizAt X) := fun X bX => ⟨hT.later bX, hS.later bX⟩
  have HE : Hid _ := hE
  have HP : Hid _ := hpa
  clear B0 hq1 hT hS hE hpa
  have hu : ∀ X : World, Sem.run Tryd.prog (Op.equalIn 10000 42 (.agg #[.int .i64 o, .int .i64 X0, .int .i64 X1, .bool v, .int .i64 X3, .int .u64 X4, .int .i64 X5]) (.agg #[.int .i64 o, .int .i64 X0, .int .i64 X1, .bool v, .int .i64 X3, .int .u64 X4, .int .i64 X5])) X = .ok true X := fun X => by rw [eqC]; simp
  go_enter Tryd.func6, Tryd.ntmps6
  go_wp2_with fail
  refine (Calls.mono HL.out) ?_
  rintro e w1 ⟨g, c, rfl, oL, -, hc1, -, b1⟩
  obtain ⟨aL, cL, eL, -, -, rL, -, -⟩ := oL.open
  simp only [Value.slice.injEq] at eL
  obtain ⟨rfl, -, -⟩ := eL
  have H1 : Hid _ := And.intro (And.intro rL hc1) b1
  clear oL rL b1 HL
  have HK0 := cParse_any (some ⟨g, 0, none⟩) c l0 w1 (HT.out _ H1.out.2).1 (row_frC H1.out.1.1) (by have := H0.out.2.1; omega)
  rw [HP.out] at HK0
  have HK : Hid _ := HK0
  clear HK0
  go_wp2_with fail
  refine (Calls.mono HK.out) ?_
  rintro e w2 ⟨rfl, b2⟩
  clear HK
  have N3 := Blk.new' w2 35 [.int .i64 o, .int .i64 X0, .int .i64 X1, .bool v, .int .i64 X3, .int .u64 X4, .int .i64 X5]
  have bn3 : Below w2.heap.size w2 (w2.alloc (.cells #[.int .i64 o, .int .i64 X0, .int .i64 X1, .bool v, .int .i64 X3, .int .u64 X4, .int .i64 X5] 35)) := (Below.refl _ _).alloc (Nat.le_refl _) _
  obtain ⟨w3, hw3⟩ : ∃ w3, w3 = w2.alloc (.cells #[.int .i64 o, .int .i64 X0, .int .i64 X1, .bool v, .int .i64 X3, .int .u64 X4, .int .i64 X5] 35) := ⟨_, rfl⟩
  rw [← hw3] at N3 bn3
  obtain ⟨pb, hpb⟩ : ∃ g, g = w2.heap.size := ⟨_, rfl⟩
  rw [← hpb] at N3
  have H3 : Hid _ := And.intro (below_then b2 bn3) (And.intro (below_then H1.out.2 (below_then b2 bn3)) N3)
  clear b2 bn3 N3
  go_upto_region 3 with fail
  rw [← hw3, ← hpb]
  clear hw3 hpb
  have HK0 := rparse_any a0 cap0 l0 w3 (H0.out.1.later H3.out.2.1) (by have := H0.out.2.1; omega)
  rw [HP.out] at HK0
  have HK : Hid _ := HK0
  clear HK0
  go_wp2_with fail
  refine (Calls.mono HK.out) ?_
  rintro e w4 ⟨rfl, b4⟩
  clear HK
  have N5 := Blk.new' w4 42 [.int .i64 o, .int .i64 X0, .int .i64 X1, .bool v, .int .i64 X3, .int .u64 X4, .int .i64 X5]
  have bn5 : Below w4.heap.size w4 (w4.alloc (.cells #[.int .i64 o, .int .i64 X0, .int .i64 X1, .bool v, .int .i64 X3, .int .u64 X4, .int .i64 X5] 42)) := (Below.refl _ _).alloc (Nat.le_refl _) _
  obtain ⟨w5, hw5⟩ : ∃ w5, w5 = w4.alloc (.cells #[.int .i64 o, .int .i64 X0, .int .i64 X1, .bool v, .int .i64 X3, .int .u64 X4, .int .i64 X5] 42) := ⟨_, rfl⟩
  rw [← hw5] at N5 bn5
  obtain ⟨rb, hrb⟩ : ∃ g, g = w4.heap.size := ⟨_, rfl⟩
  rw [← hrb] at N5
  have H5 : Hid _ := And.intro (below_then H3.out.1 (below_then b4 bn5)) (And.intro (below_then H3.out.2.1 (below_then b4 bn5)) (And.intro (H3.out.2.2.laterB (below_then b4 bn5)) N5))
  clear b4 bn5 N5 H3
  go_upto_region 4 with fail
  rw [← hw5, ← hrb]
  clear hw5 hrb
  have HKp : Hid (∀ X, Below w5.heap.size w5 X → _) := fun X (bX : Below w5.heap.size w5 X) => (Kept_yes g l0.length c a0 cap0 l0 X rfl H1.out.1.2 H0.out.2.1 (H1.out.1.1.later (below_then H5.out.1 bX)) (H0.out.1.later (below_then H5.out.2.1 bX))).mono (fun e w' h => And.intro h.1 h.2.symm)
  refine wp_region_held_drew (S := fun W => Below w5.heap.size w5 W) (by kernel_rfl) ((Below.refl _ _).drew) (fun hS => ?_)
  have B0 : Below w5.heap.size w5 w5.drew := ((Below.refl _ _).drew)
  refine any_take (i := 0) (v := ?_) rfl (by kernel_rfl) (by kernel_rfl) (by kernel_rfl) (by exact fun _ _ _ h => h) (by rfl) ?_ hS ?_
  rotate_left
  · ((intro w hSw; have q0 := ck_later (show w5.cell? ⟨pb, 0, none⟩ = some (.int .i64 o) from ck_at H5.out.2.2.1 0) hSw; have q1 := ck_later (show w5.cell? ⟨pb, 1, none⟩ = some (.int .i64 X0) from ck_at H5.out.2.2.1 1) hSw; have q2 := ck_later (show w5.cell? ⟨pb, 2, none⟩ = some (.int .i64 X1) from ck_at H5.out.2.2.1 2) hSw; have q3 := ck_later (show w5.cell? ⟨pb, 3, none⟩ = some (.bool v) from ck_at H5.out.2.2.1 3) hSw; have q4 := ck_later (show w5.cell? ⟨pb, 4, none⟩ = some (.int .i64 X3) from ck_at H5.out.2.2.1 4) hSw; have q5 := ck_later (show w5.cell? ⟨pb, 5, none⟩ = some (.int .u64 X4) from ck_at H5.out.2.2.1 5) hSw; have q6 := ck_later (show w5.cell? ⟨pb, 6, none⟩ = some (.int .i64 X5) from ck_at H5.out.2.2.1 6) hSw; go_simp) <;> with_reducible rfl)
  (try simp only [Act.put, List.setIfInBounds_toArray, List.set_cons_zero, List.set_cons_succ])
  refine any_take (i := 2) (v := ?_) rfl (by kernel_rfl) (by kernel_rfl) (by kernel_rfl) (by exact fun _ _ _ h => h) (by rfl) ?_ hS ?_
  rotate_left
  · ((intro w hSw; have q0 := ck_later (show w5.cell? ⟨rb, 0, none⟩ = some (.int .i64 o) from ck_at H5.out.2.2.2 0) hSw; have q1 := ck_later (show w5.cell? ⟨rb, 1, none⟩ = some (.int .i64 X0) from ck_at H5.out.2.2.2 1) hSw; have q2 := ck_later (show w5.cell? ⟨rb, 2, none⟩ = some (.int .i64 X1) from ck_at H5.out.2.2.2 2) hSw; have q3 := ck_later (show w5.cell? ⟨rb, 3, none⟩ = some (.bool v) from ck_at H5.out.2.2.2 3) hSw; have q4 := ck_later (show w5.cell? ⟨rb, 4, none⟩ = some (.int .i64 X3) from ck_at H5.out.2.2.2 4) hSw; have q5 := ck_later (show w5.cell? ⟨rb, 5, none⟩ = some (.int .u64 X4) from ck_at H5.out.2.2.2 5) hSw; have q6 := ck_later (show w5.cell? ⟨rb, 6, none⟩ = some (.int .i64 X5) from ck_at H5.out.2.2.2 6) hSw; go_simp) <;> with_reducible rfl)
  (try simp only [Act.put, List.setIfInBounds_toArray, List.set_cons_zero, List.set_cons_succ])
  refine any_one (i := 1) rfl (by kernel_rfl) (fun K hK => ?_)
  go_simp
  refine (Calls.mono (taken15_any o X0 X1 v X3 X4 X5 _)) ?_
  rintro e x1 ⟨rfl, hbR⟩
  have B1 : Below w5.heap.size w5 x1 := below_then B0 hbR
  go_wp2_with fail
  refine hK.out _ _ (by first | exact B1 | exact hbR | exact below_then hS hbR) (any_weaken (S' := fun W => Below x1.heap.size x1 W) (fun W hW => by first | exact below_then B1 hW | exact below_then hbR hW | exact below_then (below_then hS hbR) hW) _ _ _ _ ?_)
  clear hK K hS hbR
  have hS : Below x1.heap.size x1 x1 := Below.refl _ _
  refine any_take (i := 3) (v := ?_) rfl (by kernel_rfl) (by kernel_rfl) (by kernel_rfl) (by exact fun _ _ _ h => h) (by rfl) ?_ hS ?_
  rotate_left
  · ((intro w hSw; (try dsimp only at hSw); go_simp) <;> with_reducible rfl)
  (try simp only [Act.put, List.setIfInBounds_toArray, List.set_cons_zero, List.set_cons_succ])
  refine any_take (i := 4) (v := ?_) rfl (by kernel_rfl) (by kernel_rfl) (by kernel_rfl) (by exact fun _ _ _ h => h) (by rfl) ?_ hS ?_
  rotate_left
  · ((intro w hSw; (try dsimp only at hSw); go_simp) <;> with_reducible rfl)
  (try simp only [Act.put, List.setIfInBounds_toArray, List.set_cons_zero, List.set_cons_succ])
  refine any_take (i := 5) (v := ?_) rfl (by kernel_rfl) (by kernel_rfl) (by kernel_rfl) (by exact fun _ _ _ h => h) (by rfl) ?_ hS ?_
  rotate_left
  · ((intro w hSw; (try dsimp only at hSw); go_simp) <;> with_reducible rfl)
  (try simp only [Act.put, List.setIfInBounds_toArray, List.set_cons_zero, List.set_cons_succ])
  refine any_take (i := 6) (v := ?_) rfl (by kernel_rfl) (by kernel_rfl) (by kernel_rfl) (by exact fun _ _ _ h => h) (by rfl) ?_ hS ?_
  rotate_left
  · ((intro w hSw; (try dsimp only at hSw); go_simp) <;> with_reducible rfl)
  (try simp only [Act.put, List.setIfInBounds_toArray, List.set_cons_zero, List.set_cons_succ])
  refine any_take (i := 7) (v := ?_) rfl (by kernel_rfl) (by kernel_rfl) (by kernel_rfl) (by exact fun _ _ _ h => h) (by rfl) ?_ hS ?_
  rotate_left
  · ((intro w hSw; (try dsimp only at hSw); go_simp) <;> with_reducible rfl)
  (try simp only [Act.put, List.setIfInBounds_toArray, List.set_cons_zero, List.set_cons_succ])
  refine any_take (i := 8) (v := ?_) rfl (by kernel_rfl) (by kernel_rfl) (by kernel_rfl) (by exact fun _ _ _ h => h) (by rfl) ?_ hS ?_
  rotate_left
  · ((intro w hSw; (try dsimp only at hSw); go_simp) <;> with_reducible rfl)
  (try simp only [Act.put, List.setIfInBounds_toArray, List.set_cons_zero, List.set_cons_succ])
  refine any_take (i := 9) (v := ?_) rfl (by kernel_rfl) (by kernel_rfl) (by kernel_rfl) (by exact fun _ _ _ h => h) (by rfl) ?_ hS ?_
  rotate_left
  · ((intro w hSw; (try dsimp only at hSw); go_simp) <;> with_reducible rfl)
  (try simp only [Act.put, List.setIfInBounds_toArray, List.set_cons_zero, List.set_cons_succ])
  refine any_take (i := 10) (v := ?_) rfl (by kernel_rfl) (by kernel_rfl) (by kernel_rfl) (by exact fun _ _ _ h => h) (by rfl) ?_ hS ?_
  rotate_left
  · ((intro w hSw; (try dsimp only at hSw); go_simp) <;> with_reducible rfl)
  (try simp only [Act.put, List.setIfInBounds_toArray, List.set_cons_zero, List.set_cons_succ])
  refine any_take (i := 11) (v := ?_) rfl (by kernel_rfl) (by kernel_rfl) (by kernel_rfl) (by exact fun _ _ _ h => h) (by rfl) ?_ hS ?_
  rotate_left
  · ((intro w hSw; (try dsimp only at hSw); go_simp) <;> with_reducible rfl)
  (try simp only [Act.put, List.setIfInBounds_toArray, List.set_cons_zero, List.set_cons_succ])
  have K2 : Hid _ := HKp.out _ B1
  refine any_one (i := 12) rfl (by kernel_rfl) (fun K hK => ?_)
  go_simp
  refine (Calls.mono (K2.out)) ?_
  rintro e _ ⟨rfl, rfl⟩
  clear K2
  go_wp2_with fail
  refine hK.out _ _ hS ?_
  clear hK K
  refine any_take (i := 13) (v := ?_) rfl (by kernel_rfl) (by kernel_rfl) (by kernel_rfl) (by exact fun _ _ _ h => h) (by rfl) ?_ hS ?_
  rotate_left
  · ((intro w hSw; (try dsimp only at hSw); go_simp) <;> with_reducible rfl)
  (try simp only [Act.put, List.setIfInBounds_toArray, List.set_cons_zero, List.set_cons_succ])
  refine any_take (i := 14) (v := ?_) rfl (by kernel_rfl) (by kernel_rfl) (by kernel_rfl) (by exact fun _ _ _ h => h) (by rfl) ?_ hS ?_
  rotate_left
  · ((intro w hSw; (try dsimp only at hSw); go_simp) <;> with_reducible rfl)
  (try simp only [Act.put, List.setIfInBounds_toArray, List.set_cons_zero, List.set_cons_succ])
  refine any_take (i := 15) (v := ?_) rfl (by kernel_rfl) (by kernel_rfl) (by kernel_rfl) (by exact fun _ _ _ h => h) (by rfl) ?_ hS ?_
  rotate_left
  · ((intro w hSw; (try dsimp only at hSw); go_simp) <;> with_reducible rfl)
  (try simp only [Act.put, List.setIfInBounds_toArray, List.set_cons_zero, List.set_cons_succ])
  refine any_take (i := 16) (v := ?_) rfl (by kernel_rfl) (by kernel_rfl) (by kernel_rfl) (by exact fun _ _ _ h => h) (by rfl) ?_ hS ?_
  rotate_left
  · ((intro w hSw; (try dsimp only at hSw); go_simp) <;> with_reducible rfl)
  (try simp only [Act.put, List.setIfInBounds_toArray, List.set_cons_zero, List.set_cons_succ])
  refine any_take (i := 18) (v := ?_) rfl (by kernel_rfl) (by kernel_rfl) (by kernel_rfl) (by exact fun _ _ _ h => h) (by rfl) ?_ hS ?_
  rotate_left
  · ((intro w hSw; (try dsimp only at hSw); go_simp) <;> with_reducible rfl)
  (try simp only [Act.put, List.setIfInBounds_toArray, List.set_cons_zero, List.set_cons_succ])
  have K3 : Hid _ := cSizeOp_any op _ (HT.out _ (below_then H5.out.2.1 B1)).1 (HT.out _ (below_then H5.out.2.1 B1)).2
  refine any_one (i := 17) rfl (by kernel_rfl) (fun K hK => ?_)
  go_simp
  refine (Calls.mono (K3.out)) ?_
  rintro e x3 ⟨rfl, hbR⟩
  have B3 : Below w5.heap.size w5 x3 := below_then B1 hbR
  clear K3
  go_wp2_with fail
  refine hK.out _ _ (by first | exact B3 | exact hbR | exact below_then hS hbR) (any_weaken (S' := fun W => Below x3.heap.size x3 W) (fun W hW => by first | exact below_then B3 hW | exact below_then hbR hW | exact below_then (below_then hS hbR) hW) _ _ _ _ ?_)
  clear hK K hS hbR
  have hS : Below x3.heap.size x3 x3 := Below.refl _ _
  refine any_one (i := 19) rfl (by kernel_rfl) (fun K hK => ?_)
  go_simp
  refine (Calls.mono (rSizeOp_any op _)) ?_
  rintro e x4 ⟨rfl, hbR⟩
  have B4 : Below w5.heap.size w5 x4 := below_then B3 hbR
  go_wp2_with fail
  refine hK.out _ _ (by first | exact B4 | exact hbR | exact below_then hS hbR) (any_weaken (S' := fun W => Below x4.heap.size x4 W) (fun W hW => by first | exact below_then B4 hW | exact below_then hbR hW | exact below_then (below_then hS hbR) hW) _ _ _ _ ?_)
  clear hK K hS hbR
  have hS : Below x4.heap.size x4 x4 := Below.refl _ _
  refine any_take (i := 20) (v := ?_) rfl (by kernel_rfl) (by kernel_rfl) (by kernel_rfl) (by exact fun _ _ _ h => h) (by rfl) ?_ hS ?_
  rotate_left
  · ((intro w hSw; (try dsimp only at hSw); go_simp) <;> with_reducible rfl)
  (try simp only [Act.put, List.setIfInBounds_toArray, List.set_cons_zero, List.set_cons_succ])
  refine any_take (i := 21) (v := ?_) rfl (by kernel_rfl) (by kernel_rfl) (by kernel_rfl) (by exact fun _ _ _ h => h) (by rfl) ?_ hS ?_
  rotate_left
  · ((intro w hSw; (try dsimp only at hSw); go_simp) <;> with_reducible rfl)
  (try simp only [Act.put, List.setIfInBounds_toArray, List.set_cons_zero, List.set_cons_succ])
  refine wpAnyH_done (by kernel_rfl) ?_ _
  have H6 : Hid _ := And.intro (below_then H5.out.2.1 B4) (And.intro (H5.out.2.2.1.laterB B4) (H5.out.2.2.2.laterB B4))
  obtain ⟨w6, hw6⟩ : ∃ y, y = x4 := ⟨_, rfl⟩
  rw [← hw6] at H6 ⊢
  clear hS H5 HKp hu hw6 H1
  by_cases hz : E = 0
  · subst hz
    obtain ⟨⟨k, hk, ho⟩, hn, HB⟩ := HE.out rfl
    have HK : Hid _ := HB w6 (HT.out _ H6.out.1).1
    have HN : Hid _ := And.intro hk hn
    clear HB HE HP hk hn
    have ldc : (Instr.loadAt 35 (.pointer (some ⟨pb, 0, none⟩))).run Tryd.prog w6 = .ok (.agg #[.int .i64 o, .int .i64 X0, .int .i64 X1, .bool v, .int .i64 X3, .int .u64 X4, .int .i64 X5]) w6 := loadW (xs := [.int .i64 o, .int .i64 X0, .int .i64 X1, .bool v, .int .i64 X3, .int .u64 X4, .int .i64 X5]) size_cp agg_cp [] (ys := []) H6.out.2.1
    go_wp2_with (refine wpList_value rfl (exec_load rfl rfl ldc) ?_)
    clear ldc
    refine (Calls.mono HK.out) ?_
    rintro e w7 ⟨z, rfl, oz, bz⟩
    clear HK
    obtain ⟨az, nz, cz, ez, hsz⟩ := strsC oz
    subst ez
    have hsl : ∀ X, Below w7.heap.size w7 X → (convert 23 9 (.slice a0 l0.length cap0)).run Tryd.prog X = .ok (.string (str l0)) X := fun X hX => (H0.out.1.later (below_then H6.out.1 (below_then bz hX))).str _ _ rfl
    have H7 : Hid _ := And.intro (below_then H6.out.1 bz) (And.intro (H6.out.2.1.laterB bz) (H6.out.2.2.laterB bz))
    clear oz bz H6
    generalize str l0 = sl at *
    go_wp2_with fail
    have HO1 : Hid (∀ X, _) := fun X => pOut5 k HN.out.1 X0 X1 v X3 X4 X5 HN.out.2 X
    have HO2 : Hid (∀ X, _) := fun X => rOut5 k HN.out.1 X0 X1 v X3 X4 X5 HN.out.2 X
    have HI1 : Hid (∀ X, _) := fun X => pIn5 k HN.out.1 X0 X1 v X3 X4 X5 HN.out.2 X
    have HI2 : Hid (∀ X, _) := fun X => rIn5 k HN.out.1 X0 X1 v X3 X4 X5 HN.out.2 X
    rw [ho] at HO1 HO2 HI1 HI2
    clear ho HN
    refine wp_region_held_drew (S := fun W => Below w7.heap.size w7 W) (by kernel_rfl) ((Below.refl _ _).drew) (fun hS => ?_)
    have B0 : Below w7.heap.size w7 w7.drew := ((Below.refl _ _).drew)
    refine any_take (i := 0) (v := ?_) rfl (by kernel_rfl) (by kernel_rfl) (by kernel_rfl) (by exact fun _ _ _ h => h) (by rfl) ?_ hS ?_
    rotate_left
    · ((intro w hSw; (try dsimp only at hSw); go_simp) <;> with_reducible rfl)
    (try simp only [Act.put, List.setIfInBounds_toArray, List.set_cons_zero, List.set_cons_succ])
    refine any_take (i := 1) (v := ?_) rfl (by kernel_rfl) (by kernel_rfl) (by kernel_rfl) (by exact fun _ _ _ h => h) (by rfl) ?_ hS ?_
    rotate_left
    · ((intro w hSw; (try dsimp only at hSw); go_simp) <;> with_reducible rfl)
    (try simp only [Act.put, List.setIfInBounds_toArray, List.set_cons_zero, List.set_cons_succ])
    refine any_take (i := 2) (v := ?_) rfl (by kernel_rfl) (by kernel_rfl) (by kernel_rfl) (by exact fun _ _ _ h => h) (by rfl) ?_ hS ?_
    rotate_left
    · ((intro w hSw; (try dsimp only at hSw); go_simp) <;> with_reducible rfl)
    (try simp only [Act.put, List.setIfInBounds_toArray, List.set_cons_zero, List.set_cons_succ])
    refine any_take (i := 3) (v := ?_) rfl (by kernel_rfl) (by kernel_rfl) (by kernel_rfl) (by exact fun _ _ _ h => h) (by rfl) ?_ hS ?_
    rotate_left
    · ((intro w hSw; (try dsimp only at hSw); go_simp) <;> with_reducible rfl)
    (try simp only [Act.put, List.setIfInBounds_toArray, List.set_cons_zero, List.set_cons_succ])
    refine any_take (i := 5) (v := ?_) rfl (by kernel_rfl) (by kernel_rfl) (by kernel_rfl) (by exact fun _ _ _ h => h) (by rfl) ?_ hS ?_
    rotate_left
    · ((intro w hSw; (try dsimp only at hSw); go_simp) <;> with_reducible rfl)
    (try simp only [Act.put, List.setIfInBounds_toArray, List.set_cons_zero, List.set_cons_succ])
    refine any_take (i := 4) (v := ?_) rfl (by kernel_rfl) (by kernel_rfl) (by kernel_rfl) (by exact fun _ _ _ h => h) (by rfl) ?_ hS ?_
    rotate_left
    · ((intro w hSw; have q0 := hsz _ hSw; go_simp) <;> with_reducible rfl)
    (try simp only [Act.put, List.setIfInBounds_toArray, List.set_cons_zero, List.set_cons_succ])
    refine any_take (i := 6) (v := ?_) rfl (by kernel_rfl) (by kernel_rfl) (by kernel_rfl) (by exact fun _ _ _ h => h) (by rfl) ?_ hS ?_
    rotate_left
    · ((intro w hSw; have q0 := hsl _ hSw; go_simp) <;> with_reducible rfl)
    (try simp only [Act.put, List.setIfInBounds_toArray, List.set_cons_zero, List.set_cons_succ])
    refine any_take (i := 7) (v := ?_) rfl (by kernel_rfl) (by kernel_rfl) (by kernel_rfl) (by exact fun _ _ _ h => h) (by rfl) ?_ hS ?_
    rotate_left
    · ((intro w hSw; (try dsimp only at hSw); go_simp) <;> with_reducible rfl)
    (try simp only [Act.put, List.setIfInBounds_toArray, List.set_cons_zero, List.set_cons_succ])
    refine any_take (i := 8) (v := ?_) rfl (by kernel_rfl) (by kernel_rfl) (by kernel_rfl) (by exact fun _ _ _ h => h) (by rfl) ?_ hS ?_
    rotate_left
    · ((intro w hSw; (try dsimp only at hSw); go_simp) <;> with_reducible rfl)
    (try simp only [Act.put, List.setIfInBounds_toArray, List.set_cons_zero, List.set_cons_succ])
    refine any_take (i := 9) (v := ?_) rfl (by kernel_rfl) (by kernel_rfl) (by kernel_rfl) (by exact fun _ _ _ h => h) (by rfl) ?_ hS ?_
    rotate_left
    · ((intro w hSw; (try dsimp only at hSw); go_simp) <;> with_reducible rfl)
    (try simp only [Act.put, List.setIfInBounds_toArray, List.set_cons_zero, List.set_cons_succ])
    refine any_take (i := 10) (v := ?_) rfl (by kernel_rfl) (by kernel_rfl) (by kernel_rfl) (by exact fun _ _ _ h => h) (by rfl) ?_ hS ?_
    rotate_left
    · ((intro w hSw; have q0 := ck_later (show w7.cell? ⟨pb, 0, none⟩ = some (.int .i64 o) from ck_at H7.out.2.1 0) hSw; have q1 := ck_later (show w7.cell? ⟨pb, 1, none⟩ = some (.int .i64 X0) from ck_at H7.out.2.1 1) hSw; have q2 := ck_later (show w7.cell? ⟨pb, 2, none⟩ = some (.int .i64 X1) from ck_at H7.out.2.1 2) hSw; have q3 := ck_later (show w7.cell? ⟨pb, 3, none⟩ = some (.bool v) from ck_at H7.out.2.1 3) hSw; have q4 := ck_later (show w7.cell? ⟨pb, 4, none⟩ = some (.int .i64 X3) from ck_at H7.out.2.1 4) hSw; have q5 := ck_later (show w7.cell? ⟨pb, 5, none⟩ = some (.int .u64 X4) from ck_at H7.out.2.1 5) hSw; have q6 := ck_later (show w7.cell? ⟨pb, 6, none⟩ = some (.int .i64 X5) from ck_at H7.out.2.1 6) hSw; go_simp) <;> with_reducible rfl)
    (try simp only [Act.put, List.setIfInBounds_toArray, List.set_cons_zero, List.set_cons_succ])
    refine any_take (i := 12) (v := ?_) rfl (by kernel_rfl) (by kernel_rfl) (by kernel_rfl) (by exact fun _ _ _ h => h) (by rfl) ?_ hS ?_
    rotate_left
    · ((intro w hSw; have q0 := ck_later (show w7.cell? ⟨rb, 0, none⟩ = some (.int .i64 o) from ck_at H7.out.2.2 0) hSw; have q1 := ck_later (show w7.cell? ⟨rb, 1, none⟩ = some (.int .i64 X0) from ck_at H7.out.2.2 1) hSw; have q2 := ck_later (show w7.cell? ⟨rb, 2, none⟩ = some (.int .i64 X1) from ck_at H7.out.2.2 2) hSw; have q3 := ck_later (show w7.cell? ⟨rb, 3, none⟩ = some (.bool v) from ck_at H7.out.2.2 3) hSw; have q4 := ck_later (show w7.cell? ⟨rb, 4, none⟩ = some (.int .i64 X3) from ck_at H7.out.2.2 4) hSw; have q5 := ck_later (show w7.cell? ⟨rb, 5, none⟩ = some (.int .u64 X4) from ck_at H7.out.2.2 5) hSw; have q6 := ck_later (show w7.cell? ⟨rb, 6, none⟩ = some (.int .i64 X5) from ck_at H7.out.2.2 6) hSw; go_simp) <;> with_reducible rfl)
    (try simp only [Act.put, List.setIfInBounds_toArray, List.set_cons_zero, List.set_cons_succ])
    refine any_one (i := 11) rfl (by kernel_rfl) (fun K hK => ?_)
    go_simp
    refine (Calls.mono ((HO1.out _))) ?_
    rintro e x1 ⟨rfl, hbR⟩
    have B1 : Below w7.heap.size w7 x1 := below_then B0 hbR
    go_wp2_with fail
    refine hK.out _ _ (by first | exact B1 | exact hbR | exact below_then hS hbR) (any_weaken (S' := fun W => Below x1.heap.size x1 W) (fun W hW => by first | exact below_then B1 hW | exact below_then hbR hW | exact below_then (below_then hS hbR) hW) _ _ _ _ ?_)
    clear hK K hS hbR
    have hS : Below x1.heap.size x1 x1 := Below.refl _ _
    refine any_one (i := 13) rfl (by kernel_rfl) (fun K hK => ?_)
    go_simp
    refine (Calls.mono ((HO2.out _))) ?_
    rintro e x2 ⟨rfl, hbR⟩
    have B2 : Below w7.heap.size w7 x2 := below_then B1 hbR
    go_wp2_with fail
    refine hK.out _ _ (by first | exact B2 | exact hbR | exact below_then hS hbR) (any_weaken (S' := fun W => Below x2.heap.size x2 W) (fun W hW => by first | exact below_then B2 hW | exact below_then hbR hW | exact below_then (below_then hS hbR) hW) _ _ _ _ ?_)
    clear hK K hS hbR
    have hS : Below x2.heap.size x2 x2 := Below.refl _ _
    refine any_take (i := 14) (v := ?_) rfl (by kernel_rfl) (by kernel_rfl) (by kernel_rfl) (by exact fun _ _ _ h => h) (by rfl) ?_ hS ?_
    rotate_left
    · ((intro w hSw; (try dsimp only at hSw); go_simp) <;> with_reducible rfl)
    (try simp only [Act.put, List.setIfInBounds_toArray, List.set_cons_zero, List.set_cons_succ])
    refine any_take (i := 15) (v := ?_) rfl (by kernel_rfl) (by kernel_rfl) (by kernel_rfl) (by exact fun _ _ _ h => h) (by rfl) ?_ hS ?_
    rotate_left
    · ((intro w hSw; (try dsimp only at hSw); go_simp) <;> with_reducible rfl)
    (try simp only [Act.put, List.setIfInBounds_toArray, List.set_cons_zero, List.set_cons_succ])
    refine any_take (i := 16) (v := ?_) rfl (by kernel_rfl) (by kernel_rfl) (by kernel_rfl) (by exact fun _ _ _ h => h) (by rfl) ?_ hS ?_
    rotate_left
    · ((intro w hSw; (try dsimp only at hSw); go_simp) <;> with_reducible rfl)
    (try simp only [Act.put, List.setIfInBounds_toArray, List.set_cons_zero, List.set_cons_succ])
    refine any_take (i := 17) (v := ?_) rfl (by kernel_rfl) (by kernel_rfl) (by kernel_rfl) (by exact fun _ _ _ h => h) (by rfl) ?_ hS ?_
    rotate_left
    · ((intro w hSw; have q0 := ck_later (show w7.cell? ⟨pb, 0, none⟩ = some (.int .i64 o) from ck_at H7.out.2.1 0) (below_then B2 hSw); have q1 := ck_later (show w7.cell? ⟨pb, 1, none⟩ = some (.int .i64 X0) from ck_at H7.out.2.1 1) (below_then B2 hSw); have q2 := ck_later (show w7.cell? ⟨pb, 2, none⟩ = some (.int .i64 X1) from ck_at H7.out.2.1 2) (below_then B2 hSw); have q3 := ck_later (show w7.cell? ⟨pb, 3, none⟩ = some (.bool v) from ck_at H7.out.2.1 3) (below_then B2 hSw); have q4 := ck_later (show w7.cell? ⟨pb, 4, none⟩ = some (.int .i64 X3) from ck_at H7.out.2.1 4) (below_then B2 hSw); have q5 := ck_later (show w7.cell? ⟨pb, 5, none⟩ = some (.int .u64 X4) from ck_at H7.out.2.1 5) (below_then B2 hSw); have q6 := ck_later (show w7.cell? ⟨pb, 6, none⟩ = some (.int .i64 X5) from ck_at H7.out.2.1 6) (below_then B2 hSw); go_simp) <;> with_reducible rfl)
    (try simp only [Act.put, List.setIfInBounds_toArray, List.set_cons_zero, List.set_cons_succ])
    refine any_take (i := 19) (v := ?_) rfl (by kernel_rfl) (by kernel_rfl) (by kernel_rfl) (by exact fun _ _ _ h => h) (by rfl) ?_ hS ?_
    rotate_left
    · ((intro w hSw; have q0 := ck_later (show w7.cell? ⟨rb, 0, none⟩ = some (.int .i64 o) from ck_at H7.out.2.2 0) (below_then B2 hSw); have q1 := ck_later (show w7.cell? ⟨rb, 1, none⟩ = some (.int .i64 X0) from ck_at H7.out.2.2 1) (below_then B2 hSw); have q2 := ck_later (show w7.cell? ⟨rb, 2, none⟩ = some (.int .i64 X1) from ck_at H7.out.2.2 2) (below_then B2 hSw); have q3 := ck_later (show w7.cell? ⟨rb, 3, none⟩ = some (.bool v) from ck_at H7.out.2.2 3) (below_then B2 hSw); have q4 := ck_later (show w7.cell? ⟨rb, 4, none⟩ = some (.int .i64 X3) from ck_at H7.out.2.2 4) (below_then B2 hSw); have q5 := ck_later (show w7.cell? ⟨rb, 5, none⟩ = some (.int .u64 X4) from ck_at H7.out.2.2 5) (below_then B2 hSw); have q6 := ck_later (show w7.cell? ⟨rb, 6, none⟩ = some (.int .i64 X5) from ck_at H7.out.2.2 6) (below_then B2 hSw); go_simp) <;> with_reducible rfl)
    (try simp only [Act.put, List.setIfInBounds_toArray, List.set_cons_zero, List.set_cons_succ])
    refine any_one (i := 18) rfl (by kernel_rfl) (fun K hK => ?_)
    go_simp
    refine (Calls.mono ((HI1.out _))) ?_
    rintro e x3 ⟨rfl, hbR⟩
    have B3 : Below w7.heap.size w7 x3 := below_then B2 hbR
    go_wp2_with fail
    refine hK.out _ _ (by first | exact B3 | exact hbR | exact below_then hS hbR) (any_weaken (S' := fun W => Below x3.heap.size x3 W) (fun W hW => by first | exact below_then B3 hW | exact below_then hbR hW | exact below_then (below_then hS hbR) hW) _ _ _ _ ?_)
    clear hK K hS hbR
    have hS : Below x3.heap.size x3 x3 := Below.refl _ _
    refine any_one (i := 20) rfl (by kernel_rfl) (fun K hK => ?_)
    go_simp
    refine (Calls.mono ((HI2.out _))) ?_
    rintro e x4 ⟨rfl, hbR⟩
    have B4 : Below w7.heap.size w7 x4 := below_then B3 hbR
    go_wp2_with fail
    refine hK.out _ _ (by first | exact B4 | exact hbR | exact below_then hS hbR) (any_weaken (S' := fun W => Below x4.heap.size x4 W) (fun W hW => by first | exact below_then B4 hW | exact below_then hbR hW | exact below_then (below_then hS hbR) hW) _ _ _ _ ?_)
    clear hK K hS hbR
    have hS : Below x4.heap.size x4 x4 := Below.refl _ _
    refine any_take (i := 21) (v := ?_) rfl (by kernel_rfl) (by kernel_rfl) (by kernel_rfl) (by exact fun _ _ _ h => h) (by rfl) ?_ hS ?_
    rotate_left
    · ((intro w hSw; (try dsimp only at hSw); go_simp) <;> with_reducible rfl)
    (try simp only [Act.put, List.setIfInBounds_toArray, List.set_cons_zero, List.set_cons_succ])
    refine any_take (i := 22) (v := ?_) rfl (by kernel_rfl) (by kernel_rfl) (by kernel_rfl) (by exact fun _ _ _ h => h) (by rfl) ?_ hS ?_
    rotate_left
    · ((intro w hSw; (try dsimp only at hSw); go_simp) <;> with_reducible rfl)
    (try simp only [Act.put, List.setIfInBounds_toArray, List.set_cons_zero, List.set_cons_succ])
    refine any_take (i := 23) (v := ?_) rfl (by kernel_rfl) (by kernel_rfl) (by kernel_rfl) (by exact fun _ _ _ h => h) (by rfl) ?_ hS ?_
    rotate_left
    · ((intro w hSw; (try dsimp only at hSw); go_simp) <;> with_reducible rfl)
    (try simp only [Act.put, List.setIfInBounds_toArray, List.set_cons_zero, List.set_cons_succ])
    have K5 : Hid _ := known15_any _ (HT.out _ (below_then H7.out.1 B4)).1
    refine any_one (i := 24) rfl (by kernel_rfl) (fun K hK => ?_)
    go_simp
    refine (Calls.mono (K5.out)) ?_
    rintro e x5 ⟨rfl, hbR⟩
    have B5 : Below w7.heap.size w7 x5 := below_then B4 hbR
    clear K5
    go_wp2_with fail
    refine hK.out _ _ (by first | exact B5 | exact hbR | exact below_then hS hbR) (any_weaken (S' := fun W => Below x5.heap.size x5 W) (fun W hW => by first | exact below_then B5 hW | exact below_then hbR hW | exact below_then (below_then hS hbR) hW) _ _ _ _ ?_)
    clear hK K hS hbR
    have hS : Below x5.heap.size x5 x5 := Below.refl _ _
    refine any_take (i := 25) (v := ?_) rfl (by kernel_rfl) (by kernel_rfl) (by kernel_rfl) (by exact fun _ _ _ h => h) (by rfl) ?_ hS ?_
    rotate_left
    · ((intro w hSw; (try dsimp only at hSw); go_simp) <;> with_reducible rfl)
    (try simp only [Act.put, List.setIfInBounds_toArray, List.set_cons_zero, List.set_cons_succ])
    refine any_take (i := 26) (v := ?_) rfl (by kernel_rfl) (by kernel_rfl) (by kernel_rfl) (by exact fun _ _ _ h => h) (by rfl) ?_ hS ?_
    rotate_left
    · ((intro w hSw; (try dsimp only at hSw); go_simp) <;> with_reducible rfl)
    (try simp only [Act.put, List.setIfInBounds_toArray, List.set_cons_zero, List.set_cons_succ])
    refine wpAnyH_done (by kernel_rfl) ?_ _
    have F : Hid _ := below_then H7.out.1 B5
    clear hS H7
    go_wp2
    go_ret
    exact ⟨rfl, F.out⟩
  · have dE : (E != 0) = true := by simpa using hz
    clear hz HE HP
    go_wp2_with fail
    refine (Calls.mono (known15_any w6 (HT.out _ H6.out.1).1)) ?_
    rintro e w7 ⟨rfl, b7⟩
    have F : Hid _ := below_then H6.out.1 b7
    clear b7 H6
    go_wp2
    go_ret
    exact ⟨rfl, F.out⟩
theorem cdbParses_walk (a0 : Option Addr) (len0 cap0 : Nat) (l0 : List (BitVec 8)) (op : Int) (w : World) (hT : TblAt w) (hS : SizAt w) (B0 : Arg 140737488351232 w a0 len0 cap0 l0) (hop : -9223372036854775808 ≤ op ∧ op ≤ 9223372036854775807) :
    Calls Tryd.prog 6 #[.slice a0 len0 cap0, .int .i64 op] w fun e w' => e = .returned (.bool true) ∧ Below w.heap.size w w' := by
  rcases pa_cases l0 with ⟨r, hf, hw, hp⟩ | ⟨E, hp, hE⟩
  · obtain ⟨k, hk, hrk, hro⟩ := findR_row hf
    have hko : (rowK k).o = r.o := by rw [hrk]
    obtain ⟨o, a0', b0, a1, b1, a2, b2, a3, b3, a4, b4, a5, b5, rfl, ho, p0, p1, p2, p3, p4, p5, q0, q1, q3, q5⟩ := (findR_ok hf).1.six
    have hbk := parse_back hf hw
    refine cdbParses_core a0 len0 cap0 l0 op w hT hS B0 o _ _ _ _ _ _ 0 hp (fun _ => ⟨⟨k, hk, hko⟩, ?_, fun W hW => ?_⟩)
    · have h1 := fvB_lt l0 a5 b5 p5
      have h2 : (2 : Nat) ^ b5.toNat ≤ 2 ^ 32 := Nat.pow_le_pow_right (by omega) (by omega)
      exact ⟨Int.natCast_nonneg _, by show ((fvB l0 a5 b5).toNat : Int) < 4294967296; omega⟩
    · refine (cBuild_any o ((fvB l0 a0' b0).toNat : Int) ((fvB l0 a1 b1).toNat : Int) (((fvB l0 a2 b2).toNat : Int) == 1) ((fvB l0 a3 b3).toNat : Int) (fvB l0 a4 b4) ((fvB l0 a5 b5).toNat : Int) W hW).mono ?_
      rintro e w' ⟨z, rfl, hz, bz⟩
      rw [hbk] at hz ⊢
      exact ⟨z, rfl, hz, bz⟩
  · exact cdbParses_core a0 len0 cap0 l0 op w hT hS B0 0 0 0 false 0 0 0 E hp (fun h => absurd h hE)
end Go.Proofs.YtmoobfpmijdoaaaDoor

