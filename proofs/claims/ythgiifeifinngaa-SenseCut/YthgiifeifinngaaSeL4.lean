/- The walk of SenseCut. -/
import Derived.Test.YthgiifeifinngaaSe9
import Derived.Test.YthgiifeifinngaaWrap
namespace Go.Proofs.Ythgiifeifinngaa
open Go.RowKit
set_option linter.unusedVariables false
set_option linter.unusedSimpArgs false
set_option maxRecDepth 4000

set_option maxHeartbeats 2000000 in
theorem senseCut_walk (a1 : Option Addr) (len1 cap1 : Nat) (l1 : List (BitVec 8)) (n : Int) (w : World) (B1 : Arg 140737488351232 w a1 len1 cap1 l1) (_ : -9223372036854775808 ≤ n ∧ n ≤ 9223372036854775807) :
    Calls Try.prog 4 #[.slice a1 len1 cap1, .int .i64 n] w fun e w' => e = .returned (.bool true) ∧ Below w.heap.size w w' := by
  have hlen1 := B1.len_eq
  subst hlen1
  have hq0 : l1.length ≤ 140737488351232 := Nat.le_trans B1.le B1.bound
  have HL : Hid _ := Lent_any a1 l1.length cap1 l1 w B1
  have H0 : Hid _ := And.intro B1.le (And.intro B1.row (And.intro B1.isNil hq0))
  clear B1 hq0
  go_enter Try.func4, Try.ntmps4
  go_wp2_with fail
  refine (Calls.mono HL.out) ?_
  rintro e w1 ⟨g, c, rfl, oL, -, hc1, -, b1⟩
  obtain ⟨aL, cL, eL, -, -, rL, -, -⟩ := oL.open
  simp only [Value.slice.injEq] at eL
  obtain ⟨rfl, -, -⟩ := eL
  have H1 : Hid _ := And.intro (And.intro rL (And.intro hc1 oL)) b1
  clear oL rL b1 HL
  have HC : Hid _ := cut_any (some ⟨g, 0, none⟩) c l1 n w1 (row_front H1.out.1.1) (by omega) (fun h => by cases h) H0.out.2.2.2
  go_wp2_with fail
  refine (Calls.mono HC.out) ?_
  rintro e w2 ⟨z2, rfl, o2, b2⟩
  obtain ⟨a2, n2, c2, rfl, hs2⟩ := ow_strs o2
  have H2 : Hid _ := And.intro o2 b2
  clear o2 b2 HC
  have HR : Hid (∀ W, Below w2.heap.size w2 W → _) := fun W (bW : Below w2.heap.size w2 W) => rcut_any a1 cap1 l1 n W (H0.out.2.1.later (below_then H1.out.2 (below_then H2.out.2 bW))) H0.out.1 H0.out.2.2.1 H0.out.2.2.2
  generalize hT : str (l1.take (cutK n l1.length)) = T at *
  go_upto_region 3 with fail
  refine wp_region_held_drew (S := fun W => Below w2.heap.size w2 W) (by kernel_rfl) ((Below.refl _ _).drew) (fun hS => ?_)
  have B0 : Below w2.heap.size w2 w2.drew := ((Below.refl _ _).drew)
  refine any_take (i := 0) (v := ?_) rfl (by kernel_rfl) (by kernel_rfl) (by kernel_rfl) (by exact fun _ _ _ h => h) (by rfl) ?_ hS ?_
  rotate_left
  · ((intro w hSw; (try dsimp only at hSw); go_simp) <;> with_reducible rfl)
  (try simp only [Act.put, List.setIfInBounds_toArray, List.set_cons_zero, List.set_cons_succ])
  refine any_take (i := 1) (v := ?_) rfl (by kernel_rfl) (by kernel_rfl) (by kernel_rfl) (by exact fun _ _ _ h => h) (by rfl) ?_ hS ?_
  rotate_left
  · ((intro w hSw; (try dsimp only at hSw); go_simp) <;> with_reducible rfl)
  (try simp only [Act.put, List.setIfInBounds_toArray, List.set_cons_zero, List.set_cons_succ])
  refine any_take (i := 2) (v := ?_) rfl (by kernel_rfl) (by kernel_rfl) (by kernel_rfl) (by exact fun _ _ _ h => h) (by rfl) ?_ hS ?_
  rotate_left
  · ((intro w hSw; (try dsimp only at hSw); go_simp) <;> with_reducible rfl)
  (try simp only [Act.put, List.setIfInBounds_toArray, List.set_cons_zero, List.set_cons_succ])
  refine any_take (i := 3) (v := ?_) rfl (by kernel_rfl) (by kernel_rfl) (by kernel_rfl) (by exact fun _ _ _ h => h) (by rfl) ?_ hS ?_
  rotate_left
  · ((intro w hSw; (try dsimp only at hSw); go_simp) <;> with_reducible rfl)
  (try simp only [Act.put, List.setIfInBounds_toArray, List.set_cons_zero, List.set_cons_succ])
  have K1 : Hid _ := HR.out _ B0
  refine any_one (i := 4) rfl (by kernel_rfl) (fun K hK => ?_)
  go_simp
  refine (Calls.mono (K1.out)) ?_
  rintro e x1 ⟨z3, rfl, o3, hbR⟩
  have B1 : Below w2.heap.size w2 x1 := below_then B0 hbR
  clear K1
  go_wp2_with fail
  refine hK.out _ _ (by first | exact B1 | exact hbR | exact below_then hS hbR) (any_weaken (S' := fun W => Below x1.heap.size x1 W) (fun W hW => by first | exact below_then B1 hW | exact below_then hbR hW | exact below_then (below_then hS hbR) hW) _ _ _ _ ?_)
  clear hK K hS hbR
  have hS : Below x1.heap.size x1 x1 := Below.refl _ _
  obtain ⟨a3, n3, c3, rfl, hs3⟩ := ow_strs o3
  rw [hT] at hs3
  refine any_take (i := 5) (v := ?_) rfl (by kernel_rfl) (by kernel_rfl) (by kernel_rfl) (by exact fun _ _ _ h => h) (by rfl) ?_ hS ?_
  rotate_left
  · ((intro w hSw; (try dsimp only at hSw); go_simp) <;> with_reducible rfl)
  (try simp only [Act.put, List.setIfInBounds_toArray, List.set_cons_zero, List.set_cons_succ])
  refine any_take (i := 6) (v := ?_) rfl (by kernel_rfl) (by kernel_rfl) (by kernel_rfl) (by exact fun _ _ _ h => h) (by rfl) ?_ hS ?_
  rotate_left
  · ((intro w hSw; (try dsimp only at hSw); go_simp) <;> with_reducible rfl)
  (try simp only [Act.put, List.setIfInBounds_toArray, List.set_cons_zero, List.set_cons_succ])
  refine any_take (i := 7) (v := ?_) rfl (by kernel_rfl) (by kernel_rfl) (by kernel_rfl) (by exact fun _ _ _ h => h) (by rfl) ?_ hS ?_
  rotate_left
  · ((intro w hSw; (try dsimp only at hSw); go_simp) <;> with_reducible rfl)
  (try simp only [Act.put, List.setIfInBounds_toArray, List.set_cons_zero, List.set_cons_succ])
  refine any_take (i := 8) (v := ?_) rfl (by kernel_rfl) (by kernel_rfl) (by kernel_rfl) (by exact fun _ _ _ h => h) (by rfl) ?_ hS ?_
  rotate_left
  · ((intro w hSw; (try dsimp only at hSw); go_simp) <;> with_reducible rfl)
  (try simp only [Act.put, List.setIfInBounds_toArray, List.set_cons_zero, List.set_cons_succ])
  refine any_take (i := 9) (v := ?_) rfl (by kernel_rfl) (by kernel_rfl) (by kernel_rfl) (by exact fun _ _ _ h => h) (by rfl) ?_ hS ?_
  rotate_left
  · ((intro w hSw; (try dsimp only at hSw); go_simp) <;> with_reducible rfl)
  (try simp only [Act.put, List.setIfInBounds_toArray, List.set_cons_zero, List.set_cons_succ])
  have B3 : Hid (Below w1.heap.size w1 x1) := below_then H2.out.2 B1
  have HK : Hid _ := Kept_yes g l1.length c a1 cap1 l1 x1 rfl H1.out.1.2.1 H0.out.2.2.2 (H1.out.1.1.later B3.out) (H0.out.2.1.later (below_then H1.out.2 B3.out))
  refine any_one (i := 10) rfl (by kernel_rfl) (fun K hK => ?_)
  go_simp
  refine (Calls.mono HK.out) ?_
  rintro e x9 ⟨rfl, hx9⟩
  rw [hx9]
  clear hx9 x9
  go_wp2_with fail
  refine hK.out _ _ hS ?_
  clear hK K
  refine any_take (i := 11) (v := ?_) rfl (by kernel_rfl) (by kernel_rfl) (by kernel_rfl) (by exact fun _ _ _ h => h) (by rfl) ?_ hS ?_
  rotate_left
  · ((intro w hSw; (try dsimp only at hSw); go_simp) <;> with_reducible rfl)
  (try simp only [Act.put, List.setIfInBounds_toArray, List.set_cons_zero, List.set_cons_succ])
  refine any_take (i := 12) (v := ?_) rfl (by kernel_rfl) (by kernel_rfl) (by kernel_rfl) (by exact fun _ _ _ h => h) (by rfl) ?_ hS ?_
  rotate_left
  · ((intro w hSw; (try dsimp only at hSw); go_simp) <;> with_reducible rfl)
  (try simp only [Act.put, List.setIfInBounds_toArray, List.set_cons_zero, List.set_cons_succ])
  refine wpAnyH_done (by kernel_rfl) ?_ _
  have HO : Hid _ := H2.out.1.later B1
  clear hS HK hs2 hs3 o3 B0 B1 H2 HR hT
  have HS : Hid _ := Spoil_own (.slice a2 n2 c2) w1.heap.size _ x1 HO.out (by rw [List.length_take]; have := H0.out.2.2.2; omega)
  go_wp2_with fail
  refine (Calls.mono HS.out) ?_
  rintro e w6 ⟨rfl, g6⟩
  have B6 : Hid (Below w1.heap.size w1 w6) := B3.out.grown g6 B3.out.size (own_block HO.out)
  clear HS g6 HO
  have HK : Hid _ := Kept_yes g l1.length c a1 cap1 l1 w6 rfl H1.out.1.2.1 H0.out.2.2.2 (H1.out.1.1.later B6.out) (H0.out.2.1.later (below_then H1.out.2 B6.out))
  go_wp2_with fail
  refine (Calls.mono HK.out) ?_
  rintro e x9 ⟨rfl, hx9⟩
  rw [hx9]
  clear hx9 x9
  go_wp2_with fail
  refine (Calls.mono (known16_any w6)) ?_
  rintro e w7 ⟨rfl, b7⟩
  have F : Hid _ := below_then (below_then H1.out.2 B6.out) b7
  clear HK B6 b7
  go_wp2
  go_ret
  exact ⟨rfl, F.out⟩
end Go.Proofs.Ythgiifeifinngaa
