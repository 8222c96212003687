/- extent: two images' blocks of one number; the change that makes a block what it is. -/
import Derived.Test.YtmkacgdbmojomaaXLd1
import Derived.Test.YtmkacgdbmojomaaXEx13
namespace Go.Proofs.Ytmkacgdbmojomaa
open Go.RowKit Go.ChangeMaps
set_option linter.unusedVariables false
set_option linter.unusedSimpArgs false
set_option maxRecDepth 8000

theorem eql_blk (l k : List (BitVec 8)) (hl : l.length = 64) (hk : k.length = 64) (w : World) : (binOp .eql 77 (arrV l) (arrV k)).run Try.prog w = .ok (.bool (decide (l = k))) w := by
  have h := equal_blk l k hl hk w
  unfold arrV at *
  rw [run_eql_struct, h]
  rfl
theorem guard_eql (l k : List (BitVec 8)) (x y : Operand) (w : World) : (eqGuard .eql 77 x y (arrV l) (arrV k)).run Try.prog w = .ok () w := run_eqGuard_agg w .eql _ x y _ _ (by kernel_rfl)
theorem has_by (m : Im) (i : Nat) (hw : m.Wf) : (m.has (i : Int) = false → m.by i = [] ∧ m.get (i : Int) = zero64) ∧ (m.has (i : Int) = true → (m.by i).length = 64 ∧ m.get (i : Int) = m.by i) := by
  unfold Im.has Im.by Im.get
  rw [if_pos (by omega), if_pos (by omega), Int.toNat_natCast]
  cases hf : m.f i with
  | none => exact ⟨fun _ => ⟨rfl, rfl⟩, fun h => by cases h⟩
  | some l => exact ⟨(fun h => by cases h), fun _ => ⟨(hw.each i l hf).2, rfl⟩⟩
theorem ag_ff {m1 m2 : Im} {i : Nat} (a1 : (m1.has (i : Int) = false → m1.by i = [] ∧ m1.get (i : Int) = zero64) ∧ (m1.has (i : Int) = true → (m1.by i).length = 64 ∧ m1.get (i : Int) = m1.by i)) (a2 : (m2.has (i : Int) = false → m2.by i = [] ∧ m2.get (i : Int) = zero64) ∧ (m2.has (i : Int) = true → (m2.by i).length = 64 ∧ m2.get (i : Int) = m2.by i)) (h1 : m1.has (i : Int) = false) (h2 : m2.has (i : Int) = false) : decide (m1.get (i : Int) = m2.get (i : Int)) = decide (m1.by i = m2.by i) := by rw [(a1.1 h1).1, (a1.1 h1).2, (a2.1 h2).1, (a2.1 h2).2]; simp
theorem ag_tt {m1 m2 : Im} {i : Nat} (a1 : (m1.has (i : Int) = false → m1.by i = [] ∧ m1.get (i : Int) = zero64) ∧ (m1.has (i : Int) = true → (m1.by i).length = 64 ∧ m1.get (i : Int) = m1.by i)) (a2 : (m2.has (i : Int) = false → m2.by i = [] ∧ m2.get (i : Int) = zero64) ∧ (m2.has (i : Int) = true → (m2.by i).length = 64 ∧ m2.get (i : Int) = m2.by i)) (h1 : m1.has (i : Int) = true) (h2 : m2.has (i : Int) = true) : decide (m1.get (i : Int) = m2.get (i : Int)) = decide (m1.by i = m2.by i) := by rw [(a1.2 h1).2, (a2.2 h2).2]
theorem ag_ft {m1 m2 : Im} {i : Nat} (a1 : (m1.has (i : Int) = false → m1.by i = [] ∧ m1.get (i : Int) = zero64) ∧ (m1.has (i : Int) = true → (m1.by i).length = 64 ∧ m1.get (i : Int) = m1.by i)) (a2 : (m2.has (i : Int) = false → m2.by i = [] ∧ m2.get (i : Int) = zero64) ∧ (m2.has (i : Int) = true → (m2.by i).length = 64 ∧ m2.get (i : Int) = m2.by i)) (h1 : m1.has (i : Int) = false) (h2 : m2.has (i : Int) = true) : decide (m1.by i = m2.by i) = false := by rw [decide_eq_false_iff_not]; intro e; have := (a2.2 h2).1; rw [← e, (a1.1 h1).1] at this; simp at this
theorem ag_tf {m1 m2 : Im} {i : Nat} (a1 : (m1.has (i : Int) = false → m1.by i = [] ∧ m1.get (i : Int) = zero64) ∧ (m1.has (i : Int) = true → (m1.by i).length = 64 ∧ m1.get (i : Int) = m1.by i)) (a2 : (m2.has (i : Int) = false → m2.by i = [] ∧ m2.get (i : Int) = zero64) ∧ (m2.has (i : Int) = true → (m2.by i).length = 64 ∧ m2.get (i : Int) = m2.by i)) (h1 : m1.has (i : Int) = true) (h2 : m2.has (i : Int) = false) : decide (m1.by i = m2.by i) = false := by rw [decide_eq_false_iff_not]; intro e; have := (a1.2 h1).1; rw [e, (a2.1 h2).1] at this; simp at this
set_option maxHeartbeats 16000000 in
theorem imAgrees_any (g1 b1 : Nat) (m1 : Im) (g2 b2 : Nat) (m2 : Im) (i : Nat) (w : World) (h1 : (im g1 b1 m1).Ok w) (h2 : (im g2 b2 m2).Ok w) (hw1 : m1.Wf) (hw2 : m2.Wf) (hi : i < 256) :
    Calls Try.prog 58 #[.pointer (some ⟨g1, 0, none⟩), .pointer (some ⟨g2, 0, none⟩), .int .i64 (i : Int)] w fun e w' => e = .returned (.bool (decide (m1.by i = m2.by i))) ∧ Below w.heap.size w w' := by
  have HP : Hid _ := And.intro h1 (And.intro h2 (And.intro hw1 hw2))
  have HI : Hid (I64 (i : Int)) := by unfold Hid I64; omega
  have HG : Hid _ := And.intro (hw1.get_len (i : Int)) (hw2.get_len (i : Int))
  have a1 := has_by m1 i hw1
  have a2 := has_by m2 i hw2
  have HA : Hid _ := And.intro a1 a2
  clear h1 h2 hw1 hw2 a1 a2
  have Sd : Below w.heap.size w w.drew := (Below.refl _ _).drew
  go_enter Try.func58, Try.ntmps58
  go_wp2_with fail
  cases h1 : m1.has (i : Int) with
  | false =>
    cases h2 : m2.has (i : Int) with
    | false =>
      have HH : Hid (m1.has (i : Int) = false ∧ m2.has (i : Int) = false) := ⟨h1, h2⟩
      go_wp2_with fail
      refine wp_region_held_drew (S := fun W => Below w.heap.size w W) (by kernel_rfl) Sd (fun hS => ?_)
      have B0 : Below w.heap.size w w.drew := Sd
      refine any_take (i := 0) (v := ?_) rfl (by kernel_rfl) (by kernel_rfl) (by kernel_rfl) (by exact fun _ _ _ h => h) (by rfl) ?_ hS ?_
      rotate_left
      · ((intro w hSw; (try dsimp only at hSw); go_simp) <;> with_reducible rfl)
      (try simp only [Act.put, List.setIfInBounds_toArray, List.set_cons_zero, List.set_cons_succ])
      refine any_take (i := 1) (v := ?_) rfl (by kernel_rfl) (by kernel_rfl) (by kernel_rfl) (by exact fun _ _ _ h => h) (by rfl) ?_ hS ?_
      rotate_left
      · ((intro w hSw; (try dsimp only at hSw); go_simp) <;> with_reducible rfl)
      (try simp only [Act.put, List.setIfInBounds_toArray, List.set_cons_zero, List.set_cons_succ])
      refine any_take (i := 3) (v := ?_) rfl (by kernel_rfl) (by kernel_rfl) (by kernel_rfl) (by exact fun _ _ _ h => h) (by rfl) ?_ hS ?_
      rotate_left
      · ((intro w hSw; (try dsimp only at hSw); go_simp) <;> with_reducible rfl)
      (try simp only [Act.put, List.setIfInBounds_toArray, List.set_cons_zero, List.set_cons_succ])
      refine any_take (i := 4) (v := ?_) rfl (by kernel_rfl) (by kernel_rfl) (by kernel_rfl) (by exact fun _ _ _ h => h) (by rfl) ?_ hS ?_
      rotate_left
      · ((intro w hSw; (try dsimp only at hSw); go_simp) <;> with_reducible rfl)
      (try simp only [Act.put, List.setIfInBounds_toArray, List.set_cons_zero, List.set_cons_succ])
      have K1 : Hid _ := imHas_any g1 b1 m1 (i : Int) _ (HP.out.1.later B0) HP.out.2.2.1 HI.out
      refine any_one (i := 2) rfl (by kernel_rfl) (fun K hK => ?_)
      go_simp
      refine (Calls.mono (K1.out)) ?_
      rintro e x1 ⟨rfl, hbR⟩
      have B1 : Below w.heap.size w x1 := below_then B0 hbR
      clear K1
      go_wp2_with fail
      refine hK.out _ _ (by first | exact B1 | exact hbR | exact below_then hS hbR) (any_weaken (S' := fun W => Below x1.heap.size x1 W) (fun W hW => by first | exact below_then B1 hW | exact below_then hbR hW | exact below_then (below_then hS hbR) hW) _ _ _ _ ?_)
      clear hK K hS hbR
      have hS : Below x1.heap.size x1 x1 := Below.refl _ _
      (try rw [HH.out.1])
      have K2 : Hid _ := imHas_any g2 b2 m2 (i : Int) _ (HP.out.2.1.later B1) HP.out.2.2.2 HI.out
      refine any_one (i := 5) rfl (by kernel_rfl) (fun K hK => ?_)
      go_simp
      refine (Calls.mono (K2.out)) ?_
      rintro e x2 ⟨rfl, hbR⟩
      have B2 : Below w.heap.size w x2 := below_then B1 hbR
      clear K2
      go_wp2_with fail
      refine hK.out _ _ (by first | exact B2 | exact hbR | exact below_then hS hbR) (any_weaken (S' := fun W => Below x2.heap.size x2 W) (fun W hW => by first | exact below_then B2 hW | exact below_then hbR hW | exact below_then (below_then hS hbR) hW) _ _ _ _ ?_)
      clear hK K hS hbR
      have hS : Below x2.heap.size x2 x2 := Below.refl _ _
      (try rw [HH.out.2])
      refine any_take (i := 6) (v := ?_) rfl (by kernel_rfl) (by kernel_rfl) (by kernel_rfl) (by exact fun _ _ _ h => h) (by rfl) ?_ hS ?_
      rotate_left
      · ((intro w hSw; (try dsimp only at hSw); go_simp) <;> with_reducible rfl)
      (try simp only [Act.put, List.setIfInBounds_toArray, List.set_cons_zero, List.set_cons_succ])
      refine any_take (i := 7) (v := ?_) rfl (by kernel_rfl) (by kernel_rfl) (by kernel_rfl) (by exact fun _ _ _ h => h) (by rfl) ?_ hS ?_
      rotate_left
      · ((intro w hSw; (try dsimp only at hSw); go_simp) <;> with_reducible rfl)
      (try simp only [Act.put, List.setIfInBounds_toArray, List.set_cons_zero, List.set_cons_succ])
      refine any_take (i := 8) (v := ?_) rfl (by kernel_rfl) (by kernel_rfl) (by kernel_rfl) (by exact fun _ _ _ h => h) (by rfl) ?_ hS ?_
      rotate_left
      · ((intro w hSw; (try dsimp only at hSw); go_simp) <;> with_reducible rfl)
      (try simp only [Act.put, List.setIfInBounds_toArray, List.set_cons_zero, List.set_cons_succ])
      refine any_take (i := 9) (v := ?_) rfl (by kernel_rfl) (by kernel_rfl) (by kernel_rfl) (by exact fun _ _ _ h => h) (by rfl) ?_ hS ?_
      rotate_left
      · ((intro w hSw; (try dsimp only at hSw); go_simp) <;> with_reducible rfl)
      (try simp only [Act.put, List.setIfInBounds_toArray, List.set_cons_zero, List.set_cons_succ])
      refine any_take (i := 10) (v := ?_) rfl (by kernel_rfl) (by kernel_rfl) (by kernel_rfl) (by exact fun _ _ _ h => h) (by rfl) ?_ hS ?_
      rotate_left
      · ((intro w hSw; (try dsimp only at hSw); go_simp) <;> with_reducible rfl)
      (try simp only [Act.put, List.setIfInBounds_toArray, List.set_cons_zero, List.set_cons_succ])
      refine any_take (i := 11) (v := .map (some b1)) rfl (by kernel_rfl) (by kernel_rfl) (by kernel_rfl) (by exact fun _ _ _ h => h) (by rfl) ?_ hS ?_
      · intro W hSW; have c := (im_cells (HP.out.1.later (below_then B2 hSW))).2; go_simp
      (try simp only [Act.put, List.setIfInBounds_toArray, List.set_cons_zero, List.set_cons_succ])
      refine any_take (i := 12) (v := ?_) rfl (by kernel_rfl) (by kernel_rfl) (by kernel_rfl) (by exact fun _ _ _ h => h) (by rfl) ?_ hS ?_
      rotate_left
      · ((intro w hSw; (try dsimp only at hSw); go_simp) <;> with_reducible rfl)
      (try simp only [Act.put, List.setIfInBounds_toArray, List.set_cons_zero, List.set_cons_succ])
      refine any_take (i := 13) (v := arrV (m1.get (i : Int))) rfl (by kernel_rfl) (by kernel_rfl) (by kernel_rfl) (by exact fun _ _ _ h => h) (by rfl) ?_ hS ?_
      · intro W hSW; have c := im_look (HP.out.1.later (below_then B2 hSW)) HI.out; go_simp
      (try simp only [Act.put, List.setIfInBounds_toArray, List.set_cons_zero, List.set_cons_succ])
      refine any_take (i := 14) (v := ?_) rfl (by kernel_rfl) (by kernel_rfl) (by kernel_rfl) (by exact fun _ _ _ h => h) (by rfl) ?_ hS ?_
      rotate_left
      · ((intro w hSw; (try dsimp only at hSw); go_simp) <;> with_reducible rfl)
      (try simp only [Act.put, List.setIfInBounds_toArray, List.set_cons_zero, List.set_cons_succ])
      refine any_take (i := 15) (v := ?_) rfl (by kernel_rfl) (by kernel_rfl) (by kernel_rfl) (by exact fun _ _ _ h => h) (by rfl) ?_ hS ?_
      rotate_left
      · ((intro w hSw; (try dsimp only at hSw); go_simp) <;> with_reducible rfl)
      (try simp only [Act.put, List.setIfInBounds_toArray, List.set_cons_zero, List.set_cons_succ])
      refine any_take (i := 16) (v := ?_) rfl (by kernel_rfl) (by kernel_rfl) (by kernel_rfl) (by exact fun _ _ _ h => h) (by rfl) ?_ hS ?_
      rotate_left
      · ((intro w hSw; (try dsimp only at hSw); go_simp) <;> with_reducible rfl)
      (try simp only [Act.put, List.setIfInBounds_toArray, List.set_cons_zero, List.set_cons_succ])
      refine any_take (i := 17) (v := .map (some b2)) rfl (by kernel_rfl) (by kernel_rfl) (by kernel_rfl) (by exact fun _ _ _ h => h) (by rfl) ?_ hS ?_
      · intro W hSW; have c := (im_cells (HP.out.2.1.later (below_then B2 hSW))).2; go_simp
      (try simp only [Act.put, List.setIfInBounds_toArray, List.set_cons_zero, List.set_cons_succ])
      refine any_take (i := 18) (v := ?_) rfl (by kernel_rfl) (by kernel_rfl) (by kernel_rfl) (by exact fun _ _ _ h => h) (by rfl) ?_ hS ?_
      rotate_left
      · ((intro w hSw; (try dsimp only at hSw); go_simp) <;> with_reducible rfl)
      (try simp only [Act.put, List.setIfInBounds_toArray, List.set_cons_zero, List.set_cons_succ])
      refine any_take (i := 19) (v := arrV (m2.get (i : Int))) rfl (by kernel_rfl) (by kernel_rfl) (by kernel_rfl) (by exact fun _ _ _ h => h) (by rfl) ?_ hS ?_
      · intro W hSW; have c := im_look (HP.out.2.1.later (below_then B2 hSW)) HI.out; go_simp
      (try simp only [Act.put, List.setIfInBounds_toArray, List.set_cons_zero, List.set_cons_succ])
      refine any_take (i := 20) (v := .bool (decide (m1.get (i : Int) = m2.get (i : Int)))) rfl (by kernel_rfl) (by kernel_rfl) (by kernel_rfl) (by exact fun _ _ _ h => h) (by rfl) ?_ hS ?_
      · intro W hSW; have c := eql_blk (m1.get (i : Int)) (m2.get (i : Int)) HG.out.1 HG.out.2 W; have c2 := fun x y => guard_eql (m1.get (i : Int)) (m2.get (i : Int)) x y W; go_simp
      (try simp only [Act.put, List.setIfInBounds_toArray, List.set_cons_zero, List.set_cons_succ])
      refine any_take (i := 21) (v := ?_) rfl (by kernel_rfl) (by kernel_rfl) (by kernel_rfl) (by exact fun _ _ _ h => h) (by rfl) ?_ hS ?_
      rotate_left
      · ((intro w hSw; (try dsimp only at hSw); go_simp) <;> with_reducible rfl)
      (try simp only [Act.put, List.setIfInBounds_toArray, List.set_cons_zero, List.set_cons_succ])
      refine any_take (i := 22) (v := ?_) rfl (by kernel_rfl) (by kernel_rfl) (by kernel_rfl) (by exact fun _ _ _ h => h) (by rfl) ?_ hS ?_
      rotate_left
      · ((intro w hSw; (try dsimp only at hSw); go_simp) <;> with_reducible rfl)
      (try simp only [Act.put, List.setIfInBounds_toArray, List.set_cons_zero, List.set_cons_succ])
      refine wpAnyH_done (by kernel_rfl) ?_ _
      go_wp2
      go_ret
      exact ⟨by rw [ag_ff HA.out.1 HA.out.2 HH.out.1 HH.out.2]; rfl, (B2 : Below w.heap.size w _)⟩
    | true =>
      have HH : Hid (m1.has (i : Int) = false ∧ m2.has (i : Int) = true) := ⟨h1, h2⟩
      go_wp2_with fail
      refine wp_region_held_drew (S := fun W => Below w.heap.size w W) (by kernel_rfl) Sd (fun hS => ?_)
      have B0 : Below w.heap.size w w.drew := Sd
      refine any_take (i := 0) (v := ?_) rfl (by kernel_rfl) (by kernel_rfl) (by kernel_rfl) (by exact fun _ _ _ h => h) (by rfl) ?_ hS ?_
      rotate_left
      · ((intro w hSw; (try dsimp only at hSw); go_simp) <;> with_reducible rfl)
      (try simp only [Act.put, List.setIfInBounds_toArray, List.set_cons_zero, List.set_cons_succ])
      refine any_take (i := 1) (v := ?_) rfl (by kernel_rfl) (by kernel_rfl) (by kernel_rfl) (by exact fun _ _ _ h => h) (by rfl) ?_ hS ?_
      rotate_left
      · ((intro w hSw; (try dsimp only at hSw); go_simp) <;> with_reducible rfl)
      (try simp only [Act.put, List.setIfInBounds_toArray, List.set_cons_zero, List.set_cons_succ])
      refine any_take (i := 3) (v := ?_) rfl (by kernel_rfl) (by kernel_rfl) (by kernel_rfl) (by exact fun _ _ _ h => h) (by rfl) ?_ hS ?_
      rotate_left
      · ((intro w hSw; (try dsimp only at hSw); go_simp) <;> with_reducible rfl)
      (try simp only [Act.put, List.setIfInBounds_toArray, List.set_cons_zero, List.set_cons_succ])
      refine any_take (i := 4) (v := ?_) rfl (by kernel_rfl) (by kernel_rfl) (by kernel_rfl) (by exact fun _ _ _ h => h) (by rfl) ?_ hS ?_
      rotate_left
      · ((intro w hSw; (try dsimp only at hSw); go_simp) <;> with_reducible rfl)
      (try simp only [Act.put, List.setIfInBounds_toArray, List.set_cons_zero, List.set_cons_succ])
      have K1 : Hid _ := imHas_any g1 b1 m1 (i : Int) _ (HP.out.1.later B0) HP.out.2.2.1 HI.out
      refine any_one (i := 2) rfl (by kernel_rfl) (fun K hK => ?_)
      go_simp
      refine (Calls.mono (K1.out)) ?_
      rintro e x1 ⟨rfl, hbR⟩
      have B1 : Below w.heap.size w x1 := below_then B0 hbR
      clear K1
      go_wp2_with fail
      refine hK.out _ _ (by first | exact B1 | exact hbR | exact below_then hS hbR) (any_weaken (S' := fun W => Below x1.heap.size x1 W) (fun W hW => by first | exact below_then B1 hW | exact below_then hbR hW | exact below_then (below_then hS hbR) hW) _ _ _ _ ?_)
      clear hK K hS hbR
      have hS : Below x1.heap.size x1 x1 := Below.refl _ _
      (try rw [HH.out.1])
      have K2 : Hid _ := imHas_any g2 b2 m2 (i : Int) _ (HP.out.2.1.later B1) HP.out.2.2.2 HI.out
      refine any_one (i := 5) rfl (by kernel_rfl) (fun K hK => ?_)
      go_simp
      refine (Calls.mono (K2.out)) ?_
      rintro e x2 ⟨rfl, hbR⟩
      have B2 : Below w.heap.size w x2 := below_then B1 hbR
      clear K2
      go_wp2_with fail
      refine hK.out _ _ (by first | exact B2 | exact hbR | exact below_then hS hbR) (any_weaken (S' := fun W => Below x2.heap.size x2 W) (fun W hW => by first | exact below_then B2 hW | exact below_then hbR hW | exact below_then (below_then hS hbR) hW) _ _ _ _ ?_)
      clear hK K hS hbR
      have hS : Below x2.heap.size x2 x2 := Below.refl _ _
      (try rw [HH.out.2])
      refine any_take (i := 6) (v := ?_) rfl (by kernel_rfl) (by kernel_rfl) (by kernel_rfl) (by exact fun _ _ _ h => h) (by rfl) ?_ hS ?_
      rotate_left
      · ((intro w hSw; (try dsimp only at hSw); go_simp) <;> with_reducible rfl)
      (try simp only [Act.put, List.setIfInBounds_toArray, List.set_cons_zero, List.set_cons_succ])
      refine any_take (i := 7) (v := ?_) rfl (by kernel_rfl) (by kernel_rfl) (by kernel_rfl) (by exact fun _ _ _ h => h) (by rfl) ?_ hS ?_
      rotate_left
      · ((intro w hSw; (try dsimp only at hSw); go_simp) <;> with_reducible rfl)
      (try simp only [Act.put, List.setIfInBounds_toArray, List.set_cons_zero, List.set_cons_succ])
      refine any_skip (i := 8) rfl (by kernel_rfl) (by kernel_rfl) (by kernel_rfl) (by exact fun _ _ _ h => h) (by rfl) hS ?_
      (try simp only [Act.put, List.setIfInBounds_toArray, List.set_cons_zero, List.set_cons_succ])
      refine any_skip (i := 9) rfl (by kernel_rfl) (by kernel_rfl) (by kernel_rfl) (by exact fun _ _ _ h => h) (by rfl) hS ?_
      (try simp only [Act.put, List.setIfInBounds_toArray, List.set_cons_zero, List.set_cons_succ])
      refine any_skip (i := 10) rfl (by kernel_rfl) (by kernel_rfl) (by kernel_rfl) (by exact fun _ _ _ h => h) (by rfl) hS ?_
      (try simp only [Act.put, List.setIfInBounds_toArray, List.set_cons_zero, List.set_cons_succ])
      refine any_skip (i := 11) rfl (by kernel_rfl) (by kernel_rfl) (by kernel_rfl) (by exact fun _ _ _ h => h) (by rfl) hS ?_
      (try simp only [Act.put, List.setIfInBounds_toArray, List.set_cons_zero, List.set_cons_succ])
      refine any_skip (i := 12) rfl (by kernel_rfl) (by kernel_rfl) (by kernel_rfl) (by exact fun _ _ _ h => h) (by rfl) hS ?_
      (try simp only [Act.put, List.setIfInBounds_toArray, List.set_cons_zero, List.set_cons_succ])
      refine any_skip (i := 13) rfl (by kernel_rfl) (by kernel_rfl) (by kernel_rfl) (by exact fun _ _ _ h => h) (by rfl) hS ?_
      (try simp only [Act.put, List.setIfInBounds_toArray, List.set_cons_zero, List.set_cons_succ])
      refine any_skip (i := 14) rfl (by kernel_rfl) (by kernel_rfl) (by kernel_rfl) (by exact fun _ _ _ h => h) (by rfl) hS ?_
      (try simp only [Act.put, List.setIfInBounds_toArray, List.set_cons_zero, List.set_cons_succ])
      refine any_skip (i := 15) rfl (by kernel_rfl) (by kernel_rfl) (by kernel_rfl) (by exact fun _ _ _ h => h) (by rfl) hS ?_
      (try simp only [Act.put, List.setIfInBounds_toArray, List.set_cons_zero, List.set_cons_succ])
      refine any_skip (i := 16) rfl (by kernel_rfl) (by kernel_rfl) (by kernel_rfl) (by exact fun _ _ _ h => h) (by rfl) hS ?_
      (try simp only [Act.put, List.setIfInBounds_toArray, List.set_cons_zero, List.set_cons_succ])
      refine any_skip (i := 17) rfl (by kernel_rfl) (by kernel_rfl) (by kernel_rfl) (by exact fun _ _ _ h => h) (by rfl) hS ?_
      (try simp only [Act.put, List.setIfInBounds_toArray, List.set_cons_zero, List.set_cons_succ])
      refine any_skip (i := 18) rfl (by kernel_rfl) (by kernel_rfl) (by kernel_rfl) (by exact fun _ _ _ h => h) (by rfl) hS ?_
      (try simp only [Act.put, List.setIfInBounds_toArray, List.set_cons_zero, List.set_cons_succ])
      refine any_skip (i := 19) rfl (by kernel_rfl) (by kernel_rfl) (by kernel_rfl) (by exact fun _ _ _ h => h) (by rfl) hS ?_
      (try simp only [Act.put, List.setIfInBounds_toArray, List.set_cons_zero, List.set_cons_succ])
      refine any_skip (i := 20) rfl (by kernel_rfl) (by kernel_rfl) (by kernel_rfl) (by exact fun _ _ _ h => h) (by rfl) hS ?_
      (try simp only [Act.put, List.setIfInBounds_toArray, List.set_cons_zero, List.set_cons_succ])
      refine any_take (i := 21) (v := ?_) rfl (by kernel_rfl) (by kernel_rfl) (by kernel_rfl) (by exact fun _ _ _ h => h) (by rfl) ?_ hS ?_
      rotate_left
      · ((intro w hSw; (try dsimp only at hSw); go_simp) <;> with_reducible rfl)
      (try simp only [Act.put, List.setIfInBounds_toArray, List.set_cons_zero, List.set_cons_succ])
      refine any_take (i := 22) (v := ?_) rfl (by kernel_rfl) (by kernel_rfl) (by kernel_rfl) (by exact fun _ _ _ h => h) (by rfl) ?_ hS ?_
      rotate_left
      · ((intro w hSw; (try dsimp only at hSw); go_simp) <;> with_reducible rfl)
      (try simp only [Act.put, List.setIfInBounds_toArray, List.set_cons_zero, List.set_cons_succ])
      refine wpAnyH_done (by kernel_rfl) ?_ _
      go_wp2
      go_ret
      exact ⟨by rw [ag_ft HA.out.1 HA.out.2 HH.out.1 HH.out.2]; rfl, (B2 : Below w.heap.size w _)⟩
  | true =>
    cases h2 : m2.has (i : Int) with
    | false =>
      have HH : Hid (m1.has (i : Int) = true ∧ m2.has (i : Int) = false) := ⟨h1, h2⟩
      go_wp2_with fail
      refine wp_region_held_drew (S := fun W => Below w.heap.size w W) (by kernel_rfl) Sd (fun hS => ?_)
      have B0 : Below w.heap.size w w.drew := Sd
      refine any_take (i := 0) (v := ?_) rfl (by kernel_rfl) (by kernel_rfl) (by kernel_rfl) (by exact fun _ _ _ h => h) (by rfl) ?_ hS ?_
      rotate_left
      · ((intro w hSw; (try dsimp only at hSw); go_simp) <;> with_reducible rfl)
      (try simp only [Act.put, List.setIfInBounds_toArray, List.set_cons_zero, List.set_cons_succ])
      refine any_take (i := 1) (v := ?_) rfl (by kernel_rfl) (by kernel_rfl) (by kernel_rfl) (by exact fun _ _ _ h => h) (by rfl) ?_ hS ?_
      rotate_left
      · ((intro w hSw; (try dsimp only at hSw); go_simp) <;> with_reducible rfl)
      (try simp only [Act.put, List.setIfInBounds_toArray, List.set_cons_zero, List.set_cons_succ])
      refine any_take (i := 3) (v := ?_) rfl (by kernel_rfl) (by kernel_rfl) (by kernel_rfl) (by exact fun _ _ _ h => h) (by rfl) ?_ hS ?_
      rotate_left
      · ((intro w hSw; (try dsimp only at hSw); go_simp) <;> with_reducible rfl)
      (try simp only [Act.put, List.setIfInBounds_toArray, List.set_cons_zero, List.set_cons_succ])
      refine any_take (i := 4) (v := ?_) rfl (by kernel_rfl) (by kernel_rfl) (by kernel_rfl) (by exact fun _ _ _ h => h) (by rfl) ?_ hS ?_
      rotate_left
      · ((intro w hSw; (try dsimp only at hSw); go_simp) <;> with_reducible rfl)
      (try simp only [Act.put, List.setIfInBounds_toArray, List.set_cons_zero, List.set_cons_succ])
      have K1 : Hid _ := imHas_any g1 b1 m1 (i : Int) _ (HP.out.1.later B0) HP.out.2.2.1 HI.out
      refine any_one (i := 2) rfl (by kernel_rfl) (fun K hK => ?_)
      go_simp
      refine (Calls.mono (K1.out)) ?_
      rintro e x1 ⟨rfl, hbR⟩
      have B1 : Below w.heap.size w x1 := below_then B0 hbR
      clear K1
      go_wp2_with fail
      refine hK.out _ _ (by first | exact B1 | exact hbR | exact below_then hS hbR) (any_weaken (S' := fun W => Below x1.heap.size x1 W) (fun W hW => by first | exact below_then B1 hW | exact below_then hbR hW | exact below_then (below_then hS hbR) hW) _ _ _ _ ?_)
      clear hK K hS hbR
      have hS : Below x1.heap.size x1 x1 := Below.refl _ _
      (try rw [HH.out.1])
      have K2 : Hid _ := imHas_any g2 b2 m2 (i : Int) _ (HP.out.2.1.later B1) HP.out.2.2.2 HI.out
      refine any_one (i := 5) rfl (by kernel_rfl) (fun K hK => ?_)
      go_simp
      refine (Calls.mono (K2.out)) ?_
      rintro e x2 ⟨rfl, hbR⟩
      have B2 : Below w.heap.size w x2 := below_then B1 hbR
      clear K2
      go_wp2_with fail
      refine hK.out _ _ (by first | exact B2 | exact hbR | exact below_then hS hbR) (any_weaken (S' := fun W => Below x2.heap.size x2 W) (fun W hW => by first | exact below_then B2 hW | exact below_then hbR hW | exact below_then (below_then hS hbR) hW) _ _ _ _ ?_)
      clear hK K hS hbR
      have hS : Below x2.heap.size x2 x2 := Below.refl _ _
      (try rw [HH.out.2])
      refine any_take (i := 6) (v := ?_) rfl (by kernel_rfl) (by kernel_rfl) (by kernel_rfl) (by exact fun _ _ _ h => h) (by rfl) ?_ hS ?_
      rotate_left
      · ((intro w hSw; (try dsimp only at hSw); go_simp) <;> with_reducible rfl)
      (try simp only [Act.put, List.setIfInBounds_toArray, List.set_cons_zero, List.set_cons_succ])
      refine any_take (i := 7) (v := ?_) rfl (by kernel_rfl) (by kernel_rfl) (by kernel_rfl) (by exact fun _ _ _ h => h) (by rfl) ?_ hS ?_
      rotate_left
      · ((intro w hSw; (try dsimp only at hSw); go_simp) <;> with_reducible rfl)
      (try simp only [Act.put, List.setIfInBounds_toArray, List.set_cons_zero, List.set_cons_succ])
      refine any_skip (i := 8) rfl (by kernel_rfl) (by kernel_rfl) (by kernel_rfl) (by exact fun _ _ _ h => h) (by rfl) hS ?_
      (try simp only [Act.put, List.setIfInBounds_toArray, List.set_cons_zero, List.set_cons_succ])
      refine any_skip (i := 9) rfl (by kernel_rfl) (by kernel_rfl) (by kernel_rfl) (by exact fun _ _ _ h => h) (by rfl) hS ?_
      (try simp only [Act.put, List.setIfInBounds_toArray, List.set_cons_zero, List.set_cons_succ])
      refine any_skip (i := 10) rfl (by kernel_rfl) (by kernel_rfl) (by kernel_rfl) (by exact fun _ _ _ h => h) (by rfl) hS ?_
      (try simp only [Act.put, List.setIfInBounds_toArray, List.set_cons_zero, List.set_cons_succ])
      refine any_skip (i := 11) rfl (by kernel_rfl) (by kernel_rfl) (by kernel_rfl) (by exact fun _ _ _ h => h) (by rfl) hS ?_
      (try simp only [Act.put, List.setIfInBounds_toArray, List.set_cons_zero, List.set_cons_succ])
      refine any_skip (i := 12) rfl (by kernel_rfl) (by kernel_rfl) (by kernel_rfl) (by exact fun _ _ _ h => h) (by rfl) hS ?_
      (try simp only [Act.put, List.setIfInBounds_toArray, List.set_cons_zero, List.set_cons_succ])
      refine any_skip (i := 13) rfl (by kernel_rfl) (by kernel_rfl) (by kernel_rfl) (by exact fun _ _ _ h => h) (by rfl) hS ?_
      (try simp only [Act.put, List.setIfInBounds_toArray, List.set_cons_zero, List.set_cons_succ])
      refine any_skip (i := 14) rfl (by kernel_rfl) (by kernel_rfl) (by kernel_rfl) (by exact fun _ _ _ h => h) (by rfl) hS ?_
      (try simp only [Act.put, List.setIfInBounds_toArray, List.set_cons_zero, List.set_cons_succ])
      refine any_skip (i := 15) rfl (by kernel_rfl) (by kernel_rfl) (by kernel_rfl) (by exact fun _ _ _ h => h) (by rfl) hS ?_
      (try simp only [Act.put, List.setIfInBounds_toArray, List.set_cons_zero, List.set_cons_succ])
      refine any_skip (i := 16) rfl (by kernel_rfl) (by kernel_rfl) (by kernel_rfl) (by exact fun _ _ _ h => h) (by rfl) hS ?_
      (try simp only [Act.put, List.setIfInBounds_toArray, List.set_cons_zero, List.set_cons_succ])
      refine any_skip (i := 17) rfl (by kernel_rfl) (by kernel_rfl) (by kernel_rfl) (by exact fun _ _ _ h => h) (by rfl) hS ?_
      (try simp only [Act.put, List.setIfInBounds_toArray, List.set_cons_zero, List.set_cons_succ])
      refine any_skip (i := 18) rfl (by kernel_rfl) (by kernel_rfl) (by kernel_rfl) (by exact fun _ _ _ h => h) (by rfl) hS ?_
      (try simp only [Act.put, List.setIfInBounds_toArray, List.set_cons_zero, List.set_cons_succ])
      refine any_skip (i := 19) rfl (by kernel_rfl) (by kernel_rfl) (by kernel_rfl) (by exact fun _ _ _ h => h) (by rfl) hS ?_
      (try simp only [Act.put, List.setIfInBounds_toArray, List.set_cons_zero, List.set_cons_succ])
      refine any_skip (i := 20) rfl (by kernel_rfl) (by kernel_rfl) (by kernel_rfl) (by exact fun _ _ _ h => h) (by rfl) hS ?_
      (try simp only [Act.put, List.setIfInBounds_toArray, List.set_cons_zero, List.set_cons_succ])
      refine any_take (i := 21) (v := ?_) rfl (by kernel_rfl) (by kernel_rfl) (by kernel_rfl) (by exact fun _ _ _ h => h) (by rfl) ?_ hS ?_
      rotate_left
      · ((intro w hSw; (try dsimp only at hSw); go_simp) <;> with_reducible rfl)
      (try simp only [Act.put, List.setIfInBounds_toArray, List.set_cons_zero, List.set_cons_succ])
      refine any_take (i := 22) (v := ?_) rfl (by kernel_rfl) (by kernel_rfl) (by kernel_rfl) (by exact fun _ _ _ h => h) (by rfl) ?_ hS ?_
      rotate_left
      · ((intro w hSw; (try dsimp only at hSw); go_simp) <;> with_reducible rfl)
      (try simp only [Act.put, List.setIfInBounds_toArray, List.set_cons_zero, List.set_cons_succ])
      refine wpAnyH_done (by kernel_rfl) ?_ _
      go_wp2
      go_ret
      exact ⟨by rw [ag_tf HA.out.1 HA.out.2 HH.out.1 HH.out.2]; rfl, (B2 : Below w.heap.size w _)⟩
    | true =>
      have HH : Hid (m1.has (i : Int) = true ∧ m2.has (i : Int) = true) := ⟨h1, h2⟩
      go_wp2_with fail
      refine wp_region_held_drew (S := fun W => Below w.heap.size w W) (by kernel_rfl) Sd (fun hS => ?_)
      have B0 : Below w.heap.size w w.drew := Sd
      refine any_take (i := 0) (v := ?_) rfl (by kernel_rfl) (by kernel_rfl) (by kernel_rfl) (by exact fun _ _ _ h => h) (by rfl) ?_ hS ?_
      rotate_left
      · ((intro w hSw; (try dsimp only at hSw); go_simp) <;> with_reducible rfl)
      (try simp only [Act.put, List.setIfInBounds_toArray, List.set_cons_zero, List.set_cons_succ])
      refine any_take (i := 1) (v := ?_) rfl (by kernel_rfl) (by kernel_rfl) (by kernel_rfl) (by exact fun _ _ _ h => h) (by rfl) ?_ hS ?_
      rotate_left
      · ((intro w hSw; (try dsimp only at hSw); go_simp) <;> with_reducible rfl)
      (try simp only [Act.put, List.setIfInBounds_toArray, List.set_cons_zero, List.set_cons_succ])
      refine any_take (i := 3) (v := ?_) rfl (by kernel_rfl) (by kernel_rfl) (by kernel_rfl) (by exact fun _ _ _ h => h) (by rfl) ?_ hS ?_
      rotate_left
      · ((intro w hSw; (try dsimp only at hSw); go_simp) <;> with_reducible rfl)
      (try simp only [Act.put, List.setIfInBounds_toArray, List.set_cons_zero, List.set_cons_succ])
      refine any_take (i := 4) (v := ?_) rfl (by kernel_rfl) (by kernel_rfl) (by kernel_rfl) (by exact fun _ _ _ h => h) (by rfl) ?_ hS ?_
      rotate_left
      · ((intro w hSw; (try dsimp only at hSw); go_simp) <;> with_reducible rfl)
      (try simp only [Act.put, List.setIfInBounds_toArray, List.set_cons_zero, List.set_cons_succ])
      have K1 : Hid _ := imHas_any g1 b1 m1 (i : Int) _ (HP.out.1.later B0) HP.out.2.2.1 HI.out
      refine any_one (i := 2) rfl (by kernel_rfl) (fun K hK => ?_)
      go_simp
      refine (Calls.mono (K1.out)) ?_
      rintro e x1 ⟨rfl, hbR⟩
      have B1 : Below w.heap.size w x1 := below_then B0 hbR
      clear K1
      go_wp2_with fail
      refine hK.out _ _ (by first | exact B1 | exact hbR | exact below_then hS hbR) (any_weaken (S' := fun W => Below x1.heap.size x1 W) (fun W hW => by first | exact below_then B1 hW | exact below_then hbR hW | exact below_then (below_then hS hbR) hW) _ _ _ _ ?_)
      clear hK K hS hbR
      have hS : Below x1.heap.size x1 x1 := Below.refl _ _
      (try rw [HH.out.1])
      have K2 : Hid _ := imHas_any g2 b2 m2 (i : Int) _ (HP.out.2.1.later B1) HP.out.2.2.2 HI.out
      refine any_one (i := 5) rfl (by kernel_rfl) (fun K hK => ?_)
      go_simp
      refine (Calls.mono (K2.out)) ?_
      rintro e x2 ⟨rfl, hbR⟩
      have B2 : Below w.heap.size w x2 := below_then B1 hbR
      clear K2
      go_wp2_with fail
      refine hK.out _ _ (by first | exact B2 | exact hbR | exact below_then hS hbR) (any_weaken (S' := fun W => Below x2.heap.size x2 W) (fun W hW => by first | exact below_then B2 hW | exact below_then hbR hW | exact below_then (below_then hS hbR) hW) _ _ _ _ ?_)
      clear hK K hS hbR
      have hS : Below x2.heap.size x2 x2 := Below.refl _ _
      (try rw [HH.out.2])
      refine any_take (i := 6) (v := ?_) rfl (by kernel_rfl) (by kernel_rfl) (by kernel_rfl) (by exact fun _ _ _ h => h) (by rfl) ?_ hS ?_
      rotate_left
      · ((intro w hSw; (try dsimp only at hSw); go_simp) <;> with_reducible rfl)
      (try simp only [Act.put, List.setIfInBounds_toArray, List.set_cons_zero, List.set_cons_succ])
      refine any_take (i := 7) (v := ?_) rfl (by kernel_rfl) (by kernel_rfl) (by kernel_rfl) (by exact fun _ _ _ h => h) (by rfl) ?_ hS ?_
      rotate_left
      · ((intro w hSw; (try dsimp only at hSw); go_simp) <;> with_reducible rfl)
      (try simp only [Act.put, List.setIfInBounds_toArray, List.set_cons_zero, List.set_cons_succ])
      refine any_take (i := 8) (v := ?_) rfl (by kernel_rfl) (by kernel_rfl) (by kernel_rfl) (by exact fun _ _ _ h => h) (by rfl) ?_ hS ?_
      rotate_left
      · ((intro w hSw; (try dsimp only at hSw); go_simp) <;> with_reducible rfl)
      (try simp only [Act.put, List.setIfInBounds_toArray, List.set_cons_zero, List.set_cons_succ])
      refine any_take (i := 9) (v := ?_) rfl (by kernel_rfl) (by kernel_rfl) (by kernel_rfl) (by exact fun _ _ _ h => h) (by rfl) ?_ hS ?_
      rotate_left
      · ((intro w hSw; (try dsimp only at hSw); go_simp) <;> with_reducible rfl)
      (try simp only [Act.put, List.setIfInBounds_toArray, List.set_cons_zero, List.set_cons_succ])
      refine any_take (i := 10) (v := ?_) rfl (by kernel_rfl) (by kernel_rfl) (by kernel_rfl) (by exact fun _ _ _ h => h) (by rfl) ?_ hS ?_
      rotate_left
      · ((intro w hSw; (try dsimp only at hSw); go_simp) <;> with_reducible rfl)
      (try simp only [Act.put, List.setIfInBounds_toArray, List.set_cons_zero, List.set_cons_succ])
      refine any_take (i := 11) (v := .map (some b1)) rfl (by kernel_rfl) (by kernel_rfl) (by kernel_rfl) (by exact fun _ _ _ h => h) (by rfl) ?_ hS ?_
      · intro W hSW; have c := (im_cells (HP.out.1.later (below_then B2 hSW))).2; go_simp
      (try simp only [Act.put, List.setIfInBounds_toArray, List.set_cons_zero, List.set_cons_succ])
      refine any_take (i := 12) (v := ?_) rfl (by kernel_rfl) (by kernel_rfl) (by kernel_rfl) (by exact fun _ _ _ h => h) (by rfl) ?_ hS ?_
      rotate_left
      · ((intro w hSw; (try dsimp only at hSw); go_simp) <;> with_reducible rfl)
      (try simp only [Act.put, List.setIfInBounds_toArray, List.set_cons_zero, List.set_cons_succ])
      refine any_take (i := 13) (v := arrV (m1.get (i : Int))) rfl (by kernel_rfl) (by kernel_rfl) (by kernel_rfl) (by exact fun _ _ _ h => h) (by rfl) ?_ hS ?_
      · intro W hSW; have c := im_look (HP.out.1.later (below_then B2 hSW)) HI.out; go_simp
      (try simp only [Act.put, List.setIfInBounds_toArray, List.set_cons_zero, List.set_cons_succ])
      refine any_take (i := 14) (v := ?_) rfl (by kernel_rfl) (by kernel_rfl) (by kernel_rfl) (by exact fun _ _ _ h => h) (by rfl) ?_ hS ?_
      rotate_left
      · ((intro w hSw; (try dsimp only at hSw); go_simp) <;> with_reducible rfl)
      (try simp only [Act.put, List.setIfInBounds_toArray, List.set_cons_zero, List.set_cons_succ])
      refine any_take (i := 15) (v := ?_) rfl (by kernel_rfl) (by kernel_rfl) (by kernel_rfl) (by exact fun _ _ _ h => h) (by rfl) ?_ hS ?_
      rotate_left
      · ((intro w hSw; (try dsimp only at hSw); go_simp) <;> with_reducible rfl)
      (try simp only [Act.put, List.setIfInBounds_toArray, List.set_cons_zero, List.set_cons_succ])
      refine any_take (i := 16) (v := ?_) rfl (by kernel_rfl) (by kernel_rfl) (by kernel_rfl) (by exact fun _ _ _ h => h) (by rfl) ?_ hS ?_
      rotate_left
      · ((intro w hSw; (try dsimp only at hSw); go_simp) <;> with_reducible rfl)
      (try simp only [Act.put, List.setIfInBounds_toArray, List.set_cons_zero, List.set_cons_succ])
      refine any_take (i := 17) (v := .map (some b2)) rfl (by kernel_rfl) (by kernel_rfl) (by kernel_rfl) (by exact fun _ _ _ h => h) (by rfl) ?_ hS ?_
      · intro W hSW; have c := (im_cells (HP.out.2.1.later (below_then B2 hSW))).2; go_simp
      (try simp only [Act.put, List.setIfInBounds_toArray, List.set_cons_zero, List.set_cons_succ])
      refine any_take (i := 18) (v := ?_) rfl (by kernel_rfl) (by kernel_rfl) (by kernel_rfl) (by exact fun _ _ _ h => h) (by rfl) ?_ hS ?_
      rotate_left
      · ((intro w hSw; (try dsimp only at hSw); go_simp) <;> with_reducible rfl)
      (try simp only [Act.put, List.setIfInBounds_toArray, List.set_cons_zero, List.set_cons_succ])
      refine any_take (i := 19) (v := arrV (m2.get (i : Int))) rfl (by kernel_rfl) (by kernel_rfl) (by kernel_rfl) (by exact fun _ _ _ h => h) (by rfl) ?_ hS ?_
      · intro W hSW; have c := im_look (HP.out.2.1.later (below_then B2 hSW)) HI.out; go_simp
      (try simp only [Act.put, List.setIfInBounds_toArray, List.set_cons_zero, List.set_cons_succ])
      refine any_take (i := 20) (v := .bool (decide (m1.get (i : Int) = m2.get (i : Int)))) rfl (by kernel_rfl) (by kernel_rfl) (by kernel_rfl) (by exact fun _ _ _ h => h) (by rfl) ?_ hS ?_
      · intro W hSW; have c := eql_blk (m1.get (i : Int)) (m2.get (i : Int)) HG.out.1 HG.out.2 W; have c2 := fun x y => guard_eql (m1.get (i : Int)) (m2.get (i : Int)) x y W; go_simp
      (try simp only [Act.put, List.setIfInBounds_toArray, List.set_cons_zero, List.set_cons_succ])
      refine any_take (i := 21) (v := ?_) rfl (by kernel_rfl) (by kernel_rfl) (by kernel_rfl) (by exact fun _ _ _ h => h) (by rfl) ?_ hS ?_
      rotate_left
      · ((intro w hSw; (try dsimp only at hSw); go_simp) <;> with_reducible rfl)
      (try simp only [Act.put, List.setIfInBounds_toArray, List.set_cons_zero, List.set_cons_succ])
      refine any_take (i := 22) (v := ?_) rfl (by kernel_rfl) (by kernel_rfl) (by kernel_rfl) (by exact fun _ _ _ h => h) (by rfl) ?_ hS ?_
      rotate_left
      · ((intro w hSw; (try dsimp only at hSw); go_simp) <;> with_reducible rfl)
      (try simp only [Act.put, List.setIfInBounds_toArray, List.set_cons_zero, List.set_cons_succ])
      refine wpAnyH_done (by kernel_rfl) ?_ _
      go_wp2
      go_ret
      exact ⟨by rw [ag_tt HA.out.1 HA.out.2 HH.out.1 HH.out.2]; rfl, (B2 : Below w.heap.size w _)⟩
def CgR (l : List (BitVec 8)) (i : Nat) (w : World) (e : Ending) (w' : World) : Prop := ∃ v, e = .returned (.agg #[.int .i64 (i : Int), v]) ∧ Own w' w.heap.size v l ∧ Below w.heap.size w w'
theorem load_chg {w : World} {k : Nat} {x y : Value} (hB : Blk w k 57 [x, y]) : (loadVar 57 ⟨k, 0, none⟩).run Try.prog w = .ok (.agg #[x, y]) w := by
  have hagg : (isAgg 57).run Try.prog w = .ok true w := by kernel_rfl
  have c0 := hB.cell (by simp [maxLen]) 0 (by simp)
  have c1 := hB.cell (by simp [maxLen]) 1 (by simp)
  simp only [List.getElem?_cons_zero, List.getElem?_cons_succ] at c0 c1
  have h2 : (loadCells ⟨k, 0, none⟩ 2).run Try.prog w = .ok #[x, y] w := run_loadCells_list (P := Try.prog) w ⟨k, 0, none⟩ [x, y] (fun j v hj => by
    have hadd : (⟨k, 0, none⟩ : Addr).add j = ⟨k, 0 + j, none⟩ := by unfold Addr.add; split <;> simp_all
    rw [hadd, Nat.zero_add]
    match j with
    | 0 => rw [c0]; exact hj
    | 1 => rw [c1]; exact hj
    | j + 2 => cases hj)
  obtain ⟨i0, hi, hz0, hz1, hz2⟩ := info_parts info_ch
  simp [loadVar, Sem.run_bind, hagg, sizeOf, typeInfo, hi, hz1, h2]
theorem res_chg {fn : Func} {tmps : Array Value} {k : Nat} {x y : Value} {w : World} (h1 : tmps.getD 4 undef = .pointer (some ⟨k, 0, none⟩)) (hB : Blk w k 57 [x, y]) (hf : fn.results = #[.cell 4 57]) : (results fn tmps).run Try.prog w = .ok (.agg #[x, y]) w := by
  have k1 : tmps[4]?.getD undef = .pointer (some ⟨k, 0, none⟩) := by simpa using h1
  simp [results, hf, k1, load_chg hB, asAddr, Sem.run_bind]
set_option maxHeartbeats 16000000 in
theorem imChangeTo_any (g b : Nat) (m : Im) (i : Nat) (w : World) (h : (im g b m).Ok w) (hw : m.Wf) (hi : i < 256) :
    Calls Try.prog 59 #[.pointer (some ⟨g, 0, none⟩), .int .i64 (i : Int)] w fun e w' => CgR (m.by i) i w e w' := by
  have HP : Hid _ := And.intro h hw
  have HI : Hid (I64 (i : Int)) := by unfold Hid I64; omega
  have bA : Below w.heap.size w (w.alloc (.cells #[.int .i64 0, .slice none 0 0] 57)) := (Below.refl _ _).alloc (Nat.le_refl _) _
  have BA : Blk (w.alloc (.cells #[.int .i64 0, .slice none 0 0] 57)) w.heap.size 57 [.int .i64 0, .slice none 0 0] := Blk.new' w _ _
  have zA : (w.alloc (.cells #[.int .i64 0, .slice none 0 0] 57)).heap.size = w.heap.size + 1 := by simp
  have hokA := h.later bA
  obtain ⟨-, c1⟩ := im_cells hokA
  have hlk := im_look_ok hokA HI.out
  have hl := hw.get_len (i : Int)
  have HA : Hid _ := And.intro BA (And.intro bA (And.intro zA (has_by m i hw)))
  have hhl : Hid _ := hl
  clear h hw hokA bA BA zA hl
  cases hh : m.has (i : Int) with
  | false =>
    rw [hh] at hlk
    have HH : Hid _ := hh
    clear hh
    have b1 : Below w.heap.size w (w.alloc (.cells #[.int .i64 (i : Int), .slice none 0 0] 57)) := (Below.refl _ _).alloc (Nat.le_refl _) _
    have b2 : Below (w.alloc (.cells #[.int .i64 (i : Int), .slice none 0 0] 57)).heap.size (w.alloc (.cells #[.int .i64 (i : Int), .slice none 0 0] 57)) ((w.alloc (.cells #[.int .i64 (i : Int), .slice none 0 0] 57)).alloc (.cells (vals (m.get (i : Int))).toArray 77)) := (Below.refl _ _).alloc (Nat.le_refl _) _
    have B2 : Blk ((w.alloc (.cells #[.int .i64 (i : Int), .slice none 0 0] 57)).alloc (.cells (vals (m.get (i : Int))).toArray 77)) w.heap.size 57 [.int .i64 (i : Int), .slice none 0 0] := (Blk.new' w 57 [.int .i64 (i : Int), .slice none 0 0]).laterB b2
    have F : Hid _ := And.intro (below_then b1 b2) B2
    clear b1 b2 B2
    go_enter Try.func59, Try.ntmps59
    go_wp2_with (first | (refine wpList_value rfl (exec_alloc rfl (alloc_blk _)) ?_) | (refine wpList_skip rfl (exec_store rfl rfl rfl (store_blk _ _ hhl.out)) ?_))
    refine bodyPost_ret (v := .agg #[.int .i64 (i : Int), .slice none 0 0]) (res_chg rfl F.out.2 rfl) rfl ?_
    rw [(HA.out.2.2.2.1 HH.out).1]
    exact ⟨_, rfl, Own.nil _ _, F.out.1⟩
  | true =>
    rw [hh] at hlk
    have HH : Hid _ := hh
    clear hh
    have R2 := row_new (w.alloc (.cells #[.int .i64 0, .slice none 0 0] 57)) (m.get (i : Int)) 77
    have b2 : Below (w.alloc (.cells #[.int .i64 0, .slice none 0 0] 57)).heap.size (w.alloc (.cells #[.int .i64 0, .slice none 0 0] 57)) ((w.alloc (.cells #[.int .i64 0, .slice none 0 0] 57)).alloc (.cells (vals (m.get (i : Int))).toArray 77)) := (Below.refl _ _).alloc (Nat.le_refl _) _
    rw [HA.out.2.2.1] at R2
    rw [(HA.out.2.2.2.2 HH.out).2] at R2
    have HR : Hid _ := And.intro R2 (And.intro b2 (HA.out.2.2.2.2 HH.out))
    clear R2 b2
    go_enter Try.func59, Try.ntmps59
    go_wp2_with (first | (refine wpList_value rfl (exec_alloc rfl (alloc_blk _)) ?_) | (refine wpList_skip rfl (exec_store rfl rfl rfl (store_blk _ _ hhl.out)) ?_))
    have HR2 : Hid _ := And.intro HR.out.1 (And.intro (HA.out.1.laterB HR.out.2.1) (below_then HA.out.2.1 HR.out.2.1))
    rw [HR.out.2.2.2] at *
    generalize hX : ((w.alloc (.cells #[.int .i64 0, .slice none 0 0] 57)).alloc (.cells (vals (m.by i)).toArray 77)) = X at *
    refine (Calls.mono (clone_any (some ⟨w.heap.size + 1, 0, none⟩) 64 64 (m.by i) X HR.out.2.2.1 (Nat.le_refl _) HR2.out.1 (fun h => by cases h) (by omega))) ?_
    rintro e w3 ⟨v, rfl, ho, b3⟩
    obtain ⟨va, vc, rfl, -⟩ := ho.open
    have B3 := HR2.out.2.1.laterB b3
    have bb3 := below_then HR2.out.2.2 b3
    have s0 := B3.cell (by simp [maxLen]) 0 (by simp)
    have s1 := B3.cell (by simp [maxLen]) 1 (by simp)
    have f0 := B3.frozen (by simp [maxLen]) 0
    have f1 := B3.frozen (by simp [maxLen]) 1
    simp only [List.getElem?_cons_zero, List.getElem?_cons_succ] at s0 s1
    have hlo := World.ownsRow.lt ho
    have hzX : w.heap.size ≤ X.heap.size := HR2.out.2.2.size
    have hX1 : w.heap.size < X.heap.size := HR2.out.2.1.lt
    have B4 := (B3.set 0 (.int .i64 (i : Int))).set 1 (.slice va (m.by i).length vc)
    simp only [List.set_cons_zero, List.set_cons_succ] at B4
    have g4 := grown_set w3 w.heap.size 0 (.int .i64 (i : Int))
    have g5 := grown_set (w3.setCell ⟨w.heap.size, 0, none⟩ (.int .i64 (i : Int))) w.heap.size 1 (.slice va (m.by i).length vc)
    have hne : (Value.slice va (m.by i).length vc).ownBlock ≠ some w.heap.size := fun e => by have := (hlo _ e).1; omega
    have ho5 := own_kept (own_kept ho g4 (fun q hq e => hne (by rw [hq, ← Option.some.inj e]))) g5 (fun q hq e => hne (by rw [hq, ← Option.some.inj e]))
    have bb5 := (bb3.grown g4 bb3.size (fun k e => by rw [← Option.some.inj e]; exact Nat.le_refl _)).grown g5 (Nat.le_trans bb3.size g4.size) (fun k e => by rw [← Option.some.inj e]; exact Nat.le_refl _)
    have F : Hid _ := And.intro B4 (And.intro (own_base ho5 hzX) bb5)
    clear B3 B4 ho ho5 bb5 g4 g5 bb3 b3 hlo hne HR HR2 hX1 hzX HA c1 hlk
    go_wp2
    refine bodyPost_ret (v := .agg #[.int .i64 (i : Int), .slice va (m.by i).length vc]) (res_chg rfl F.out.1 rfl) rfl ?_
    exact ⟨_, rfl, F.out.2.1, F.out.2.2⟩
end Go.Proofs.Ytmkacgdbmojomaa

/- extent: Diff. -/
namespace Go.Proofs.Ytmkacgdbmojomaa
open Go.RowKit
set_option linter.unusedVariables false
set_option linter.unusedSimpArgs false
set_option maxRecDepth 8000

set_option maxHeartbeats 1000000 in
theorem imDiff_no (g : Nat) (w : World) : Calls Try.prog 23 #[.pointer (some ⟨g, 0, none⟩), .pointer none] w fun e w' => e = .returned (.tuple #[.slice none 0 0, .int .i64 2]) ∧ w = w' := by
  go_enter Try.func23, Try.ntmps23
  go_wp2
  go_ret2
  exact ⟨rfl, rfl⟩
set_option maxHeartbeats 4000000 in
theorem imDiff_size (g1 b1 : Nat) (m1 : Im) (g2 b2 : Nat) (m2 : Im) (w : World) (h1 : (im g1 b1 m1).Ok w) (h2 : (im g2 b2 m2).Ok w) (hn : m1.n ≠ m2.n) : Calls Try.prog 23 #[.pointer (some ⟨g1, 0, none⟩), .pointer (some ⟨g2, 0, none⟩)] w fun e w' => e = .returned (.tuple #[.slice none 0 0, .int .i64 1]) ∧ Below w.heap.size w w' := by
  obtain ⟨c1, -⟩ := im_cells h1
  obtain ⟨c2, -⟩ := im_cells h2
  have hn1 : ¬ ((m1.n : Int) = (m2.n : Int)) := by omega
  have hn2 : ¬ ((m2.n : Int) = (m1.n : Int)) := by omega
  clear h1 h2
  go_enter Try.func23, Try.ntmps23
  go_wp2_with fail
  go_quiet (fail)
  go_wp2
  go_ret2
  exact ⟨rfl, below_drewN _ _ _⟩
set_option maxHeartbeats 16000000 in
theorem imDiff_any (g1 b1 : Nat) (m1 : Im) (g2 b2 : Nat) (m2 : Im) (w : World) (h1 : (im g1 b1 m1).Ok w) (h2 : (im g2 b2 m2).Ok w) (hw1 : m1.Wf) (hw2 : m2.Wf) (hn : m2.n = m1.n) :
    Calls Try.prog 23 #[.pointer (some ⟨g1, 0, none⟩), .pointer (some ⟨g2, 0, none⟩)] w fun e w' => DfR (dfM m1 m2 m1.n) w e w' := by
  obtain ⟨c1, -⟩ := im_cells h1
  obtain ⟨c2, -⟩ := im_cells h2
  rw [hn] at c2
  have hm := hw1.most
  have HP : Hid _ := And.intro h1 (And.intro h2 (And.intro hw1 (And.intro hw2 hn)))
  clear h1 h2 hw1 hw2
  generalize hN : m1.n = N at *
  go_enter Try.func23, Try.ntmps23
  go_wp2_with fail
  go_quiet (fail)
  go_wp2_with fail
  go_loopw [6, 27] (fun ov iv wr => ∃ (k : Nat) (T : List Tc) (v : Value), v = ov ∧ k ≤ N ∧ iv = .int .i64 k ∧ T.map (·.1) = dfM m1 m2 k ∧ CsOwn wr w.heap.size v T ∧ Below w.heap.size w wr) (fun _ iv _ => N - (intOf iv).toNat)
  case atStart => exact ⟨0, [], _, rfl, Nat.zero_le _, rfl, rfl, CsOwn.nil _ _, below_drewN _ _ _⟩
  case round =>
    obtain ⟨k, T, v, rfl, hk, rfl, hT, hown, hb⟩ := hrel
    by_cases hlt : k < N
    · have q1 : (k : Int) < (N : Int) := by omega
      have HX : Hid _ := And.intro hT (And.intro hown hb)
      clear hT hown hb
      have hag := imAgrees_any g1 b1 m1 g2 b2 m2 k wr (HP.out.1.later HX.out.2.2) (HP.out.2.1.later HX.out.2.2) HP.out.2.2.1 HP.out.2.2.2.1 (by omega)
      have HAg : Hid _ := hag
      clear hag
      go_wp2_with fail
      refine (Calls.mono HAg.out) ?_
      rintro e x1 ⟨rfl, b1'⟩
      clear HAg
      by_cases heq : m1.by k = m2.by k
      · have hd : decide (m1.by k = m2.by k) = true := decide_eq_true heq
        rw [hd]
        have F : Hid _ := And.intro (show T.map (·.1) = dfM m1 m2 (k + 1) by rw [dfM, if_pos heq, List.append_nil]; exact HX.out.1) (And.intro (HX.out.2.1.later b1') (below_then HX.out.2.2 b1'))
        clear heq hd b1' HX
        go_wp2
        go_roundw
        case rel => exact ⟨k + 1, T, v, rfl, by omega, by go_num, F.out.1, F.out.2.1, F.out.2.2⟩
        case measure => simp [intOf]; omega
      · have hd : decide (m1.by k = m2.by k) = false := decide_eq_false heq
        rw [hd]
        have hct := imChangeTo_any g2 b2 m2 k x1 ((HP.out.2.1.later HX.out.2.2).later b1') HP.out.2.2.2.1 (by omega)
        have HC : Hid _ := hct
        have HStep : Hid (dfM m1 m2 (k + 1) = dfM m1 m2 k ++ [((k : Int), m2.by k)]) := by unfold Hid; rw [dfM, if_neg heq]
        have HY : Hid _ := And.intro (HX.out.2.1.later b1') (below_then HX.out.2.2 b1')
        clear hct hd heq b1'
        go_wp2_with fail
        refine (Calls.mono HC.out) ?_
        rintro e x2 ⟨v2, rfl, ho2, b2'⟩
        clear HC
        have hlo2 := World.ownsRow.lt ho2
        have hlv := World.ownsRow.lt HY.out.1.own
        have hwr := HY.out.2.size
        have hlp := fun (p' : Tc) (hp : p' ∈ T) => World.ownsRow.lt (HY.out.1.each p' hp)
        obtain ⟨xa, xc, e2, -⟩ := ho2.open
        subst e2
        have bA : Below x2.heap.size x2 (x2.alloc (.cells #[.int .i64 (k : Int), .slice xa (m2.by k).length xc] 57)) := (Below.refl _ _).alloc (Nat.le_refl _) _
        have BA : Blk (x2.alloc (.cells #[.int .i64 (k : Int), .slice xa (m2.by k).length xc] 57)) x2.heap.size 57 [.int .i64 (k : Int), .slice xa (m2.by k).length xc] := Blk.new' x2 _ _
        have bbA := below_then b2' bA
        have hO : Own (x2.alloc (.cells #[.int .i64 (k : Int), .slice xa (m2.by k).length xc] 57)) w.heap.size (.slice xa (m2.by k).length xc) (m2.by k) := (own_base ho2 hwr).later bA
        have hfar : ∀ q, (Value.slice xa (m2.by k).length xc).ownBlock = some q → v.ownBlock ≠ some q ∧ ∀ p' ∈ T, p'.2.ownBlock ≠ some q := fun q hq => ⟨fun e => by have := (hlv q e).2; have := (hlo2 q hq).1; omega, fun p' hp e => by have := (hlp p' hp q e).2; have := (hlo2 q hq).1; omega⟩
        have hTl : T.length ≤ k := by have h0 := congrArg List.length HX.out.1; rw [List.length_map] at h0; have := dfM_len m1 m2 k; omega
        have HA : Hid _ := And.intro (HY.out.1.later bbA) (And.intro BA (And.intro hO (And.intro hfar (And.intro (Nat.le_trans hwr bbA.size) (And.intro hTl (below_then HY.out.2 bbA))))))
        have HL3 : Hid _ := (fun q hq => (hlv q hq).1)
        clear bA BA bbA hO hfar hTl hlo2 hlv hlp b2' ho2 hwr
        go_wp2_with (at_builtin; refine wpList_append_ch _ rfl _ _ rfl w.heap.size v T rfl HA.out.1 x2.heap.size (((k : Int), m2.by k), Value.slice xa (m2.by k).length xc) (by first | rfl | simp) HA.out.2.1 HA.out.2.2.1 HA.out.2.2.2.1 (by have := HA.out.2.2.2.2.2.1; omega) HA.out.2.2.2.2.1 ?_)
        intro v' w3 hown3 hg3
        have F : Hid _ := And.intro (show (T ++ [(((k : Int), m2.by k), Value.slice xa (m2.by k).length xc)]).map (·.1) = dfM m1 m2 (k + 1) by rw [HStep.out, List.map_append, HX.out.1]; rfl) (And.intro hown3 (HA.out.2.2.2.2.2.2.grown hg3 HA.out.2.2.2.2.2.2.size HL3.out))
        clear hown3 hg3 HA HL3
        go_wp2
        go_roundw
        case rel => exact ⟨k + 1, T ++ [(((k : Int), m2.by k), Value.slice xa (m2.by k).length xc)], v', rfl, by omega, by go_num, F.out.1, F.out.2.1, F.out.2.2⟩
        case measure => simp [intOf]; omega
    · obtain rfl : k = N := by omega
      have q1 : ¬ ((k : Int) < (k : Int)) := by omega
      have F : Hid _ := And.intro hT (And.intro hown hb)
      clear hT hown hb hk hlt
      go_wp2
      refine bodyPost_ret (v := .tuple #[v, .int .i64 0]) (by first | rfl | simp [results, Try.results23, go_sem]) rfl ?_
      exact ⟨v, T, rfl, F.out.1, F.out.2.1, F.out.2.2⟩
end Go.Proofs.Ytmkacgdbmojomaa

/- extent, the document's: Has, Used, Read. -/
namespace Go.Proofs.Ytmkacgdbmojomaa
open Go.RowKit
set_option linter.unusedVariables false
set_option linter.unusedSimpArgs false
set_option maxRecDepth 8000

theorem has_no {m : Im} (hw : m.Wf) {i : Int} (h : i < 0 ∨ (m.n : Int) ≤ i) : m.has i = false := by
  unfold Im.has
  by_cases h0 : 0 ≤ i
  · rw [if_pos h0]
    cases hf : m.f i.toNat with
    | none => rfl
    | some l => have := (hw.each _ l hf).1; omega
  · rw [if_neg h0]
set_option maxHeartbeats 1000000 in
theorem riHas_any (r lb : Nat) (V : List Nat) (m : Im) (i : Int) (w : World) (h : (ri r lb V m).Ok w) (hw : m.Wf) (hi : I64 i) : Calls Try.prog 48 #[.pointer (some ⟨r, 0, none⟩), .int .i64 i] w fun e w' => e = .returned (.bool (m.has i)) ∧ w = w' := by
  have c1 := ri_head h
  have hm := hw.most
  by_cases h0 : i < 0
  · rw [has_no hw (.inl h0)]
    clear h hw c1
    go_enter Try.func48, Try.ntmps48
    go_wp2
    go_ret
    exact ⟨rfl, rfl⟩
  by_cases h1 : (m.n : Int) ≤ i
  · rw [has_no hw (.inr h1)]
    have q1 : 0 ≤ i := by omega
    clear h hw
    go_enter Try.func48, Try.ntmps48
    go_wp2
    go_ret
    exact ⟨rfl, rfl⟩
  obtain ⟨k, rfl⟩ : ∃ k : Nat, i = k := ⟨i.toNat, by omega⟩
  have q1 : (0 : Int) ≤ (k : Int) := by omega
  have q2 : (k : Int) < (m.n : Int) := by omega
  obtain ⟨a, cap, c2, hle, -, -⟩ := ri_cell h hm (i := k) (by omega)
  have hb := has_by m k hw
  cases hh : m.has (k : Int) with
  | false =>
    rw [(hb.1 hh).1] at c2
    clear h hw hb hle h0 h1
    go_enter Try.func48, Try.ntmps48
    go_wp2
    go_ret
    exact ⟨rfl, rfl⟩
  | true =>
    rw [(hb.2 hh).1] at c2
    clear h hw hb hle h0 h1
    go_enter Try.func48, Try.ntmps48
    go_wp2
    go_ret
    exact ⟨rfl, rfl⟩
set_option maxHeartbeats 2000000 in
theorem riUsed_any (r lb : Nat) (V : List Nat) (m : Im) (w : World) (h : (ri r lb V m).Ok w) (hw : m.Wf) : Calls Try.prog 47 #[.pointer (some ⟨r, 0, none⟩)] w fun e w' => e = .returned (.int .i64 m.used) ∧ w = w' := by
  have c1 := ri_head h
  have hm := hw.most
  have HP : Hid _ := And.intro h hw
  clear h hw
  go_enter Try.func47, Try.ntmps47
  go_wp2_with fail
  go_loopw [3, 4] (fun nv iv wr => ∃ k : Nat, k ≤ m.n ∧ iv = .int .i64 k ∧ nv = .int .i64 (cntH m k : Int) ∧ w = wr) (fun _ iv _ => m.n - (intOf iv).toNat)
  case atStart => exact ⟨0, Nat.zero_le _, rfl, rfl, rfl⟩
  case round =>
    obtain ⟨k, hk, rfl, rfl, rfl⟩ := hrel
    by_cases hlt : k < m.n
    · have q1 : (k : Int) < (m.n : Int) := by omega
      have hcl := cntH_le m k
      have hs := cntH_step m k
      generalize hcc : cntH m k = cc at *
      cases hh : m.has (k : Int)
      · have HH : Hid _ := hh
        have HS : Hid _ := (show cntH m (k + 1) = cc + 0 by rw [hs, hh]; rfl)
        clear hs hh hcc
        go_wp2_with fail
        refine (Calls.mono (riHas_any r lb V m (k : Int) w HP.out.1 HP.out.2 (by unfold I64; omega))) ?_
        rintro e _ ⟨rfl, rfl⟩
        rw [HH.out]
        go_wp2
        go_roundw
        case rel => exact ⟨k + 1, by omega, by go_num, by rw [HS.out]; go_num, trivial⟩
        case measure => simp [intOf]; omega
      · have HH : Hid _ := hh
        have HS : Hid _ := (show cntH m (k + 1) = cc + 1 by rw [hs, hh]; rfl)
        clear hs hh hcc
        go_wp2_with fail
        refine (Calls.mono (riHas_any r lb V m (k : Int) w HP.out.1 HP.out.2 (by unfold I64; omega))) ?_
        rintro e _ ⟨rfl, rfl⟩
        rw [HH.out]
        go_wp2
        go_roundw
        case rel => exact ⟨k + 1, by omega, by go_num, by rw [HS.out]; go_num, trivial⟩
        case measure => simp [intOf]; omega
    · obtain rfl : k = m.n := by omega
      have q1 : ¬ ((m.n : Int) < (m.n : Int)) := by omega
      have hu : cntH m m.n = m.used := has_used m
      rw [hu]
      go_wp2
      go_ret
      exact ⟨rfl, rfl⟩
def RdR (b : Bool) (l : List (BitVec 8)) (w : World) (e : Ending) (w' : World) : Prop := ∃ v, e = .returned (.tuple #[v, .int .i64 (if b then 0 else 1)]) ∧ Own w' w.heap.size v (if b then l else []) ∧ Below w.heap.size w w'
set_option maxHeartbeats 4000000 in
theorem riRead_any (r lb : Nat) (V : List Nat) (m : Im) (a k : Int) (w : World) (h : (ri r lb V m).Ok w) (hw : m.Wf) (ha : I64 a) (hk : I64 k) : Calls Try.prog 45 #[.pointer (some ⟨r, 0, none⟩), .int .i64 a, .int .i64 k] w fun e w' => RdR (spansB m.n a k) (rdN m a.toNat k.toNat) w e w' := by
  have HI : Hid _ := riIn_any r lb V m a k w h hw ha hk
  have c1 := ri_head h
  have hm := hw.most
  have HP : Hid _ := And.intro h hw
  clear h hw
  cases hs : spansB m.n a k with
  | false =>
    rw [hs] at HI
    go_enter Try.func45, Try.ntmps45
    go_wp2_with fail
    refine (Calls.mono HI.out) ?_
    rintro e _ ⟨rfl, rfl⟩
    go_wp2
    refine bodyPost_ret (v := .tuple #[.slice none 0 0, .int .i64 1]) (by first | rfl | simp [results, Try.results45, go_sem]) rfl ?_
    exact ⟨_, rfl, Own.nil _ _, Below.refl _ _⟩
  | true =>
    rw [hs] at HI
    obtain ⟨a, k, rfl, rfl, hak⟩ := spansB_yes hs
    clear hs
    rw [Int.toNat_natCast, Int.toNat_natCast]
    have hmk := make_bytes 64 64 (by omega) (by omega)
    go_enter Try.func45, Try.ntmps45
    go_wp2_with fail
    refine (Calls.mono HI.out) ?_
    rintro e _ ⟨rfl, rfl⟩
    clear HI
    go_wp2_with fail
    go_loopw [8, 9] (fun ov iv wr => ∃ (j : Nat) (v : Value), v = ov ∧ j ≤ k ∧ iv = .int .i64 ((a + j : Nat) : Int) ∧ Own wr w.heap.size v (rdN m a j) ∧ Below w.heap.size w wr) (fun _ iv _ => a + k - (intOf iv).toNat)
    case atStart => exact ⟨0, _, rfl, Nat.zero_le _, by simp, Own.nil _ _, Below.refl _ _⟩
    case round =>
      obtain ⟨j, v, rfl, hj, rfl, ho, hb⟩ := hrel
      by_cases hlt : j < k
      · have q1 : ((a + j : Nat) : Int) < (a : Int) + (k : Int) := by omega
        have q2 : ((a + j : Nat) : Int) < (m.n : Int) := by omega
        obtain ⟨x, cap, c2, hle, hnl, hrow⟩ := ri_cell HP.out.1 hm (i := a + j) (by omega)
        have z1 := cell_later hb c1
        have z2 := cell_later hb c2
        have hrow2 := hrow.later hb
        have hby := has_by m (a + j) HP.out.2
        have HX : Hid _ := And.intro ho (And.intro hb (And.intro (show j ≤ 256 by omega) (And.intro (HP.out.2.get_len ((a + j : Nat) : Int)) (rdN_len HP.out.2 a j))))
        clear ho hb c2 hrow
        cases hh : m.has ((a + j : Nat) : Int)
        · obtain ⟨hb1, hb2⟩ := hby.1 hh
          rw [hb1] at z2
          have b2 : Below wr.heap.size wr (wr.alloc (.cells (madeCells #[.int .u8 0] 64) 5)) := (Below.refl _ _).alloc (Nat.le_refl _) _
          have r2 : Row (wr.alloc (.cells (madeCells #[.int .u8 0] 64) 5)) (some ⟨wr.heap.size, 0, none⟩) (m.get ((a + j : Nat) : Int)) := by rw [hb2]; exact blk_row (blk_made wr 64)
          have HB7 : Hid _ := below_then HX.out.2.1 b2
          have HR7 : Hid _ := And.intro r2 (HX.out.1.later b2)
          clear hby hb1 hb2 b2 r2 hrow2 hh hle hnl
          go_wp2_with (at_builtin; refine wpList_append_bytes _ rfl _ _ rfl w.heap.size v (rdN m a j) rfl HR7.out.2 (some ⟨wr.heap.size, 0, none⟩) 64 64 (m.get ((a + j : Nat) : Int)) rfl HX.out.2.2.2.1 HR7.out.1 (fun h => by cases h) (Nat.le_refl _) (by rw [HX.out.2.2.2.2]; have := HX.out.2.2.1; omega) HB7.out.size ?_)
          intro v' w7 ho7 hg7
          have F : Hid _ := And.intro (show Own w7 w.heap.size v' (rdN m a (j + 1)) from ho7) (HB7.out.grown hg7 HB7.out.size (fun q hq => (World.ownsRow.lt HX.out.1 q hq).1))
          obtain ⟨va, vc, rfl, -⟩ := ho7.open
          clear ho7 hg7
          go_wp2
          go_roundw
          case rel => exact ⟨j + 1, _, rfl, by omega, by go_num, F.out.1, F.out.2⟩
          case measure => simp [intOf]; omega
        · obtain ⟨hb1, hb2⟩ := hby.2 hh
          rw [← hb2] at z2 hrow2 hle
          rw [HX.out.2.2.2.1] at z2 hle
          have HB7 : Hid _ := HX.out.2.1
          have HR7 : Hid _ := And.intro hrow2 (And.intro hle hnl)
          clear hby hb1 hb2 hrow2 hh hle hnl
          go_wp2_with (at_builtin; refine wpList_append_bytes _ rfl _ _ rfl w.heap.size v (rdN m a j) rfl HX.out.1 x 64 cap (m.get ((a + j : Nat) : Int)) rfl HX.out.2.2.2.1 HR7.out.1 HR7.out.2.2 HR7.out.2.1 (by rw [HX.out.2.2.2.2]; have := HX.out.2.2.1; omega) HB7.out.size ?_)
          intro v' w7 ho7 hg7
          have F : Hid _ := And.intro (show Own w7 w.heap.size v' (rdN m a (j + 1)) from ho7) (HB7.out.grown hg7 HB7.out.size (fun q hq => (World.ownsRow.lt HX.out.1 q hq).1))
          obtain ⟨va, vc, rfl, -⟩ := ho7.open
          clear ho7 hg7
          go_wp2
          go_roundw
          case rel => exact ⟨j + 1, _, rfl, by omega, by go_num, F.out.1, F.out.2⟩
          case measure => simp [intOf]; omega
      · obtain rfl : j = k := by omega
        have q1 : ¬ (((a + j : Nat) : Int) < (a : Int) + (j : Int)) := by omega
        have F : Hid _ := And.intro ho hb
        clear ho hb hj hlt
        go_wp2
        refine bodyPost_ret (v := .tuple #[v, .int .i64 0]) (by first | rfl | simp [results, Try.results45, go_sem]) rfl ?_
        exact ⟨v, rfl, F.out.1, F.out.2⟩
end Go.Proofs.Ytmkacgdbmojomaa
