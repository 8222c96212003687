/- extent: two images' blocks of one number; the change that makes a block what it is. -/
import Derived.Test.YtmkacgdbmojomaaXLd1
import Derived.Test.YtmkacgdbmojomaaXEx13
import Derived.Test.YtmkacgdbmojomaaXErF
namespace Go.Proofs.Ytmkacgdbmojomaa
open Go.RowKit Go.ChangeMaps
set_option linter.unusedVariables false
set_option linter.unusedSimpArgs false
set_option maxRecDepth 8000

theorem eql_blk (l k : List (BitVec 8)) (hl : l.length = 64) (hk : k.length = 64) (w : World) : (binOp .eql 77 (arrV l) (arrV k)).run Try.prog w = .ok (.bool (decide (l = k))) w := by
  have h := equal_blk l k hl hk w
  unfold arrV at *
  rw [run_eql_struct, h]
  rfl
theorem guard_eql (l k : List (BitVec 8)) (x y : Operand) (w : World) : (eqGuard .eql 77 x y (arrV l) (arrV k)).run Try.prog w = .ok () w := run_eqGuard_agg w .eql _ x y _ _ (by kernel_rfl)
theorem has_by (m : Im) (i : Nat) (hw : m.Wf) : (m.has (i : Int) = false → m.by i = [] ∧ m.get (i : Int) = zero64) ∧ (m.has (i : Int) = true → (m.by i).length = 64 ∧ m.get (i : Int) = m.by i) := by
  unfold Im.has Im.by Im.get
  rw [if_pos (by omega), if_pos (by omega), Int.toNat_natCast]
  cases hf : m.f i with
  | none => exact ⟨fun _ => ⟨rfl, rfl⟩, fun h => by cases h⟩
  | some l => exact ⟨(fun h => by cases h), fun _ => ⟨(hw.each i l hf).2, rfl⟩⟩
theorem ag_ff {m1 m2 : Im} {i : Nat} (a1 : (m1.has (i : Int) = false → m1.by i = [] ∧ m1.get (i : Int) = zero64) ∧ (m1.has (i : Int) = true → (m1.by i).length = 64 ∧ m1.get (i : Int) = m1.by i)) (a2 : (m2.has (i : Int) = false → m2.by i = [] ∧ m2.get (i : Int) = zero64) ∧ (m2.has (i : Int) = true → (m2.by i).length = 64 ∧ m2.get (i : Int) = m2.by i)) (h1 : m1.has (i : Int) = false) (h2 : m2.has (i : Int) = false) : decide (m1.get (i : Int) = m2.get (i : Int)) = decide (m1.by i = m2.by i) := by rw [(a1.1 h1).1, (a1.1 h1).2, (a2.1 h2).1, (a2.1 h2).2]; simp
theorem ag_tt {m1 m2 : Im} {i : Nat} (a1 : (m1.has (i : Int) = false → m1.by i = [] ∧ m1.get (i : Int) = zero64) ∧ (m1.has (i : Int) = true → (m1.by i).length = 64 ∧ m1.get (i : Int) = m1.by i)) (a2 : (m2.has (i : Int) = false → m2.by i = [] ∧ m2.get (i : Int) = zero64) ∧ (m2.has (i : Int) = true → (m2.by i).length = 64 ∧ m2.get (i : Int) = m2.by i)) (h1 : m1.has (i : Int) = true) (h2 : m2.has (i : Int) = true) : decide (m1.get (i : Int) = m2.get (i : Int)) = decide (m1.by i = m2.by i) := by rw [(a1.2 h1).2, (a2.2 h2).2]
theorem ag_ft {m1 m2 : Im} {i : Nat} (a1 : (m1.has (i : Int) = false → m1.by i = [] ∧ m1.get (i : Int) = zero64) ∧ (m1.has (i : Int) = true → (m1.by i).length = 64 ∧ m1.get (i : Int) = m1.by i)) (a2 : (m2.has (i : Int) = false → m2.by i = [] ∧ m2.get (i : Int) = zero64) ∧ (m2.has (i : Int) = true → (m2.by i).length = 64 ∧ m2.get (i : Int) = m2.by i)) (h1 : m1.has (i : Int) = false) (h2 : m2.has (i : Int) = true) : decide (m1.by i = m2.by i) = false := by rw [decide_eq_false_iff_not]; intro e; have := (a2.2 h2).1; rw [← e, (a1.1 h1).1] at this; simp at this
theorem ag_tf {m1 m2 : Im} {i : Nat} (a1 : (m1.has (i : Int) = false → m1.by i = [] ∧ m1.get (i : Int) = zero64) ∧ (m1.has (i : Int) = true → (m1.by i).length = 64 ∧ m1.get (i : Int) = m1.by i)) (a2 : (m2.has (i : Int) = false → m2.by i = [] ∧ m2.get (i : Int) = zero64) ∧ (m2.has (i : Int) = true → (m2.by i).length = 64 ∧ m2.get (i : Int) = m2.by i)) (h1 : m1.has (i : Int) = true) (h2 : m2.has (i : Int) = false) : decide (m1.by i = m2.by i) = false := by rw [decide_eq_false_iff_not]; intro e; have := (a1.2 h1).1; rw [e, (a2.1 h2).1] at this; simp at this
set_option maxHeartbeats 16000000 in
theorem imAgrees_any (g1 b1 : Nat) (m1 : Im) (g2 b2 : Nat) (m2 : Im) (i : Nat) (w : World) (h1 : (im g1 b1 m1).Ok w) (h2 : (im g2 b2 m2).Ok w) (hw1 : m1.Wf) (hw2 : m2.Wf) (hi : i < 256) :
    Calls Try.prog 58 #[.pointer (some ⟨g1, 0, none⟩), .pointer (some ⟨g2, 0, none⟩), .int .i64 (i : Int)] w fun e w' => e = .returned (.bool (decide (m1.by i = m2.by i))) ∧ Below w.heap.size w w' := by
  have HP : Hid _ := And.intro h1 (And.intro h2 (And.intro hw1 hw2))
  have HI : Hid (I64 (i : Int)) := by unfold Hid I64; omega
  have HG : Hid _ := And.intro (hw1.get_len (i : Int)) (hw2.get_len (i : Int))
  have a1 := has_by m1 i hw1
  have a2 := has_by m2 i hw2
  have HA : Hid _ := And.intro a1 a2
  clear h1 h2 hw1 hw2 a1 a2
  have Sd : Below w.heap.size w w.drew := (Below.refl _ _).drew
  go_enter Try.func58, Try.ntmps58
  go_wp2_with fail
  cases h1 : m1.has (i : Int) with
  | false =>
    cases h2 : m2.has (i : Int) with
    | false =>
      have HH : Hid (m1.has (i : Int) = false ∧ m2.has (i : Int) = false) := ⟨h1, h2⟩
      go_wp2_with fail
      refine wp_region_held_drew (S := fun W => Below w.heap.size w W) (by kernel_rfl) Sd (fun hS => ?_)
      have B0 : Below w.heap.size w w.drew := Sd
      refine any_take (i := 0) (v := ?_) rfl (by kernel_rfl) (by kernel_rfl) (by kernel_rfl) (by exact fun _ _ _ h => h) (by rfl) ?_ hS ?_
      rotate_left
      · ((intro w hSw; (try dsimp only at hSw); go_simp) <;> with_reducible rfl)
      (try simp only [Act.put, List.setIfInBounds_toArray, List.set_cons_zero, List.set_cons_succ])
      refine any_take (i := 1) (v := ?_) rfl (by kernel_rfl) (by kernel_rfl) (by kernel_rfl) (by exact fun _ _ _ h => h) (by rfl) ?_ hS ?_
      rotate_left
      · ((intro w hSw; (try dsimp only at hSw); go_simp) <;> with_reducible rfl)
      (try simp only [Act.put, List.setIfInBounds_toArray, List.set_cons_zero, List.set_cons_succ])
      refine any_take (i := 3) (v := ?_) rfl (by kernel_rfl) (by kernel_rfl) (by kernel_rfl) (by exact fun _ _ _ h => h) (by rfl) ?_ hS ?_
      rotate_left
      · ((intro w hSw; (try dsimp only at hSw); go_simp) <;> with_reducible rfl)
      (try simp only [Act.put, List.setIfInBounds_toArray, List.set_cons_zero, List.set_cons_succ])
      refine any_take (i := 4) (v := ?_) rfl (by kernel_rfl) (by kernel_rfl) (by kernel_rfl) (by exact fun _ _ _ h => h) (by rfl) ?_ hS ?_
      rotate_left
      · ((intro w hSw; (try dsimp only at hSw); go_simp) <;> with_reducible rfl)
      (try simp only [Act.put, List.setIfInBounds_toArray, List.set_cons_zero, List.set_cons_succ])
      have K1 : Hid _ := imHas_any g1 b1 m1 (i : Int) _ (HP.out.1.later B0) HP.out.2.2.1 HI.out
      refine any_one (i := 2) rfl (by kernel_rfl) (fun K hK => ?_)
      go_simp
      refine (Calls.mono (K1.out)) ?_
      rintro e x1 ⟨rfl, hbR⟩
      have B1 : Below w.heap.size w x1 := below_then B0 hbR
      clear K1
      go_wp2_with fail
      refine hK.out _ _ (by first | exact B1 | exact hbR | exact below_then hS hbR) (any_weaken (S' := fun W => Below x1.heap.size x1 W) (fun W hW => by first | exact below_then B1 hW | exact below_then hbR hW | exact below_then (below_then hS hbR) hW) _ _ _ _ ?_)
      clear hK K hS hbR
      have hS : Below x1.heap.size x1 x1 := Below.refl _ _
      (try rw [HH.out.1])
      have K2 : Hid _ := imHas_any g2 b2 m2 (i : Int) _ (HP.out.2.1.later B1) HP.out.2.2.2 HI.out
      refine any_one (i := 5) rfl (by kernel_rfl) (fun K hK => ?_)
      go_simp
      refine (Calls.mono (K2.out)) ?_
      rintro e x2 ⟨rfl, hbR⟩
      have B2 : Below w.heap.size w x2 := below_then B1 hbR
      clear K2
      go_wp2_with fail
      refine hK.out _ _ (by first | exact B2 | exact hbR | exact below_then hS hbR) (any_weaken (S' := fun W => Below x2.heap.size x2 W) (fun W hW => by first | exact below_then B2 hW | exact below_then hbR hW | exact below_then (below_then hS hbR) hW) _ _ _ _ ?_)
      clear hK K hS hbR
      have hS : Below x2.heap.size x2 x2 := Below.refl _ _
      (try rw [HH.out.2])
      refine any_take (i := 6) (v := ?_) rfl (by kernel_rfl) (by kernel_rfl) (by kernel_rfl) (by exact fun _ _ _ h => h) (by rfl) ?_ hS ?_
      rotate_left
      · ((intro w hSw; (try dsimp only at hSw); go_simp) <;> with_reducible rfl)
      (try simp only [Act.put, List.setIfInBounds_toArray, List.set_cons_zero, List.set_cons_succ])
      refine any_take (i := 7) (v := ?_) rfl (by kernel_rfl) (by kernel_rfl) (by kernel_rfl) (by exact fun _ _ _ h => h) (by rfl) ?_ hS ?_
      rotate_left
      · ((intro w hSw; (try dsimp only at hSw); go_simp) <;> with_reducible rfl)
      (try simp only [Act.put, List.setIfInBounds_toArray, List.set_cons_zero, List.set_cons_succ])
      refine any_take (i := 8) (v := ?_) rfl (by kernel_rfl) (by kernel_rfl) (by kernel_rfl) (by exact fun _ _ _ h => h) (by rfl) ?_ hS ?_
      rotate_left
      · ((intro w hSw; (try dsimp only at hSw); go_simp) <;> with_reducible rfl)
      (try simp only [Act.put, List.setIfInBounds_toArray, List.set_cons_zero, List.set_cons_succ])
      refine any_take (i := 9) (v := ?_) rfl (by kernel_rfl) (by kernel_rfl) (by kernel_rfl) (by exact fun _ _ _ h => h) (by rfl) ?_ hS ?_
      rotate_left
      · ((intro w hSw; (try dsimp only at hSw); go_simp) <;> with_reducible rfl)
      (try simp only [Act.put, List.setIfInBounds_toArray, List.set_cons_zero, List.set_cons_succ])
      refine any_take (i := 10) (v := ?_) rfl (by kernel_rfl) (by kernel_rfl) (by kernel_rfl) (by exact fun _ _ _ h => h) (by rfl) ?_ hS ?_
      rotate_left
      · ((intro w hSw; (try dsimp only at hSw); go_simp) <;> with_reducible rfl)
      (try simp only [Act.put, List.setIfInBounds_toArray, List.set_cons_zero, List.set_cons_succ])
      refine any_take (i := 11) (v := .map (some b1)) rfl (by kernel_rfl) (by kernel_rfl) (by kernel_rfl) (by exact fun _ _ _ h => h) (by rfl) ?_ hS ?_
      · intro W hSW; have c := (im_cells (HP.out.1.later (below_then B2 hSW))).2; go_simp
      (try simp only [Act.put, List.setIfInBounds_toArray, List.set_cons_zero, List.set_cons_succ])
      refine any_take (i := 12) (v := ?_) rfl (by kernel_rfl) (by kernel_rfl) (by kernel_rfl) (by exact fun _ _ _ h => h) (by rfl) ?_ hS ?_
      rotate_left
      · ((intro w hSw; (try dsimp only at hSw); go_simp) <;> with_reducible rfl)
      (try simp only [Act.put, List.setIfInBounds_toArray, List.set_cons_zero, List.set_cons_succ])
      refine any_take (i := 13) (v := arrV (m1.get (i : Int))) rfl (by kernel_rfl) (by kernel_rfl) (by kernel_rfl) (by exact fun _ _ _ h => h) (by rfl) ?_ hS ?_
      · intro W hSW; have c := im_look (HP.out.1.later (below_then B2 hSW)) HI.out; go_simp
      (try simp only [Act.put, List.setIfInBounds_toArray, List.set_cons_zero, List.set_cons_succ])
      refine any_take (i := 14) (v := ?_) rfl (by kernel_rfl) (by kernel_rfl) (by kernel_rfl) (by exact fun _ _ _ h => h) (by rfl) ?_ hS ?_
      rotate_left
      · ((intro w hSw; (try dsimp only at hSw); go_simp) <;> with_reducible rfl)
      (try simp only [Act.put, List.setIfInBounds_toArray, List.set_cons_zero, List.set_cons_succ])
      refine any_take (i := 15) (v := ?_) rfl (by kernel_rfl) (by kernel_rfl) (by kernel_rfl) (by exact fun _ _ _ h => h) (by rfl) ?_ hS ?_
      rotate_left
      · ((intro w hSw; (try dsimp only at hSw); go_simp) <;> with_reducible rfl)
      (try simp only [Act.put, List.setIfInBounds_toArray, List.set_cons_zero, List.set_cons_succ])
      refine any_take (i := 16) (v := ?_) rfl (by kernel_rfl) (by kernel_rfl) (by kernel_rfl) (by exact fun _ _ _ h => h) (by rfl) ?_ hS ?_
      rotate_left
      · ((intro w hSw; (try dsimp only at hSw); go_simp) <;> with_reducible rfl)
      (try simp only [Act.put, List.setIfInBounds_toArray, List.set_cons_zero, List.set_cons_succ])
      refine any_take (i := 17) (v := .map (some b2)) rfl (by kernel_rfl) (by kernel_rfl) (by kernel_rfl) (by exact fun _ _ _ h => h) (by rfl) ?_ hS ?_
      · intro W hSW; have c := (im_cells (HP.out.2.1.later (below_then B2 hSW))).2; go_simp
      (try simp only [Act.put, List.setIfInBounds_toArray, List.set_cons_zero, List.set_cons_succ])
      refine any_take (i := 18) (v := ?_) rfl (by kernel_rfl) (by kernel_rfl) (by kernel_rfl) (by exact fun _ _ _ h => h) (by rfl) ?_ hS ?_
      rotate_left
      · ((intro w hSw; (try dsimp only at hSw); go_simp) <;> with_reducible rfl)
      (try simp only [Act.put, List.setIfInBounds_toArray, List.set_cons_zero, List.set_cons_succ])
      refine any_take (i := 19) (v := arrV (m2.get (i : Int))) rfl (by kernel_rfl) (by kernel_rfl) (by kernel_rfl) (by exact fun _ _ _ h => h) (by rfl) ?_ hS ?_
      · intro W hSW; have c := im_look (HP.out.2.1.later (below_then B2 hSW)) HI.out; go_simp
      (try simp only [Act.put, List.setIfInBounds_toArray, List.set_cons_zero, List.set_cons_succ])
      refine any_take (i := 20) (v := .bool (decide (m1.get (i : Int) = m2.get (i : Int)))) rfl (by kernel_rfl) (by kernel_rfl) (by kernel_rfl) (by exact fun _ _ _ h => h) (by rfl) ?_ hS ?_
      · intro W hSW; have c := eql_blk (m1.get (i : Int)) (m2.get (i : Int)) HG.out.1 HG.out.2 W; have c2 := fun x y => guard_eql (m1.get (i : Int)) (m2.get (i : Int)) x y W; go_simp
      (try simp only [Act.put, List.setIfInBounds_toArray, List.set_cons_zero, List.set_cons_succ])
      refine any_take (i := 21) (v := ?_) rfl (by kernel_rfl) (by kernel_rfl) (by kernel_rfl) (by exact fun _ _ _ h => h) (by rfl) ?_ hS ?_
      rotate_left
      · ((intro w hSw; (try dsimp only at hSw); go_simp) <;> with_reducible rfl)
      (try simp only [Act.put, List.setIfInBounds_toArray, List.set_cons_zero, List.set_cons_succ])
      refine any_take (i := 22) (v := ?_) rfl (by kernel_rfl) (by kernel_rfl) (by kernel_rfl) (by exact fun _ _ _ h => h) (by rfl) ?_ hS ?_
      rotate_left
      · ((intro w hSw; (try dsimp only at hSw); go_simp) <;> with_reducible rfl)
      (try simp only [Act.put, List.setIfInBounds_toArray, List.set_cons_zero, List.set_cons_succ])
      refine wpAnyH_done (by kernel_rfl) ?_ _
      go_wp2
      go_ret
      exact ⟨by rw [ag_ff HA.out.1 HA.out.2 HH.out.1 HH.out.2]; rfl, (B2 : Below w.heap.size w _)⟩
    | true =>
      have HH : Hid (m1.has (i : Int) = false ∧ m2.has (i : Int) = true) := ⟨h1, h2⟩
      go_wp2_with fail
      refine wp_region_held_drew (S := fun W => Below w.heap.size w W) (by kernel_rfl) Sd (fun hS => ?_)
      have B0 : Below w.heap.size w w.drew := Sd
      refine any_take (i := 0) (v := ?_) rfl (by kernel_rfl) (by kernel_rfl) (by kernel_rfl) (by exact fun _ _ _ h => h) (by rfl) ?_ hS ?_
      rotate_left
      · ((intro w hSw; (try dsimp only at hSw); go_simp) <;> with_reducible rfl)
      (try simp only [Act.put, List.setIfInBounds_toArray, List.set_cons_zero, List.set_cons_succ])
      refine any_take (i := 1) (v := ?_) rfl (by kernel_rfl) (by kernel_rfl) (by kernel_rfl) (by exact fun _ _ _ h => h) (by rfl) ?_ hS ?_
      rotate_left
      · ((intro w hSw; (try dsimp only at hSw); go_simp) <;> with_reducible rfl)
      (try simp only [Act.put, List.setIfInBounds_toArray, List.set_cons_zero, List.set_cons_succ])
      refine any_take (i := 3) (v := ?_) rfl (by kernel_rfl) (by kernel_rfl) (by kernel_rfl) (by exact fun _ _ _ h => h) (by rfl) ?_ hS ?_
      rotate_left
      · ((intro w hSw; (try dsimp only at hSw); go_simp) <;> with_reducible rfl)
      (try simp only [Act.put, List.setIfInBounds_toArray, List.set_cons_zero, List.set_cons_succ])
      refine any_take (i := 4) (v := ?_) rfl (by kernel_rfl) (by kernel_rfl) (by kernel_rfl) (by exact fun _ _ _ h => h) (by rfl) ?_ hS ?_
      rotate_left
      · ((intro w hSw; (try dsimp only at hSw); go_simp) <;> with_reducible rfl)
      (try simp only [Act.put, List.setIfInBounds_toArray, List.set_cons_zero, List.set_cons_succ])
      have K1 : Hid _ := imHas_any g1 b1 m1 (i : Int) _ (HP.out.1.later B0) HP.out.2.2.1 HI.out
      refine any_one (i := 2) rfl (by kernel_rfl) (fun K hK => ?_)
      go_simp
      refine (Calls.mono (K1.out)) ?_
      rintro e x1 ⟨rfl, hbR⟩
      have B1 : Below w.heap.size w x1 := below_then B0 hbR
      clear K1
      go_wp2_with fail
      refine hK.out _ _ (by first | exact B1 | exact hbR | exact below_then hS hbR) (any_weaken (S' := fun W => Below x1.heap.size x1 W) (fun W hW => by first | exact below_then B1 hW | exact below_then hbR hW | exact below_then (below_then hS hbR) hW) _ _ _ _ ?_)
      clear hK K hS hbR
      have hS : Below x1.heap.size x1 x1 := Below.refl _ _
      (try rw [HH.out.1])
      have K2 : Hid _ := imHas_any g2 b2 m2 (i : Int) _ (HP.out.2.1.later B1) HP.out.2.2.2 HI.out
      refine any_one (i := 5) rfl (by kernel_rfl) (fun K hK => ?_)
      go_simp
      refine (Calls.mono (K2.out)) ?_
      rintro e x2 ⟨rfl, hbR⟩
      have B2 : Below w.heap.size w x2 := below_then B1 hbR
      clear K2
      go_wp2_with fail
      refine hK.out _ _ (by first | exact B2 | exact hbR | exact below_then hS hbR) (any_weaken (S' := fun W => Below x2.heap.size x2 W) (fun W hW => by first | exact below_then B2 hW | exact below_then hbR hW | exact below_then (below_then hS hbR) hW) _ _ _ _ ?_)
      clear hK K hS hbR
      have hS : Below x2.heap.size x2 x2 := Below.refl _ _
      (try rw [HH.out.2])
      refine any_take (i := 6) (v := ?_) rfl (by kernel_rfl) (by kernel_rfl) (by kernel_rfl) (by exact fun _ _ _ h => h) (by rfl) ?_ hS ?_
      rotate_left
      · ((intro w hSw; (try dsimp only at hSw); go_simp) <;> with_reducible rfl)
      (try simp only [Act.put, List.setIfInBounds_toArray, List.set_cons_zero, List.set_cons_succ])
      refine any_take (i := 7) (v := ?_) rfl (by kernel_rfl) (by kernel_rfl) (by kernel_rfl) (by exact fun _ _ _ h => h) (by rfl) ?_ hS ?_
      rotate_left
      · ((intro w hSw; (try dsimp only at hSw); go_simp) <;> with_reducible rfl)
      (try simp only [Act.put, List.setIfInBounds_toArray, List.set_cons_zero, List.set_cons_succ])
      refine any_skip (i := 8) rfl (by kernel_rfl) (by kernel_rfl) (by kernel_rfl) (by exact fun _ _ _ h => h) (by rfl) hS ?_
      (try simp only [Act.put, List.setIfInBounds_toArray, List.set_cons_zero, List.set_cons_succ])
      refine any_skip (i := 9) rfl (by kernel_rfl) (by kernel_rfl) (by kernel_rfl) (by exact fun _ _ _ h => h) (by rfl) hS ?_
      (try simp only [Act.put, List.setIfInBounds_toArray, List.set_cons_zero, List.set_cons_succ])
      refine any_skip (i := 10) rfl (by kernel_rfl) (by kernel_rfl) (by kernel_rfl) (by exact fun _ _ _ h => h) (by rfl) hS ?_
      (try simp only [Act.put, List.setIfInBounds_toArray, List.set_cons_zero, List.set_cons_succ])
      refine any_skip (i := 11) rfl (by kernel_rfl) (by kernel_rfl) (by kernel_rfl) (by exact fun _ _ _ h => h) (by rfl) hS ?_
      (try simp only [Act.put, List.setIfInBounds_toArray, List.set_cons_zero, List.set_cons_succ])
      refine any_skip (i := 12) rfl (by kernel_rfl) (by kernel_rfl) (by kernel_rfl) (by exact fun _ _ _ h => h) (by rfl) hS ?_
      (try simp only [Act.put, List.setIfInBounds_toArray, List.set_cons_zero, List.set_cons_succ])
      refine any_skip (i := 13) rfl (by kernel_rfl) (by kernel_rfl) (by kernel_rfl) (by exact fun _ _ _ h => h) (by rfl) hS ?_
      (try simp only [Act.put, List.setIfInBounds_toArray, List.set_cons_zero, List.set_cons_succ])
      refine any_skip (i := 14) rfl (by kernel_rfl) (by kernel_rfl) (by kernel_rfl) (by exact fun _ _ _ h => h) (by rfl) hS ?_
      (try simp only [Act.put, List.setIfInBounds_toArray, List.set_cons_zero, List.set_cons_succ])
      refine any_skip (i := 15) rfl (by kernel_rfl) (by kernel_rfl) (by kernel_rfl) (by exact fun _ _ _ h => h) (by rfl) hS ?_
      (try simp only [Act.put, List.setIfInBounds_toArray, List.set_cons_zero, List.set_cons_succ])
      refine any_skip (i := 16) rfl (by kernel_rfl) (by kernel_rfl) (by kernel_rfl) (by exact fun _ _ _ h => h) (by rfl) hS ?_
      (try simp only [Act.put, List.setIfInBounds_toArray, List.set_cons_zero, List.set_cons_succ])
      refine any_skip (i := 17) rfl (by kernel_rfl) (by kernel_rfl) (by kernel_rfl) (by exact fun _ _ _ h => h) (by rfl) hS ?_
      (try simp only [Act.put, List.setIfInBounds_toArray, List.set_cons_zero, List.set_cons_succ])
      refine any_skip (i := 18) rfl (by kernel_rfl) (by kernel_rfl) (by kernel_rfl) (by exact fun _ _ _ h => h) (by rfl) hS ?_
      (try simp only [Act.put, List.setIfInBounds_toArray, List.set_cons_zero, List.set_cons_succ])
      refine any_skip (i := 19) rfl (by kernel_rfl) (by kernel_rfl) (by kernel_rfl) (by exact fun _ _ _ h => h) (by rfl) hS ?_
      (try simp only [Act.put, List.setIfInBounds_toArray, List.set_cons_zero, List.set_cons_succ])
      refine any_skip (i := 20) rfl (by kernel_rfl) (by kernel_rfl) (by kernel_rfl) (by exact fun _ _ _ h => h) (by rfl) hS ?_
      (try simp only [Act.put, List.setIfInBounds_toArray, List.set_cons_zero, List.set_cons_succ])
      refine any_take (i := 21) (v := ?_) rfl (by kernel_rfl) (by kernel_rfl) (by kernel_rfl) (by exact fun _ _ _ h => h) (by rfl) ?_ hS ?_
      rotate_left
      · ((intro w hSw; (try dsimp only at hSw); go_simp) <;> with_reducible rfl)
      (try simp only [Act.put, List.setIfInBounds_toArray, List.set_cons_zero, List.set_cons_succ])
      refine any_take (i := 22) (v := ?_) rfl (by kernel_rfl) (by kernel_rfl) (by kernel_rfl) (by exact fun _ _ _ h => h) (by rfl) ?_ hS ?_
      rotate_left
      · ((intro w hSw; (try dsimp only at hSw); go_simp) <;> with_reducible rfl)
      (try simp only [Act.put, List.setIfInBounds_toArray, List.set_cons_zero, List.set_cons_succ])
      refine wpAnyH_done (by kernel_rfl) ?_ _
      go_wp2
      go_ret
      exact ⟨by rw [ag_ft HA.out.1 HA.out.2 HH.out.1 HH.out.2]; rfl, (B2 : Below w.heap.size w _)⟩
  | true =>
    cases h2 : m2.has (i : Int) with
    | false =>
      have HH : Hid (m1.has (i : Int) = true ∧ m2.has (i : Int) = false) := ⟨h1, h2⟩
      go_wp2_with fail
      refine wp_region_held_drew (S := fun W => Below w.heap.size w W) (by kernel_rfl) Sd (fun hS => ?_)
      have B0 : Below w.heap.size w w.drew := Sd
      refine any_take (i := 0) (v := ?_) rfl (by kernel_rfl) (by kernel_rfl) (by kernel_rfl) (by exact fun _ _ _ h => h) (by rfl) ?_ hS ?_
      rotate_left
      · ((intro w hSw; (try dsimp only at hSw); go_simp) <;> with_reducible rfl)
      (try simp only [Act.put, List.setIfInBounds_toArray, List.set_cons_zero, List.set_cons_succ])
      refine any_take (i := 1) (v := ?_) rfl (by kernel_rfl) (by kernel_rfl) (by kernel_rfl) (by exact fun _ _ _ h => h) (by rfl) ?_ hS ?_
      rotate_left
      · ((intro w hSw; (try dsimp only at hSw); go_simp) <;> with_reducible rfl)
      (try simp only [Act.put, List.setIfInBounds_toArray, List.set_cons_zero, List.set_cons_succ])
      refine any_take (i := 3) (v := ?_) rfl (by kernel_rfl) (by kernel_rfl) (by kernel_rfl) (by exact fun _ _ _ h => h) (by rfl) ?_ hS ?_
      rotate_left
      · ((intro w hSw; (try dsimp only at hSw); go_simp) <;> with_reducible rfl)
      (try simp only [Act.put, List.setIfInBounds_toArray, List.set_cons_zero, List.set_cons_succ])
      refine any_take (i := 4) (v := ?_) rfl (by kernel_rfl) (by kernel_rfl) (by kernel_rfl) (by exact fun _ _ _ h => h) (by rfl) ?_ hS ?_
      rotate_left
      · ((intro w hSw; (try dsimp only at hSw); go_simp) <;> with_reducible rfl)
      (try simp only [Act.put, List.setIfInBounds_toArray, List.set_cons_zero, List.set_cons_succ])
      have K1 : Hid _ := imHas_any g1 b1 m1 (i : Int) _ (HP.out.1.later B0) HP.out.2.2.1 HI.out
      refine any_one (i := 2) rfl (by kernel_rfl) (fun K hK => ?_)
      go_simp
      refine (Calls.mono (K1.out)) ?_
      rintro e x1 ⟨rfl, hbR⟩
      have B1 : Below w.heap.size w x1 := below_then B0 hbR
      clear K1
      go_wp2_with fail
      refine hK.out _ _ (by first | exact B1 | exact hbR | exact below_then hS hbR) (any_weaken (S' := fun W => Below x1.heap.size x1 W) (fun W hW => by first | exact below_then B1 hW | exact below_then hbR hW | exact below_then (below_then hS hbR) hW) _ _ _ _ ?_)
      clear hK K hS hbR
      have hS : Below x1.heap.size x1 x1 := Below.refl _ _
      (try rw [HH.out.1])
      have K2 : Hid _ := imHas_any g2 b2 m2 (i : Int) _ (HP.out.2.1.later B1) HP.out.2.2.2 HI.out
      refine any_one (i := 5) rfl (by kernel_rfl) (fun K hK => ?_)
      go_simp
      refine (Calls.mono (K2.out)) ?_
      rintro e x2 ⟨rfl, hbR⟩
      have B2 : Below w.heap.size w x2 := below_then B1 hbR
      clear K2
      go_wp2_with fail
      refine hK.out _ _ (by first | exact B2 | exact hbR | exact below_then hS hbR) (any_weaken (S' := fun W => Below x2.heap.size x2 W) (fun W hW => by first | exact below_then B2 hW | exact below_then hbR hW | exact below_then (below_then hS hbR) hW) _ _ _ _ ?_)
      clear hK K hS hbR
      have hS : Below x2.heap.size x2 x2 := Below.refl _ _
      (try rw [HH.out.2])
      refine any_take (i := 6) (v := ?_) rfl (by kernel_rfl) (by kernel_rfl) (by kernel_rfl) (by exact fun _ _ _ h => h) (by rfl) ?_ hS ?_
      rotate_left
      · ((intro w hSw; (try dsimp only at hSw); go_simp) <;> with_reducible rfl)
      (try simp only [Act.put, List.setIfInBounds_toArray, List.set_cons_zero, List.set_cons_succ])
      refine any_take (i := 7) (v := ?_) rfl (by kernel_rfl) (by kernel_rfl) (by kernel_rfl) (by exact fun _ _ _ h => h) (by rfl) ?_ hS ?_
      rotate_left
      · ((intro w hSw; (try dsimp only at hSw); go_simp) <;> with_reducible rfl)
      (try simp only [Act.put, List.setIfInBounds_toArray, List.set_cons_zero, List.set_cons_succ])
      refine any_skip (i := 8) rfl (by kernel_rfl) (by kernel_rfl) (by kernel_rfl) (by exact fun _ _ _ h => h) (by rfl) hS ?_
      (try simp only [Act.put, List.setIfInBounds_toArray, List.set_cons_zero, List.set_cons_succ])
      refine any_skip (i := 9) rfl (by kernel_rfl) (by kernel_rfl) (by kernel_rfl) (by exact fun _ _ _ h => h) (by rfl) hS ?_
      (try simp only [Act.put, List.setIfInBounds_toArray, List.set_cons_zero, List.set_cons_succ])
      refine any_skip (i := 10) rfl (by kernel_rfl) (by kernel_rfl) (by kernel_rfl) (by exact fun _ _ _ h => h) (by rfl) hS ?_
      (try simp only [Act.put, List.setIfInBounds_toArray, List.set_cons_zero, List.set_cons_succ])
      refine any_skip (i := 11) rfl (by kernel_rfl) (by kernel_rfl) (by kernel_rfl) (by exact fun _ _ _ h => h) (by rfl) hS ?_
      (try simp only [Act.put, List.setIfInBounds_toArray, List.set_cons_zero, List.set_cons_succ])
      refine any_skip (i := 12) rfl (by kernel_rfl) (by kernel_rfl) (by kernel_rfl) (by exact fun _ _ _ h => h) (by rfl) hS ?_
      (try simp only [Act.put, List.setIfInBounds_toArray, List.set_cons_zero, List.set_cons_succ])
      refine any_skip (i := 13) rfl (by kernel_rfl) (by kernel_rfl) (by kernel_rfl) (by exact fun _ _ _ h => h) (by rfl) hS ?_
      (try simp only [Act.put, List.setIfInBounds_toArray, List.set_cons_zero, List.set_cons_succ])
      refine any_skip (i := 14) rfl (by kernel_rfl) (by kernel_rfl) (by kernel_rfl) (by exact fun _ _ _ h => h) (by rfl) hS ?_
      (try simp only [Act.put, List.setIfInBounds_toArray, List.set_cons_zero, List.set_cons_succ])
      refine any_skip (i := 15) rfl (by kernel_rfl) (by kernel_rfl) (by kernel_rfl) (by exact fun _ _ _ h => h) (by rfl) hS ?_
      (try simp only [Act.put, List.setIfInBounds_toArray, List.set_cons_zero, List.set_cons_succ])
      refine any_skip (i := 16) rfl (by kernel_rfl) (by kernel_rfl) (by kernel_rfl) (by exact fun _ _ _ h => h) (by rfl) hS ?_
      (try simp only [Act.put, List.setIfInBounds_toArray, List.set_cons_zero, List.set_cons_succ])
      refine any_skip (i := 17) rfl (by kernel_rfl) (by kernel_rfl) (by kernel_rfl) (by exact fun _ _ _ h => h) (by rfl) hS ?_
      (try simp only [Act.put, List.setIfInBounds_toArray, List.set_cons_zero, List.set_cons_succ])
      refine any_skip (i := 18) rfl (by kernel_rfl) (by kernel_rfl) (by kernel_rfl) (by exact fun _ _ _ h => h) (by rfl) hS ?_
      (try simp only [Act.put, List.setIfInBounds_toArray, List.set_cons_zero, List.set_cons_succ])
      refine any_skip (i := 19) rfl (by kernel_rfl) (by kernel_rfl) (by kernel_rfl) (by exact fun _ _ _ h => h) (by rfl) hS ?_
      (try simp only [Act.put, List.setIfInBounds_toArray, List.set_cons_zero, List.set_cons_succ])
      refine any_skip (i := 20) rfl (by kernel_rfl) (by kernel_rfl) (by kernel_rfl) (by exact fun _ _ _ h => h) (by rfl) hS ?_
      (try simp only [Act.put, List.setIfInBounds_toArray, List.set_cons_zero, List.set_cons_succ])
      refine any_take (i := 21) (v := ?_) rfl (by kernel_rfl) (by kernel_rfl) (by kernel_rfl) (by exact fun _ _ _ h => h) (by rfl) ?_ hS ?_
      rotate_left
      · ((intro w hSw; (try dsimp only at hSw); go_simp) <;> with_reducible rfl)
      (try simp only [Act.put, List.setIfInBounds_toArray, List.set_cons_zero, List.set_cons_succ])
      refine any_take (i := 22) (v := ?_) rfl (by kernel_rfl) (by kernel_rfl) (by kernel_rfl) (by exact fun _ _ _ h => h) (by rfl) ?_ hS ?_
      rotate_left
      · ((intro w hSw; (try dsimp only at hSw); go_simp) <;> with_reducible rfl)
      (try simp only [Act.put, List.setIfInBounds_toArray, List.set_cons_zero, List.set_cons_succ])
      refine wpAnyH_done (by kernel_rfl) ?_ _
      go_wp2
      go_ret
      exact ⟨by rw [ag_tf HA.out.1 HA.out.2 HH.out.1 HH.out.2]; rfl, (B2 : Below w.heap.size w _)⟩
    | true =>
      have HH : Hid (m1.has (i : Int) = true ∧ m2.has (i : Int) = true) := ⟨h1, h2⟩
      go_wp2_with fail
      refine wp_region_held_drew (S := fun W => Below w.heap.size w W) (by kernel_rfl) Sd (fun hS => ?_)
      have B0 : Below w.heap.size w w.drew := Sd
      refine any_take (i := 0) (v := ?_) rfl (by kernel_rfl) (by kernel_rfl) (by kernel_rfl) (by exact fun _ _ _ h => h) (by rfl) ?_ hS ?_
      rotate_left
      · ((intro w hSw; (try dsimp only at hSw); go_simp) <;> with_reducible rfl)
      (try simp only [Act.put, List.setIfInBounds_toArray, List.set_cons_zero, List.set_cons_succ])
      refine any_take (i := 1) (v := ?_) rfl (by kernel_rfl) (by kernel_rfl) (by kernel_rfl) (by exact fun _ _ _ h => h) (by rfl) ?_ hS ?_
      rotate_left
      · ((intro w hSw; (try dsimp only at hSw); go_simp) <;> with_reducible rfl)
      (try simp only [Act.put, List.setIfInBounds_toArray, List.set_cons_zero, List.set_cons_succ])
      refine any_take (i := 3) (v := ?_) rfl (by kernel_rfl) (by kernel_rfl) (by kernel_rfl) (by exact fun _ _ _ h => h) (by rfl) ?_ hS ?_
      rotate_left
      · ((intro w hSw; (try dsimp only at hSw); go_simp) <;> with_reducible rfl)
      (try simp only [Act.put, List.setIfInBounds_toArray, List.set_cons_zero, List.set_cons_succ])
      refine any_take (i := 4) (v := ?_) rfl (by kernel_rfl) (by kernel_rfl) (by kernel_rfl) (by exact fun _ _ _ h => h) (by rfl) ?_ hS ?_
      rotate_left
      · ((intro w hSw; (try dsimp only at hSw); go_simp) <;> with_reducible rfl)
      (try simp only [Act.put, List.setIfInBounds_toArray, List.set_cons_zero, List.set_cons_succ])
      have K1 : Hid _ := imHas_any g1 b1 m1 (i : Int) _ (HP.out.1.later B0) HP.out.2.2.1 HI.out
      refine any_one (i := 2) rfl (by kernel_rfl) (fun K hK => ?_)
      go_simp
      refine (Calls.mono (K1.out)) ?_
      rintro e x1 ⟨rfl, hbR⟩
      have B1 : Below w.heap.size w x1 := below_then B0 hbR
      clear K1
      go_wp2_with fail
      refine hK.out _ _ (by first | exact B1 | exact hbR | exact below_then hS hbR) (any_weaken (S' := fun W => Below x1.heap.size x1 W) (fun W hW => by first | exact below_then B1 hW | exact below_then hbR hW | exact below_then (below_then hS hbR) hW) _ _ _ _ ?_)
      clear hK K hS hbR
      have hS : Below x1.heap.size x1 x1 := Below.refl _ _
      (try rw [HH.out.1])
      have K2 : Hid _ := imHas_any g2 b2 m2 (i : Int) _ (HP.out.2.1.later B1) HP.out.2.2.2 HI.out
      refine any_one (i := 5) rfl (by kernel_rfl) (fun K hK => ?_)
      go_simp
      refine (Calls.mono (K2.out)) ?_
      rintro e x2 ⟨rfl, hbR⟩
      have B2 : Below w.heap.size w x2 := below_then B1 hbR
      clear K2
      go_wp2_with fail
      refine hK.out _ _ (by first | exact B2 | exact hbR | exact below_then hS hbR) (any_weaken (S' := fun W => Below x2.heap.size x2 W) (fun W hW => by first | exact below_then B2 hW | exact below_then hbR hW | exact below_then (below_then hS hbR) hW) _ _ _ _ ?_)
      clear hK K hS hbR
      have hS : Below x2.heap.size x2 x2 := Below.refl _ _
      (try rw [HH.out.2])
      refine any_take (i := 6) (v := ?_) rfl (by kernel_rfl) (by kernel_rfl) (by kernel_rfl) (by exact fun _ _ _ h => h) (by rfl) ?_ hS ?_
      rotate_left
      · ((intro w hSw; (try dsimp only at hSw); go_simp) <;> with_reducible rfl)
      (try simp only [Act.put, List.setIfInBounds_toArray, List.set_cons_zero, List.set_cons_succ])
      refine any_take (i := 7) (v := ?_) rfl (by kernel_rfl) (by kernel_rfl) (by kernel_rfl) (by exact fun _ _ _ h => h) (by rfl) ?_ hS ?_
      rotate_left
      · ((intro w hSw; (try dsimp only at hSw); go_simp) <;> with_reducible rfl)
      (try simp only [Act.put, List.setIfInBounds_toArray, List.set_cons_zero, List.set_cons_succ])
      refine any_take (i := 8) (v := ?_) rfl (by kernel_rfl) (by kernel_rfl) (by kernel_rfl) (by exact fun _ _ _ h => h) (by rfl) ?_ hS ?_
      rotate_left
      · ((intro w hSw; (try dsimp only at hSw); go_simp) <;> with_reducible rfl)
      (try simp only [Act.put, List.setIfInBounds_toArray, List.set_cons_zero, List.set_cons_succ])
      refine any_take (i := 9) (v := ?_) rfl (by kernel_rfl) (by kernel_rfl) (by kernel_rfl) (by exact fun _ _ _ h => h) (by rfl) ?_ hS ?_
      rotate_left
      · ((intro w hSw; (try dsimp only at hSw); go_simp) <;> with_reducible rfl)
      (try simp only [Act.put, List.setIfInBounds_toArray, List.set_cons_zero, List.set_cons_succ])
      refine any_take (i := 10) (v := ?_) rfl (by kernel_rfl) (by kernel_rfl) (by kernel_rfl) (by exact fun _ _ _ h => h) (by rfl) ?_ hS ?_
      rotate_left
      · ((intro w hSw; (try dsimp only at hSw); go_simp) <;> with_reducible rfl)
      (try simp only [Act.put, List.setIfInBounds_toArray, List.set_cons_zero, List.set_cons_succ])
      refine any_take (i := 11) (v := .map (some b1)) rfl (by kernel_rfl) (by kernel_rfl) (by kernel_rfl) (by exact fun _ _ _ h => h) (by rfl) ?_ hS ?_
      · intro W hSW; have c := (im_cells (HP.out.1.later (below_then B2 hSW))).2; go_simp
      (try simp only [Act.put, List.setIfInBounds_toArray, List.set_cons_zero, List.set_cons_succ])
      refine any_take (i := 12) (v := ?_) rfl (by kernel_rfl) (by kernel_rfl) (by kernel_rfl) (by exact fun _ _ _ h => h) (by rfl) ?_ hS ?_
      rotate_left
      · ((intro w hSw; (try dsimp only at hSw); go_simp) <;> with_reducible rfl)
      (try simp only [Act.put, List.setIfInBounds_toArray, List.set_cons_zero, List.set_cons_succ])
      refine any_take (i := 13) (v := arrV (m1.get (i : Int))) rfl (by kernel_rfl) (by kernel_rfl) (by kernel_rfl) (by exact fun _ _ _ h => h) (by rfl) ?_ hS ?_
      · intro W hSW; have c := im_look (HP.out.1.later (below_then B2 hSW)) HI.out; go_simp
      (try simp only [Act.put, List.setIfInBounds_toArray, List.set_cons_zero, List.set_cons_succ])
      refine any_take (i := 14) (v := ?_) rfl (by kernel_rfl) (by kernel_rfl) (by kernel_rfl) (by exact fun _ _ _ h => h) (by rfl) ?_ hS ?_
      rotate_left
      · ((intro w hSw; (try dsimp only at hSw); go_simp) <;> with_reducible rfl)
      (try simp only [Act.put, List.setIfInBounds_toArray, List.set_cons_zero, List.set_cons_succ])
      refine any_take (i := 15) (v := ?_) rfl (by kernel_rfl) (by kernel_rfl) (by kernel_rfl) (by exact fun _ _ _ h => h) (by rfl) ?_ hS ?_
      rotate_left
      · ((intro w hSw; (try dsimp only at hSw); go_simp) <;> with_reducible rfl)
      (try simp only [Act.put, List.setIfInBounds_toArray, List.set_cons_zero, List.set_cons_succ])
      refine any_take (i := 16) (v := ?_) rfl (by kernel_rfl) (by kernel_rfl) (by kernel_rfl) (by exact fun _ _ _ h => h) (by rfl) ?_ hS ?_
      rotate_left
      · ((intro w hSw; (try dsimp only at hSw); go_simp) <;> with_reducible rfl)
      (try simp only [Act.put, List.setIfInBounds_toArray, List.set_cons_zero, List.set_cons_succ])
      refine any_take (i := 17) (v := .map (some b2)) rfl (by kernel_rfl) (by kernel_rfl) (by kernel_rfl) (by exact fun _ _ _ h => h) (by rfl) ?_ hS ?_
      · intro W hSW; have c := (im_cells (HP.out.2.1.later (below_then B2 hSW))).2; go_simp
      (try simp only [Act.put, List.setIfInBounds_toArray, List.set_cons_zero, List.set_cons_succ])
      refine any_take (i := 18) (v := ?_) rfl (by kernel_rfl) (by kernel_rfl) (by kernel_rfl) (by exact fun _ _ _ h => h) (by rfl) ?_ hS ?_
      rotate_left
      · ((intro w hSw; (try dsimp only at hSw); go_simp) <;> with_reducible rfl)
      (try simp only [Act.put, List.setIfInBounds_toArray, List.set_cons_zero, List.set_cons_succ])
      refine any_take (i := 19) (v := arrV (m2.get (i : Int))) rfl (by kernel_rfl) (by kernel_rfl) (by kernel_rfl) (by exact fun _ _ _ h => h) (by rfl) ?_ hS ?_
      · intro W hSW; have c := im_look (HP.out.2.1.later (below_then B2 hSW)) HI.out; go_simp
      (try simp only [Act.put, List.setIfInBounds_toArray, List.set_cons_zero, List.set_cons_succ])
      refine any_take (i := 20) (v := .bool (decide (m1.get (i : Int) = m2.get (i : Int)))) rfl (by kernel_rfl) (by kernel_rfl) (by kernel_rfl) (by exact fun _ _ _ h => h) (by rfl) ?_ hS ?_
      · intro W hSW; have c := eql_blk (m1.get (i : Int)) (m2.get (i : Int)) HG.out.1 HG.out.2 W; have c2 := fun x y => guard_eql (m1.get (i : Int)) (m2.get (i : Int)) x y W; go_simp
      (try simp only [Act.put, List.setIfInBounds_toArray, List.set_cons_zero, List.set_cons_succ])
      refine any_take (i := 21) (v := ?_) rfl (by kernel_rfl) (by kernel_rfl) (by kernel_rfl) (by exact fun _ _ _ h => h) (by rfl) ?_ hS ?_
      rotate_left
      · ((intro w hSw; (try dsimp only at hSw); go_simp) <;> with_reducible rfl)
      (try simp only [Act.put, List.setIfInBounds_toArray, List.set_cons_zero, List.set_cons_succ])
      refine any_take (i := 22) (v := ?_) rfl (by kernel_rfl) (by kernel_rfl) (by kernel_rfl) (by exact fun _ _ _ h => h) (by rfl) ?_ hS ?_
      rotate_left
      · ((intro w hSw; (try dsimp only at hSw); go_simp) <;> with_reducible rfl)
      (try simp only [Act.put, List.setIfInBounds_toArray, List.set_cons_zero, List.set_cons_succ])
      refine wpAnyH_done (by kernel_rfl) ?_ _
      go_wp2
      go_ret
      exact ⟨by rw [ag_tt HA.out.1 HA.out.2 HH.out.1 HH.out.2]; rfl, (B2 : Below w.heap.size w _)⟩
def CgR (l : List (BitVec 8)) (i : Nat) (w : World) (e : Ending) (w' : World) : Prop := ∃ v, e = .returned (.agg #[.int .i64 (i : Int), v]) ∧ Own w' w.heap.size v l ∧ Below w.heap.size w w'
theorem load_chg {w : World} {k : Nat} {x y : Value} (hB : Blk w k 57 [x, y]) : (loadVar 57 ⟨k, 0, none⟩).run Try.prog w = .ok (.agg #[x, y]) w := by
  have hagg : (isAgg 57).run Try.prog w = .ok true w := by kernel_rfl
  have c0 := hB.cell (by simp [maxLen]) 0 (by simp)
  have c1 := hB.cell (by simp [maxLen]) 1 (by simp)
  simp only [List.getElem?_cons_zero, List.getElem?_cons_succ] at c0 c1
  have h2 : (loadCells ⟨k, 0, none⟩ 2).run Try.prog w = .ok #[x, y] w := run_loadCells_list (P := Try.prog) w ⟨k, 0, none⟩ [x, y] (fun j v hj => by
    have hadd : (⟨k, 0, none⟩ : Addr).add j = ⟨k, 0 + j, none⟩ := by unfold Addr.add; split <;> simp_all
    rw [hadd, Nat.zero_add]
    match j with
    | 0 => rw [c0]; exact hj
    | 1 => rw [c1]; exact hj
    | j + 2 => cases hj)
  obtain ⟨i0, hi, hz0, hz1, hz2⟩ := info_parts info_ch
  simp [loadVar, Sem.run_bind, hagg, sizeOf, typeInfo, hi, hz1, h2]
theorem res_chg {fn : Func} {tmps : Array Value} {k : Nat} {x y : Value} {w : World} (h1 : tmps.getD 4 undef = .pointer (some ⟨k, 0, none⟩)) (hB : Blk w k 57 [x, y]) (hf : fn.results = #[.cell 4 57]) : (results fn tmps).run Try.prog w = .ok (.agg #[x, y]) w := by
  have k1 : tmps[4]?.getD undef = .pointer (some ⟨k, 0, none⟩) := by simpa using h1
  simp [results, hf, k1, load_chg hB, asAddr, Sem.run_bind]
set_option maxHeartbeats 16000000 in
theorem imChangeTo_any (g b : Nat) (m : Im) (i : Nat) (w : World) (h : (im g b m).Ok w) (hw : m.Wf) (hi : i < 256) :
    Calls Try.prog 59 #[.pointer (some ⟨g, 0, none⟩), .int .i64 (i : Int)] w fun e w' => CgR (m.by i) i w e w' := by
  have HP : Hid _ := And.intro h hw
  have HI : Hid (I64 (i : Int)) := by unfold Hid I64; omega
  have bA : Below w.heap.size w (w.alloc (.cells #[.int .i64 0, .slice none 0 0] 57)) := (Below.refl _ _).alloc (Nat.le_refl _) _
  have BA : Blk (w.alloc (.cells #[.int .i64 0, .slice none 0 0] 57)) w.heap.size 57 [.int .i64 0, .slice none 0 0] := Blk.new' w _ _
  have zA : (w.alloc (.cells #[.int .i64 0, .slice none 0 0] 57)).heap.size = w.heap.size + 1 := by simp
  have hokA := h.later bA
  obtain ⟨-, c1⟩ := im_cells hokA
  have hlk := im_look_ok hokA HI.out
  have hl := hw.get_len (i : Int)
  have HA : Hid _ := And.intro BA (And.intro bA (And.intro zA (has_by m i hw)))
  have hhl : Hid _ := hl
  clear h hw hokA bA BA zA hl
  cases hh : m.has (i : Int) with
  | false =>
    rw [hh] at hlk
    have HH : Hid _ := hh
    clear hh
    have b1 : Below w.heap.size w (w.alloc (.cells #[.int .i64 (i : Int), .slice none 0 0] 57)) := (Below.refl _ _).alloc (Nat.le_refl _) _
    have b2 : Below (w.alloc (.cells #[.int .i64 (i : Int), .slice none 0 0] 57)).heap.size (w.alloc (.cells #[.int .i64 (i : Int), .slice none 0 0] 57)) ((w.alloc (.cells #[.int .i64 (i : Int), .slice none 0 0] 57)).alloc (.cells (vals (m.get (i : Int))).toArray 77)) := (Below.refl _ _).alloc (Nat.le_refl _) _
    have B2 : Blk ((w.alloc (.cells #[.int .i64 (i : Int), .slice none 0 0] 57)).alloc (.cells (vals (m.get (i : Int))).toArray 77)) w.heap.size 57 [.int .i64 (i : Int), .slice none 0 0] := (Blk.new' w 57 [.int .i64 (i : Int), .slice none 0 0]).laterB b2
    have F : Hid _ := And.intro (below_then b1 b2) B2
    clear b1 b2 B2
    go_enter Try.func59, Try.ntmps59
    go_wp2_with (first | (refine wpList_value rfl (exec_alloc rfl (alloc_blk _)) ?_) | (refine wpList_skip rfl (exec_store rfl rfl rfl (store_blk _ _ hhl.out)) ?_))
    refine bodyPost_ret (v := .agg #[.int .i64 (i : Int), .slice none 0 0]) (res_chg rfl F.out.2 rfl) rfl ?_
    rw [(HA.out.2.2.2.1 HH.out).1]
    exact ⟨_, rfl, Own.nil _ _, F.out.1⟩
  | true =>
    rw [hh] at hlk
    have HH : Hid _ := hh
    clear hh
    have R2 := row_new (w.alloc (.cells #[.int .i64 0, .slice none 0 0] 57)) (m.get (i : Int)) 77
    have b2 : Below (w.alloc (.cells #[.int .i64 0, .slice none 0 0] 57)).heap.size (w.alloc (.cells #[.int .i64 0, .slice none 0 0] 57)) ((w.alloc (.cells #[.int .i64 0, .slice none 0 0] 57)).alloc (.cells (vals (m.get (i : Int))).toArray 77)) := (Below.refl _ _).alloc (Nat.le_refl _) _
    rw [HA.out.2.2.1] at R2
    rw [(HA.out.2.2.2.2 HH.out).2] at R2
    have HR : Hid _ := And.intro R2 (And.intro b2 (HA.out.2.2.2.2 HH.out))
    clear R2 b2
    go_enter Try.func59, Try.ntmps59
    go_wp2_with (first | (refine wpList_value rfl (exec_alloc rfl (alloc_blk _)) ?_) | (refine wpList_skip rfl (exec_store rfl rfl rfl (store_blk _ _ hhl.out)) ?_))
    have HR2 : Hid _ := And.intro HR.out.1 (And.intro (HA.out.1.laterB HR.out.2.1) (below_then HA.out.2.1 HR.out.2.1))
    rw [HR.out.2.2.2] at *
    generalize hX : ((w.alloc (.cells #[.int .i64 0, .slice none 0 0] 57)).alloc (.cells (vals (m.by i)).toArray 77)) = X at *
    refine (Calls.mono (clone_any (some ⟨w.heap.size + 1, 0, none⟩) 64 64 (m.by i) X HR.out.2.2.1 (Nat.le_refl _) HR2.out.1 (fun h => by cases h) (by omega))) ?_
    rintro e w3 ⟨v, rfl, ho, b3⟩
    obtain ⟨va, vc, rfl, -⟩ := ho.open
    have B3 := HR2.out.2.1.laterB b3
    have bb3 := below_then HR2.out.2.2 b3
    have s0 := B3.cell (by simp [maxLen]) 0 (by simp)
    have s1 := B3.cell (by simp [maxLen]) 1 (by simp)
    have f0 := B3.frozen (by simp [maxLen]) 0
    have f1 := B3.frozen (by simp [maxLen]) 1
    simp only [List.getElem?_cons_zero, List.getElem?_cons_succ] at s0 s1
    have hlo := World.ownsRow.lt ho
    have hzX : w.heap.size ≤ X.heap.size := HR2.out.2.2.size
    have hX1 : w.heap.size < X.heap.size := HR2.out.2.1.lt
    have B4 := (B3.set 0 (.int .i64 (i : Int))).set 1 (.slice va (m.by i).length vc)
    simp only [List.set_cons_zero, List.set_cons_succ] at B4
    have g4 := grown_set w3 w.heap.size 0 (.int .i64 (i : Int))
    have g5 := grown_set (w3.setCell ⟨w.heap.size, 0, none⟩ (.int .i64 (i : Int))) w.heap.size 1 (.slice va (m.by i).length vc)
    have hne : (Value.slice va (m.by i).length vc).ownBlock ≠ some w.heap.size := fun e => by have := (hlo _ e).1; omega
    have ho5 := own_kept (own_kept ho g4 (fun q hq e => hne (by rw [hq, ← Option.some.inj e]))) g5 (fun q hq e => hne (by rw [hq, ← Option.some.inj e]))
    have bb5 := (bb3.grown g4 bb3.size (fun k e => by rw [← Option.some.inj e]; exact Nat.le_refl _)).grown g5 (Nat.le_trans bb3.size g4.size) (fun k e => by rw [← Option.some.inj e]; exact Nat.le_refl _)
    have F : Hid _ := And.intro B4 (And.intro (own_base ho5 hzX) bb5)
    clear B3 B4 ho ho5 bb5 g4 g5 bb3 b3 hlo hne HR HR2 hX1 hzX HA c1 hlk
    go_wp2
    refine bodyPost_ret (v := .agg #[.int .i64 (i : Int), .slice va (m.by i).length vc]) (res_chg rfl F.out.1 rfl) rfl ?_
    exact ⟨_, rfl, F.out.2.1, F.out.2.2⟩
end Go.Proofs.Ytmkacgdbmojomaa

/- extent: a block is read. -/
namespace Go.Proofs.Ytmkacgdbmojomaa
open Go.RowKit
set_option linter.unusedVariables false
set_option linter.unusedSimpArgs false
set_option maxRecDepth 8000

set_option maxHeartbeats 400000 in
theorem isShort_any (F : List Nat) (g : Nat) (L : List (BitVec 8)) (E : Int) (w : World) (hR : Rd w F g 116 L E) : Calls Try.prog 38 #[.pointer (some ⟨g, 0, none⟩)] w fun e w' => e = .returned (.bool (rdEnd L E == 10)) ∧ w = w' := by
  have H : Hid _ := End_any F g L E w hR
  clear hR
  go_enter Try.func38, Try.ntmps38
  go_wp2_with fail
  refine (Calls.mono H.out) ?_
  rintro e _ ⟨rfl, rfl⟩
  go_wp2
  go_ret
  exact ⟨rfl, rfl⟩
/-- the reader behind j words -/
def rw8 (L : List (BitVec 8)) (E : Int) : Nat → List (BitVec 8) × Int
  | 0 => (L, E)
  | j + 1 => ((rdNum (rw8 L E j).1 (rw8 L E j).2 8).1, (rdNum (rw8 L E j).1 (rw8 L E j).2 8).2.1)
theorem rd8_yes (L : List (BitVec 8)) (h : 8 ≤ L.length) : rdNum L 0 8 = (L.drop 8, 0, wrap64 ((num (L.take 8)).toNat : Int)) := by
  have hw : widthB 8 = true := by decide
  have hn : numE L.length 8 = 0 := by unfold numE; rw [hw, if_neg (by decide), if_neg (by omega)]
  unfold rdNum
  rw [if_pos rfl, if_pos hn]
  rfl
theorem rd8_no (L : List (BitVec 8)) (h : L.length < 8) : rdNum L 0 8 = ([], 10, 0) := by
  have hw : widthB 8 = true := by decide
  have hn : numE L.length 8 = 10 := by unfold numE; rw [hw, if_neg (by decide), if_pos (by omega)]
  unfold rdNum
  rw [if_pos rfl, hn, if_neg (by decide)]
theorem rd8_bad (L : List (BitVec 8)) (E : Int) (h : E ≠ 0) : rdNum L E 8 = ([], E, 0) := by unfold rdNum; rw [if_neg h]
theorem rw8_ok (L : List (BitVec 8)) (j : Nat) (h : 8 * j ≤ L.length) : rw8 L 0 j = (L.drop (8 * j), 0) := by
  induction j with
  | zero => rfl
  | succ j ih =>
    have := ih (by omega)
    unfold rw8
    rw [this, rd8_yes _ (by rw [List.length_drop]; omega), List.drop_drop]
    rfl
theorem rw8_err (L : List (BitVec 8)) (E : Int) (hE : E ≠ 0) (j : Nat) : (rw8 L E j).2 = E := by
  induction j with
  | zero => rfl
  | succ j ih =>
    unfold rw8
    rw [rd8_bad _ _ (by rw [ih]; exact hE)]
    exact ih
theorem rw8_short (L : List (BitVec 8)) (j : Nat) (h : L.length < 8 * j) : (rw8 L 0 j).2 = 10 := by
  induction j with
  | zero => omega
  | succ j ih =>
    by_cases h1 : L.length < 8 * j
    · have := ih h1
      unfold rw8
      rw [rd8_bad _ _ (by rw [this]; decide)]
      exact this
    · unfold rw8
      rw [rw8_ok L j (by omega), rd8_no _ (by rw [List.length_drop]; omega)]
/-- the word's bytes laid into the block, i of them -/
def ins8 (bl : List (BitVec 8)) (p : Nat) (X : List (BitVec 8)) (i : Nat) : List (BitVec 8) := bl.take p ++ X.take i ++ bl.drop (p + i)
theorem ins8_zero (bl : List (BitVec 8)) (p : Nat) (X : List (BitVec 8)) : ins8 bl p X 0 = bl := by unfold ins8; simp
theorem ins8_len {bl : List (BitVec 8)} {p : Nat} {X : List (BitVec 8)} {i : Nat} (hX : i ≤ X.length) (hp : p + i ≤ bl.length) : (ins8 bl p X i).length = bl.length := by
  unfold ins8; rw [List.length_append, List.length_append, List.length_take, List.length_take, List.length_drop]; omega
theorem ins8_set {bl : List (BitVec 8)} {p : Nat} {X : List (BitVec 8)} {i : Nat} (hX : i < X.length) (hp : p + i < bl.length) : (vals (ins8 bl p X i)).set (p + i) (.int .u8 (X[i].toNat : Int)) = vals (ins8 bl p X (i + 1)) := by
  have hA : (bl.take p ++ X.take i).length = p + i := by rw [List.length_append, List.length_take, List.length_take]; omega
  unfold ins8 vals
  rw [List.map_append, List.map_append (l₁ := bl.take p ++ X.take (i + 1)), List.set_append_right _ _ (by rw [List.length_map, hA]; exact Nat.le_refl _), List.length_map, hA, Nat.sub_self]
  rw [← List.take_append_getElem hX, ← List.append_assoc, List.map_append (l₁ := bl.take p ++ X.take i), List.append_assoc]
  congr 1
  rw [List.drop_eq_getElem_cons hp, List.map_cons, List.set_cons_zero, Nat.add_assoc]
  rfl
theorem splice_consF {α : Type} (xs : List α) (o : Nat) (v : α) (r : List α) (h : o + 1 + r.length ≤ xs.length) : splice (xs.set o v) (o + 1) r = splice xs o (v :: r) := by
  unfold splice
  have e1 : (xs.set o v).take (o + 1) = xs.take o ++ [v] := by
    rw [List.take_succ_eq_append_getElem (by simp; omega), List.take_set_of_le (Nat.le_refl _)]
    simp
  have e2 : (xs.set o v).drop (o + 1 + r.length) = xs.drop (o + (v :: r).length) := by
    rw [List.drop_set, if_pos (by omega)]
    congr 1
    simp; omega
  rw [e1, e2]
  simp
theorem Blk.setCellsF {g : Nat} {t : TypeId} : ∀ (vs : List Value) (o : Nat) (w : World) (xs : List Value), Blk w g t xs → o + vs.length ≤ xs.length → Blk (w.setCells g o vs) g t (splice xs o vs) ∧ w.grownBy (w.setCells g o vs) (some g)
  | [], o, w, xs, h, hl => ⟨by simpa [World.setCells, splice] using h, ⟨rfl, rfl, rfl, Nat.le_refl _, fun _ _ _ => rfl⟩⟩
  | v :: r, o, w, xs, h, hl => by
    have hl' : o + 1 + r.length ≤ xs.length := by simp at hl; omega
    obtain ⟨h1, h2⟩ := Blk.setCellsF r (o + 1) (w.setCell ⟨g, o, none⟩ v) (xs.set o v) (h.set o v) (by rw [List.length_set]; exact hl')
    rw [splice_consF xs o v r hl'] at h1
    exact ⟨h1, grown_trans (grown_set w g o v) h2⟩

theorem turned_one {w w' : World} {g : Nat} (h : Turned (fun k => k = g) w w') : w.grownBy w' (some g) := ⟨h.os, h.tape, h.output, h.size, fun k hk hn => h.block k hk (fun e => hn (by rw [e]))⟩
theorem storeBlk {w : World} {g : Nat} {xs : List Value} {l : List (BitVec 8)} (hB : Blk w g 77 xs) (hx : xs.length = 64) (hl : l.length = 64) :
    ∃ w', (Instr.storeAt 77 (.pointer (some ⟨g, 0, none⟩)) (arrV l)).run Try.prog w = .ok () w' ∧ Blk w' g 77 (vals l) ∧ w.grownBy w' (some g) := by
  have h := run_storeCells_cells (P := Try.prog) g 0 (vals l) 0 w (fun j hj => by
    rw [vals_length] at hj
    rw [Nat.zero_add, hB.cell (by rw [hx]; simp [maxLen]) j (by omega), List.getElem?_eq_getElem (by omega)]; rfl) (fun j hj => hB.frozen (by rw [hx]; simp [maxLen]) _) (by intro u hu; unfold vals at hu; obtain ⟨c, -, rfl⟩ := List.mem_map.1 hu; rfl)
  obtain ⟨i, hi, hz⟩ := Option.map_eq_some_iff.1 size_blk
  obtain ⟨h2, h3⟩ := Blk.setCellsF (vals l) 0 w xs hB (by rw [vals_length]; omega)
  have e : splice xs 0 (vals l) = vals l := by unfold splice; simp [hx, vals_length, hl]
  rw [e] at h2
  refine ⟨w.setCells g 0 (vals l), ?_, h2, h3⟩
  simp [Instr.storeAt, Instr.sureAddr, storeVar, Sem.run_bind, sizeOf, typeInfo, hi, hz, Value.cells, arrV, h, vals_length, hl]
theorem load_blkV {w : World} {y : Nat} {l : List (BitVec 8)} (hB : Blk w y 77 (vals l)) (hl : l.length = 64) : (loadVar 77 ⟨y, 0, none⟩).run Try.prog w = .ok (arrV l) w := by
  have h := load_blk (blk_row hB) hl
  simpa [Instr.loadAt, Instr.sureAddr, Sem.run_bind] using h
theorem res_blk {fn : Func} {tmps : Array Value} {k : Nat} {l : List (BitVec 8)} {w : World} (h1 : tmps.getD 2 undef = .pointer (some ⟨k, 0, none⟩)) (hB : Blk w k 77 (vals l)) (hl : l.length = 64) (hf : fn.results = #[.cell 2 77]) : (results fn tmps).run Try.prog w = .ok (arrV l) w := by
  have k1 : tmps[2]?.getD undef = .pointer (some ⟨k, 0, none⟩) := by simpa using h1
  simp [results, hf, k1, load_blkV hB hl, asAddr, Sem.run_bind]
theorem be8_byte (x : BitVec 64) (i : Nat) (hi : i < 8) : ((be 8 x)[i]'(by rw [be_length 8 x (by omega)]; exact hi)).toNat = x.toNat / 2 ^ (8 * (7 - i)) % 256 := by
  have h : i = 0 ∨ i = 1 ∨ i = 2 ∨ i = 3 ∨ i = 4 ∨ i = 5 ∨ i = 6 ∨ i = 7 := by omega
  rcases h with rfl | rfl | rfl | rfl | rfl | rfl | rfl | rfl <;> simp [be, be8, BitVec.toNat_setWidth, BitVec.toNat_ushiftRight, Nat.shiftRight_eq_div_pow]
theorem val8 (v : Int) (i : Nat) (hi : i < 8) : (max (v % 18446744073709551616) 0 / 2 ^ (8 * (7 - i)) % 256 : Int) = (((be 8 (BitVec.ofInt 64 v))[i]'(by rw [be_length 8 _ (by omega)]; exact hi)).toNat : Int) := by
  rw [be8_byte _ i hi]
  have e : max (v % 18446744073709551616) 0 = ((BitVec.ofInt 64 v).toNat : Int) := by
    rw [BitVec.toNat_ofInt]
    omega
  rw [e]
  simp
def RbR (F : List Nat) (g : Nat) (L : List (BitVec 8)) (E : Int) (w : World) (e : Ending) (w' : World) : Prop :=
  ∃ bl, bl.length = 64 ∧ e = .returned (arrV bl) ∧ (E = 0 → 64 ≤ L.length → bl = L.take 64) ∧ Rd w' F g 116 (rw8 L E 8).1 (rw8 L E 8).2 ∧ w.grownBy w' (some g)
set_option maxHeartbeats 16000000 in
theorem readBlock_any (F : List Nat) (g : Nat) (L : List (BitVec 8)) (E : Int) (w : World) (hR : Rd w F g 116 L E) : Calls Try.prog 73 #[.pointer (some ⟨g, 0, none⟩)] w fun e w' => RbR F g L E w e w' := by
  have hgl := hR.blt
  have b1 : Below w.heap.size w (w.alloc (.cells (vals zero64).toArray 77)) := (Below.refl _ _).alloc (Nat.le_refl _) _
  have b2 : Below (w.alloc (.cells (vals zero64).toArray 77)).heap.size (w.alloc (.cells (vals zero64).toArray 77)) ((w.alloc (.cells (vals zero64).toArray 77)).alloc (.cells (vals zero64).toArray 77)) := (Below.refl _ _).alloc (Nat.le_refl _) _
  have z1 : (w.alloc (.cells (vals zero64).toArray 77)).heap.size = w.heap.size + 1 := by simp
  have B1 : Blk ((w.alloc (.cells (vals zero64).toArray 77)).alloc (.cells (vals zero64).toArray 77)) w.heap.size 77 (vals zero64) := (Blk.new' w _ _).laterB b2
  have B2 : Blk ((w.alloc (.cells (vals zero64).toArray 77)).alloc (.cells (vals zero64).toArray 77)) (w.heap.size + 1) 77 (vals zero64) := by have := Blk.new' (w.alloc (.cells (vals zero64).toArray 77)) 77 (vals zero64); rw [z1] at this; exact this
  have R2 : Rd ((w.alloc (.cells (vals zero64).toArray 77)).alloc (.cells (vals zero64).toArray 77)) (w.heap.size :: (w.heap.size + 1) :: F) g 116 L E := ((hR.more (w.heap.size + 1) (by omega)).more w.heap.size (Nat.le_refl _)).later (below_then b1 b2)
  have t2 : Turned (fun k => k = g) w ((w.alloc (.cells (vals zero64).toArray 77)).alloc (.cells (vals zero64).toArray 77)) := (turned_below (below_then b1 b2)).mono (fun _ h => h.elim)
  have H2 : Hid _ := And.intro B1 (And.intro B2 (And.intro R2 t2))
  clear b1 b2 z1 B1 B2 R2 t2 hR
  go_enter Try.func73, Try.ntmps73
  go_wp2_with (first | (refine wpList_value rfl (exec_alloc rfl (alloc_blk _)) ?_))
  generalize ((w.alloc (.cells (vals zero64).toArray 77)).alloc (.cells (vals zero64).toArray 77)) = w2 at *
  go_loopw [4] (fun av wr => ∃ (j : Nat) (bl : List (BitVec 8)), j ≤ 8 ∧ av = .int .i64 ((8 * j : Nat) : Int) ∧ bl.length = 64 ∧ Blk wr w.heap.size 77 (vals zero64) ∧ Blk wr (w.heap.size + 1) 77 (vals bl) ∧ Rd wr (w.heap.size :: (w.heap.size + 1) :: F) g 116 (rw8 L E j).1 (rw8 L E j).2 ∧ Turned (fun k => k = g) w wr ∧ (E = 0 → 8 * j ≤ L.length → bl.take (8 * j) = L.take (8 * j))) (fun av _ => 64 - (intOf av).toNat)
  case atStart => exact ⟨0, zero64, by omega, rfl, by simp [zero64], H2.out.1, H2.out.2.1, H2.out.2.2.1, H2.out.2.2.2, fun _ _ => rfl⟩
  case round =>
    obtain ⟨j, bl, hj, rfl, hbl, hB1, hB2, hRd, hT, hC⟩ := hrel
    by_cases hlt : j < 8
    · have q1 : ((8 * j : Nat) : Int) < 64 := by omega
      have N := Num_any (w.heap.size :: (w.heap.size + 1) :: F) g (rw8 L E j).1 (rw8 L E j).2 8 wr hRd
      have hXc : E = 0 → 8 * (j + 1) ≤ L.length → be 8 (BitVec.ofInt 64 (rdNum (rw8 L E j).1 (rw8 L E j).2 8).2.2) = (L.drop (8 * j)).take 8 := by
        intro h0 h1
        subst h0
        rw [rw8_ok L j (by omega), rd8_yes _ (by rw [List.length_drop]; omega)]
        simp only
        rw [ofInt_wrap]
        exact be_num 8 _ (by rw [List.length_take, List.length_drop]; omega) (by omega)
      have e1 : (rdNum (rw8 L E j).1 (rw8 L E j).2 8).1 = (rw8 L E (j + 1)).1 := rfl
      have e2 : (rdNum (rw8 L E j).1 (rw8 L E j).2 8).2.1 = (rw8 L E (j + 1)).2 := rfl
      rw [e1, e2] at N
      generalize (rdNum (rw8 L E j).1 (rw8 L E j).2 8).2.2 = v at *
      have HN : Hid _ := N
      have HC : Hid _ := And.intro hXc (And.intro hC hbl)
      have HB : Hid _ := And.intro hB1 (And.intro hB2 hT)
      clear N e1 e2 hXc hC hB1 hB2 hT hRd
      go_wp2_with fail
      refine (Calls.mono HN.out) ?_
      rintro e w5 ⟨rfl, R5, g5⟩
      clear HN
      have h5 : g ≠ w.heap.size ∧ g ≠ w.heap.size + 1 := by omega
      have H5 : Hid _ := And.intro (blk_grown HB.out.1 g5 (fun e => h5.1 (Option.some.inj e))) (And.intro (blk_grown HB.out.2.1 g5 (fun e => h5.2 (Option.some.inj e))) (And.intro R5 (HB.out.2.2.trans (turned_grown (R := fun k => k = g ∨ w.heap.size ≤ k) g5 (fun k e => .inl (Option.some.inj e).symm)))))
      clear R5 g5 HB
      have hu : IntKind.u64.wrap v = ((BitVec.ofInt 64 v).toNat : Int) := by rw [BitVec.toNat_ofInt]; unfold IntKind.wrap; simp [IntKind.signed, IntKind.bits]; try omega
      go_wp2_with fail
      go_loopw [14] (fun iv wx => ∃ i : Nat, i ≤ 8 ∧ iv = .int .i64 i ∧ Blk wx w.heap.size 77 (vals zero64) ∧ Blk wx (w.heap.size + 1) 77 (vals (ins8 bl (8 * j) (be 8 (BitVec.ofInt 64 v)) i)) ∧ Rd wx (w.heap.size :: (w.heap.size + 1) :: F) g 116 (rw8 L E (j + 1)).1 (rw8 L E (j + 1)).2 ∧ Turned (fun k => k = g) w wx) (fun iv _ => 8 - (intOf iv).toNat)
      case atStart => exact ⟨0, by omega, rfl, H5.out.1, by rw [ins8_zero]; exact H5.out.2.1, H5.out.2.2.1, H5.out.2.2.2⟩
      case round =>
        obtain ⟨i, hi, rfl, hB1, hB2, hRd, hT⟩ := hrel
        by_cases hil : i < 8
        · have q9 : (i : Int) < 8 := by omega
          have hX : (be 8 (BitVec.ofInt 64 v)).length = 8 := be_length 8 _ (by omega)
          have hil2 : (ins8 bl (8 * j) (be 8 (BitVec.ofInt 64 v)) i).length = 64 := by rw [ins8_len (by omega) (by omega)]; exact hbl
          have y0 := hB2.cell (by rw [vals_length, hil2]; simp [maxLen]) (8 * j + i) (by rw [vals_length, hil2]; omega)
          obtain ⟨old, hold⟩ : ∃ old, (vals (ins8 bl (8 * j) (be 8 (BitVec.ofInt 64 v)) i))[8 * j + i]? = some old := ⟨_, List.getElem?_eq_getElem (by rw [vals_length, hil2]; omega)⟩
          rw [hold] at y0
          have f0 := hB2.frozen (by rw [vals_length, hil2]; simp [maxLen]) (8 * j + i)
          have g9 := grown_set wr (w.heap.size + 1) (8 * j + i) (.int .u8 (max (v % 18446744073709551616) 0 / 2 ^ (8 * (7 - i)) % 256))
          have B2' := hB2.set (8 * j + i) (.int .u8 (max (v % 18446744073709551616) 0 / 2 ^ (8 * (7 - i)) % 256))
          rw [show (vals (ins8 bl (8 * j) (be 8 (BitVec.ofInt 64 v)) i)).set (8 * j + i) (.int .u8 (max (v % 18446744073709551616) 0 / 2 ^ (8 * (7 - i)) % 256)) = vals (ins8 bl (8 * j) (be 8 (BitVec.ofInt 64 v)) (i + 1)) by rw [val8 v i hil]; exact ins8_set (by omega) (by omega)] at B2'
          have HW : Hid _ := And.intro (blk_grown hB1 g9 (fun e => by have := Option.some.inj e; omega)) (And.intro B2' (And.intro (hRd.keep g9 (fun k e => ⟨by have := Option.some.inj e; omega, .inl (by rw [← Option.some.inj e]; simp)⟩)) (hT.trans (turned_grown (R := fun k => k = g ∨ w.heap.size ≤ k) g9 (fun k e => .inr (by have := Option.some.inj e; omega))))))
          have hjI : (j : Int) < 8 := by omega
          clear hB1 hB2 hRd hT g9 B2' hold hX hil2
          go_wp2
          go_roundw
          case rel => exact ⟨i + 1, by omega, by go_num, HW.out.1, HW.out.2.1, HW.out.2.2.1, HW.out.2.2.2⟩
          case measure => simp [intOf]; omega
        · obtain rfl : i = 8 := by omega
          have hX : (be 8 (BitVec.ofInt 64 v)).length = 8 := be_length 8 _ (by omega)
          have hcc : E = 0 → 8 * (j + 1) ≤ L.length → (ins8 bl (8 * j) (be 8 (BitVec.ofInt 64 v)) 8).take (8 * (j + 1)) = L.take (8 * (j + 1)) := by
            intro h0 h1
            have k1 := HC.out.1 h0 h1
            have k2 := HC.out.2.1 h0 (by omega)
            unfold ins8
            rw [List.take_append_of_le_length (by rw [List.length_append, List.length_take, List.length_take]; omega), List.take_of_length_le (by rw [List.length_append, List.length_take, List.length_take]; omega), List.take_of_length_le (l := (be 8 (BitVec.ofInt 64 v))) (by omega), k1, k2, show 8 * (j + 1) = 8 * j + 8 by omega, List.take_add]
          have HW : Hid _ := And.intro hB1 (And.intro hB2 (And.intro hRd (And.intro hT (And.intro hcc (show (ins8 bl (8 * j) (be 8 (BitVec.ofInt 64 v)) 8).length = 64 by rw [ins8_len (by omega) (by omega)]; exact hbl)))))
          clear hB1 hB2 hRd hT hcc hX
          go_wp2
          go_roundw
          case rel => exact ⟨j + 1, _, by omega, by go_num, HW.out.2.2.2.2.2, HW.out.1, HW.out.2.1, HW.out.2.2.1, HW.out.2.2.2.1, HW.out.2.2.2.2.1⟩
          case measure => simp [intOf]; omega
    · obtain rfl : j = 8 := by omega
      have q1 : ¬ (((8 * 8 : Nat) : Int) < 64) := by omega
      obtain ⟨w9, hst, B9, g9⟩ := storeBlk (l := bl) hB1 (by rw [vals_length]; simp [zero64]) hbl
      have hld := load_blk (blk_row hB2) hbl
      have hc9 := fun h0 (h1 : 64 ≤ L.length) => by have := hC h0 (by omega); rwa [List.take_of_length_le (l := bl) (by omega)] at this
      have F : Hid _ := And.intro B9 (And.intro hbl (And.intro hc9 (And.intro ((hRd.keep g9 (fun k e => ⟨by have := Option.some.inj e; omega, .inl (by rw [← Option.some.inj e]; simp)⟩)).less (F' := F) (fun k hk => List.mem_cons_of_mem _ (List.mem_cons_of_mem _ hk))) (hT.trans (turned_grown (R := fun k => k = g ∨ w.heap.size ≤ k) g9 (fun k e => .inr (by have := Option.some.inj e; omega)))))))
      clear B9 g9 hRd hT hC hc9 hB1 hB2 hj hlt
      go_wp2_with (first | (refine wpList_value rfl (exec_load rfl rfl hld) ?_) | (refine wpList_skip rfl (exec_store rfl rfl rfl hst) ?_))
      refine bodyPost_ret (v := arrV bl) (res_blk rfl F.out.1 F.out.2.1 rfl) rfl ?_
      exact ⟨bl, F.out.2.1, rfl, F.out.2.2.1, F.out.2.2.2.1, turned_one F.out.2.2.2.2⟩
end Go.Proofs.Ytmkacgdbmojomaa
