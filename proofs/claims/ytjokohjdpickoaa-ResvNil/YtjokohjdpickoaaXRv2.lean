/- What turns a state: a key that is taken away, a reservation that ends; the keys as an array. -/
import Derived.Test.YtjokohjdpickoaaXRv1
namespace Go.Proofs.Ytjokohjdpickoaa
open Go.RowKit Go.Shelf
set_option linter.unusedVariables false
set_option linter.unusedSimpArgs false
set_option maxRecDepth 4000

theorem tndr {R : Nat → Prop} {w w' : World} (h : Below w.heap.size w w') : Turned R w w' := (turned_below h).mono (fun _ h => h.elim)
theorem rsC_key (m : Rs) (hf : m.f.length = 16) (i : Nat) (x : Int) : (rsC m).set (19 + i) (.int .u64 x) = rsC { m with ks := m.ks.set i x } := by
  unfold rsC
  rw [show 19 + i = (16 + i) + 1 + 1 + 1 by omega]
  simp only [List.set_cons_succ]
  rw [List.set_append_right _ _ (by rw [List.length_map, hf]; omega), List.length_map, hf, Nat.add_sub_cancel_left, List.map_set]
theorem rsC_flag (m : Rs) (hf : m.f.length = 16) (i : Nat) (hi : i < 16) (b : Bool) : (rsC m).set (3 + i) (.bool b) = rsC { m with f := m.f.set i b } := by
  unfold rsC
  rw [show 3 + i = i + 1 + 1 + 1 by omega]
  simp only [List.set_cons_succ]
  rw [List.set_append_left _ _ (by rw [List.length_map, hf]; exact hi), List.map_set]
def away (m : Rs) (i : Nat) : Rs := { m with ks := m.ks.set i 0, f := m.f.set i true }
def give (m : Rs) (i : Nat) (x : Int) : Rs := { m with ks := m.ks.set i x, f := m.f.set i false }
def hold (m : Rs) (h k : Int) : Rs := { m with h := h, k := k }
def bump (m : Rs) : Rs := { m with gen := (m.gen + 1) % 4294967296 }
theorem getD_set (l : List Int) (i : Nat) (x : Int) (j : Nat) : (l.set i x).getD j 0 = if i = j ∧ i < l.length then x else l.getD j 0 := by
  rw [List.getD, List.getD, List.getElem?_set]
  by_cases h : i = j
  · subst h
    by_cases h2 : i < l.length
    · simp [h2]
    · simp [h2, List.getElem?_eq_none (Nat.le_of_not_lt h2)]
  · simp [h]
theorem set_wf {m : Rs} (h : m.Wf) (i : Nat) (x : Int) (hx : 0 ≤ x ∧ x < 18446744073709551616) (b : Bool) : Rs.Wf { m with ks := m.ks.set i x, f := m.f.set i b } :=
  ⟨by rw [List.length_set]; exact h.fl, by rw [List.length_set]; exact h.kl, h.hh, h.kk, h.gg, fun j => by
    show 0 ≤ (m.ks.set i x).getD j 0 ∧ (m.ks.set i x).getD j 0 < _
    rw [getD_set]; split
    · exact hx
    · exact h.each j⟩
theorem away_wf {m : Rs} (h : m.Wf) (i : Nat) : (away m i).Wf := set_wf h i 0 (by omega) true
theorem give_wf {m : Rs} (h : m.Wf) (i : Nat) (x : Int) (hx : 0 ≤ x ∧ x < 18446744073709551616) : (give m i x).Wf := set_wf h i x hx false
theorem hold_wf {m : Rs} (h : m.Wf) (n k : Int) (hn : 0 ≤ n ∧ n < 16) (hk : 0 ≤ k ∧ k ≤ 8) : (hold m n k).Wf := ⟨h.fl, h.kl, hn, hk, h.gg, h.each⟩
theorem bump_wf {m : Rs} (h : m.Wf) : (bump m).Wf := ⟨h.fl, h.kl, h.hh, h.kk, by show 0 ≤ (m.gen + 1) % 4294967296 ∧ (m.gen + 1) % 4294967296 < 4294967296; omega, h.each⟩
theorem rv_step {w w' : World} {g : Nat} {m m' : Rs} (ht : Turned (fun k => k = g) w w') (hB : Blk w' g 63 (rsC m')) (hw : m'.Wf) : Step w w' (rv g m) (rv g m') :=
  ⟨ht.mono (fun k e => by simp [rv, e]), rv_ok hB hw, fun k hk => .inl hk, (fun k hk => by cases hk)⟩
set_option maxHeartbeats 2000000 in
theorem takeKey_any (g : Nat) (m : Rs) (i : Nat) (w : World) (h : (rv g m).Ok w) (hi : i < 16) : Calls Try.prog 52 #[.pointer (some ⟨g, 0, none⟩), .int .i64 i] w fun e w' => e = .returned (.tuple #[]) ∧ Step w w' (rv g m) (rv g (away m i)) := by
  obtain ⟨hB, hW⟩ := h.holds
  have q : (i : Int) < 16 := by omega
  clear h
  go_enter Try.func52, Try.ntmps52
  refine wp_region_held_drew (S := fun W => Turned (fun k => k = g) w W) (by kernel_rfl) (tndr (Below.refl _ _).drew) (fun hS => ?_)
  refine any_take (i := 0) (v := ?_) rfl (by kernel_rfl) (by kernel_rfl) (by kernel_rfl) (by exact fun _ _ _ h => h) (by rfl) ?_ hS ?_
  rotate_left
  · ((intro w hSw; (try dsimp only at hSw); go_simp) <;> with_reducible rfl)
  (try simp only [Act.put, List.setIfInBounds_toArray, List.set_cons_zero, List.set_cons_succ])
  refine any_take (i := 1) (v := ?_) rfl (by kernel_rfl) (by kernel_rfl) (by kernel_rfl) (by exact fun _ _ _ h => h) (by rfl) ?_ hS ?_
  rotate_left
  · ((intro w hSw; (try dsimp only at hSw); go_simp) <;> with_reducible rfl)
  (try simp only [Act.put, List.setIfInBounds_toArray, List.set_cons_zero, List.set_cons_succ])
  refine any_take (i := 2) (v := ?_) rfl (by kernel_rfl) (by kernel_rfl) (by kernel_rfl) (by exact fun _ _ _ h => h) (by rfl) ?_ hS ?_
  rotate_left
  · ((intro w hSw; (try dsimp only at hSw); go_simp) <;> with_reducible rfl)
  (try simp only [Act.put, List.setIfInBounds_toArray, List.set_cons_zero, List.set_cons_succ])
  refine any_take (i := 3) (v := ?_) rfl (by kernel_rfl) (by kernel_rfl) (by kernel_rfl) (by exact fun _ _ _ h => h) (by rfl) ?_ hS ?_
  rotate_left
  · ((intro w hSw; (try dsimp only at hSw); go_simp) <;> with_reducible rfl)
  (try simp only [Act.put, List.setIfInBounds_toArray, List.set_cons_zero, List.set_cons_succ])
  refine any_take (i := 4) (v := ?_) rfl (by kernel_rfl) (by kernel_rfl) (by kernel_rfl) (by exact fun _ _ _ h => h) (by rfl) ?_ hS ?_
  rotate_left
  · ((intro w hSw; (try dsimp only at hSw); go_simp) <;> with_reducible rfl)
  (try simp only [Act.put, List.setIfInBounds_toArray, List.set_cons_zero, List.set_cons_succ])
  refine any_take (i := 5) (v := ?_) rfl (by kernel_rfl) (by kernel_rfl) (by kernel_rfl) (by exact fun _ _ _ h => h) (by rfl) ?_ hS ?_
  rotate_left
  · ((intro w hSw; (try dsimp only at hSw); go_simp) <;> with_reducible rfl)
  (try simp only [Act.put, List.setIfInBounds_toArray, List.set_cons_zero, List.set_cons_succ])
  refine any_take (i := 6) (v := ?_) rfl (by kernel_rfl) (by kernel_rfl) (by kernel_rfl) (by exact fun _ _ _ h => h) (by rfl) ?_ hS ?_
  rotate_left
  · ((intro w hSw; (try dsimp only at hSw); go_simp) <;> with_reducible rfl)
  (try simp only [Act.put, List.setIfInBounds_toArray, List.set_cons_zero, List.set_cons_succ])
  refine any_take (i := 8) (v := ?_) rfl (by kernel_rfl) (by kernel_rfl) (by kernel_rfl) (by exact fun _ _ _ h => h) (by rfl) ?_ hS ?_
  rotate_left
  · ((intro w hSw; (try dsimp only at hSw); go_simp) <;> with_reducible rfl)
  (try simp only [Act.put, List.setIfInBounds_toArray, List.set_cons_zero, List.set_cons_succ])
  refine any_take (i := 9) (v := ?_) rfl (by kernel_rfl) (by kernel_rfl) (by kernel_rfl) (by exact fun _ _ _ h => h) (by rfl) ?_ hS ?_
  rotate_left
  · ((intro w hSw; (try dsimp only at hSw); go_simp) <;> with_reducible rfl)
  (try simp only [Act.put, List.setIfInBounds_toArray, List.set_cons_zero, List.set_cons_succ])
  have B0 : Blk w.drew g 63 (rsC m) := hB.laterB (Below.refl _ _).drew
  generalize w.drew = W0 at *
  have hc := hW.key B0 i hi
  have hz := blk_frozen B0 (19 + i)
  refine any_on (i := 7) rfl (by kernel_rfl) (fun K hK => ?_)
  go_simp
  have B1 := B0.set (19 + i) (.int .u64 0)
  rw [rsC_key m hW.fl] at B1
  clear hc hz
  refine hK.out _ _ (hS.trans ((turned_set _ g (19 + i) _).mono (fun k e => .inl e))) (fun hS => ?_)
  clear hK K
  refine any_take (i := 10) (v := ?_) rfl (by kernel_rfl) (by kernel_rfl) (by kernel_rfl) (by exact fun _ _ _ h => h) (by rfl) ?_ hS ?_
  rotate_left
  · ((intro w hSw; (try dsimp only at hSw); go_simp) <;> with_reducible rfl)
  (try simp only [Act.put, List.setIfInBounds_toArray, List.set_cons_zero, List.set_cons_succ])
  have hc := Rs.Wf.flag (m := { m with ks := m.ks.set i 0 }) ⟨hW.fl, by rw [List.length_set]; exact hW.kl, hW.hh, hW.kk, hW.gg, (away_wf hW i).each⟩ B1 i hi
  have hz := blk_frozen B1 (3 + i)
  refine any_on (i := 11) rfl (by kernel_rfl) (fun K hK => ?_)
  go_simp
  have B2 := B1.set (3 + i) (.bool true)
  rw [rsC_flag { m with ks := m.ks.set i 0 } hW.fl i hi] at B2
  clear hc hz
  refine hK.out _ _ (hS.trans ((turned_set _ g (3 + i) _).mono (fun k e => .inl e))) (fun hS => ?_)
  clear hK K
  refine wpAnyH_done (by kernel_rfl) ?_ _
  have F : Hid _ := rv_step (m := m) hS B2 (away_wf hW i)
  clear hS B0 B1 B2 hB
  go_wp2
  go_end0
  exact ⟨rfl, F.out⟩
set_option maxHeartbeats 2000000 in
theorem end_any (g : Nat) (m : Rs) (w : World) (h : (rv g m).Ok w) : Calls Try.prog 50 #[.pointer (some ⟨g, 0, none⟩)] w fun e w' => e = .returned (.tuple #[]) ∧ Step w w' (rv g m) (rv g (hold m 0 0)) := by
  obtain ⟨hB, hW⟩ := h.holds
  have y1 := blk_at hB 1
  have y2 := blk_at hB 2
  have z1 := blk_frozen hB 1
  have z2 := blk_frozen hB 2
  simp only [rsC, List.getElem?_cons_zero, List.getElem?_cons_succ] at y1 y2
  have B2 := (hB.set 1 (.int .i64 0)).set 2 (.int .i64 0)
  simp only [rsC, List.set_cons_zero, List.set_cons_succ] at B2
  have hT : Turned (fun k => k = g) w ((w.setCell ⟨g, 1, none⟩ (.int .i64 0)).setCell ⟨g, 2, none⟩ (.int .i64 0)) := (turned_set w g 1 _).trans ((turned_set _ g 2 _).mono (fun k e => .inl e))
  have F : Hid _ := rv_step (m := m) (m' := hold m 0 0) hT B2 (hold_wf hW 0 0 (by omega) (by omega))
  clear h hB B2 hT
  go_enter Try.func50, Try.ntmps50
  go_wp2
  go_end0
  exact ⟨rfl, F.out⟩
end Go.Proofs.Ytjokohjdpickoaa

