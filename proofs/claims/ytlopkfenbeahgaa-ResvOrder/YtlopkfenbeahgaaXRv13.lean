/- takeOver. -/
import Derived.Test.YtlopkfenbeahgaaXRv12
namespace Go.Proofs.Ytlopkfenbeahgaa
open Go.RowKit Go.Shelf
set_option linter.unusedVariables false
set_option linter.unusedSimpArgs false
set_option maxRecDepth 4000

def tovM (m : Rs) (i : Nat) (c : Cm) : Rs × List (Int × Int) :=
  let P := tkF (i : Int) c.nw (m, z16) (regsL m.ks 16)
  (bump (hold P.1 i c.t), ntL (if (m.k == c.t && hoB m i) = true then P.2 else tellF (i : Int) 4 P.2 (regsL P.1.ks 16)) 16)
set_option maxHeartbeats 8000000 in
theorem takeOver_any (g : Nat) (m : Rs) (i : Nat) (c : Cm) (w : World) (h : (rv g m).Ok w) (hi : i < 16) (hct : 0 ≤ c.t ∧ c.t ≤ 8) : Calls Try.prog 51 #[.pointer (some ⟨g, 0, none⟩), .int .i64 i, .agg #[.int .i64 c.a, .int .u64 c.key, .int .u64 c.nw, .int .i64 c.t]] w fun e w' => ∃ v, e = .returned v ∧ Nts w w' v (tovM m i c).2 ∧ RT w w' g (tovM m i c).1 := by
  have hgl := h.holds.1.lt
  have b1 : Below w.heap.size w (w.alloc (.cells #[.int .i64 c.a, .int .u64 c.key, .int .u64 c.nw, .int .i64 c.t] 37)) := (Below.refl _ _).alloc (Nat.le_refl _) _
  have B1 := Blk.new' w 37 [.int .i64 c.a, .int .u64 c.key, .int .u64 c.nw, .int .i64 c.t]
  obtain ⟨w1, hw1⟩ : ∃ w1, w1 = w.alloc (.cells #[.int .i64 c.a, .int .u64 c.key, .int .u64 c.nw, .int .i64 c.t] 37) := ⟨_, rfl⟩
  have z1 : w1.heap.size = w.heap.size + 1 := by rw [hw1]; simp
  rw [← hw1] at b1 B1
  have H1 : Hid (RT w w1 g m ∧ Blk w1 w.heap.size 37 [.int .i64 c.a, .int .u64 c.key, .int .u64 c.nw, .int .i64 c.t] ∧ w1.heap.size = w.heap.size + 1 ∧ g < w.heap.size) := ⟨(RT.start h).later b1, B1, z1, hgl⟩
  clear b1 B1 z1 hgl h
  have HC : Hid (∀ W, Below w1.heap.size w1 W → W.cell? ⟨w.heap.size, 3, none⟩ = some (.int .i64 c.t) ∧ W.cell? ⟨g, 2, none⟩ = some (.int .i64 m.k)) := fun W b => ⟨by have := blk_at (H1.out.2.1.laterB b) 3; simpa using this, by have := blk_at (H1.out.1.ok.later b).holds.1 2; simpa [rsC] using this⟩
  have HH : Hid (∀ W, Below w1.heap.size w1 W → _) := fun W b => holds_any g m i W (H1.out.1.ok.later b) hi
  obtain ⟨asw, has⟩ : ∃ asw, asw = (m.k == c.t && hoB m i) := ⟨_, rfl⟩
  have HAS : Hid _ := has
  clear has
  go_enter Try.func51, Try.ntmps51
  go_upto_region 1 with fail
  rw [← hw1]
  clear hw1
  go_cut [7] from 9 to 20 (fun av wx => av = .bool asw ∧ wx = w1.drew)
  case first =>
    cases hk : (m.k == c.t) with
    | false =>
      refine wp_region_held_drew (S := fun W => Below w1.heap.size w1 W) (by kernel_rfl) ((Below.refl _ _).drew) (fun hS => ?_)
      refine any_take (i := 0) (v := ?_) rfl (by kernel_rfl) (by kernel_rfl) (by kernel_rfl) (by exact fun _ _ _ h => h) (by rfl) ?_ hS ?_
      rotate_left
      · ((intro w hSw; obtain ⟨k3, y2⟩ := HC.out _ hSw; go_simp) <;> with_reducible rfl)
      (try simp only [Act.put, List.setIfInBounds_toArray, List.set_cons_zero, List.set_cons_succ])
      refine any_take (i := 1) (v := ?_) rfl (by kernel_rfl) (by kernel_rfl) (by kernel_rfl) (by exact fun _ _ _ h => h) (by rfl) ?_ hS ?_
      rotate_left
      · ((intro w hSw; obtain ⟨k3, y2⟩ := HC.out _ hSw; go_simp) <;> with_reducible rfl)
      (try simp only [Act.put, List.setIfInBounds_toArray, List.set_cons_zero, List.set_cons_succ])
      refine any_take (i := 2) (v := ?_) rfl (by kernel_rfl) (by kernel_rfl) (by kernel_rfl) (by exact fun _ _ _ h => h) (by rfl) ?_ hS ?_
      rotate_left
      · ((intro w hSw; obtain ⟨k3, y2⟩ := HC.out _ hSw; go_simp) <;> with_reducible rfl)
      (try simp only [Act.put, List.setIfInBounds_toArray, List.set_cons_zero, List.set_cons_succ])
      refine any_take (i := 3) (v := ?_) rfl (by kernel_rfl) (by kernel_rfl) (by kernel_rfl) (by exact fun _ _ _ h => h) (by rfl) ?_ hS ?_
      rotate_left
      · ((intro w hSw; obtain ⟨k3, y2⟩ := HC.out _ hSw; go_simp) <;> with_reducible rfl)
      (try simp only [Act.put, List.setIfInBounds_toArray, List.set_cons_zero, List.set_cons_succ])
      refine any_take (i := 4) (v := ?_) rfl (by kernel_rfl) (by kernel_rfl) (by kernel_rfl) (by exact fun _ _ _ h => h) (by rfl) ?_ hS ?_
      rotate_left
      · ((intro w hSw; obtain ⟨k3, y2⟩ := HC.out _ hSw; go_simp) <;> with_reducible rfl)
      (try simp only [Act.put, List.setIfInBounds_toArray, List.set_cons_zero, List.set_cons_succ])
      refine any_take (i := 5) (v := ?_) rfl (by kernel_rfl) (by kernel_rfl) (by kernel_rfl) (by exact fun _ _ _ h => h) (by rfl) ?_ hS ?_
      rotate_left
      · ((intro w hSw; obtain ⟨k3, y2⟩ := HC.out _ hSw; go_simp) <;> with_reducible rfl)
      (try simp only [Act.put, List.setIfInBounds_toArray, List.set_cons_zero, List.set_cons_succ])
      refine any_take (i := 6) (v := ?_) rfl (by kernel_rfl) (by kernel_rfl) (by kernel_rfl) (by exact fun _ _ _ h => h) (by rfl) ?_ hS ?_
      rotate_left
      · ((intro w hSw; obtain ⟨k3, y2⟩ := HC.out _ hSw; go_simp) <;> with_reducible rfl)
      (try simp only [Act.put, List.setIfInBounds_toArray, List.set_cons_zero, List.set_cons_succ])
      refine any_take (i := 7) (v := ?_) rfl (by kernel_rfl) (by kernel_rfl) (by kernel_rfl) (by exact fun _ _ _ h => h) (by rfl) ?_ hS ?_
      rotate_left
      · ((intro w hSw; obtain ⟨k3, y2⟩ := HC.out _ hSw; go_simp) <;> with_reducible rfl)
      (try simp only [Act.put, List.setIfInBounds_toArray, List.set_cons_zero, List.set_cons_succ])
      refine any_skip (i := 8) rfl (by kernel_rfl) (by kernel_rfl) (by kernel_rfl) (by exact fun _ _ _ h => h) (by rfl) hS ?_
      (try simp only [Act.put, List.setIfInBounds_toArray, List.set_cons_zero, List.set_cons_succ])
      refine any_skip (i := 9) rfl (by kernel_rfl) (by kernel_rfl) (by kernel_rfl) (by exact fun _ _ _ h => h) (by rfl) hS ?_
      (try simp only [Act.put, List.setIfInBounds_toArray, List.set_cons_zero, List.set_cons_succ])
      refine any_skip (i := 10) rfl (by kernel_rfl) (by kernel_rfl) (by kernel_rfl) (by exact fun _ _ _ h => h) (by rfl) hS ?_
      (try simp only [Act.put, List.setIfInBounds_toArray, List.set_cons_zero, List.set_cons_succ])
      refine any_take (i := 11) (v := ?_) rfl (by kernel_rfl) (by kernel_rfl) (by kernel_rfl) (by exact fun _ _ _ h => h) (by rfl) ?_ hS ?_
      rotate_left
      · ((intro w hSw; skip; go_simp) <;> with_reducible rfl)
      (try simp only [Act.put, List.setIfInBounds_toArray, List.set_cons_zero, List.set_cons_succ])
      refine any_take (i := 12) (v := ?_) rfl (by kernel_rfl) (by kernel_rfl) (by kernel_rfl) (by exact fun _ _ _ h => h) (by rfl) ?_ hS ?_
      rotate_left
      · ((intro w hSw; skip; go_simp) <;> with_reducible rfl)
      (try simp only [Act.put, List.setIfInBounds_toArray, List.set_cons_zero, List.set_cons_succ])
      refine wpAnyH_done (by kernel_rfl) ?_ _
      clear hS
      go_wp2
      go_meet
      exact ⟨by rw [HAS.out, hk]; rfl, rfl⟩
    | true =>
      refine wp_region_held_drew (S := fun W => Below w1.heap.size w1 W) (by kernel_rfl) ((Below.refl _ _).drew) (fun hS => ?_)
      refine any_take (i := 0) (v := ?_) rfl (by kernel_rfl) (by kernel_rfl) (by kernel_rfl) (by exact fun _ _ _ h => h) (by rfl) ?_ hS ?_
      rotate_left
      · ((intro w hSw; obtain ⟨k3, y2⟩ := HC.out _ hSw; go_simp) <;> with_reducible rfl)
      (try simp only [Act.put, List.setIfInBounds_toArray, List.set_cons_zero, List.set_cons_succ])
      refine any_take (i := 1) (v := ?_) rfl (by kernel_rfl) (by kernel_rfl) (by kernel_rfl) (by exact fun _ _ _ h => h) (by rfl) ?_ hS ?_
      rotate_left
      · ((intro w hSw; obtain ⟨k3, y2⟩ := HC.out _ hSw; go_simp) <;> with_reducible rfl)
      (try simp only [Act.put, List.setIfInBounds_toArray, List.set_cons_zero, List.set_cons_succ])
      refine any_take (i := 2) (v := ?_) rfl (by kernel_rfl) (by kernel_rfl) (by kernel_rfl) (by exact fun _ _ _ h => h) (by rfl) ?_ hS ?_
      rotate_left
      · ((intro w hSw; obtain ⟨k3, y2⟩ := HC.out _ hSw; go_simp) <;> with_reducible rfl)
      (try simp only [Act.put, List.setIfInBounds_toArray, List.set_cons_zero, List.set_cons_succ])
      refine any_take (i := 3) (v := ?_) rfl (by kernel_rfl) (by kernel_rfl) (by kernel_rfl) (by exact fun _ _ _ h => h) (by rfl) ?_ hS ?_
      rotate_left
      · ((intro w hSw; obtain ⟨k3, y2⟩ := HC.out _ hSw; go_simp) <;> with_reducible rfl)
      (try simp only [Act.put, List.setIfInBounds_toArray, List.set_cons_zero, List.set_cons_succ])
      refine any_take (i := 4) (v := ?_) rfl (by kernel_rfl) (by kernel_rfl) (by kernel_rfl) (by exact fun _ _ _ h => h) (by rfl) ?_ hS ?_
      rotate_left
      · ((intro w hSw; obtain ⟨k3, y2⟩ := HC.out _ hSw; go_simp) <;> with_reducible rfl)
      (try simp only [Act.put, List.setIfInBounds_toArray, List.set_cons_zero, List.set_cons_succ])
      refine any_take (i := 5) (v := ?_) rfl (by kernel_rfl) (by kernel_rfl) (by kernel_rfl) (by exact fun _ _ _ h => h) (by rfl) ?_ hS ?_
      rotate_left
      · ((intro w hSw; obtain ⟨k3, y2⟩ := HC.out _ hSw; go_simp) <;> with_reducible rfl)
      (try simp only [Act.put, List.setIfInBounds_toArray, List.set_cons_zero, List.set_cons_succ])
      refine any_take (i := 6) (v := ?_) rfl (by kernel_rfl) (by kernel_rfl) (by kernel_rfl) (by exact fun _ _ _ h => h) (by rfl) ?_ hS ?_
      rotate_left
      · ((intro w hSw; obtain ⟨k3, y2⟩ := HC.out _ hSw; go_simp) <;> with_reducible rfl)
      (try simp only [Act.put, List.setIfInBounds_toArray, List.set_cons_zero, List.set_cons_succ])
      refine any_take (i := 7) (v := ?_) rfl (by kernel_rfl) (by kernel_rfl) (by kernel_rfl) (by exact fun _ _ _ h => h) (by rfl) ?_ hS ?_
      rotate_left
      · ((intro w hSw; obtain ⟨k3, y2⟩ := HC.out _ hSw; go_simp) <;> with_reducible rfl)
      (try simp only [Act.put, List.setIfInBounds_toArray, List.set_cons_zero, List.set_cons_succ])
      refine any_take (i := 8) (v := ?_) rfl (by kernel_rfl) (by kernel_rfl) (by kernel_rfl) (by exact fun _ _ _ h => h) (by rfl) ?_ hS ?_
      rotate_left
      · ((intro w hSw; skip; go_simp) <;> with_reducible rfl)
      (try simp only [Act.put, List.setIfInBounds_toArray, List.set_cons_zero, List.set_cons_succ])
      refine any_take (i := 9) (v := ?_) rfl (by kernel_rfl) (by kernel_rfl) (by kernel_rfl) (by exact fun _ _ _ h => h) (by rfl) ?_ hS ?_
      rotate_left
      · ((intro w hSw; skip; go_simp) <;> with_reducible rfl)
      (try simp only [Act.put, List.setIfInBounds_toArray, List.set_cons_zero, List.set_cons_succ])
      refine any_one (i := 10) rfl (by kernel_rfl) (fun K hK => ?_)
      go_simp
      refine (Calls.mono (HH.out _ hS)) ?_
      rintro e _ ⟨rfl, rfl⟩
      go_wp2_with fail
      refine hK.out _ _ hS ?_
      clear hK K
      refine any_take (i := 11) (v := ?_) rfl (by kernel_rfl) (by kernel_rfl) (by kernel_rfl) (by exact fun _ _ _ h => h) (by rfl) ?_ hS ?_
      rotate_left
      · ((intro w hSw; skip; go_simp) <;> with_reducible rfl)
      (try simp only [Act.put, List.setIfInBounds_toArray, List.set_cons_zero, List.set_cons_succ])
      refine any_take (i := 12) (v := ?_) rfl (by kernel_rfl) (by kernel_rfl) (by kernel_rfl) (by exact fun _ _ _ h => h) (by rfl) ?_ hS ?_
      rotate_left
      · ((intro w hSw; skip; go_simp) <;> with_reducible rfl)
      (try simp only [Act.put, List.setIfInBounds_toArray, List.set_cons_zero, List.set_cons_succ])
      refine wpAnyH_done (by kernel_rfl) ?_ _
      clear hS
      go_wp2
      go_meet
      exact ⟨by rw [HAS.out, hk]; rfl, rfl⟩
  case rest =>
  obtain ⟨rfl, hwc⟩ := hcut
  obtain rfl := hwc.symm
  clear hwc HC HH
  have bd : Below w1.heap.size w1 w1.drew := (Below.refl _ _).drew
  have H2 : Hid (RT w w1.drew g m ∧ Blk w1.drew w.heap.size 37 [.int .i64 c.a, .int .u64 c.key, .int .u64 c.nw, .int .i64 c.t] ∧ w1.drew.heap.size = w.heap.size + 1) := ⟨H1.out.1.later bd, H1.out.2.1.laterB bd, H1.out.2.2.1⟩
  clear bd
  generalize w1.drew = w2 at *
  have b3 := (Below.refl w2.heap.size w2).alloc (Nat.le_refl _) (.cells (ivs .i64 z16).toArray 83)
  have Bd := Blk.new' w2 83 (ivs .i64 z16)
  have H3 : Hid _ := And.intro (H2.out.1.later b3) (And.intro Bd (And.intro (H2.out.2.1.laterB b3) H2.out.2.2))
  clear b3 Bd
  simp only [ivs, z16, List.map_cons, List.map_nil] at H3
  go_upto_region 3 with fail
  generalize w2.alloc (.cells #[.int .i64 0, .int .i64 0, .int .i64 0, .int .i64 0, .int .i64 0, .int .i64 0, .int .i64 0, .int .i64 0, .int .i64 0, .int .i64 0, .int .i64 0, .int .i64 0, .int .i64 0, .int .i64 0, .int .i64 0, .int .i64 0] 83) = w3 at *
  have hd2 := H3.out.2.2.2
  have H3d : Hid _ := hd2
  clear hd2 H2
  generalize w2.heap.size = d at *
  have HF : Hid _ := takeFrom_any g m (i : Int) c.nw d z16 w3 H3.out.1.ok H3.out.2.1 rfl
  have hPk : Hid _ := tkF_ok (i : Int) c.nw (m, z16) (regsL m.ks 16) H3.out.1.ok.holds.2 rfl
  have HTM : Hid (tovM m i c = (bump (hold (tkF (i : Int) c.nw (m, z16) (regsL m.ks 16)).1 i c.t), ntL (if asw = true then (tkF (i : Int) c.nw (m, z16) (regsL m.ks 16)).2 else tellF (i : Int) 4 (tkF (i : Int) c.nw (m, z16) (regsL m.ks 16)).2 (regsL (tkF (i : Int) c.nw (m, z16) (regsL m.ks 16)).1.ks 16)) 16)) := by unfold tovM; rw [HAS.out]; rfl
  generalize tkF (i : Int) c.nw (m, z16) (regsL m.ks 16) = P at *
  have k0 := blk_at H3.out.2.2.1 0
  have k1 := blk_at H3.out.2.2.1 1
  have k2 := blk_at H3.out.2.2.1 2
  have k3 := blk_at H3.out.2.2.1 3
  simp only [List.getElem?_cons_zero, List.getElem?_cons_succ] at k0 k1 k2 k3
  go_wp2_with fail
  clear k0 k1 k2 k3
  refine (Calls.mono HF.out) ?_
  rintro e w4 ⟨rfl, Bg4, Bd4, t4⟩
  have hgd : g ≠ d := by have := H3d.out; have := H1.out.2.2.2; omega
  have r4 : RT w w4 g P.1 := ⟨rv_ok Bg4 hPk.out.1, H3.out.1.tn.trans (t4.mono (fun k e => by rcases e with e | e; exact .inl e; exact .inr (by have := H3d.out; omega)))⟩
  have hcb : ¬ (w.heap.size = g ∨ w.heap.size = d) := by have := H3d.out; have := H1.out.2.2.2; omega
  have H4 : Hid _ := And.intro r4 (And.intro Bd4 (And.intro (H3.out.2.2.1.turned t4 hcb) trivial))
  clear HF Bg4 Bd4 t4 r4 hcb H3
  have HO : Hid _ := tellOthers_any g P.1 (i : Int) 4 d P.2 w4 H4.out.1.ok H4.out.2.1 hPk.out.2
  go_upto_if 27 with fail
  go_cut [8] from 26 to 48 (fun pv wx => pv = .pointer (some ⟨d, 0, none⟩) ∧ RT w wx g P.1 ∧ Blk wx d 83 (ivs .i64 (if asw = true then P.2 else tellF (i : Int) 4 P.2 (regsL P.1.ks 16))) ∧ Blk wx w.heap.size 37 [.int .i64 c.a, .int .u64 c.key, .int .u64 c.nw, .int .i64 c.t])
  case first =>
    cases asw with
    | true =>
      clear HO
      go_wp2
      go_meet
      exact ⟨rfl, H4.out.1, H4.out.2.1, H4.out.2.2.1⟩
    | false =>
      go_wp2_with fail
      refine (Calls.mono HO.out) ?_
      rintro e w5 ⟨rfl, Bd5, t5⟩
      have F : Hid _ := And.intro (H4.out.1.codes t5 (by have := H3d.out; omega) H1.out.2.2.2) (And.intro Bd5 (H4.out.2.2.1.turned t5 (by have := H3d.out; show ¬ w.heap.size = d; omega)))
      clear HO Bd5 t5 H4
      go_wp2
      go_meet
      exact ⟨rfl, F.out.1, F.out.2.1, F.out.2.2⟩
  case rest =>
  obtain ⟨rfl, r5, Bd5, Bc5⟩ := hcut
  have H5 : Hid _ := And.intro r5 (And.intro Bd5 Bc5)
  clear HO H4 r5 Bd5 Bc5
  have hll : (if asw = true then P.2 else tellF (i : Int) 4 P.2 (regsL P.1.ks 16)).length = 16 := by split; exact hPk.out.2; rw [tellF_len]; exact hPk.out.2
  have HLL : Hid _ := hll
  clear hll
  generalize (if asw = true then P.2 else tellF (i : Int) 4 P.2 (regsL P.1.ks 16)) = ll at *
  have HT : Hid (∀ W, Turned (fun k => k = g) wc W → W.cell? ⟨w.heap.size, 3, none⟩ = some (.int .i64 c.t)) := fun W t => by have := blk_at (H5.out.2.2.turned t (by have := H1.out.2.2.2; show ¬ w.heap.size = g; omega)) 3; simpa using this
  go_upto_region 6 with fail
  refine wp_region_held_drew (S := fun W => Turned (fun k => k = g) wc W) (by kernel_rfl) (tndr (Below.refl _ _).drew) (fun hS => ?_)
  refine any_take (i := 0) (v := ?_) rfl (by kernel_rfl) (by kernel_rfl) (by kernel_rfl) (by exact fun _ _ _ h => h) (by rfl) ?_ hS ?_
  rotate_left
  · ((intro w hSw; have k3 := HT.out _ hSw; go_simp) <;> with_reducible rfl)
  (try simp only [Act.put, List.setIfInBounds_toArray, List.set_cons_zero, List.set_cons_succ])
  refine any_take (i := 1) (v := ?_) rfl (by kernel_rfl) (by kernel_rfl) (by kernel_rfl) (by exact fun _ _ _ h => h) (by rfl) ?_ hS ?_
  rotate_left
  · ((intro w hSw; have k3 := HT.out _ hSw; go_simp) <;> with_reducible rfl)
  (try simp only [Act.put, List.setIfInBounds_toArray, List.set_cons_zero, List.set_cons_succ])
  refine any_take (i := 2) (v := ?_) rfl (by kernel_rfl) (by kernel_rfl) (by kernel_rfl) (by exact fun _ _ _ h => h) (by rfl) ?_ hS ?_
  rotate_left
  · ((intro w hSw; have k3 := HT.out _ hSw; go_simp) <;> with_reducible rfl)
  (try simp only [Act.put, List.setIfInBounds_toArray, List.set_cons_zero, List.set_cons_succ])
  refine any_take (i := 3) (v := ?_) rfl (by kernel_rfl) (by kernel_rfl) (by kernel_rfl) (by exact fun _ _ _ h => h) (by rfl) ?_ hS ?_
  rotate_left
  · ((intro w hSw; have k3 := HT.out _ hSw; go_simp) <;> with_reducible rfl)
  (try simp only [Act.put, List.setIfInBounds_toArray, List.set_cons_zero, List.set_cons_succ])
  refine any_take (i := 4) (v := ?_) rfl (by kernel_rfl) (by kernel_rfl) (by kernel_rfl) (by exact fun _ _ _ h => h) (by rfl) ?_ hS ?_
  rotate_left
  · ((intro w hSw; have k3 := HT.out _ hSw; go_simp) <;> with_reducible rfl)
  (try simp only [Act.put, List.setIfInBounds_toArray, List.set_cons_zero, List.set_cons_succ])
  refine any_take (i := 5) (v := ?_) rfl (by kernel_rfl) (by kernel_rfl) (by kernel_rfl) (by exact fun _ _ _ h => h) (by rfl) ?_ hS ?_
  rotate_left
  · ((intro w hSw; have k3 := HT.out _ hSw; go_simp) <;> with_reducible rfl)
  (try simp only [Act.put, List.setIfInBounds_toArray, List.set_cons_zero, List.set_cons_succ])
  refine any_take (i := 6) (v := ?_) rfl (by kernel_rfl) (by kernel_rfl) (by kernel_rfl) (by exact fun _ _ _ h => h) (by rfl) ?_ hS ?_
  rotate_left
  · ((intro w hSw; have k3 := HT.out _ hSw; go_simp) <;> with_reducible rfl)
  (try simp only [Act.put, List.setIfInBounds_toArray, List.set_cons_zero, List.set_cons_succ])
  have B0 : Blk wc.drew g 54 (rsC P.1) := H5.out.1.ok.holds.1.laterB (Below.refl _ _).drew
  generalize wc.drew = W0 at *
  have hc := blk_at B0 1
  simp only [rsC, List.getElem?_cons_zero, List.getElem?_cons_succ] at hc
  have hz := blk_frozen B0 1
  refine any_on (i := 7) rfl (by kernel_rfl) (fun K hK => ?_)
  go_simp
  have B1 := B0.set 1 (.int .i64 i)
  simp only [rsC, List.set_cons_zero, List.set_cons_succ] at B1
  clear hc hz
  refine hK.out _ _ (hS.trans ((turned_set _ g 1 _).mono (fun k e => .inl e))) (fun hS => ?_)
  clear hK K
  refine any_take (i := 8) (v := ?_) rfl (by kernel_rfl) (by kernel_rfl) (by kernel_rfl) (by exact fun _ _ _ h => h) (by rfl) ?_ hS ?_
  rotate_left
  · ((intro w hSw; skip; go_simp) <;> with_reducible rfl)
  (try simp only [Act.put, List.setIfInBounds_toArray, List.set_cons_zero, List.set_cons_succ])
  refine any_take (i := 9) (v := ?_) rfl (by kernel_rfl) (by kernel_rfl) (by kernel_rfl) (by exact fun _ _ _ h => h) (by rfl) ?_ hS ?_
  rotate_left
  · ((intro w hSw; skip; go_simp) <;> with_reducible rfl)
  (try simp only [Act.put, List.setIfInBounds_toArray, List.set_cons_zero, List.set_cons_succ])
  have hc := blk_at B1 2
  simp only [rsC, List.getElem?_cons_zero, List.getElem?_cons_succ] at hc
  have hz := blk_frozen B1 2
  refine any_on (i := 10) rfl (by kernel_rfl) (fun K hK => ?_)
  go_simp
  have B2 := B1.set 2 (.int .i64 c.t)
  simp only [rsC, List.set_cons_zero, List.set_cons_succ] at B2
  clear hc hz
  refine hK.out _ _ (hS.trans ((turned_set _ g 2 _).mono (fun k e => .inl e))) (fun hS => ?_)
  clear hK K
  refine wpAnyH_done (by kernel_rfl) ?_ _
  have r6 : RT w _ g (hold P.1 i c.t) := ⟨rv_ok B2 (hold_wf H5.out.1.ok.holds.2 i c.t (by omega) hct), H5.out.1.tn.trans (hS.mono (fun k e => .inl e))⟩
  have Bd6 := H5.out.2.1.turned hS (by show ¬ d = g; exact fun e => hgd e.symm)
  clear hS B0 B1 B2 HT
  generalize (W0.setCell ⟨g, 1, none⟩ (.int .i64 i)).setCell ⟨g, 2, none⟩ (.int .i64 c.t) = w6 at *
  have y0 := blk_at r6.ok.holds.1 0
  have f0 := blk_frozen r6.ok.holds.1 0
  simp only [rsC, List.getElem?_cons_zero, List.getElem?_cons_succ] at y0
  have hgg := r6.ok.holds.2.gg
  have r7 := r6.gen (((hold P.1 i c.t).gen + 1) % 4294967296) rfl
  have Bd7 := Bd6.turned (turned_set w6 g 0 (.int .u32 (((hold P.1 i c.t).gen + 1) % 4294967296))) (by show ¬ d = g; exact fun e => hgd e.symm)
  have hld := load_arr (k := .i64) size_cd und_cd HLL.out (w := w6.setCell ⟨g, 0, none⟩ (.int .u32 (((hold P.1 i c.t).gen + 1) % 4294967296))) (c := d) (off := 0) (fun j hj => by rw [Nat.zero_add, blk_at Bd7 j]; exact ivs_at .i64 _ j hj)
  have HN : Hid _ := notes_any ll HLL.out (w6.setCell ⟨g, 0, none⟩ (.int .u32 (((hold P.1 i c.t).gen + 1) % 4294967296)))
  have hav : av .i64 ll = .agg (ivs .i64 ll).toArray := rfl
  rw [hav] at hld HN
  have H7 : Hid _ := And.intro r7 trivial
  clear r6 Bd6 r7 Bd7
  generalize (hold P.1 i c.t).gen = gn at *
  go_wp2_with (refine wpList_value rfl (exec_load rfl rfl hld) ?_)
  refine (Calls.mono HN.out) ?_
  rintro e w8 ⟨v, rfl, hN⟩
  obtain ⟨va, vc, hv, -, -⟩ := hN.own.open
  have F : Hid _ := And.intro (H7.out.1.later hN.below) (Nts.mk (w := w) hN.own (fun b hb => Nat.le_trans H7.out.1.size (hN.new b hb)))
  clear HN hN H7 hld y0 f0
  rw [hv]
  go_wp2
  go_ret
  exact ⟨_, rfl, by rw [HTM.out, ← hv]; exact F.out.2, by rw [HTM.out]; exact F.out.1⟩
end Go.Proofs.Ytlopkfenbeahgaa

