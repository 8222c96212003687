/- preempt. -/
import Derived.Test.YtlopkfenbeahgaaXRv13
namespace Go.Proofs.Ytlopkfenbeahgaa
open Go.RowKit Go.Shelf
set_option linter.unusedVariables false
set_option linter.unusedSimpArgs false
set_option maxRecDepth 4000

def preM (m : Rs) (i : Nat) (c : Cm) : Ans :=
  if tyB c.t = false then ((2, 5, 36, 0), m, []) else if hwB m c.nw = true then ((0, 0, 0, 0), tovM m i c) else if c.nw = 0 then ((2, 5, 36, 0), m, []) else if inB m.ks c.nw = false then ((24, 0, 0, 0), m, [])
  else ((0, 0, 0, 0), bump (tkF (i : Int) c.nw (m, z16) (regsL m.ks 16)).1, ntL (tkF (i : Int) c.nw (m, z16) (regsL m.ks 16)).2 16)
set_option maxHeartbeats 8000000 in
theorem preempt_any (g : Nat) (m : Rs) (i : Nat) (c : Cm) (w : World) (h : (rv g m).Ok w) (hi : i < 16) : Calls Try.prog 38 #[.pointer (some ⟨g, 0, none⟩), .int .i64 i, .agg #[.int .i64 c.a, .int .u64 c.key, .int .u64 c.nw, .int .i64 c.t]] w (Does w g (preM m i c)) := by
  have hgl := h.holds.1.lt
  have b1 : Below w.heap.size w (w.alloc (.cells #[.int .i64 c.a, .int .u64 c.key, .int .u64 c.nw, .int .i64 c.t] 37)) := (Below.refl _ _).alloc (Nat.le_refl _) _
  have B1 := Blk.new' w 37 [.int .i64 c.a, .int .u64 c.key, .int .u64 c.nw, .int .i64 c.t]
  obtain ⟨w0, hw0⟩ : ∃ w0, w0 = w.alloc (.cells #[.int .i64 c.a, .int .u64 c.key, .int .u64 c.nw, .int .i64 c.t] 37) := ⟨_, rfl⟩
  have z0 : w0.heap.size = w.heap.size + 1 := by rw [hw0]; simp
  rw [← hw0] at b1 B1
  have b2 : Below w0.heap.size w0 (w0.alloc (.cells #[.int .i64 0, .int .i64 0, .int .i64 0, .int .i64 0, .slice none 0 0] 28)) := (Below.refl _ _).alloc (Nat.le_refl _) _
  have B2 := Blk.new' w0 28 [.int .i64 0, .int .i64 0, .int .i64 0, .int .i64 0, .slice none 0 0]
  obtain ⟨w1, hw1⟩ : ∃ w1, w1 = w0.alloc (.cells #[.int .i64 0, .int .i64 0, .int .i64 0, .int .i64 0, .slice none 0 0] 28) := ⟨_, rfl⟩
  have z1 : w1.heap.size = w.heap.size + 2 := by rw [hw1]; simp [z0]
  rw [← hw1] at b2 B2
  rw [z0] at B2
  have H1 : Hid (RT w w1 g m ∧ Blk w1 w.heap.size 37 [.int .i64 c.a, .int .u64 c.key, .int .u64 c.nw, .int .i64 c.t] ∧ Blk w1 (w.heap.size + 1) 28 [.int .i64 0, .int .i64 0, .int .i64 0, .int .i64 0, .slice none 0 0] ∧ w1.heap.size = w.heap.size + 2 ∧ g < w.heap.size) := ⟨(RT.start h).later (below_then b1 b2), B1.laterB b2, B2, z1, hgl⟩
  clear b1 B1 b2 B2 z0 z1 hgl h
  go_enter Try.func38, Try.ntmps38
  go_upto_region 1 with fail
  rw [← hw0, ← hw1]
  clear hw0 hw1
  have HTy : Hid _ := isType_any c.t w1
  have HW : Hid _ := isHeldWith_any g m c.nw w1 H1.out.1.ok
  have k0 := blk_at H1.out.2.1 0
  have k1 := blk_at H1.out.2.1 1
  have k2 := blk_at H1.out.2.1 2
  have k3 := blk_at H1.out.2.1 3
  simp only [List.getElem?_cons_zero, List.getElem?_cons_succ] at k0 k1 k2 k3
  cases hty : tyB c.t with
  | false =>
    rw [hty] at HTy
    have HM0 : preM m i c = ((2, 5, 36, 0), m, []) := by unfold preM; rw [if_pos hty]
    have HM : Hid _ := HM0
    have RTW := H1.out.1
    have BW := H1.out.2.2.1
    clear HM0 HW
    go_wp2_with fail
    refine (Calls.mono HTy.out) ?_
    rintro e _ ⟨rfl, rfl⟩
    have HG : Hid _ := wrong_any w1
    go_wp2_with fail
    refine (Calls.mono HG.out) ?_
    rintro e w9 ⟨rfl, b9⟩
    have r3' := RTW.later b9
    have B3 := BW.laterB b9
    have hN' : Nts w w9 (.slice none 0 0) [] := Nts.nil _ _
    have han : ∀ b, (Value.slice none 0 0).ownBlock = some b → b ≠ w.heap.size + 1 := fun b hb => by cases hb
    clear HG b9 RTW BW
    have y0 := blk_at B3 0
    have f0 := blk_frozen B3 0
    have y1 := blk_at B3 1
    have f1 := blk_frozen B3 1
    have y2 := blk_at B3 2
    have f2 := blk_frozen B3 2
    have y3 := blk_at B3 3
    have f3 := blk_frozen B3 3
    have y4 := blk_at B3 4
    have f4 := blk_frozen B3 4
    simp only [List.getElem?_cons_zero, List.getElem?_cons_succ] at y0 y1 y2 y3 y4
    have SP := rp5_blk B3 (2) (5) (36) (0)
    have G : Hid _ := And.intro SP.1 (And.intro (r3'.codes SP.2 (by omega) H1.out.2.2.2.2) (hN'.keep SP.2 han))
    unfold rp5 at G
    clear SP B3
    go_wp2
    clear y0 y1 y2 y3 y4 f0 f1 f2 f3 f4
    generalize (((((w9).setCell ⟨w.heap.size + 1, 0, none⟩ (.int .i64 2)).setCell ⟨w.heap.size + 1, 1, none⟩ (.int .i64 5)).setCell ⟨w.heap.size + 1, 2, none⟩ (.int .i64 36)).setCell ⟨w.heap.size + 1, 3, none⟩ (.int .i64 0)).setCell ⟨w.heap.size + 1, 4, none⟩ (.slice none 0 0) = wf at *
    have y0 := blk_at G.out.1 0
    have y1 := blk_at G.out.1 1
    have y2 := blk_at G.out.1 2
    have y3 := blk_at G.out.1 3
    have y4 := blk_at G.out.1 4
    simp only [List.getElem?_cons_zero, List.getElem?_cons_succ] at y0 y1 y2 y3 y4
    refine bodyPost_ret (v := .tuple #[.agg #[.int .i64 2, .int .i64 5, .int .i64 36, .int .i64 0, .slice none 0 0], .slice none 0 0]) (by simp [results, Try.results38, go_sem, y0, y1, y2, y3, y4]) rfl ?_
    exact ⟨_, by rw [HM.out]; rfl, by rw [HM.out]; exact G.out.2.2, by rw [HM.out]; exact G.out.2.1⟩
  | true =>
    rw [hty] at HTy
    have hct : 0 ≤ c.t ∧ c.t ≤ 8 := tyB_bd hty
    obtain ⟨hw, hhw⟩ : ∃ hw, hwB m c.nw = hw := ⟨_, rfl⟩
    rw [hhw] at HW
    go_wp2_with fail
    refine (Calls.mono HTy.out) ?_
    rintro e _ ⟨rfl, rfl⟩
    clear HTy
    go_wp2_with fail
    refine (Calls.mono HW.out) ?_
    rintro e w2 ⟨rfl, b2⟩
    clear HW k0 k1 k2 k3
    have H2 : Hid (RT w w2 g m ∧ Blk w2 w.heap.size 37 [.int .i64 c.a, .int .u64 c.key, .int .u64 c.nw, .int .i64 c.t] ∧ Blk w2 (w.heap.size + 1) 28 [.int .i64 0, .int .i64 0, .int .i64 0, .int .i64 0, .slice none 0 0] ∧ w.heap.size + 2 ≤ w2.heap.size) := ⟨H1.out.1.later b2, H1.out.2.1.laterB b2, H1.out.2.2.1.laterB b2, by have := b2.size; have := H1.out.2.2.2.1; omega⟩
    clear b2
    have HC2 : Hid (∀ W, Turned (fun k => k = w.heap.size + 1 ∨ k = g) w2 W → W.cell? ⟨w.heap.size, 0, none⟩ = some (.int .i64 c.a) ∧ W.cell? ⟨w.heap.size, 1, none⟩ = some (.int .u64 c.key) ∧ W.cell? ⟨w.heap.size, 2, none⟩ = some (.int .u64 c.nw) ∧ W.cell? ⟨w.heap.size, 3, none⟩ = some (.int .i64 c.t)) := fun W t => by
      have B := H2.out.2.1.turned t (by have := H1.out.2.2.2.2; show ¬ (w.heap.size = w.heap.size + 1 ∨ w.heap.size = g); omega)
      exact ⟨by have := blk_at B 0; simpa using this, by have := blk_at B 1; simpa using this, by have := blk_at B 2; simpa using this, by have := blk_at B 3; simpa using this⟩
    cases hw with
    | true =>
      have HM0 : preM m i c = ((0, 0, 0, 0), tovM m i c) := by unfold preM; rw [if_neg (by rw [hty]; decide), if_pos hhw]
      have HM : Hid _ := HM0
      clear HM0
      go_upto_region 4 with fail
      refine wp_region_held_drew (S := fun W => Turned (fun k => k = w.heap.size + 1 ∨ k = g) w2 W) (by kernel_rfl) (tndr (Below.refl _ _).drew) (fun hS => ?_)
      have P0 := H2.out.2.2.1.laterB (Below.refl w2.heap.size w2).drew
      have r0 := H2.out.1.later (Below.refl w2.heap.size w2).drew
      refine any_take (i := 1) (v := ?_) rfl (by kernel_rfl) (by kernel_rfl) (by kernel_rfl) (by exact fun _ _ _ h => h) (by rfl) ?_ hS ?_
      rotate_left
      · ((intro w hSw; obtain ⟨k0, k1, k2, k3⟩ := HC2.out _ hSw; go_simp) <;> with_reducible rfl)
      (try simp only [Act.put, List.setIfInBounds_toArray, List.set_cons_zero, List.set_cons_succ])
      refine any_take (i := 2) (v := ?_) rfl (by kernel_rfl) (by kernel_rfl) (by kernel_rfl) (by exact fun _ _ _ h => h) (by rfl) ?_ hS ?_
      rotate_left
      · ((intro w hSw; obtain ⟨k0, k1, k2, k3⟩ := HC2.out _ hSw; go_simp) <;> with_reducible rfl)
      (try simp only [Act.put, List.setIfInBounds_toArray, List.set_cons_zero, List.set_cons_succ])
      refine any_take (i := 3) (v := ?_) rfl (by kernel_rfl) (by kernel_rfl) (by kernel_rfl) (by exact fun _ _ _ h => h) (by rfl) ?_ hS ?_
      rotate_left
      · ((intro w hSw; obtain ⟨k0, k1, k2, k3⟩ := HC2.out _ hSw; go_simp) <;> with_reducible rfl)
      (try simp only [Act.put, List.setIfInBounds_toArray, List.set_cons_zero, List.set_cons_succ])
      refine any_one (i := 0) rfl (by kernel_rfl) (fun K hK => ?_)
      go_simp
      refine (Calls.mono (good_any _)) ?_
      rintro e x1 ⟨rfl, b1⟩
      have S1 := hS.trans (tndr b1)
      have P1 := P0.laterB b1
      have r1 := r0.later b1
      have hs1 := b1.size
      go_wp2_with fail
      refine hK.out _ _ S1 ?_
      clear hK K hS b1 P0 r0
      have hS := S1
      clear S1
      refine any_one (i := 4) rfl (by kernel_rfl) (fun K hK => ?_)
      go_simp
      refine (Calls.mono (takeOver_any g m i c _ r1.ok hi hct)) ?_
      rintro e x2 ⟨v, rfl, hN, rt⟩
      have hn1 := hS.size
      have S2 := hS.trans (rt.tn.mono (fun k e => .inl (.inr e)))
      have P2 := rt.blk P1 (by have := H1.out.2.2.2.2; omega)
      have r2 := r1.trans rt
      have N2 := hN.lower r1.size
      have han : ∀ b, v.ownBlock = some b → b ≠ w.heap.size + 1 := fun b hb => by have := hN.new b hb; have := H2.out.2.2.2; omega
      go_wp2_with fail
      refine hK.out _ _ S2 ?_
      clear hK K hS hN P1 r1 rt
      have hS := S2
      clear S2
      have y0 := blk_at P2 0
      have f0 := blk_frozen P2 0
      have y1 := blk_at P2 1
      have f1 := blk_frozen P2 1
      have y2 := blk_at P2 2
      have f2 := blk_frozen P2 2
      have y3 := blk_at P2 3
      have f3 := blk_frozen P2 3
      have y4 := blk_at P2 4
      have f4 := blk_frozen P2 4
      simp only [List.getElem?_cons_zero, List.getElem?_cons_succ] at y0 y1 y2 y3 y4
      have SP := rp5_blk P2 (0) (0) (0) (0)
      have G : Hid _ := And.intro SP.1 (And.intro (r2.codes SP.2 (by omega) H1.out.2.2.2.2) (N2.keep SP.2 han))
      have S3 := hS.trans (SP.2.mono (fun k e => .inl (.inl e)))
      unfold rp5 at G S3
      refine any_on (i := 5) rfl (by kernel_rfl) (fun K hK => ?_)
      go_simp
      refine hK.out _ _ S3 (fun hS => ?_)
      clear hK K S3
      refine any_take (i := 6) (v := ?_) rfl (by kernel_rfl) (by kernel_rfl) (by kernel_rfl) (by exact fun _ _ _ h => h) (by rfl) ?_ hS ?_
      rotate_left
      · ((intro w hSw; (try dsimp only at hSw); go_simp) <;> with_reducible rfl)
      (try simp only [Act.put, List.setIfInBounds_toArray, List.set_cons_zero, List.set_cons_succ])
      refine wpAnyH_done (by kernel_rfl) ?_ _
      clear y0 y1 y2 y3 y4 f0 f1 f2 f3 f4 SP P2 r2 N2 han hS hn1 hs1
      generalize (((((x2).setCell ⟨w.heap.size + 1, 0, none⟩ (.int .i64 0)).setCell ⟨w.heap.size + 1, 1, none⟩ (.int .i64 0)).setCell ⟨w.heap.size + 1, 2, none⟩ (.int .i64 0)).setCell ⟨w.heap.size + 1, 3, none⟩ (.int .i64 0)).setCell ⟨w.heap.size + 1, 4, none⟩ (.slice none 0 0) = wf at *
      go_wp2
      have y0 := blk_at G.out.1 0
      have y1 := blk_at G.out.1 1
      have y2 := blk_at G.out.1 2
      have y3 := blk_at G.out.1 3
      have y4 := blk_at G.out.1 4
      simp only [List.getElem?_cons_zero, List.getElem?_cons_succ] at y0 y1 y2 y3 y4
      refine bodyPost_ret (v := .tuple #[.agg #[.int .i64 0, .int .i64 0, .int .i64 0, .int .i64 0, .slice none 0 0], v]) (by simp [results, Try.results38, go_sem, y0, y1, y2, y3, y4]) rfl ?_
      exact ⟨_, by rw [HM.out]; rfl, by rw [HM.out]; exact G.out.2.2, by rw [HM.out]; exact G.out.2.1⟩
    | false =>
      by_cases hx : c.nw = 0
      · have HM0 : preM m i c = ((2, 5, 36, 0), m, []) := by unfold preM; rw [if_neg (by rw [hty]; decide), if_neg (by rw [hhw]; decide), if_pos hx]
        have HM : Hid _ := HM0
        have RTW := H2.out.1
        have BW := H2.out.2.2.1
        have k0 := blk_at H2.out.2.1 0
        have k1 := blk_at H2.out.2.1 1
        have k2 := blk_at H2.out.2.1 2
        have k3 := blk_at H2.out.2.1 3
        simp only [List.getElem?_cons_zero, List.getElem?_cons_succ] at k0 k1 k2 k3
        rw [hx] at k2
        clear HM0 H2 HC2
        have HG : Hid _ := wrong_any w2
        go_wp2_with fail
        refine (Calls.mono HG.out) ?_
        rintro e w9 ⟨rfl, b9⟩
        have r3' := RTW.later b9
        have B3 := BW.laterB b9
        have hN' : Nts w w9 (.slice none 0 0) [] := Nts.nil _ _
        have han : ∀ b, (Value.slice none 0 0).ownBlock = some b → b ≠ w.heap.size + 1 := fun b hb => by cases hb
        clear HG b9 RTW BW
        have y0 := blk_at B3 0
        have f0 := blk_frozen B3 0
        have y1 := blk_at B3 1
        have f1 := blk_frozen B3 1
        have y2 := blk_at B3 2
        have f2 := blk_frozen B3 2
        have y3 := blk_at B3 3
        have f3 := blk_frozen B3 3
        have y4 := blk_at B3 4
        have f4 := blk_frozen B3 4
        simp only [List.getElem?_cons_zero, List.getElem?_cons_succ] at y0 y1 y2 y3 y4
        have SP := rp5_blk B3 (2) (5) (36) (0)
        have G : Hid _ := And.intro SP.1 (And.intro (r3'.codes SP.2 (by omega) H1.out.2.2.2.2) (hN'.keep SP.2 han))
        unfold rp5 at G
        clear SP B3
        go_wp2
        clear y0 y1 y2 y3 y4 f0 f1 f2 f3 f4
        generalize (((((w9).setCell ⟨w.heap.size + 1, 0, none⟩ (.int .i64 2)).setCell ⟨w.heap.size + 1, 1, none⟩ (.int .i64 5)).setCell ⟨w.heap.size + 1, 2, none⟩ (.int .i64 36)).setCell ⟨w.heap.size + 1, 3, none⟩ (.int .i64 0)).setCell ⟨w.heap.size + 1, 4, none⟩ (.slice none 0 0) = wf at *
        have y0 := blk_at G.out.1 0
        have y1 := blk_at G.out.1 1
        have y2 := blk_at G.out.1 2
        have y3 := blk_at G.out.1 3
        have y4 := blk_at G.out.1 4
        simp only [List.getElem?_cons_zero, List.getElem?_cons_succ] at y0 y1 y2 y3 y4
        refine bodyPost_ret (v := .tuple #[.agg #[.int .i64 2, .int .i64 5, .int .i64 36, .int .i64 0, .slice none 0 0], .slice none 0 0]) (by simp [results, Try.results38, go_sem, y0, y1, y2, y3, y4]) rfl ?_
        exact ⟨_, by rw [HM.out]; rfl, by rw [HM.out]; exact G.out.2.2, by rw [HM.out]; exact G.out.2.1⟩
      · have hx' : (c.nw == 0) = false := by rw [beq_eq_false_iff_ne]; exact hx
        obtain ⟨ib, hib⟩ : ∃ ib, inB m.ks c.nw = ib := ⟨_, rfl⟩
        have HK : Hid (∀ W, Below w2.heap.size w2 W → W.cell? ⟨w.heap.size, 2, none⟩ = some (.int .u64 c.nw)) := fun W b => by have := blk_at (H2.out.2.1.laterB b) 2; simpa using this
        have HI : Hid (∀ W, Below w2.heap.size w2 W → Calls Try.prog 52 #[.slice (some ⟨g, 19, none⟩) 16 16, .int .u64 c.nw] W fun e w' => e = .returned (.bool ib) ∧ W = w') := fun W b => by
          have hkl := H2.out.1.ok.holds.2.kl
          have := containsU_any g 19 m.ks 16 c.nw W (by omega) (ks_cells H2.out.1.ok.holds.2 (H2.out.1.ok.later b).holds.1)
          rw [hkl, hib] at this
          exact this
        have bd : Below w2.heap.size w2 w2.drew := (Below.refl _ _).drew
        have H3 : Hid (RT w w2.drew g m ∧ Blk w2.drew w.heap.size 37 [.int .i64 c.a, .int .u64 c.key, .int .u64 c.nw, .int .i64 c.t] ∧ Blk w2.drew (w.heap.size + 1) 28 [.int .i64 0, .int .i64 0, .int .i64 0, .int .i64 0, .slice none 0 0] ∧ w.heap.size + 2 ≤ w2.drew.heap.size) := ⟨H2.out.1.later bd, H2.out.2.1.laterB bd, H2.out.2.2.1.laterB bd, H2.out.2.2.2⟩
        clear bd
        have k0 := blk_at H2.out.2.1 0
        have k1 := blk_at H2.out.2.1 1
        have k2 := blk_at H2.out.2.1 2
        have k3 := blk_at H2.out.2.1 3
        simp only [List.getElem?_cons_zero, List.getElem?_cons_succ] at k0 k1 k2 k3
        go_upto_region 7 with fail
        clear k0 k1 k2 k3
        refine wp_region_held_drew (S := fun W => Below w2.heap.size w2 W) (by kernel_rfl) ((Below.refl _ _).drew) (fun hS => ?_)
        refine any_take (i := 0) (v := ?_) rfl (by kernel_rfl) (by kernel_rfl) (by kernel_rfl) (by exact fun _ _ _ h => h) (by rfl) ?_ hS ?_
        rotate_left
        · ((intro w hSw; have k2 := HK.out _ hSw; go_simp) <;> with_reducible rfl)
        (try simp only [Act.put, List.setIfInBounds_toArray, List.set_cons_zero, List.set_cons_succ])
        refine any_take (i := 1) (v := ?_) rfl (by kernel_rfl) (by kernel_rfl) (by kernel_rfl) (by exact fun _ _ _ h => h) (by rfl) ?_ hS ?_
        rotate_left
        · ((intro w hSw; have k2 := HK.out _ hSw; go_simp) <;> with_reducible rfl)
        (try simp only [Act.put, List.setIfInBounds_toArray, List.set_cons_zero, List.set_cons_succ])
        refine any_take (i := 2) (v := ?_) rfl (by kernel_rfl) (by kernel_rfl) (by kernel_rfl) (by exact fun _ _ _ h => h) (by rfl) ?_ hS ?_
        rotate_left
        · ((intro w hSw; have k2 := HK.out _ hSw; go_simp) <;> with_reducible rfl)
        (try simp only [Act.put, List.setIfInBounds_toArray, List.set_cons_zero, List.set_cons_succ])
        refine any_take (i := 3) (v := ?_) rfl (by kernel_rfl) (by kernel_rfl) (by kernel_rfl) (by exact fun _ _ _ h => h) (by rfl) ?_ hS ?_
        rotate_left
        · ((intro w hSw; have k2 := HK.out _ hSw; go_simp) <;> with_reducible rfl)
        (try simp only [Act.put, List.setIfInBounds_toArray, List.set_cons_zero, List.set_cons_succ])
        refine any_take (i := 4) (v := ?_) rfl (by kernel_rfl) (by kernel_rfl) (by kernel_rfl) (by exact fun _ _ _ h => h) (by rfl) ?_ hS ?_
        rotate_left
        · ((intro w hSw; have k2 := HK.out _ hSw; go_simp) <;> with_reducible rfl)
        (try simp only [Act.put, List.setIfInBounds_toArray, List.set_cons_zero, List.set_cons_succ])
        refine any_take (i := 5) (v := ?_) rfl (by kernel_rfl) (by kernel_rfl) (by kernel_rfl) (by exact fun _ _ _ h => h) (by rfl) ?_ hS ?_
        rotate_left
        · ((intro w hSw; have k2 := HK.out _ hSw; go_simp) <;> with_reducible rfl)
        (try simp only [Act.put, List.setIfInBounds_toArray, List.set_cons_zero, List.set_cons_succ])
        refine any_one (i := 6) rfl (by kernel_rfl) (fun K hK => ?_)
        go_simp
        refine (Calls.mono (HI.out _ hS)) ?_
        rintro e _ ⟨rfl, rfl⟩
        go_wp2_with fail
        refine hK.out _ _ hS ?_
        clear hK K
        refine any_take (i := 7) (v := ?_) rfl (by kernel_rfl) (by kernel_rfl) (by kernel_rfl) (by exact fun _ _ _ h => h) (by rfl) ?_ hS ?_
        rotate_left
        · ((intro w hSw; skip; go_simp) <;> with_reducible rfl)
        (try simp only [Act.put, List.setIfInBounds_toArray, List.set_cons_zero, List.set_cons_succ])
        refine any_take (i := 8) (v := ?_) rfl (by kernel_rfl) (by kernel_rfl) (by kernel_rfl) (by exact fun _ _ _ h => h) (by rfl) ?_ hS ?_
        rotate_left
        · ((intro w hSw; skip; go_simp) <;> with_reducible rfl)
        (try simp only [Act.put, List.setIfInBounds_toArray, List.set_cons_zero, List.set_cons_succ])
        refine wpAnyH_done (by kernel_rfl) ?_ _
        clear hS
        generalize w2.drew = w3 at *
        clear HK HI H2 HC2
        cases ib with
        | false =>
          have HM0 : preM m i c = ((24, 0, 0, 0), m, []) := by unfold preM; rw [if_neg (by rw [hty]; decide), if_neg (by rw [hhw]; decide), if_neg hx, if_pos hib]
          have HM : Hid _ := HM0
          have RTW := H3.out.1
          have BW := H3.out.2.2.1
          clear HM0 H3
          have HG : Hid _ := conflict_any w3
          go_wp2_with fail
          refine (Calls.mono HG.out) ?_
          rintro e w9 ⟨rfl, b9⟩
          have r3' := RTW.later b9
          have B3 := BW.laterB b9
          have hN' : Nts w w9 (.slice none 0 0) [] := Nts.nil _ _
          have han : ∀ b, (Value.slice none 0 0).ownBlock = some b → b ≠ w.heap.size + 1 := fun b hb => by cases hb
          clear HG b9 RTW BW
          have y0 := blk_at B3 0
          have f0 := blk_frozen B3 0
          have y1 := blk_at B3 1
          have f1 := blk_frozen B3 1
          have y2 := blk_at B3 2
          have f2 := blk_frozen B3 2
          have y3 := blk_at B3 3
          have f3 := blk_frozen B3 3
          have y4 := blk_at B3 4
          have f4 := blk_frozen B3 4
          simp only [List.getElem?_cons_zero, List.getElem?_cons_succ] at y0 y1 y2 y3 y4
          have SP := rp5_blk B3 (24) (0) (0) (0)
          have G : Hid _ := And.intro SP.1 (And.intro (r3'.codes SP.2 (by omega) H1.out.2.2.2.2) (hN'.keep SP.2 han))
          unfold rp5 at G
          clear SP B3
          go_wp2
          clear y0 y1 y2 y3 y4 f0 f1 f2 f3 f4
          generalize (((((w9).setCell ⟨w.heap.size + 1, 0, none⟩ (.int .i64 24)).setCell ⟨w.heap.size + 1, 1, none⟩ (.int .i64 0)).setCell ⟨w.heap.size + 1, 2, none⟩ (.int .i64 0)).setCell ⟨w.heap.size + 1, 3, none⟩ (.int .i64 0)).setCell ⟨w.heap.size + 1, 4, none⟩ (.slice none 0 0) = wf at *
          have y0 := blk_at G.out.1 0
          have y1 := blk_at G.out.1 1
          have y2 := blk_at G.out.1 2
          have y3 := blk_at G.out.1 3
          have y4 := blk_at G.out.1 4
          simp only [List.getElem?_cons_zero, List.getElem?_cons_succ] at y0 y1 y2 y3 y4
          refine bodyPost_ret (v := .tuple #[.agg #[.int .i64 24, .int .i64 0, .int .i64 0, .int .i64 0, .slice none 0 0], .slice none 0 0]) (by simp [results, Try.results38, go_sem, y0, y1, y2, y3, y4]) rfl ?_
          exact ⟨_, by rw [HM.out]; rfl, by rw [HM.out]; exact G.out.2.2, by rw [HM.out]; exact G.out.2.1⟩
        | true =>
          have b4 := (Below.refl w3.heap.size w3).alloc (Nat.le_refl _) (.cells (ivs .i64 z16).toArray 83)
          have Bd := Blk.new' w3 83 (ivs .i64 z16)
          have H4 : Hid _ := And.intro (H3.out.1.later b4) (And.intro Bd (And.intro (H3.out.2.1.laterB b4) (And.intro (H3.out.2.2.1.laterB b4) H3.out.2.2.2)))
          clear b4 Bd
          simp only [ivs, z16, List.map_cons, List.map_nil] at H4
          go_upto_region 10 with fail
          generalize w3.alloc (.cells #[.int .i64 0, .int .i64 0, .int .i64 0, .int .i64 0, .int .i64 0, .int .i64 0, .int .i64 0, .int .i64 0, .int .i64 0, .int .i64 0, .int .i64 0, .int .i64 0, .int .i64 0, .int .i64 0, .int .i64 0, .int .i64 0] 83) = w4 at *
          have H4d : Hid _ := H4.out.2.2.2.2
          clear H3
          generalize w3.heap.size = d at *
          have HF : Hid _ := takeFrom_any g m (i : Int) c.nw d z16 w4 H4.out.1.ok H4.out.2.1 rfl
          have hPk : Hid _ := tkF_ok (i : Int) c.nw (m, z16) (regsL m.ks 16) H4.out.1.ok.holds.2 rfl
          have HM0 : preM m i c = ((0, 0, 0, 0), bump (tkF (i : Int) c.nw (m, z16) (regsL m.ks 16)).1, ntL (tkF (i : Int) c.nw (m, z16) (regsL m.ks 16)).2 16) := by unfold preM; rw [if_neg (by rw [hty]; decide), if_neg (by rw [hhw]; decide), if_neg hx, if_neg (by rw [hib]; decide)]
          have HM : Hid _ := HM0
          clear HM0
          generalize tkF (i : Int) c.nw (m, z16) (regsL m.ks 16) = P at *
          have k0 := blk_at H4.out.2.2.1 0
          have k1 := blk_at H4.out.2.2.1 1
          have k2 := blk_at H4.out.2.2.1 2
          have k3 := blk_at H4.out.2.2.1 3
          simp only [List.getElem?_cons_zero, List.getElem?_cons_succ] at k0 k1 k2 k3
          go_wp2_with fail
          clear k0 k1 k2 k3
          refine (Calls.mono HF.out) ?_
          rintro e w5 ⟨rfl, Bg5, Bd5, t5⟩
          have hgd : g ≠ d := by have := H4d.out; have := H1.out.2.2.2.2; omega
          have r5 : RT w w5 g P.1 := ⟨rv_ok Bg5 hPk.out.1, H4.out.1.tn.trans (t5.mono (fun k e => by rcases e with e | e; exact .inl e; exact .inr (by have := H4d.out; omega)))⟩
          have hcb : ¬ (w.heap.size + 1 = g ∨ w.heap.size + 1 = d) := by have := H4d.out; have := H1.out.2.2.2.2; omega
          have Br5 := H4.out.2.2.2.1.turned t5 hcb
          have hd5 := Bd5.lt
          have y0 := blk_at r5.ok.holds.1 0
          have f0 := blk_frozen r5.ok.holds.1 0
          simp only [rsC, List.getElem?_cons_zero, List.getElem?_cons_succ] at y0
          have hgg := r5.ok.holds.2.gg
          have r6 := r5.gen ((P.1.gen + 1) % 4294967296) rfl
          have Bd6 := Bd5.turned (turned_set w5 g 0 (.int .u32 ((P.1.gen + 1) % 4294967296))) (by show ¬ d = g; exact fun e => hgd e.symm)
          have Br6 := Br5.turned (turned_set w5 g 0 (.int .u32 ((P.1.gen + 1) % 4294967296))) (by show ¬ w.heap.size + 1 = g; omega)
          have hs6 : (w5.setCell ⟨g, 0, none⟩ (.int .u32 ((P.1.gen + 1) % 4294967296))).heap.size = w5.heap.size := by simp [World.setCell]
          have HX : Hid (RT w (w5.setCell ⟨g, 0, none⟩ (.int .u32 ((P.1.gen + 1) % 4294967296))) g (bump P.1) ∧ Blk (w5.setCell ⟨g, 0, none⟩ (.int .u32 ((P.1.gen + 1) % 4294967296))) d 83 (ivs .i64 P.2) ∧ Blk (w5.setCell ⟨g, 0, none⟩ (.int .u32 ((P.1.gen + 1) % 4294967296))) (w.heap.size + 1) 28 [.int .i64 0, .int .i64 0, .int .i64 0, .int .i64 0, .slice none 0 0] ∧ P.2.length = 16 ∧ ¬ d = w.heap.size + 1 ∧ w.heap.size + 2 ≤ (w5.setCell ⟨g, 0, none⟩ (.int .u32 ((P.1.gen + 1) % 4294967296))).heap.size) := ⟨r6, Bd6, Br6, hPk.out.2, by have := H4d.out; omega, by have := H4d.out; omega⟩
          clear HF Bg5 Bd5 t5 r5 hcb H4 Br5 r6 Bd6 Br6 hs6 hd5
          generalize P.1.gen = gn at *
          go_upto_region 12 with fail
          clear y0 f0
          generalize w5.setCell ⟨g, 0, none⟩ (.int .u32 ((gn + 1) % 4294967296)) = wX at *
          refine wp_region_held_drew (S := fun W => Turned (fun k => k = w.heap.size + 1) wX W) (by kernel_rfl) (tndr (Below.refl _ _).drew) (fun hS => ?_)
          have P0 := HX.out.2.2.1.laterB (Below.refl wX.heap.size wX).drew
          have r0 := HX.out.1.later (Below.refl wX.heap.size wX).drew
          refine any_take (i := 1) (v := .agg (ivs .i64 P.2).toArray) rfl (by kernel_rfl) (by kernel_rfl) (by kernel_rfl) (by exact fun _ _ _ h => h) (by rfl) ?_ hS ?_
          · intro W hSW; exact exec_load rfl rfl (load_arr (k := .i64) size_cd und_cd HX.out.2.2.2.1 (fun j hj => by rw [Nat.zero_add, blk_at (HX.out.2.1.turned hSW HX.out.2.2.2.2.1) j]; exact ivs_at .i64 _ j hj))
          (try simp only [Act.put, List.setIfInBounds_toArray, List.set_cons_zero, List.set_cons_succ])
          refine any_one (i := 0) rfl (by kernel_rfl) (fun K hK => ?_)
          go_simp
          refine (Calls.mono (good_any _)) ?_
          rintro e x1 ⟨rfl, b1⟩
          have S1 := hS.trans (tndr b1)
          have P1 := P0.laterB b1
          have r1 := r0.later b1
          have hs1 := b1.size
          go_wp2_with fail
          refine hK.out _ _ S1 ?_
          clear hK K hS b1 P0 r0
          have hS := S1
          clear S1
          refine any_one (i := 2) rfl (by kernel_rfl) (fun K hK => ?_)
          go_simp
          refine (Calls.mono (notes_any P.2 HX.out.2.2.2.1 _)) ?_
          rintro e x2 ⟨v, rfl, hN⟩
          have S2 := hS.trans (tndr hN.below)
          have P2 := P1.laterB hN.below
          have r2 := r1.later hN.below
          have hn1 := hS.size
          have N2 : Nts w x2 v _ := ⟨hN.own, fun b hb => Nat.le_trans r1.size (hN.new b hb)⟩
          have han : ∀ b, v.ownBlock = some b → b ≠ w.heap.size + 1 := fun b hb => by have := hN.new b hb; have := HX.out.2.2.2.2.2; omega
          go_wp2_with fail
          refine hK.out _ _ S2 ?_
          clear hK K hS hN P1 r1
          have hS := S2
          clear S2
          have y0 := blk_at P2 0
          have f0 := blk_frozen P2 0
          have y1 := blk_at P2 1
          have f1 := blk_frozen P2 1
          have y2 := blk_at P2 2
          have f2 := blk_frozen P2 2
          have y3 := blk_at P2 3
          have f3 := blk_frozen P2 3
          have y4 := blk_at P2 4
          have f4 := blk_frozen P2 4
          simp only [List.getElem?_cons_zero, List.getElem?_cons_succ] at y0 y1 y2 y3 y4
          have SP := rp5_blk P2 (0) (0) (0) (0)
          have G : Hid _ := And.intro SP.1 (And.intro (r2.codes SP.2 (by omega) H1.out.2.2.2.2) (N2.keep SP.2 han))
          have S3 := hS.trans (SP.2.mono (fun k e => .inl e))
          unfold rp5 at G S3
          refine any_on (i := 3) rfl (by kernel_rfl) (fun K hK => ?_)
          go_simp
          refine hK.out _ _ S3 (fun hS => ?_)
          clear hK K S3
          refine any_take (i := 4) (v := ?_) rfl (by kernel_rfl) (by kernel_rfl) (by kernel_rfl) (by exact fun _ _ _ h => h) (by rfl) ?_ hS ?_
          rotate_left
          · ((intro w hSw; (try dsimp only at hSw); go_simp) <;> with_reducible rfl)
          (try simp only [Act.put, List.setIfInBounds_toArray, List.set_cons_zero, List.set_cons_succ])
          refine wpAnyH_done (by kernel_rfl) ?_ _
          clear y0 y1 y2 y3 y4 f0 f1 f2 f3 f4 SP P2 r2 N2 han hS hn1 hs1
          generalize (((((x2).setCell ⟨w.heap.size + 1, 0, none⟩ (.int .i64 0)).setCell ⟨w.heap.size + 1, 1, none⟩ (.int .i64 0)).setCell ⟨w.heap.size + 1, 2, none⟩ (.int .i64 0)).setCell ⟨w.heap.size + 1, 3, none⟩ (.int .i64 0)).setCell ⟨w.heap.size + 1, 4, none⟩ (.slice none 0 0) = wf at *
          go_wp2
          have y0 := blk_at G.out.1 0
          have y1 := blk_at G.out.1 1
          have y2 := blk_at G.out.1 2
          have y3 := blk_at G.out.1 3
          have y4 := blk_at G.out.1 4
          simp only [List.getElem?_cons_zero, List.getElem?_cons_succ] at y0 y1 y2 y3 y4
          refine bodyPost_ret (v := .tuple #[.agg #[.int .i64 0, .int .i64 0, .int .i64 0, .int .i64 0, .slice none 0 0], v]) (by simp [results, Try.results38, go_sem, y0, y1, y2, y3, y4]) rfl ?_
          exact ⟨_, by rw [HM.out]; rfl, by rw [HM.out]; exact G.out.2.2, by rw [HM.out]; exact G.out.2.1⟩
end Go.Proofs.Ytlopkfenbeahgaa

