/- register, reserve. -/
import Derived.Test.YtjokohjdpickoaaXRv10
namespace Go.Proofs.Ytjokohjdpickoaa
open Go.RowKit Go.Shelf
set_option linter.unusedVariables false
set_option linter.unusedSimpArgs false
set_option maxRecDepth 4000

def rpV (r : Int × Int × Int × Int) : Value := .agg #[.int .i64 r.1, .int .i64 r.2.1, .int .i64 r.2.2.1, .int .i64 r.2.2.2, .slice none 0 0]
abbrev Ans := (Int × Int × Int × Int) × Rs × List (Int × Int)
/-- what a command's call answers, tells, and leaves -/
def Does (w : World) (g : Nat) (r : Ans) (e : Ending) (w' : World) : Prop := ∃ v, e = .returned (.tuple #[rpV r.1, v]) ∧ Nts w w' v r.2.2 ∧ RT w w' g r.2.1
def regM (m : Rs) (i : Nat) (c : Cm) : Ans := if c.key = m.ks.getD i 0 then ((0, 0, 0, 0), ignM m i c.nw) else ((24, 0, 0, 0), m, [])
def rsvM (m : Rs) (i : Nat) (c : Cm) : Ans := if tyB c.t = false then ((2, 5, 36, 0), m, []) else if m.k = 0 then ((0, 0, 0, 0), hold m i c.t, []) else if hoB m i = true ∧ m.k = c.t then ((0, 0, 0, 0), m, []) else ((24, 0, 0, 0), m, [])
theorem tyB_bd {t : Int} (h : tyB t = true) : 0 ≤ t ∧ t ≤ 8 := by
  unfold tyB at h
  simp only [Bool.or_eq_true, beq_iff_eq] at h
  omega
set_option maxHeartbeats 8000000 in
theorem register_any (g : Nat) (m : Rs) (i : Nat) (c : Cm) (w : World) (h : (rv g m).Ok w) (hi : i < 16) (hnw : 0 ≤ c.nw ∧ c.nw < 18446744073709551616) : Calls Try.prog 35 #[.pointer (some ⟨g, 0, none⟩), .int .i64 i, .agg #[.int .i64 c.a, .int .u64 c.key, .int .u64 c.nw, .int .i64 c.t]] w (Does w g (regM m i c)) := by
  have hgl := h.holds.1.lt
  have b1 : Below w.heap.size w (w.alloc (.cells #[.int .i64 c.a, .int .u64 c.key, .int .u64 c.nw, .int .i64 c.t] 37)) := (Below.refl _ _).alloc (Nat.le_refl _) _
  have B1 := Blk.new' w 37 [.int .i64 c.a, .int .u64 c.key, .int .u64 c.nw, .int .i64 c.t]
  obtain ⟨w0, hw0⟩ : ∃ w0, w0 = w.alloc (.cells #[.int .i64 c.a, .int .u64 c.key, .int .u64 c.nw, .int .i64 c.t] 37) := ⟨_, rfl⟩
  have z0 : w0.heap.size = w.heap.size + 1 := by rw [hw0]; simp
  rw [← hw0] at b1 B1
  have b2 : Below w0.heap.size w0 (w0.alloc (.cells #[.int .i64 0, .int .i64 0, .int .i64 0, .int .i64 0, .slice none 0 0] 28)) := (Below.refl _ _).alloc (Nat.le_refl _) _
  have B2 := Blk.new' w0 28 [.int .i64 0, .int .i64 0, .int .i64 0, .int .i64 0, .slice none 0 0]
  obtain ⟨w1, hw1⟩ : ∃ w1, w1 = w0.alloc (.cells #[.int .i64 0, .int .i64 0, .int .i64 0, .int .i64 0, .slice none 0 0] 28) := ⟨_, rfl⟩
  have z1 : w1.heap.size = w.heap.size + 2 := by rw [hw1]; simp [z0]
  rw [← hw1] at b2 B2
  rw [z0] at B2
  have H1 : Hid (RT w w1 g m ∧ Blk w1 w.heap.size 37 [.int .i64 c.a, .int .u64 c.key, .int .u64 c.nw, .int .i64 c.t] ∧ Blk w1 (w.heap.size + 1) 28 [.int .i64 0, .int .i64 0, .int .i64 0, .int .i64 0, .slice none 0 0] ∧ w1.heap.size = w.heap.size + 2 ∧ g < w.heap.size) := ⟨(RT.start h).later (below_then b1 b2), B1.laterB b2, B2, z1, hgl⟩
  clear b1 B1 b2 B2 z0 z1 hgl h
  go_enter Try.func35, Try.ntmps35
  go_upto_region 1 with fail
  rw [← hw0, ← hw1]
  clear hw0 hw1
  have HC : Hid (∀ W, Below w1.heap.size w1 W → W.cell? ⟨w.heap.size, 1, none⟩ = some (.int .u64 c.key) ∧ W.cell? ⟨w.heap.size, 3, none⟩ = some (.int .i64 c.t)) := fun W b => ⟨by have := blk_at (H1.out.2.1.laterB b) 1; simpa using this, by have := blk_at (H1.out.2.1.laterB b) 3; simpa using this⟩
  have q : (i : Int) < 16 := by omega
  obtain ⟨x, hx0⟩ : ∃ x, m.ks.getD i 0 = x := ⟨_, rfl⟩
  have HX0 : Hid _ := hx0
  clear hx0
  have bd : Below w1.heap.size w1 w1.drew := (Below.refl _ _).drew
  have H2 : Hid (RT w w1.drew g m ∧ Blk w1.drew w.heap.size 37 [.int .i64 c.a, .int .u64 c.key, .int .u64 c.nw, .int .i64 c.t] ∧ Blk w1.drew (w.heap.size + 1) 28 [.int .i64 0, .int .i64 0, .int .i64 0, .int .i64 0, .slice none 0 0] ∧ w1.drew.heap.size = w.heap.size + 2) := ⟨H1.out.1.later bd, H1.out.2.1.laterB bd, H1.out.2.2.1.laterB bd, H1.out.2.2.2.1⟩
  refine wp_region_held_drew (S := fun W => Below w1.heap.size w1 W) (by kernel_rfl) ((Below.refl _ _).drew) (fun hS => ?_)
  refine any_take (i := 0) (v := ?_) rfl (by kernel_rfl) (by kernel_rfl) (by kernel_rfl) (by exact fun _ _ _ h => h) (by rfl) ?_ hS ?_
  rotate_left
  · ((intro w hSw; have ky := (H1.out.1.ok.later hSw).holds.2.key (H1.out.1.ok.later hSw).holds.1 i hi; rw [HX0.out] at ky; obtain ⟨k1, k3⟩ := HC.out _ hSw; go_simp) <;> with_reducible rfl)
  (try simp only [Act.put, List.setIfInBounds_toArray, List.set_cons_zero, List.set_cons_succ])
  refine any_take (i := 1) (v := ?_) rfl (by kernel_rfl) (by kernel_rfl) (by kernel_rfl) (by exact fun _ _ _ h => h) (by rfl) ?_ hS ?_
  rotate_left
  · ((intro w hSw; have ky := (H1.out.1.ok.later hSw).holds.2.key (H1.out.1.ok.later hSw).holds.1 i hi; rw [HX0.out] at ky; obtain ⟨k1, k3⟩ := HC.out _ hSw; go_simp) <;> with_reducible rfl)
  (try simp only [Act.put, List.setIfInBounds_toArray, List.set_cons_zero, List.set_cons_succ])
  refine any_take (i := 2) (v := ?_) rfl (by kernel_rfl) (by kernel_rfl) (by kernel_rfl) (by exact fun _ _ _ h => h) (by rfl) ?_ hS ?_
  rotate_left
  · ((intro w hSw; have ky := (H1.out.1.ok.later hSw).holds.2.key (H1.out.1.ok.later hSw).holds.1 i hi; rw [HX0.out] at ky; obtain ⟨k1, k3⟩ := HC.out _ hSw; go_simp) <;> with_reducible rfl)
  (try simp only [Act.put, List.setIfInBounds_toArray, List.set_cons_zero, List.set_cons_succ])
  refine any_take (i := 3) (v := ?_) rfl (by kernel_rfl) (by kernel_rfl) (by kernel_rfl) (by exact fun _ _ _ h => h) (by rfl) ?_ hS ?_
  rotate_left
  · ((intro w hSw; have ky := (H1.out.1.ok.later hSw).holds.2.key (H1.out.1.ok.later hSw).holds.1 i hi; rw [HX0.out] at ky; obtain ⟨k1, k3⟩ := HC.out _ hSw; go_simp) <;> with_reducible rfl)
  (try simp only [Act.put, List.setIfInBounds_toArray, List.set_cons_zero, List.set_cons_succ])
  refine any_take (i := 4) (v := ?_) rfl (by kernel_rfl) (by kernel_rfl) (by kernel_rfl) (by exact fun _ _ _ h => h) (by rfl) ?_ hS ?_
  rotate_left
  · ((intro w hSw; have ky := (H1.out.1.ok.later hSw).holds.2.key (H1.out.1.ok.later hSw).holds.1 i hi; rw [HX0.out] at ky; obtain ⟨k1, k3⟩ := HC.out _ hSw; go_simp) <;> with_reducible rfl)
  (try simp only [Act.put, List.setIfInBounds_toArray, List.set_cons_zero, List.set_cons_succ])
  refine any_take (i := 5) (v := ?_) rfl (by kernel_rfl) (by kernel_rfl) (by kernel_rfl) (by exact fun _ _ _ h => h) (by rfl) ?_ hS ?_
  rotate_left
  · ((intro w hSw; have ky := (H1.out.1.ok.later hSw).holds.2.key (H1.out.1.ok.later hSw).holds.1 i hi; rw [HX0.out] at ky; obtain ⟨k1, k3⟩ := HC.out _ hSw; go_simp) <;> with_reducible rfl)
  (try simp only [Act.put, List.setIfInBounds_toArray, List.set_cons_zero, List.set_cons_succ])
  refine any_take (i := 6) (v := ?_) rfl (by kernel_rfl) (by kernel_rfl) (by kernel_rfl) (by exact fun _ _ _ h => h) (by rfl) ?_ hS ?_
  rotate_left
  · ((intro w hSw; have ky := (H1.out.1.ok.later hSw).holds.2.key (H1.out.1.ok.later hSw).holds.1 i hi; rw [HX0.out] at ky; obtain ⟨k1, k3⟩ := HC.out _ hSw; go_simp) <;> with_reducible rfl)
  (try simp only [Act.put, List.setIfInBounds_toArray, List.set_cons_zero, List.set_cons_succ])
  refine any_take (i := 7) (v := ?_) rfl (by kernel_rfl) (by kernel_rfl) (by kernel_rfl) (by exact fun _ _ _ h => h) (by rfl) ?_ hS ?_
  rotate_left
  · ((intro w hSw; have ky := (H1.out.1.ok.later hSw).holds.2.key (H1.out.1.ok.later hSw).holds.1 i hi; rw [HX0.out] at ky; obtain ⟨k1, k3⟩ := HC.out _ hSw; go_simp) <;> with_reducible rfl)
  (try simp only [Act.put, List.setIfInBounds_toArray, List.set_cons_zero, List.set_cons_succ])
  refine any_take (i := 8) (v := ?_) rfl (by kernel_rfl) (by kernel_rfl) (by kernel_rfl) (by exact fun _ _ _ h => h) (by rfl) ?_ hS ?_
  rotate_left
  · ((intro w hSw; have ky := (H1.out.1.ok.later hSw).holds.2.key (H1.out.1.ok.later hSw).holds.1 i hi; rw [HX0.out] at ky; obtain ⟨k1, k3⟩ := HC.out _ hSw; go_simp) <;> with_reducible rfl)
  (try simp only [Act.put, List.setIfInBounds_toArray, List.set_cons_zero, List.set_cons_succ])
  refine wpAnyH_done (by kernel_rfl) ?_ _
  clear hS
  clear bd HC
  generalize w1.drew = w2 at *
  by_cases hx : c.key = x
  · have HM0 : regM m i c = ((0, 0, 0, 0), ignM m i c.nw) := by unfold regM; rw [HX0.out, if_pos hx]
    have HM : Hid _ := HM0
    have HI : Hid _ := ignore_any g m i c w2 H2.out.1.ok hi hnw
    have k0 := blk_at H2.out.2.1 0
    have k1 := blk_at H2.out.2.1 1
    have k2 := blk_at H2.out.2.1 2
    have k3 := blk_at H2.out.2.1 3
    simp only [List.getElem?_cons_zero, List.getElem?_cons_succ] at k0 k1 k2 k3
    have hx2 : (c.key != x) = false := by rw [bne_eq_false_iff_eq]; exact hx
    (try rw [hx2])
    clear HM0 hx hx2
    go_wp2_with fail
    refine (Calls.mono HI.out) ?_
    rintro e w3 ⟨v, rfl, hN, r3⟩
    have h2s := H2.out.2.2.2
    have r3' := H2.out.1.trans r3
    have B3 := r3.blk H2.out.2.2.1 (by have := H1.out.2.2.2.2; omega)
    have hN' := hN.lower H2.out.1.size
    have han : ∀ b, v.ownBlock = some b → b ≠ w.heap.size + 1 := fun b hb => by have := hN.new b hb; omega
    clear HI r3 hN k0 k1 k2 k3
    obtain ⟨va, vc, hv, -, -⟩ := hN'.own.open
    rw [hv] at hN' han ⊢
    have y0 := blk_at B3 0
    have f0 := blk_frozen B3 0
    have y1 := blk_at B3 1
    have f1 := blk_frozen B3 1
    have y2 := blk_at B3 2
    have f2 := blk_frozen B3 2
    have y3 := blk_at B3 3
    have f3 := blk_frozen B3 3
    have y4 := blk_at B3 4
    have f4 := blk_frozen B3 4
    simp only [List.getElem?_cons_zero, List.getElem?_cons_succ] at y0 y1 y2 y3 y4
    have SP := rp5_blk B3 (0) (0) (0) (0)
    have G : Hid _ := And.intro SP.1 (And.intro (r3'.codes SP.2 (by omega) H1.out.2.2.2.2) (hN'.keep SP.2 han))
    unfold rp5 at G
    clear SP B3
    go_wp2
    clear y0 y1 y2 y3 y4 f0 f1 f2 f3 f4
    generalize (((((w3).setCell ⟨w.heap.size + 1, 0, none⟩ (.int .i64 0)).setCell ⟨w.heap.size + 1, 1, none⟩ (.int .i64 0)).setCell ⟨w.heap.size + 1, 2, none⟩ (.int .i64 0)).setCell ⟨w.heap.size + 1, 3, none⟩ (.int .i64 0)).setCell ⟨w.heap.size + 1, 4, none⟩ (.slice none 0 0) = wf at *
    have y0 := blk_at G.out.1 0
    have y1 := blk_at G.out.1 1
    have y2 := blk_at G.out.1 2
    have y3 := blk_at G.out.1 3
    have y4 := blk_at G.out.1 4
    simp only [List.getElem?_cons_zero, List.getElem?_cons_succ] at y0 y1 y2 y3 y4
    refine bodyPost_ret (v := .tuple #[.agg #[.int .i64 0, .int .i64 0, .int .i64 0, .int .i64 0, .slice none 0 0], .slice va (ignM m i c.nw).2.length vc]) (by simp [results, Try.results35, go_sem, y0, y1, y2, y3, y4]) rfl ?_
    exact ⟨_, by rw [HM.out]; rfl, by rw [HM.out]; exact G.out.2.2, by rw [HM.out]; exact G.out.2.1⟩
  · have HM0 : regM m i c = ((24, 0, 0, 0), m, []) := by unfold regM; rw [HX0.out, if_neg hx]
    have HM : Hid _ := HM0
    have hx' : (c.key != x) = true := by rw [bne_iff_ne]; exact hx
    (try rw [hx'])
    have RTW := H2.out.1
    have BW := H2.out.2.2.1
    clear HM0 H2
    have HG : Hid _ := conflict_any w2
    go_wp2_with fail
    refine (Calls.mono HG.out) ?_
    rintro e w9 ⟨rfl, b9⟩
    have r3' := RTW.later b9
    have B3 := BW.laterB b9
    have hN' : Nts w w9 (.slice none 0 0) [] := Nts.nil _ _
    have han : ∀ b, (Value.slice none 0 0).ownBlock = some b → b ≠ w.heap.size + 1 := fun b hb => by cases hb
    clear HG b9 RTW BW
    have y0 := blk_at B3 0
    have f0 := blk_frozen B3 0
    have y1 := blk_at B3 1
    have f1 := blk_frozen B3 1
    have y2 := blk_at B3 2
    have f2 := blk_frozen B3 2
    have y3 := blk_at B3 3
    have f3 := blk_frozen B3 3
    have y4 := blk_at B3 4
    have f4 := blk_frozen B3 4
    simp only [List.getElem?_cons_zero, List.getElem?_cons_succ] at y0 y1 y2 y3 y4
    have SP := rp5_blk B3 (24) (0) (0) (0)
    have G : Hid _ := And.intro SP.1 (And.intro (r3'.codes SP.2 (by omega) H1.out.2.2.2.2) (hN'.keep SP.2 han))
    unfold rp5 at G
    clear SP B3
    go_wp2
    clear y0 y1 y2 y3 y4 f0 f1 f2 f3 f4
    generalize (((((w9).setCell ⟨w.heap.size + 1, 0, none⟩ (.int .i64 24)).setCell ⟨w.heap.size + 1, 1, none⟩ (.int .i64 0)).setCell ⟨w.heap.size + 1, 2, none⟩ (.int .i64 0)).setCell ⟨w.heap.size + 1, 3, none⟩ (.int .i64 0)).setCell ⟨w.heap.size + 1, 4, none⟩ (.slice none 0 0) = wf at *
    have y0 := blk_at G.out.1 0
    have y1 := blk_at G.out.1 1
    have y2 := blk_at G.out.1 2
    have y3 := blk_at G.out.1 3
    have y4 := blk_at G.out.1 4
    simp only [List.getElem?_cons_zero, List.getElem?_cons_succ] at y0 y1 y2 y3 y4
    refine bodyPost_ret (v := .tuple #[.agg #[.int .i64 24, .int .i64 0, .int .i64 0, .int .i64 0, .slice none 0 0], .slice none 0 0]) (by simp [results, Try.results35, go_sem, y0, y1, y2, y3, y4]) rfl ?_
    exact ⟨_, by rw [HM.out]; rfl, by rw [HM.out]; exact G.out.2.2, by rw [HM.out]; exact G.out.2.1⟩
set_option maxHeartbeats 8000000 in
theorem reserve_any (g : Nat) (m : Rs) (i : Nat) (c : Cm) (w : World) (h : (rv g m).Ok w) (hi : i < 16) : Calls Try.prog 36 #[.pointer (some ⟨g, 0, none⟩), .int .i64 i, .agg #[.int .i64 c.a, .int .u64 c.key, .int .u64 c.nw, .int .i64 c.t]] w (Does w g (rsvM m i c)) := by
  have hgl := h.holds.1.lt
  have b1 : Below w.heap.size w (w.alloc (.cells #[.int .i64 c.a, .int .u64 c.key, .int .u64 c.nw, .int .i64 c.t] 37)) := (Below.refl _ _).alloc (Nat.le_refl _) _
  have B1 := Blk.new' w 37 [.int .i64 c.a, .int .u64 c.key, .int .u64 c.nw, .int .i64 c.t]
  obtain ⟨w0, hw0⟩ : ∃ w0, w0 = w.alloc (.cells #[.int .i64 c.a, .int .u64 c.key, .int .u64 c.nw, .int .i64 c.t] 37) := ⟨_, rfl⟩
  have z0 : w0.heap.size = w.heap.size + 1 := by rw [hw0]; simp
  rw [← hw0] at b1 B1
  have b2 : Below w0.heap.size w0 (w0.alloc (.cells #[.int .i64 0, .int .i64 0, .int .i64 0, .int .i64 0, .slice none 0 0] 28)) := (Below.refl _ _).alloc (Nat.le_refl _) _
  have B2 := Blk.new' w0 28 [.int .i64 0, .int .i64 0, .int .i64 0, .int .i64 0, .slice none 0 0]
  obtain ⟨w1, hw1⟩ : ∃ w1, w1 = w0.alloc (.cells #[.int .i64 0, .int .i64 0, .int .i64 0, .int .i64 0, .slice none 0 0] 28) := ⟨_, rfl⟩
  have z1 : w1.heap.size = w.heap.size + 2 := by rw [hw1]; simp [z0]
  rw [← hw1] at b2 B2
  rw [z0] at B2
  have H1 : Hid (RT w w1 g m ∧ Blk w1 w.heap.size 37 [.int .i64 c.a, .int .u64 c.key, .int .u64 c.nw, .int .i64 c.t] ∧ Blk w1 (w.heap.size + 1) 28 [.int .i64 0, .int .i64 0, .int .i64 0, .int .i64 0, .slice none 0 0] ∧ w1.heap.size = w.heap.size + 2 ∧ g < w.heap.size) := ⟨(RT.start h).later (below_then b1 b2), B1.laterB b2, B2, z1, hgl⟩
  clear b1 B1 b2 B2 z0 z1 hgl h
  go_enter Try.func36, Try.ntmps36
  go_upto_region 1 with fail
  rw [← hw0, ← hw1]
  clear hw0 hw1
  have HTy : Hid _ := isType_any c.t w1
  have k0 := blk_at H1.out.2.1 0
  have k1 := blk_at H1.out.2.1 1
  have k2 := blk_at H1.out.2.1 2
  have k3 := blk_at H1.out.2.1 3
  simp only [List.getElem?_cons_zero, List.getElem?_cons_succ] at k0 k1 k2 k3
  have hW := H1.out.1.ok.holds.2
  cases hty : tyB c.t with
  | false =>
    rw [hty] at HTy
    have HM0 : rsvM m i c = ((2, 5, 36, 0), m, []) := by unfold rsvM; rw [if_pos hty]
    have HM : Hid _ := HM0
    have RTW := H1.out.1
    have BW := H1.out.2.2.1
    clear HM0 hW
    go_wp2_with fail
    refine (Calls.mono HTy.out) ?_
    rintro e _ ⟨rfl, rfl⟩
    have HG : Hid _ := wrong_any w1
    go_wp2_with fail
    refine (Calls.mono HG.out) ?_
    rintro e w9 ⟨rfl, b9⟩
    have r3' := RTW.later b9
    have B3 := BW.laterB b9
    have hN' : Nts w w9 (.slice none 0 0) [] := Nts.nil _ _
    have han : ∀ b, (Value.slice none 0 0).ownBlock = some b → b ≠ w.heap.size + 1 := fun b hb => by cases hb
    clear HG b9 RTW BW
    have y0 := blk_at B3 0
    have f0 := blk_frozen B3 0
    have y1 := blk_at B3 1
    have f1 := blk_frozen B3 1
    have y2 := blk_at B3 2
    have f2 := blk_frozen B3 2
    have y3 := blk_at B3 3
    have f3 := blk_frozen B3 3
    have y4 := blk_at B3 4
    have f4 := blk_frozen B3 4
    simp only [List.getElem?_cons_zero, List.getElem?_cons_succ] at y0 y1 y2 y3 y4
    have SP := rp5_blk B3 (2) (5) (36) (0)
    have G : Hid _ := And.intro SP.1 (And.intro (r3'.codes SP.2 (by omega) H1.out.2.2.2.2) (hN'.keep SP.2 han))
    unfold rp5 at G
    clear SP B3
    go_wp2
    clear y0 y1 y2 y3 y4 f0 f1 f2 f3 f4
    generalize (((((w9).setCell ⟨w.heap.size + 1, 0, none⟩ (.int .i64 2)).setCell ⟨w.heap.size + 1, 1, none⟩ (.int .i64 5)).setCell ⟨w.heap.size + 1, 2, none⟩ (.int .i64 36)).setCell ⟨w.heap.size + 1, 3, none⟩ (.int .i64 0)).setCell ⟨w.heap.size + 1, 4, none⟩ (.slice none 0 0) = wf at *
    have y0 := blk_at G.out.1 0
    have y1 := blk_at G.out.1 1
    have y2 := blk_at G.out.1 2
    have y3 := blk_at G.out.1 3
    have y4 := blk_at G.out.1 4
    simp only [List.getElem?_cons_zero, List.getElem?_cons_succ] at y0 y1 y2 y3 y4
    refine bodyPost_ret (v := .tuple #[.agg #[.int .i64 2, .int .i64 5, .int .i64 36, .int .i64 0, .slice none 0 0], .slice none 0 0]) (by simp [results, Try.results36, go_sem, y0, y1, y2, y3, y4]) rfl ?_
    exact ⟨_, by rw [HM.out]; rfl, by rw [HM.out]; exact G.out.2.2, by rw [HM.out]; exact G.out.2.1⟩
  | true =>
    rw [hty] at HTy
    have y2 := blk_at H1.out.1.ok.holds.1 2
    simp only [rsC, List.getElem?_cons_zero, List.getElem?_cons_succ] at y2
    by_cases hk : m.k = 0
    · have HM0 : rsvM m i c = ((0, 0, 0, 0), hold m i c.t, []) := by unfold rsvM; rw [hty, if_neg (by decide), if_pos hk]
      have HM : Hid _ := HM0
      rw [hk] at y2
      have HT : Hid (∀ W, Turned (fun k => k = g) w1 W → W.cell? ⟨w.heap.size, 3, none⟩ = some (.int .i64 c.t)) := fun W t => by have := blk_at (H1.out.2.1.turned t (by have := H1.out.2.2.2.2; show ¬ w.heap.size = g; omega)) 3; simpa using this
      have hct : 0 ≤ c.t ∧ c.t ≤ 8 := tyB_bd hty
      clear HM0
      go_wp2_with fail
      refine (Calls.mono HTy.out) ?_
      rintro e _ ⟨rfl, rfl⟩
      go_upto_region 4 with fail
      clear y2 k0 k1 k2 k3
      refine wp_region_held_drew (S := fun W => Turned (fun k => k = g) w1 W) (by kernel_rfl) (tndr (Below.refl _ _).drew) (fun hS => ?_)
      refine any_take (i := 0) (v := ?_) rfl (by kernel_rfl) (by kernel_rfl) (by kernel_rfl) (by exact fun _ _ _ h => h) (by rfl) ?_ hS ?_
      rotate_left
      · ((intro w hSw; have k3 := HT.out _ hSw; go_simp) <;> with_reducible rfl)
      (try simp only [Act.put, List.setIfInBounds_toArray, List.set_cons_zero, List.set_cons_succ])
      refine any_take (i := 1) (v := ?_) rfl (by kernel_rfl) (by kernel_rfl) (by kernel_rfl) (by exact fun _ _ _ h => h) (by rfl) ?_ hS ?_
      rotate_left
      · ((intro w hSw; have k3 := HT.out _ hSw; go_simp) <;> with_reducible rfl)
      (try simp only [Act.put, List.setIfInBounds_toArray, List.set_cons_zero, List.set_cons_succ])
      refine any_take (i := 2) (v := ?_) rfl (by kernel_rfl) (by kernel_rfl) (by kernel_rfl) (by exact fun _ _ _ h => h) (by rfl) ?_ hS ?_
      rotate_left
      · ((intro w hSw; have k3 := HT.out _ hSw; go_simp) <;> with_reducible rfl)
      (try simp only [Act.put, List.setIfInBounds_toArray, List.set_cons_zero, List.set_cons_succ])
      refine any_take (i := 3) (v := ?_) rfl (by kernel_rfl) (by kernel_rfl) (by kernel_rfl) (by exact fun _ _ _ h => h) (by rfl) ?_ hS ?_
      rotate_left
      · ((intro w hSw; have k3 := HT.out _ hSw; go_simp) <;> with_reducible rfl)
      (try simp only [Act.put, List.setIfInBounds_toArray, List.set_cons_zero, List.set_cons_succ])
      refine any_take (i := 4) (v := ?_) rfl (by kernel_rfl) (by kernel_rfl) (by kernel_rfl) (by exact fun _ _ _ h => h) (by rfl) ?_ hS ?_
      rotate_left
      · ((intro w hSw; have k3 := HT.out _ hSw; go_simp) <;> with_reducible rfl)
      (try simp only [Act.put, List.setIfInBounds_toArray, List.set_cons_zero, List.set_cons_succ])
      refine any_take (i := 5) (v := ?_) rfl (by kernel_rfl) (by kernel_rfl) (by kernel_rfl) (by exact fun _ _ _ h => h) (by rfl) ?_ hS ?_
      rotate_left
      · ((intro w hSw; have k3 := HT.out _ hSw; go_simp) <;> with_reducible rfl)
      (try simp only [Act.put, List.setIfInBounds_toArray, List.set_cons_zero, List.set_cons_succ])
      refine any_take (i := 6) (v := ?_) rfl (by kernel_rfl) (by kernel_rfl) (by kernel_rfl) (by exact fun _ _ _ h => h) (by rfl) ?_ hS ?_
      rotate_left
      · ((intro w hSw; have k3 := HT.out _ hSw; go_simp) <;> with_reducible rfl)
      (try simp only [Act.put, List.setIfInBounds_toArray, List.set_cons_zero, List.set_cons_succ])
      have B0 : Blk w1.drew g 63 (rsC m) := H1.out.1.ok.holds.1.laterB (Below.refl _ _).drew
      generalize w1.drew = W0 at *
      have hc := blk_at B0 1
      simp only [rsC, List.getElem?_cons_zero, List.getElem?_cons_succ] at hc
      have hz := blk_frozen B0 1
      refine any_on (i := 7) rfl (by kernel_rfl) (fun K hK => ?_)
      go_simp
      have B1 := B0.set 1 (.int .i64 i)
      simp only [rsC, List.set_cons_zero, List.set_cons_succ] at B1
      clear hc hz
      refine hK.out _ _ (hS.trans ((turned_set _ g 1 _).mono (fun k e => .inl e))) (fun hS => ?_)
      clear hK K
      refine any_take (i := 8) (v := ?_) rfl (by kernel_rfl) (by kernel_rfl) (by kernel_rfl) (by exact fun _ _ _ h => h) (by rfl) ?_ hS ?_
      rotate_left
      · ((intro w hSw; skip; go_simp) <;> with_reducible rfl)
      (try simp only [Act.put, List.setIfInBounds_toArray, List.set_cons_zero, List.set_cons_succ])
      refine any_take (i := 9) (v := ?_) rfl (by kernel_rfl) (by kernel_rfl) (by kernel_rfl) (by exact fun _ _ _ h => h) (by rfl) ?_ hS ?_
      rotate_left
      · ((intro w hSw; skip; go_simp) <;> with_reducible rfl)
      (try simp only [Act.put, List.setIfInBounds_toArray, List.set_cons_zero, List.set_cons_succ])
      have hc := blk_at B1 2
      simp only [rsC, List.getElem?_cons_zero, List.getElem?_cons_succ] at hc
      have hz := blk_frozen B1 2
      refine any_on (i := 10) rfl (by kernel_rfl) (fun K hK => ?_)
      go_simp
      have B2 := B1.set 2 (.int .i64 c.t)
      simp only [rsC, List.set_cons_zero, List.set_cons_succ] at B2
      clear hc hz
      refine hK.out _ _ (hS.trans ((turned_set _ g 2 _).mono (fun k e => .inl e))) (fun hS => ?_)
      clear hK K
      refine wpAnyH_done (by kernel_rfl) ?_ _
      have RTW : RT w _ g (hold m i c.t) := ⟨rv_ok B2 (hold_wf hW i c.t (by omega) hct), H1.out.1.tn.trans (hS.mono (fun k e => .inl e))⟩
      have BW := H1.out.2.2.1.turned hS (by have := H1.out.2.2.2.2; show ¬ w.heap.size + 1 = g; omega)
      clear hS B0 B1 B2 HT HTy
      generalize (W0.setCell ⟨g, 1, none⟩ (.int .i64 i)).setCell ⟨g, 2, none⟩ (.int .i64 c.t) = w2 at *
      have HG : Hid _ := good_any w2
      go_wp2_with fail
      refine (Calls.mono HG.out) ?_
      rintro e w9 ⟨rfl, b9⟩
      have r3' := RTW.later b9
      have B3 := BW.laterB b9
      have hN' : Nts w w9 (.slice none 0 0) [] := Nts.nil _ _
      have han : ∀ b, (Value.slice none 0 0).ownBlock = some b → b ≠ w.heap.size + 1 := fun b hb => by cases hb
      clear HG b9 RTW BW
      have y0 := blk_at B3 0
      have f0 := blk_frozen B3 0
      have y1 := blk_at B3 1
      have f1 := blk_frozen B3 1
      have y2 := blk_at B3 2
      have f2 := blk_frozen B3 2
      have y3 := blk_at B3 3
      have f3 := blk_frozen B3 3
      have y4 := blk_at B3 4
      have f4 := blk_frozen B3 4
      simp only [List.getElem?_cons_zero, List.getElem?_cons_succ] at y0 y1 y2 y3 y4
      have SP := rp5_blk B3 (0) (0) (0) (0)
      have G : Hid _ := And.intro SP.1 (And.intro (r3'.codes SP.2 (by omega) H1.out.2.2.2.2) (hN'.keep SP.2 han))
      unfold rp5 at G
      clear SP B3
      go_wp2
      clear y0 y1 y2 y3 y4 f0 f1 f2 f3 f4
      generalize (((((w9).setCell ⟨w.heap.size + 1, 0, none⟩ (.int .i64 0)).setCell ⟨w.heap.size + 1, 1, none⟩ (.int .i64 0)).setCell ⟨w.heap.size + 1, 2, none⟩ (.int .i64 0)).setCell ⟨w.heap.size + 1, 3, none⟩ (.int .i64 0)).setCell ⟨w.heap.size + 1, 4, none⟩ (.slice none 0 0) = wf at *
      have y0 := blk_at G.out.1 0
      have y1 := blk_at G.out.1 1
      have y2 := blk_at G.out.1 2
      have y3 := blk_at G.out.1 3
      have y4 := blk_at G.out.1 4
      simp only [List.getElem?_cons_zero, List.getElem?_cons_succ] at y0 y1 y2 y3 y4
      refine bodyPost_ret (v := .tuple #[.agg #[.int .i64 0, .int .i64 0, .int .i64 0, .int .i64 0, .slice none 0 0], .slice none 0 0]) (by simp [results, Try.results36, go_sem, y0, y1, y2, y3, y4]) rfl ?_
      exact ⟨_, by rw [HM.out]; rfl, by rw [HM.out]; exact G.out.2.2, by rw [HM.out]; exact G.out.2.1⟩
    · have hk' : (m.k == 0) = false := by rw [beq_eq_false_iff_ne]; exact hk
      cases hho : hoB m i with
      | false =>
        have HM0 : rsvM m i c = ((24, 0, 0, 0), m, []) := by unfold rsvM; rw [hty, if_neg (by decide), if_neg hk, if_neg (by rw [hho]; simp)]
        have HM : Hid _ := HM0
        have bd : Below w1.heap.size w1 w1.drew := (Below.refl _ _).drew
        have RTW := H1.out.1.later bd
        have BW := H1.out.2.2.1.laterB bd
        have HC : Hid (∀ W, Below w1.heap.size w1 W → W.cell? ⟨w.heap.size, 1, none⟩ = some (.int .u64 c.key) ∧ W.cell? ⟨w.heap.size, 3, none⟩ = some (.int .i64 c.t)) := fun W b => ⟨by have := blk_at (H1.out.2.1.laterB b) 1; simpa using this, by have := blk_at (H1.out.2.1.laterB b) 3; simpa using this⟩
        have HY : Hid (∀ W, Below w1.heap.size w1 W → W.cell? ⟨g, 2, none⟩ = some (.int .i64 m.k)) := fun W b => by have := blk_at (H1.out.1.ok.later b).holds.1 2; simpa [rsC] using this
        have HH : Hid (∀ W, Below w1.heap.size w1 W → _) := fun W b => holds_any g m i W (H1.out.1.ok.later b) hi
        clear HM0 bd
        go_wp2_with fail
        refine (Calls.mono HTy.out) ?_
        rintro e _ ⟨rfl, rfl⟩
        clear HTy
        go_upto_region 5 with fail
        clear y2 k0 k1 k2 k3
        rw [hho] at HH
        refine wp_region_held_drew (S := fun W => Below w1.heap.size w1 W) (by kernel_rfl) ((Below.refl _ _).drew) (fun hS => ?_)
        refine any_take (i := 0) (v := ?_) rfl (by kernel_rfl) (by kernel_rfl) (by kernel_rfl) (by exact fun _ _ _ h => h) (by rfl) ?_ hS ?_
        rotate_left
        · ((intro w hSw; skip; go_simp) <;> with_reducible rfl)
        (try simp only [Act.put, List.setIfInBounds_toArray, List.set_cons_zero, List.set_cons_succ])
        refine any_take (i := 1) (v := ?_) rfl (by kernel_rfl) (by kernel_rfl) (by kernel_rfl) (by exact fun _ _ _ h => h) (by rfl) ?_ hS ?_
        rotate_left
        · ((intro w hSw; skip; go_simp) <;> with_reducible rfl)
        (try simp only [Act.put, List.setIfInBounds_toArray, List.set_cons_zero, List.set_cons_succ])
        refine any_one (i := 2) rfl (by kernel_rfl) (fun K hK => ?_)
        go_simp
        refine (Calls.mono (HH.out _ hS)) ?_
        rintro e _ ⟨rfl, rfl⟩
        go_wp2_with fail
        refine hK.out _ _ hS ?_
        clear hK K
        refine any_take (i := 3) (v := ?_) rfl (by kernel_rfl) (by kernel_rfl) (by kernel_rfl) (by exact fun _ _ _ h => h) (by rfl) ?_ hS ?_
        rotate_left
        · ((intro w hSw; skip; go_simp) <;> with_reducible rfl)
        (try simp only [Act.put, List.setIfInBounds_toArray, List.set_cons_zero, List.set_cons_succ])
        refine any_take (i := 4) (v := ?_) rfl (by kernel_rfl) (by kernel_rfl) (by kernel_rfl) (by exact fun _ _ _ h => h) (by rfl) ?_ hS ?_
        rotate_left
        · ((intro w hSw; skip; go_simp) <;> with_reducible rfl)
        (try simp only [Act.put, List.setIfInBounds_toArray, List.set_cons_zero, List.set_cons_succ])
        refine any_skip (i := 5) rfl (by kernel_rfl) (by kernel_rfl) (by kernel_rfl) (by exact fun _ _ _ h => h) (by rfl) hS ?_
        (try simp only [Act.put, List.setIfInBounds_toArray, List.set_cons_zero, List.set_cons_succ])
        refine any_skip (i := 6) rfl (by kernel_rfl) (by kernel_rfl) (by kernel_rfl) (by exact fun _ _ _ h => h) (by rfl) hS ?_
        (try simp only [Act.put, List.setIfInBounds_toArray, List.set_cons_zero, List.set_cons_succ])
        refine any_skip (i := 7) rfl (by kernel_rfl) (by kernel_rfl) (by kernel_rfl) (by exact fun _ _ _ h => h) (by rfl) hS ?_
        (try simp only [Act.put, List.setIfInBounds_toArray, List.set_cons_zero, List.set_cons_succ])
        refine any_skip (i := 8) rfl (by kernel_rfl) (by kernel_rfl) (by kernel_rfl) (by exact fun _ _ _ h => h) (by rfl) hS ?_
        (try simp only [Act.put, List.setIfInBounds_toArray, List.set_cons_zero, List.set_cons_succ])
        refine any_skip (i := 9) rfl (by kernel_rfl) (by kernel_rfl) (by kernel_rfl) (by exact fun _ _ _ h => h) (by rfl) hS ?_
        (try simp only [Act.put, List.setIfInBounds_toArray, List.set_cons_zero, List.set_cons_succ])
        refine any_skip (i := 10) rfl (by kernel_rfl) (by kernel_rfl) (by kernel_rfl) (by exact fun _ _ _ h => h) (by rfl) hS ?_
        (try simp only [Act.put, List.setIfInBounds_toArray, List.set_cons_zero, List.set_cons_succ])
        refine any_skip (i := 11) rfl (by kernel_rfl) (by kernel_rfl) (by kernel_rfl) (by exact fun _ _ _ h => h) (by rfl) hS ?_
        (try simp only [Act.put, List.setIfInBounds_toArray, List.set_cons_zero, List.set_cons_succ])
        refine any_take (i := 12) (v := ?_) rfl (by kernel_rfl) (by kernel_rfl) (by kernel_rfl) (by exact fun _ _ _ h => h) (by rfl) ?_ hS ?_
        rotate_left
        · ((intro w hSw; skip; go_simp) <;> with_reducible rfl)
        (try simp only [Act.put, List.setIfInBounds_toArray, List.set_cons_zero, List.set_cons_succ])
        refine any_take (i := 13) (v := ?_) rfl (by kernel_rfl) (by kernel_rfl) (by kernel_rfl) (by exact fun _ _ _ h => h) (by rfl) ?_ hS ?_
        rotate_left
        · ((intro w hSw; skip; go_simp) <;> with_reducible rfl)
        (try simp only [Act.put, List.setIfInBounds_toArray, List.set_cons_zero, List.set_cons_succ])
        refine wpAnyH_done (by kernel_rfl) ?_ _
        clear hS
        generalize w1.drew = w2 at *
        have HG : Hid _ := conflict_any w2
        go_wp2_with fail
        refine (Calls.mono HG.out) ?_
        rintro e w9 ⟨rfl, b9⟩
        have r3' := RTW.later b9
        have B3 := BW.laterB b9
        have hN' : Nts w w9 (.slice none 0 0) [] := Nts.nil _ _
        have han : ∀ b, (Value.slice none 0 0).ownBlock = some b → b ≠ w.heap.size + 1 := fun b hb => by cases hb
        clear HG b9 RTW BW
        have y0 := blk_at B3 0
        have f0 := blk_frozen B3 0
        have y1 := blk_at B3 1
        have f1 := blk_frozen B3 1
        have y2 := blk_at B3 2
        have f2 := blk_frozen B3 2
        have y3 := blk_at B3 3
        have f3 := blk_frozen B3 3
        have y4 := blk_at B3 4
        have f4 := blk_frozen B3 4
        simp only [List.getElem?_cons_zero, List.getElem?_cons_succ] at y0 y1 y2 y3 y4
        have SP := rp5_blk B3 (24) (0) (0) (0)
        have G : Hid _ := And.intro SP.1 (And.intro (r3'.codes SP.2 (by omega) H1.out.2.2.2.2) (hN'.keep SP.2 han))
        unfold rp5 at G
        clear SP B3
        go_wp2
        clear y0 y1 y2 y3 y4 f0 f1 f2 f3 f4
        generalize (((((w9).setCell ⟨w.heap.size + 1, 0, none⟩ (.int .i64 24)).setCell ⟨w.heap.size + 1, 1, none⟩ (.int .i64 0)).setCell ⟨w.heap.size + 1, 2, none⟩ (.int .i64 0)).setCell ⟨w.heap.size + 1, 3, none⟩ (.int .i64 0)).setCell ⟨w.heap.size + 1, 4, none⟩ (.slice none 0 0) = wf at *
        have y0 := blk_at G.out.1 0
        have y1 := blk_at G.out.1 1
        have y2 := blk_at G.out.1 2
        have y3 := blk_at G.out.1 3
        have y4 := blk_at G.out.1 4
        simp only [List.getElem?_cons_zero, List.getElem?_cons_succ] at y0 y1 y2 y3 y4
        refine bodyPost_ret (v := .tuple #[.agg #[.int .i64 24, .int .i64 0, .int .i64 0, .int .i64 0, .slice none 0 0], .slice none 0 0]) (by simp [results, Try.results36, go_sem, y0, y1, y2, y3, y4]) rfl ?_
        exact ⟨_, by rw [HM.out]; rfl, by rw [HM.out]; exact G.out.2.2, by rw [HM.out]; exact G.out.2.1⟩
      | true =>
        by_cases hkt : m.k = c.t
        · have HM0 : rsvM m i c = ((0, 0, 0, 0), m, []) := by unfold rsvM; rw [hty, if_neg (by decide), if_neg hk, if_pos ⟨hho, hkt⟩]
          have hne : (m.k != c.t) = false := by rw [bne_eq_false_iff_eq]; exact hkt
          have HM : Hid _ := HM0
          have bd : Below w1.heap.size w1 w1.drew := (Below.refl _ _).drew
          have RTW := H1.out.1.later bd
          have BW := H1.out.2.2.1.laterB bd
          have HC : Hid (∀ W, Below w1.heap.size w1 W → W.cell? ⟨w.heap.size, 1, none⟩ = some (.int .u64 c.key) ∧ W.cell? ⟨w.heap.size, 3, none⟩ = some (.int .i64 c.t)) := fun W b => ⟨by have := blk_at (H1.out.2.1.laterB b) 1; simpa using this, by have := blk_at (H1.out.2.1.laterB b) 3; simpa using this⟩
          have HY : Hid (∀ W, Below w1.heap.size w1 W → W.cell? ⟨g, 2, none⟩ = some (.int .i64 m.k)) := fun W b => by have := blk_at (H1.out.1.ok.later b).holds.1 2; simpa [rsC] using this
          have HH : Hid (∀ W, Below w1.heap.size w1 W → _) := fun W b => holds_any g m i W (H1.out.1.ok.later b) hi
          clear HM0 bd
          go_wp2_with fail
          refine (Calls.mono HTy.out) ?_
          rintro e _ ⟨rfl, rfl⟩
          clear HTy
          go_upto_region 5 with fail
          clear y2 k0 k1 k2 k3
          rw [hho] at HH
          refine wp_region_held_drew (S := fun W => Below w1.heap.size w1 W) (by kernel_rfl) ((Below.refl _ _).drew) (fun hS => ?_)
          refine any_take (i := 0) (v := ?_) rfl (by kernel_rfl) (by kernel_rfl) (by kernel_rfl) (by exact fun _ _ _ h => h) (by rfl) ?_ hS ?_
          rotate_left
          · ((intro w hSw; skip; go_simp) <;> with_reducible rfl)
          (try simp only [Act.put, List.setIfInBounds_toArray, List.set_cons_zero, List.set_cons_succ])
          refine any_take (i := 1) (v := ?_) rfl (by kernel_rfl) (by kernel_rfl) (by kernel_rfl) (by exact fun _ _ _ h => h) (by rfl) ?_ hS ?_
          rotate_left
          · ((intro w hSw; skip; go_simp) <;> with_reducible rfl)
          (try simp only [Act.put, List.setIfInBounds_toArray, List.set_cons_zero, List.set_cons_succ])
          refine any_one (i := 2) rfl (by kernel_rfl) (fun K hK => ?_)
          go_simp
          refine (Calls.mono (HH.out _ hS)) ?_
          rintro e _ ⟨rfl, rfl⟩
          go_wp2_with fail
          refine hK.out _ _ hS ?_
          clear hK K
          refine any_take (i := 3) (v := ?_) rfl (by kernel_rfl) (by kernel_rfl) (by kernel_rfl) (by exact fun _ _ _ h => h) (by rfl) ?_ hS ?_
          rotate_left
          · ((intro w hSw; skip; go_simp) <;> with_reducible rfl)
          (try simp only [Act.put, List.setIfInBounds_toArray, List.set_cons_zero, List.set_cons_succ])
          refine any_take (i := 4) (v := ?_) rfl (by kernel_rfl) (by kernel_rfl) (by kernel_rfl) (by exact fun _ _ _ h => h) (by rfl) ?_ hS ?_
          rotate_left
          · ((intro w hSw; skip; go_simp) <;> with_reducible rfl)
          (try simp only [Act.put, List.setIfInBounds_toArray, List.set_cons_zero, List.set_cons_succ])
          refine any_take (i := 5) (v := ?_) rfl (by kernel_rfl) (by kernel_rfl) (by kernel_rfl) (by exact fun _ _ _ h => h) (by rfl) ?_ hS ?_
          rotate_left
          · ((intro w hSw; have y2 := HY.out _ hSw; obtain ⟨k1, k3⟩ := HC.out _ hSw; go_simp) <;> with_reducible rfl)
          (try simp only [Act.put, List.setIfInBounds_toArray, List.set_cons_zero, List.set_cons_succ])
          refine any_take (i := 6) (v := ?_) rfl (by kernel_rfl) (by kernel_rfl) (by kernel_rfl) (by exact fun _ _ _ h => h) (by rfl) ?_ hS ?_
          rotate_left
          · ((intro w hSw; have y2 := HY.out _ hSw; obtain ⟨k1, k3⟩ := HC.out _ hSw; go_simp) <;> with_reducible rfl)
          (try simp only [Act.put, List.setIfInBounds_toArray, List.set_cons_zero, List.set_cons_succ])
          refine any_take (i := 7) (v := ?_) rfl (by kernel_rfl) (by kernel_rfl) (by kernel_rfl) (by exact fun _ _ _ h => h) (by rfl) ?_ hS ?_
          rotate_left
          · ((intro w hSw; have y2 := HY.out _ hSw; obtain ⟨k1, k3⟩ := HC.out _ hSw; go_simp) <;> with_reducible rfl)
          (try simp only [Act.put, List.setIfInBounds_toArray, List.set_cons_zero, List.set_cons_succ])
          refine any_take (i := 8) (v := ?_) rfl (by kernel_rfl) (by kernel_rfl) (by kernel_rfl) (by exact fun _ _ _ h => h) (by rfl) ?_ hS ?_
          rotate_left
          · ((intro w hSw; have y2 := HY.out _ hSw; obtain ⟨k1, k3⟩ := HC.out _ hSw; go_simp) <;> with_reducible rfl)
          (try simp only [Act.put, List.setIfInBounds_toArray, List.set_cons_zero, List.set_cons_succ])
          refine any_take (i := 9) (v := ?_) rfl (by kernel_rfl) (by kernel_rfl) (by kernel_rfl) (by exact fun _ _ _ h => h) (by rfl) ?_ hS ?_
          rotate_left
          · ((intro w hSw; have y2 := HY.out _ hSw; obtain ⟨k1, k3⟩ := HC.out _ hSw; go_simp) <;> with_reducible rfl)
          (try simp only [Act.put, List.setIfInBounds_toArray, List.set_cons_zero, List.set_cons_succ])
          refine any_take (i := 10) (v := ?_) rfl (by kernel_rfl) (by kernel_rfl) (by kernel_rfl) (by exact fun _ _ _ h => h) (by rfl) ?_ hS ?_
          rotate_left
          · ((intro w hSw; have y2 := HY.out _ hSw; obtain ⟨k1, k3⟩ := HC.out _ hSw; go_simp) <;> with_reducible rfl)
          (try simp only [Act.put, List.setIfInBounds_toArray, List.set_cons_zero, List.set_cons_succ])
          refine any_take (i := 11) (v := ?_) rfl (by kernel_rfl) (by kernel_rfl) (by kernel_rfl) (by exact fun _ _ _ h => h) (by rfl) ?_ hS ?_
          rotate_left
          · ((intro w hSw; have y2 := HY.out _ hSw; obtain ⟨k1, k3⟩ := HC.out _ hSw; go_simp) <;> with_reducible rfl)
          (try simp only [Act.put, List.setIfInBounds_toArray, List.set_cons_zero, List.set_cons_succ])
          refine any_take (i := 12) (v := ?_) rfl (by kernel_rfl) (by kernel_rfl) (by kernel_rfl) (by exact fun _ _ _ h => h) (by rfl) ?_ hS ?_
          rotate_left
          · ((intro w hSw; skip; go_simp) <;> with_reducible rfl)
          (try simp only [Act.put, List.setIfInBounds_toArray, List.set_cons_zero, List.set_cons_succ])
          refine any_take (i := 13) (v := ?_) rfl (by kernel_rfl) (by kernel_rfl) (by kernel_rfl) (by exact fun _ _ _ h => h) (by rfl) ?_ hS ?_
          rotate_left
          · ((intro w hSw; skip; go_simp) <;> with_reducible rfl)
          (try simp only [Act.put, List.setIfInBounds_toArray, List.set_cons_zero, List.set_cons_succ])
          refine wpAnyH_done (by kernel_rfl) ?_ _
          clear hS
          generalize w1.drew = w2 at *
          (try rw [hne])
          have HG : Hid _ := good_any w2
          go_wp2_with fail
          refine (Calls.mono HG.out) ?_
          rintro e w9 ⟨rfl, b9⟩
          have r3' := RTW.later b9
          have B3 := BW.laterB b9
          have hN' : Nts w w9 (.slice none 0 0) [] := Nts.nil _ _
          have han : ∀ b, (Value.slice none 0 0).ownBlock = some b → b ≠ w.heap.size + 1 := fun b hb => by cases hb
          clear HG b9 RTW BW
          have y0 := blk_at B3 0
          have f0 := blk_frozen B3 0
          have y1 := blk_at B3 1
          have f1 := blk_frozen B3 1
          have y2 := blk_at B3 2
          have f2 := blk_frozen B3 2
          have y3 := blk_at B3 3
          have f3 := blk_frozen B3 3
          have y4 := blk_at B3 4
          have f4 := blk_frozen B3 4
          simp only [List.getElem?_cons_zero, List.getElem?_cons_succ] at y0 y1 y2 y3 y4
          have SP := rp5_blk B3 (0) (0) (0) (0)
          have G : Hid _ := And.intro SP.1 (And.intro (r3'.codes SP.2 (by omega) H1.out.2.2.2.2) (hN'.keep SP.2 han))
          unfold rp5 at G
          clear SP B3
          go_wp2
          clear y0 y1 y2 y3 y4 f0 f1 f2 f3 f4
          generalize (((((w9).setCell ⟨w.heap.size + 1, 0, none⟩ (.int .i64 0)).setCell ⟨w.heap.size + 1, 1, none⟩ (.int .i64 0)).setCell ⟨w.heap.size + 1, 2, none⟩ (.int .i64 0)).setCell ⟨w.heap.size + 1, 3, none⟩ (.int .i64 0)).setCell ⟨w.heap.size + 1, 4, none⟩ (.slice none 0 0) = wf at *
          have y0 := blk_at G.out.1 0
          have y1 := blk_at G.out.1 1
          have y2 := blk_at G.out.1 2
          have y3 := blk_at G.out.1 3
          have y4 := blk_at G.out.1 4
          simp only [List.getElem?_cons_zero, List.getElem?_cons_succ] at y0 y1 y2 y3 y4
          refine bodyPost_ret (v := .tuple #[.agg #[.int .i64 0, .int .i64 0, .int .i64 0, .int .i64 0, .slice none 0 0], .slice none 0 0]) (by simp [results, Try.results36, go_sem, y0, y1, y2, y3, y4]) rfl ?_
          exact ⟨_, by rw [HM.out]; rfl, by rw [HM.out]; exact G.out.2.2, by rw [HM.out]; exact G.out.2.1⟩
        · have HM0 : rsvM m i c = ((24, 0, 0, 0), m, []) := by unfold rsvM; rw [hty, if_neg (by decide), if_neg hk, if_neg (fun h => hkt h.2)]
          have hne : (m.k != c.t) = true := by rw [bne_iff_ne]; exact hkt
          have HM : Hid _ := HM0
          have bd : Below w1.heap.size w1 w1.drew := (Below.refl _ _).drew
          have RTW := H1.out.1.later bd
          have BW := H1.out.2.2.1.laterB bd
          have HC : Hid (∀ W, Below w1.heap.size w1 W → W.cell? ⟨w.heap.size, 1, none⟩ = some (.int .u64 c.key) ∧ W.cell? ⟨w.heap.size, 3, none⟩ = some (.int .i64 c.t)) := fun W b => ⟨by have := blk_at (H1.out.2.1.laterB b) 1; simpa using this, by have := blk_at (H1.out.2.1.laterB b) 3; simpa using this⟩
          have HY : Hid (∀ W, Below w1.heap.size w1 W → W.cell? ⟨g, 2, none⟩ = some (.int .i64 m.k)) := fun W b => by have := blk_at (H1.out.1.ok.later b).holds.1 2; simpa [rsC] using this
          have HH : Hid (∀ W, Below w1.heap.size w1 W → _) := fun W b => holds_any g m i W (H1.out.1.ok.later b) hi
          clear HM0 bd
          go_wp2_with fail
          refine (Calls.mono HTy.out) ?_
          rintro e _ ⟨rfl, rfl⟩
          clear HTy
          go_upto_region 5 with fail
          clear y2 k0 k1 k2 k3
          rw [hho] at HH
          refine wp_region_held_drew (S := fun W => Below w1.heap.size w1 W) (by kernel_rfl) ((Below.refl _ _).drew) (fun hS => ?_)
          refine any_take (i := 0) (v := ?_) rfl (by kernel_rfl) (by kernel_rfl) (by kernel_rfl) (by exact fun _ _ _ h => h) (by rfl) ?_ hS ?_
          rotate_left
          · ((intro w hSw; skip; go_simp) <;> with_reducible rfl)
          (try simp only [Act.put, List.setIfInBounds_toArray, List.set_cons_zero, List.set_cons_succ])
          refine any_take (i := 1) (v := ?_) rfl (by kernel_rfl) (by kernel_rfl) (by kernel_rfl) (by exact fun _ _ _ h => h) (by rfl) ?_ hS ?_
          rotate_left
          · ((intro w hSw; skip; go_simp) <;> with_reducible rfl)
          (try simp only [Act.put, List.setIfInBounds_toArray, List.set_cons_zero, List.set_cons_succ])
          refine any_one (i := 2) rfl (by kernel_rfl) (fun K hK => ?_)
          go_simp
          refine (Calls.mono (HH.out _ hS)) ?_
          rintro e _ ⟨rfl, rfl⟩
          go_wp2_with fail
          refine hK.out _ _ hS ?_
          clear hK K
          refine any_take (i := 3) (v := ?_) rfl (by kernel_rfl) (by kernel_rfl) (by kernel_rfl) (by exact fun _ _ _ h => h) (by rfl) ?_ hS ?_
          rotate_left
          · ((intro w hSw; skip; go_simp) <;> with_reducible rfl)
          (try simp only [Act.put, List.setIfInBounds_toArray, List.set_cons_zero, List.set_cons_succ])
          refine any_take (i := 4) (v := ?_) rfl (by kernel_rfl) (by kernel_rfl) (by kernel_rfl) (by exact fun _ _ _ h => h) (by rfl) ?_ hS ?_
          rotate_left
          · ((intro w hSw; skip; go_simp) <;> with_reducible rfl)
          (try simp only [Act.put, List.setIfInBounds_toArray, List.set_cons_zero, List.set_cons_succ])
          refine any_take (i := 5) (v := ?_) rfl (by kernel_rfl) (by kernel_rfl) (by kernel_rfl) (by exact fun _ _ _ h => h) (by rfl) ?_ hS ?_
          rotate_left
          · ((intro w hSw; have y2 := HY.out _ hSw; obtain ⟨k1, k3⟩ := HC.out _ hSw; go_simp) <;> with_reducible rfl)
          (try simp only [Act.put, List.setIfInBounds_toArray, List.set_cons_zero, List.set_cons_succ])
          refine any_take (i := 6) (v := ?_) rfl (by kernel_rfl) (by kernel_rfl) (by kernel_rfl) (by exact fun _ _ _ h => h) (by rfl) ?_ hS ?_
          rotate_left
          · ((intro w hSw; have y2 := HY.out _ hSw; obtain ⟨k1, k3⟩ := HC.out _ hSw; go_simp) <;> with_reducible rfl)
          (try simp only [Act.put, List.setIfInBounds_toArray, List.set_cons_zero, List.set_cons_succ])
          refine any_take (i := 7) (v := ?_) rfl (by kernel_rfl) (by kernel_rfl) (by kernel_rfl) (by exact fun _ _ _ h => h) (by rfl) ?_ hS ?_
          rotate_left
          · ((intro w hSw; have y2 := HY.out _ hSw; obtain ⟨k1, k3⟩ := HC.out _ hSw; go_simp) <;> with_reducible rfl)
          (try simp only [Act.put, List.setIfInBounds_toArray, List.set_cons_zero, List.set_cons_succ])
          refine any_take (i := 8) (v := ?_) rfl (by kernel_rfl) (by kernel_rfl) (by kernel_rfl) (by exact fun _ _ _ h => h) (by rfl) ?_ hS ?_
          rotate_left
          · ((intro w hSw; have y2 := HY.out _ hSw; obtain ⟨k1, k3⟩ := HC.out _ hSw; go_simp) <;> with_reducible rfl)
          (try simp only [Act.put, List.setIfInBounds_toArray, List.set_cons_zero, List.set_cons_succ])
          refine any_take (i := 9) (v := ?_) rfl (by kernel_rfl) (by kernel_rfl) (by kernel_rfl) (by exact fun _ _ _ h => h) (by rfl) ?_ hS ?_
          rotate_left
          · ((intro w hSw; have y2 := HY.out _ hSw; obtain ⟨k1, k3⟩ := HC.out _ hSw; go_simp) <;> with_reducible rfl)
          (try simp only [Act.put, List.setIfInBounds_toArray, List.set_cons_zero, List.set_cons_succ])
          refine any_take (i := 10) (v := ?_) rfl (by kernel_rfl) (by kernel_rfl) (by kernel_rfl) (by exact fun _ _ _ h => h) (by rfl) ?_ hS ?_
          rotate_left
          · ((intro w hSw; have y2 := HY.out _ hSw; obtain ⟨k1, k3⟩ := HC.out _ hSw; go_simp) <;> with_reducible rfl)
          (try simp only [Act.put, List.setIfInBounds_toArray, List.set_cons_zero, List.set_cons_succ])
          refine any_take (i := 11) (v := ?_) rfl (by kernel_rfl) (by kernel_rfl) (by kernel_rfl) (by exact fun _ _ _ h => h) (by rfl) ?_ hS ?_
          rotate_left
          · ((intro w hSw; have y2 := HY.out _ hSw; obtain ⟨k1, k3⟩ := HC.out _ hSw; go_simp) <;> with_reducible rfl)
          (try simp only [Act.put, List.setIfInBounds_toArray, List.set_cons_zero, List.set_cons_succ])
          refine any_take (i := 12) (v := ?_) rfl (by kernel_rfl) (by kernel_rfl) (by kernel_rfl) (by exact fun _ _ _ h => h) (by rfl) ?_ hS ?_
          rotate_left
          · ((intro w hSw; skip; go_simp) <;> with_reducible rfl)
          (try simp only [Act.put, List.setIfInBounds_toArray, List.set_cons_zero, List.set_cons_succ])
          refine any_take (i := 13) (v := ?_) rfl (by kernel_rfl) (by kernel_rfl) (by kernel_rfl) (by exact fun _ _ _ h => h) (by rfl) ?_ hS ?_
          rotate_left
          · ((intro w hSw; skip; go_simp) <;> with_reducible rfl)
          (try simp only [Act.put, List.setIfInBounds_toArray, List.set_cons_zero, List.set_cons_succ])
          refine wpAnyH_done (by kernel_rfl) ?_ _
          clear hS
          generalize w1.drew = w2 at *
          (try rw [hne])
          have HG : Hid _ := conflict_any w2
          go_wp2_with fail
          refine (Calls.mono HG.out) ?_
          rintro e w9 ⟨rfl, b9⟩
          have r3' := RTW.later b9
          have B3 := BW.laterB b9
          have hN' : Nts w w9 (.slice none 0 0) [] := Nts.nil _ _
          have han : ∀ b, (Value.slice none 0 0).ownBlock = some b → b ≠ w.heap.size + 1 := fun b hb => by cases hb
          clear HG b9 RTW BW
          have y0 := blk_at B3 0
          have f0 := blk_frozen B3 0
          have y1 := blk_at B3 1
          have f1 := blk_frozen B3 1
          have y2 := blk_at B3 2
          have f2 := blk_frozen B3 2
          have y3 := blk_at B3 3
          have f3 := blk_frozen B3 3
          have y4 := blk_at B3 4
          have f4 := blk_frozen B3 4
          simp only [List.getElem?_cons_zero, List.getElem?_cons_succ] at y0 y1 y2 y3 y4
          have SP := rp5_blk B3 (24) (0) (0) (0)
          have G : Hid _ := And.intro SP.1 (And.intro (r3'.codes SP.2 (by omega) H1.out.2.2.2.2) (hN'.keep SP.2 han))
          unfold rp5 at G
          clear SP B3
          go_wp2
          clear y0 y1 y2 y3 y4 f0 f1 f2 f3 f4
          generalize (((((w9).setCell ⟨w.heap.size + 1, 0, none⟩ (.int .i64 24)).setCell ⟨w.heap.size + 1, 1, none⟩ (.int .i64 0)).setCell ⟨w.heap.size + 1, 2, none⟩ (.int .i64 0)).setCell ⟨w.heap.size + 1, 3, none⟩ (.int .i64 0)).setCell ⟨w.heap.size + 1, 4, none⟩ (.slice none 0 0) = wf at *
          have y0 := blk_at G.out.1 0
          have y1 := blk_at G.out.1 1
          have y2 := blk_at G.out.1 2
          have y3 := blk_at G.out.1 3
          have y4 := blk_at G.out.1 4
          simp only [List.getElem?_cons_zero, List.getElem?_cons_succ] at y0 y1 y2 y3 y4
          refine bodyPost_ret (v := .tuple #[.agg #[.int .i64 24, .int .i64 0, .int .i64 0, .int .i64 0, .slice none 0 0], .slice none 0 0]) (by simp [results, Try.results36, go_sem, y0, y1, y2, y3, y4]) rfl ?_
          exact ⟨_, by rw [HM.out]; rfl, by rw [HM.out]; exact G.out.2.2, by rw [HM.out]; exact G.out.2.1⟩
end Go.Proofs.Ytjokohjdpickoaa

