/- What registering does. -/
import Derived.Test.YtjokohjdpickoaaXRv9
namespace Go.Proofs.Ytjokohjdpickoaa
open Go.RowKit Go.Shelf
set_option linter.unusedVariables false
set_option linter.unusedSimpArgs false
set_option maxRecDepth 4000

/-- a command -/
structure Cm where
  a : Int
  key : Int
  nw : Int
  t : Int
def rp5 (W : World) (r : Nat) (a b c d : Int) : World := ((((W.setCell ⟨r, 0, none⟩ (.int .i64 a)).setCell ⟨r, 1, none⟩ (.int .i64 b)).setCell ⟨r, 2, none⟩ (.int .i64 c)).setCell ⟨r, 3, none⟩ (.int .i64 d)).setCell ⟨r, 4, none⟩ (.slice none 0 0)
theorem rp5_blk {W : World} {r T : Nat} {x0 x1 x2 x3 x4 : Value} (h : Blk W r T [x0, x1, x2, x3, x4]) (a b c d : Int) : Blk (rp5 W r a b c d) r T [.int .i64 a, .int .i64 b, .int .i64 c, .int .i64 d, .slice none 0 0] ∧ Turned (fun k => k = r) W (rp5 W r a b c d) := by
  have h0 := h.set 0 (.int .i64 a)
  have h1 := h0.set 1 (.int .i64 b)
  have h2 := h1.set 2 (.int .i64 c)
  have h3 := h2.set 3 (.int .i64 d)
  have h4 := h3.set 4 (.slice none 0 0)
  refine ⟨h4, ?_⟩
  unfold rp5
  exact ((((turned_set _ r 0 _).trans ((turned_set _ r 1 _).mono (fun k e => .inl e))).trans ((turned_set _ r 2 _).mono (fun k e => .inl e))).trans ((turned_set _ r 3 _).mono (fun k e => .inl e))).trans ((turned_set _ r 4 _).mono (fun k e => .inl e))
theorem RT.trans {w W W' : World} {g : Nat} {m m' : Rs} (h : RT w W g m) (k : RT W W' g m') : RT w W' g m' := ⟨k.ok, h.tn.trans (k.tn.mono (fun _ e => .inl e))⟩
theorem RT.size {w W : World} {g : Nat} {m : Rs} (h : RT w W g m) : w.heap.size ≤ W.heap.size := h.tn.size
theorem RT.blk {w W : World} {g : Nat} {m : Rs} (h : RT w W g m) {r T : Nat} {xs : List Value} (hB : Blk w r T xs) (hr : r ≠ g) : Blk W r T xs := hB.turned h.tn hr
theorem Nts.keep {w W W' : World} {v : Value} {l : List (Int × Int)} {r : Nat} (h : Nts w W v l) (t : Turned (fun k => k = r) W W') (hr : ∀ b, v.ownBlock = some b → b ≠ r) : Nts w W' v l :=
  ⟨h.own.same (fun k hk => t.block k (h.own.lt k hk) (hr k hk)), h.new⟩
theorem Nts.lower {w w0 W : World} {v : Value} {l : List (Int × Int)} (h : Nts w W v l) (hs : w0.heap.size ≤ w.heap.size) : Nts w0 W v l := ⟨h.own, fun b hb => Nat.le_trans hs (h.new b hb)⟩
def ignM (m : Rs) (i : Nat) (nw : Int) : Rs × List (Int × Int) := if nw = 0 then leaveM m i else (bump (give m i nw), [])
set_option maxHeartbeats 8000000 in
theorem ignore_any (g : Nat) (m : Rs) (i : Nat) (c : Cm) (w : World) (h : (rv g m).Ok w) (hi : i < 16) (hnw : 0 ≤ c.nw ∧ c.nw < 18446744073709551616) :
    Calls Try.prog 40 #[.pointer (some ⟨g, 0, none⟩), .int .i64 i, .agg #[.int .i64 c.a, .int .u64 c.key, .int .u64 c.nw, .int .i64 c.t]] w fun e w' => ∃ v, e = .returned (.tuple #[.agg #[.int .i64 0, .int .i64 0, .int .i64 0, .int .i64 0, .slice none 0 0], v]) ∧ Nts w w' v (ignM m i c.nw).2 ∧ RT w w' g (ignM m i c.nw).1 := by
  have hgl := h.holds.1.lt
  have b1 : Below w.heap.size w (w.alloc (.cells #[.int .i64 c.a, .int .u64 c.key, .int .u64 c.nw, .int .i64 c.t] 37)) := (Below.refl _ _).alloc (Nat.le_refl _) _
  have B1 := Blk.new' w 37 [.int .i64 c.a, .int .u64 c.key, .int .u64 c.nw, .int .i64 c.t]
  obtain ⟨w0, hw0⟩ : ∃ w0, w0 = w.alloc (.cells #[.int .i64 c.a, .int .u64 c.key, .int .u64 c.nw, .int .i64 c.t] 37) := ⟨_, rfl⟩
  have z0 : w0.heap.size = w.heap.size + 1 := by rw [hw0]; simp
  rw [← hw0] at b1 B1
  have b2 : Below w0.heap.size w0 (w0.alloc (.cells #[.int .i64 0, .int .i64 0, .int .i64 0, .int .i64 0, .slice none 0 0] 28)) := (Below.refl _ _).alloc (Nat.le_refl _) _
  have B2 := Blk.new' w0 28 [.int .i64 0, .int .i64 0, .int .i64 0, .int .i64 0, .slice none 0 0]
  obtain ⟨w1, hw1⟩ : ∃ w1, w1 = w0.alloc (.cells #[.int .i64 0, .int .i64 0, .int .i64 0, .int .i64 0, .slice none 0 0] 28) := ⟨_, rfl⟩
  have z1 : w1.heap.size = w.heap.size + 2 := by rw [hw1]; simp [z0]
  rw [← hw1] at b2 B2
  rw [z0] at B2
  have H1 : Hid (RT w w1 g m ∧ Blk w1 w.heap.size 37 [.int .i64 c.a, .int .u64 c.key, .int .u64 c.nw, .int .i64 c.t] ∧ Blk w1 (w.heap.size + 1) 28 [.int .i64 0, .int .i64 0, .int .i64 0, .int .i64 0, .slice none 0 0] ∧ w1.heap.size = w.heap.size + 2 ∧ g < w.heap.size) := ⟨(RT.start h).later (below_then b1 b2), B1.laterB b2, B2, z1, hgl⟩
  clear b1 B1 b2 B2 z0 z1 hgl h
  go_enter Try.func40, Try.ntmps40
  go_upto_region 1 with fail
  rw [← hw0, ← hw1]
  clear hw0 hw1
  have k0 := blk_at H1.out.2.1 0
  have k1 := blk_at H1.out.2.1 1
  have k2 := blk_at H1.out.2.1 2
  have k3 := blk_at H1.out.2.1 3
  simp only [List.getElem?_cons_zero, List.getElem?_cons_succ] at k0 k1 k2 k3
  by_cases hx : c.nw = 0
  · have HM0 : ignM m i c.nw = leaveM m i := by unfold ignM; rw [if_pos hx]
    have HM : Hid _ := HM0
    have HG : Hid _ := good_any w1
    clear HM0
    rw [hx] at k2
    go_wp2_with fail
    refine (Calls.mono HG.out) ?_
    rintro e w2 ⟨rfl, b2⟩
    have r2 := H1.out.1.later b2
    have HL : Hid _ := leave_any g m i w2 r2.ok hi
    have H2 : Hid _ := And.intro r2 (And.intro (H1.out.2.2.1.laterB b2) b2.size)
    clear HG b2 r2 k0 k1 k2 k3
    go_wp2_with fail
    refine (Calls.mono HL.out) ?_
    rintro e w3 ⟨v, rfl, hN, r3⟩
    obtain ⟨va, vc, hv, -, -⟩ := hN.own.open
    have h1s := H1.out.2.2.2.1
    have h2s := H2.out.2.2
    have r3' := H2.out.1.trans r3
    have B3 := r3.blk H2.out.2.1 (by have := H1.out.2.2.2.2; omega)
    have hN' := hN.lower H2.out.1.size
    have han : ∀ b, v.ownBlock = some b → b ≠ w.heap.size + 1 := fun b hb => by have := hN.new b hb; omega
    clear HL H2 r3 hN
    rw [hv] at hN' han ⊢
    have y0 := blk_at B3 0
    have f0 := blk_frozen B3 0
    have y1 := blk_at B3 1
    have f1 := blk_frozen B3 1
    have y2 := blk_at B3 2
    have f2 := blk_frozen B3 2
    have y3 := blk_at B3 3
    have f3 := blk_frozen B3 3
    have y4 := blk_at B3 4
    have f4 := blk_frozen B3 4
    simp only [List.getElem?_cons_zero, List.getElem?_cons_succ] at y0 y1 y2 y3 y4
    have SP := rp5_blk B3 (0) (0) (0) (0)
    have G : Hid _ := And.intro SP.1 (And.intro (r3'.codes SP.2 (by omega) H1.out.2.2.2.2) (hN'.keep SP.2 han))
    unfold rp5 at G
    clear SP B3
    go_wp2
    clear y0 y1 y2 y3 y4 f0 f1 f2 f3 f4
    generalize (((((w3).setCell ⟨w.heap.size + 1, 0, none⟩ (.int .i64 0)).setCell ⟨w.heap.size + 1, 1, none⟩ (.int .i64 0)).setCell ⟨w.heap.size + 1, 2, none⟩ (.int .i64 0)).setCell ⟨w.heap.size + 1, 3, none⟩ (.int .i64 0)).setCell ⟨w.heap.size + 1, 4, none⟩ (.slice none 0 0) = wf at *
    have y0 := blk_at G.out.1 0
    have y1 := blk_at G.out.1 1
    have y2 := blk_at G.out.1 2
    have y3 := blk_at G.out.1 3
    have y4 := blk_at G.out.1 4
    simp only [List.getElem?_cons_zero, List.getElem?_cons_succ] at y0 y1 y2 y3 y4
    refine bodyPost_ret (v := .tuple #[.agg #[.int .i64 0, .int .i64 0, .int .i64 0, .int .i64 0, .slice none 0 0], .slice va (leaveM m i).2.length vc]) (by simp [results, Try.results40, go_sem, y0, y1, y2, y3, y4]) rfl ?_
    exact ⟨_, rfl, by rw [HM.out]; exact G.out.2.2, by rw [HM.out]; exact G.out.2.1⟩
  · have HM0 : ignM m i c.nw = (bump (give m i c.nw), []) := by unfold ignM; rw [if_neg hx]
    have HM : Hid _ := HM0
    have HC : Hid (∀ W, Turned (fun k => k = g) w1 W → W.cell? ⟨w.heap.size, 2, none⟩ = some (.int .u64 c.nw)) := fun W t => by
      have := blk_at (H1.out.2.1.turned t (by have := H1.out.2.2.2.2; show ¬ w.heap.size = g; omega)) 2
      simpa using this
    have q : (i : Int) < 16 := by omega
    clear HM0
    go_upto_region 3 with fail
    clear k0 k1 k2 k3
    refine wp_region_held_drew (S := fun W => Turned (fun k => k = g) w1 W) (by kernel_rfl) (tndr (Below.refl _ _).drew) (fun hS => ?_)
    refine any_take (i := 0) (v := ?_) rfl (by kernel_rfl) (by kernel_rfl) (by kernel_rfl) (by exact fun _ _ _ h => h) (by rfl) ?_ hS ?_
    rotate_left
    · ((intro w hSw; have k2 := HC.out _ hSw; go_simp) <;> with_reducible rfl)
    (try simp only [Act.put, List.setIfInBounds_toArray, List.set_cons_zero, List.set_cons_succ])
    refine any_take (i := 1) (v := ?_) rfl (by kernel_rfl) (by kernel_rfl) (by kernel_rfl) (by exact fun _ _ _ h => h) (by rfl) ?_ hS ?_
    rotate_left
    · ((intro w hSw; have k2 := HC.out _ hSw; go_simp) <;> with_reducible rfl)
    (try simp only [Act.put, List.setIfInBounds_toArray, List.set_cons_zero, List.set_cons_succ])
    refine any_take (i := 2) (v := ?_) rfl (by kernel_rfl) (by kernel_rfl) (by kernel_rfl) (by exact fun _ _ _ h => h) (by rfl) ?_ hS ?_
    rotate_left
    · ((intro w hSw; have k2 := HC.out _ hSw; go_simp) <;> with_reducible rfl)
    (try simp only [Act.put, List.setIfInBounds_toArray, List.set_cons_zero, List.set_cons_succ])
    refine any_take (i := 3) (v := ?_) rfl (by kernel_rfl) (by kernel_rfl) (by kernel_rfl) (by exact fun _ _ _ h => h) (by rfl) ?_ hS ?_
    rotate_left
    · ((intro w hSw; have k2 := HC.out _ hSw; go_simp) <;> with_reducible rfl)
    (try simp only [Act.put, List.setIfInBounds_toArray, List.set_cons_zero, List.set_cons_succ])
    refine any_take (i := 4) (v := ?_) rfl (by kernel_rfl) (by kernel_rfl) (by kernel_rfl) (by exact fun _ _ _ h => h) (by rfl) ?_ hS ?_
    rotate_left
    · ((intro w hSw; have k2 := HC.out _ hSw; go_simp) <;> with_reducible rfl)
    (try simp only [Act.put, List.setIfInBounds_toArray, List.set_cons_zero, List.set_cons_succ])
    refine any_take (i := 5) (v := ?_) rfl (by kernel_rfl) (by kernel_rfl) (by kernel_rfl) (by exact fun _ _ _ h => h) (by rfl) ?_ hS ?_
    rotate_left
    · ((intro w hSw; have k2 := HC.out _ hSw; go_simp) <;> with_reducible rfl)
    (try simp only [Act.put, List.setIfInBounds_toArray, List.set_cons_zero, List.set_cons_succ])
    refine any_take (i := 6) (v := ?_) rfl (by kernel_rfl) (by kernel_rfl) (by kernel_rfl) (by exact fun _ _ _ h => h) (by rfl) ?_ hS ?_
    rotate_left
    · ((intro w hSw; have k2 := HC.out _ hSw; go_simp) <;> with_reducible rfl)
    (try simp only [Act.put, List.setIfInBounds_toArray, List.set_cons_zero, List.set_cons_succ])
    refine any_take (i := 7) (v := ?_) rfl (by kernel_rfl) (by kernel_rfl) (by kernel_rfl) (by exact fun _ _ _ h => h) (by rfl) ?_ hS ?_
    rotate_left
    · ((intro w hSw; have k2 := HC.out _ hSw; go_simp) <;> with_reducible rfl)
    (try simp only [Act.put, List.setIfInBounds_toArray, List.set_cons_zero, List.set_cons_succ])
    refine any_take (i := 8) (v := ?_) rfl (by kernel_rfl) (by kernel_rfl) (by kernel_rfl) (by exact fun _ _ _ h => h) (by rfl) ?_ hS ?_
    rotate_left
    · ((intro w hSw; have k2 := HC.out _ hSw; go_simp) <;> with_reducible rfl)
    (try simp only [Act.put, List.setIfInBounds_toArray, List.set_cons_zero, List.set_cons_succ])
    refine any_take (i := 10) (v := ?_) rfl (by kernel_rfl) (by kernel_rfl) (by kernel_rfl) (by exact fun _ _ _ h => h) (by rfl) ?_ hS ?_
    rotate_left
    · ((intro w hSw; have k2 := HC.out _ hSw; go_simp) <;> with_reducible rfl)
    (try simp only [Act.put, List.setIfInBounds_toArray, List.set_cons_zero, List.set_cons_succ])
    refine any_take (i := 11) (v := ?_) rfl (by kernel_rfl) (by kernel_rfl) (by kernel_rfl) (by exact fun _ _ _ h => h) (by rfl) ?_ hS ?_
    rotate_left
    · ((intro w hSw; have k2 := HC.out _ hSw; go_simp) <;> with_reducible rfl)
    (try simp only [Act.put, List.setIfInBounds_toArray, List.set_cons_zero, List.set_cons_succ])
    have B0 : Blk w1.drew g 63 (rsC m) := H1.out.1.ok.holds.1.laterB (Below.refl _ _).drew
    have hW := H1.out.1.ok.holds.2
    generalize w1.drew = W0 at *
    have hc := hW.key B0 i hi
    have hz := blk_frozen B0 (19 + i)
    refine any_on (i := 9) rfl (by kernel_rfl) (fun K hK => ?_)
    go_simp
    have B1 := B0.set (19 + i) (.int .u64 c.nw)
    rw [rsC_key m hW.fl] at B1
    clear hc hz
    refine hK.out _ _ (hS.trans ((turned_set _ g (19 + i) _).mono (fun k e => .inl e))) (fun hS => ?_)
    clear hK K
    refine any_take (i := 12) (v := ?_) rfl (by kernel_rfl) (by kernel_rfl) (by kernel_rfl) (by exact fun _ _ _ h => h) (by rfl) ?_ hS ?_
    rotate_left
    · ((intro w hSw; have k2 := HC.out _ hSw; go_simp) <;> with_reducible rfl)
    (try simp only [Act.put, List.setIfInBounds_toArray, List.set_cons_zero, List.set_cons_succ])
    have hc := Rs.Wf.flag (m := { m with ks := m.ks.set i c.nw }) ⟨hW.fl, by rw [List.length_set]; exact hW.kl, hW.hh, hW.kk, hW.gg, (give_wf hW i c.nw hnw).each⟩ B1 i hi
    have hz := blk_frozen B1 (3 + i)
    refine any_on (i := 13) rfl (by kernel_rfl) (fun K hK => ?_)
    go_simp
    have B2 := B1.set (3 + i) (.bool false)
    rw [rsC_flag { m with ks := m.ks.set i c.nw } hW.fl i hi] at B2
    clear hc hz
    refine hK.out _ _ (hS.trans ((turned_set _ g (3 + i) _).mono (fun k e => .inl e))) (fun hS => ?_)
    clear hK K
    refine wpAnyH_done (by kernel_rfl) ?_ _
    have r2 : RT w _ g (give m i c.nw) := ⟨rv_ok B2 (give_wf hW i c.nw hnw), H1.out.1.tn.trans (hS.mono (fun k e => .inl e))⟩
    have B2r := H1.out.2.2.1.turned hS (by have := H1.out.2.2.2.2; show ¬ w.heap.size + 1 = g; omega)
    have y0 := blk_at r2.ok.holds.1 0
    have f0 := blk_frozen r2.ok.holds.1 0
    simp only [rsC, List.getElem?_cons_zero, List.getElem?_cons_succ] at y0
    have hs2 := hS.size
    clear hS B0 B1 B2 HC hW
    generalize (W0.setCell ⟨g, 19 + i, none⟩ (.int .u64 c.nw)).setCell ⟨g, 3 + i, none⟩ (.bool false) = w2 at *
    have hgg := r2.ok.holds.2.gg
    have r3 := r2.gen (((give m i c.nw).gen + 1) % 4294967296) rfl
    have B3r := B2r.turned (turned_set w2 g 0 (.int .u32 (((give m i c.nw).gen + 1) % 4294967296))) (by have := H1.out.2.2.2.2; show ¬ w.heap.size + 1 = g; omega)
    have HG : Hid _ := good_any (w2.setCell ⟨g, 0, none⟩ (.int .u32 (((give m i c.nw).gen + 1) % 4294967296)))
    have H2 : Hid _ := And.intro r3 (And.intro B3r hs2)
    clear r2 r3 B3r B2r hs2
    generalize (give m i c.nw).gen = gn at *
    go_wp2_with fail
    clear y0 f0
    generalize w2.setCell ⟨g, 0, none⟩ (.int .u32 ((gn + 1) % 4294967296)) = w3 at *
    refine (Calls.mono HG.out) ?_
    rintro e w4 ⟨rfl, b4⟩
    have r3' := H2.out.1.later b4
    have B3 := H2.out.2.1.laterB b4
    have hN' : Nts w w4 (.slice none 0 0) [] := Nts.nil _ _
    have han : ∀ b, (Value.slice none 0 0).ownBlock = some b → b ≠ w.heap.size + 1 := fun b hb => by cases hb
    clear HG H2 b4
    have y0 := blk_at B3 0
    have f0 := blk_frozen B3 0
    have y1 := blk_at B3 1
    have f1 := blk_frozen B3 1
    have y2 := blk_at B3 2
    have f2 := blk_frozen B3 2
    have y3 := blk_at B3 3
    have f3 := blk_frozen B3 3
    have y4 := blk_at B3 4
    have f4 := blk_frozen B3 4
    simp only [List.getElem?_cons_zero, List.getElem?_cons_succ] at y0 y1 y2 y3 y4
    have SP := rp5_blk B3 (0) (0) (0) (0)
    have G : Hid _ := And.intro SP.1 (And.intro (r3'.codes SP.2 (by omega) H1.out.2.2.2.2) (hN'.keep SP.2 han))
    unfold rp5 at G
    clear SP B3
    go_wp2
    clear y0 y1 y2 y3 y4 f0 f1 f2 f3 f4
    generalize (((((w4).setCell ⟨w.heap.size + 1, 0, none⟩ (.int .i64 0)).setCell ⟨w.heap.size + 1, 1, none⟩ (.int .i64 0)).setCell ⟨w.heap.size + 1, 2, none⟩ (.int .i64 0)).setCell ⟨w.heap.size + 1, 3, none⟩ (.int .i64 0)).setCell ⟨w.heap.size + 1, 4, none⟩ (.slice none 0 0) = wf at *
    have y0 := blk_at G.out.1 0
    have y1 := blk_at G.out.1 1
    have y2 := blk_at G.out.1 2
    have y3 := blk_at G.out.1 3
    have y4 := blk_at G.out.1 4
    simp only [List.getElem?_cons_zero, List.getElem?_cons_succ] at y0 y1 y2 y3 y4
    refine bodyPost_ret (v := .tuple #[.agg #[.int .i64 0, .int .i64 0, .int .i64 0, .int .i64 0, .slice none 0 0], .slice none 0 0]) (by simp [results, Try.results40, go_sem, y0, y1, y2, y3, y4]) rfl ?_
    exact ⟨_, rfl, by rw [HM.out]; exact G.out.2.2, by rw [HM.out]; exact G.out.2.1⟩
end Go.Proofs.Ytjokohjdpickoaa

