/- clear. -/
import Derived.Test.YtlopkfenbeahgaaXRv14
namespace Go.Proofs.Ytlopkfenbeahgaa
open Go.RowKit Go.Shelf
set_option linter.unusedVariables false
set_option linter.unusedSimpArgs false
set_option maxRecDepth 4000
attribute [local go_sem] Oper.semAt_some

def awF (m : Rs) (rs : List (Nat × Int)) : Rs := rs.foldl (fun m r => away m r.1) m
theorem awF_snoc (m : Rs) (rs : List (Nat × Int)) (r : Nat × Int) : awF m (rs ++ [r]) = away (awF m rs) r.1 := by unfold awF; rw [List.foldl_append]; rfl
theorem awF_wf (m : Rs) (rs : List (Nat × Int)) (h : m.Wf) : (awF m rs).Wf := by
  unfold awF
  induction rs generalizing m with
  | nil => exact h
  | cons r rs ih => exact ih _ (away_wf h _)
def clrM (m : Rs) (i : Nat) : Ans := ((0, 0, 0, 0), bump (hold (awF m (regsL m.ks 16)) 0 0), ntL (tellF (i : Int) 3 z16 (regsL m.ks 16)) 16)
set_option maxHeartbeats 8000000 in
theorem clear_any (g : Nat) (m : Rs) (i : Nat) (c : Cm) (w : World) (h : (rv g m).Ok w) (hi : i < 16) : Calls Try.prog 37 #[.pointer (some ⟨g, 0, none⟩), .int .i64 i, .agg #[.int .i64 c.a, .int .u64 c.key, .int .u64 c.nw, .int .i64 c.t]] w (Does w g (clrM m i)) := by
  have hgl := h.holds.1.lt
  have b0 : Below w.heap.size w (w.alloc (.cells #[.pointer (some ⟨g, 0, none⟩)] 23)) := (Below.refl _ _).alloc (Nat.le_refl _) _
  have B0 := Blk.new' w 23 [.pointer (some ⟨g, 0, none⟩)]
  obtain ⟨w0, hw0⟩ : ∃ w0, w0 = w.alloc (.cells #[.pointer (some ⟨g, 0, none⟩)] 23) := ⟨_, rfl⟩
  have b1 : Below w0.heap.size w0 (w0.alloc (.cells #[.int .i64 c.a, .int .u64 c.key, .int .u64 c.nw, .int .i64 c.t] 37)) := (Below.refl _ _).alloc (Nat.le_refl _) _
  obtain ⟨w1, hw1⟩ : ∃ w1, w1 = w0.alloc (.cells #[.int .i64 c.a, .int .u64 c.key, .int .u64 c.nw, .int .i64 c.t] 37) := ⟨_, rfl⟩
  have b2 : Below w1.heap.size w1 (w1.alloc (.cells #[.int .i64 0, .int .i64 0, .int .i64 0, .int .i64 0, .slice none 0 0] 28)) := (Below.refl _ _).alloc (Nat.le_refl _) _
  have B2 := Blk.new' w1 28 [.int .i64 0, .int .i64 0, .int .i64 0, .int .i64 0, .slice none 0 0]
  obtain ⟨w2, hw2⟩ : ∃ w2, w2 = w1.alloc (.cells #[.int .i64 0, .int .i64 0, .int .i64 0, .int .i64 0, .slice none 0 0] 28) := ⟨_, rfl⟩
  have b3 : Below w2.heap.size w2 (w2.alloc (.cells (ivs .i64 z16).toArray 83)) := (Below.refl _ _).alloc (Nat.le_refl _) _
  have B3 := Blk.new' w2 83 (ivs .i64 z16)
  obtain ⟨w3, hw3⟩ : ∃ w3, w3 = w2.alloc (.cells (ivs .i64 z16).toArray 83) := ⟨_, rfl⟩
  have z0 : w0.heap.size = w.heap.size + 1 := by rw [hw0]; simp
  have z1 : w1.heap.size = w.heap.size + 2 := by rw [hw1]; simp [z0]
  have z2 : w2.heap.size = w.heap.size + 3 := by rw [hw2]; simp [z1]
  have z3 : w3.heap.size = w.heap.size + 4 := by rw [hw3]; simp [z2]
  rw [← hw0] at b0 B0
  rw [← hw1] at b1
  rw [← hw2] at b2 B2
  rw [← hw3] at b3 B3
  rw [z1] at B2
  rw [z2] at B3
  have b13 := below_then (below_then (below_then b0 b1) b2) b3
  have H1 : Hid (RT w w3 g m ∧ Blk w3 w.heap.size 23 [.pointer (some ⟨g, 0, none⟩)] ∧ Blk w3 (w.heap.size + 2) 28 [.int .i64 0, .int .i64 0, .int .i64 0, .int .i64 0, .slice none 0 0] ∧ Blk w3 (w.heap.size + 3) 83 (ivs .i64 z16) ∧ w3.heap.size = w.heap.size + 4 ∧ g < w.heap.size) := ⟨(RT.start h).later b13, ((B0.laterB b1).laterB b2).laterB b3, B2.laterB b3, B3, z3, hgl⟩
  have HO : Hid _ := tellOthers_any g m (i : Int) 3 (w.heap.size + 3) z16 w3 H1.out.1.ok H1.out.2.2.2.1 rfl
  have c3 : w3.cell? ⟨w.heap.size, 0, none⟩ = some (.pointer (some ⟨g, 0, none⟩)) := by have := blk_at H1.out.2.1 0; simpa using this
  simp only [ivs, z16, List.map_cons, List.map_nil] at hw3
  rw [hw3, hw2, hw1, hw0] at c3
  clear b0 B0 b1 b2 B2 b3 B3 b13 h z0 z1 z2 z3 hgl
  refine (callsIn_wide (n := 9)).1 ?_
  refine callsIn_of_wp_marks Try.func37 rfl trivial ?_ rfl
  simp only [Try.ntmps37, List.size_toArray, List.length_cons, List.length_nil, Nat.reduceAdd, Nat.reduceSub, Array.replicate_succ, Array.replicate_zero, List.push_toArray, List.append_toArray, List.nil_append, List.cons_append]
  refine wpIn_wide.2 (wp_mono (Q := calmR (bodyPostM Fence.wide 9 Try.prog Try.f37 (Does w g (clrM m i)))) ?_ (fun e a w h => calmR_out h))
  go_wp2_with fail
  rw [← hw0, ← hw1, ← hw2, ← hw3]
  clear hw0 hw1 hw2 hw3 c3
  refine (Calls.mono HO.out) ?_
  rintro e w4 ⟨rfl, Bd4, t4⟩
  have r4 := H1.out.1.codes t4 (by omega) H1.out.2.2.2.2.2
  have Bp4 := H1.out.2.1.turned t4 (by show ¬ w.heap.size = w.heap.size + 3; omega)
  have Br4 := H1.out.2.2.1.turned t4 (by show ¬ w.heap.size + 2 = w.heap.size + 3; omega)
  have c4 := blk_at Bp4 0
  simp only [List.getElem?_cons_zero] at c4
  have HR : Hid _ := Regs_any g m w4 r4.ok
  have hll : (tellF (i : Int) 3 z16 (regsL m.ks 16)).length = 16 := by rw [tellF_len]; rfl
  have H4 : Hid _ := And.intro r4 (And.intro Bd4 (And.intro Bp4 (And.intro Br4 (And.intro t4.size hll))))
  clear HO Bd4 t4 r4 Bp4 Br4 hll
  go_wp2_with fail
  refine (Calls.mono HR.out) ?_
  rintro e x6 ⟨rfl, Bc, b6⟩
  have hcl := Bc.lt
  have H6 : Hid _ := And.intro (H4.out.1.later b6) (And.intro (H4.out.2.1.laterB b6) (And.intro (H4.out.2.2.1.laterB b6) (And.intro (H4.out.2.2.2.1.laterB b6) H4.out.2.2.2.2.2)))
  have hsq := regs_stops 8 (by omega) w4.heap.size m.ks x6 H4.out.1.ok.holds.2.kl Bc
  have HZ : Hid (w.heap.size + 4 ≤ w4.heap.size ∧ w4.heap.size < x6.heap.size ∧ g < w.heap.size) := ⟨by have := H4.out.2.2.2.2.1; have := H1.out.2.2.2.2.1; omega, hcl, H1.out.2.2.2.2.2⟩
  have HM : Hid (clrM m i = ((0, 0, 0, 0), bump (hold (awF m (regsL m.ks 16)) 0 0), ntL (tellF (i : Int) 3 z16 (regsL m.ks 16)) 16)) := rfl
  clear HR b6 H4 hcl Bc c4 H1
  generalize w4.heap.size = c3 at *
  generalize tellF (i : Int) 3 z16 (regsL m.ks 16) = ll at *
  go_wp2_with fail
  refine (wpIn_wide (n := 9)).1 ?_
  refine wpIn_rangeFunc_ownG rfl (by omega) (gf := 32) (lb := #[.pointer (some ⟨c3, 0, none⟩)]) rfl trivial (enters_of Try.func32 (by kernel_rfl) rfl) hsq (fun h k => h.t k) (fun W l o o' hl h _ _ k hk => World.putObj_heap_other (by simp only [List.mem_singleton] at hk; have := HZ.out; omega)) (Below.refl _ _) (fun _ => rfl) (fun pre W => RB (fun k => k = g) x6 [(g, 54, rsC (awF m (pre.map (·.1))))] W) (fun _ _ _ => False)
    rb_own (fun _ _ _ _ _ hs _ _ => hs) ⟨fun b hb => by simp only [List.mem_singleton] at hb; subst hb; exact H6.out.1.ok.holds.1, ⟨rfl, rfl, rfl, Nat.le_refl _, fun _ _ _ => rfl⟩⟩ (fun x => { tmps := #[.pointer (some ⟨g, 0, none⟩), .int .i64 i, .agg #[.int .i64 c.a, .int .u64 c.key, .int .u64 c.nw, .int .i64 c.t], .pointer (some ⟨w.heap.size, 0, none⟩), undef, .pointer (some ⟨w.heap.size + 1, 0, none⟩), .pointer (some ⟨w.heap.size + 1 + 1, 0, none⟩), .slice none 0 0, .pointer (some ⟨w.heap.size + 1 + 1 + 1, 0, none⟩), .int .i64 (x.1.1 : Int), .pointer (some ⟨g, 0, none⟩), .int .i64 i, .tuple #[], .pointer (some ⟨g, 0, none⟩), .func (.func 32) #[] #[.pointer (some ⟨c3, 0, none⟩)], .int .i64 (x.1.1 : Int), .int .u64 x.1.2, undef, undef, undef, undef, undef, undef, undef, undef, undef, undef, undef, undef, undef, undef, undef], defers := [] }) ?assign ?body ?done ?stop
  case assign =>
    intro l x W K hK
    simp only [encP]
    gi_wp2
    exact hK
  case body =>
    rintro l' pre x W ⟨hB, ht⟩ hlt
    obtain ⟨⟨xi, xk⟩, hxi⟩ := x
    have hxi' : xi < 16 := hxi
    have hBg : Blk W g 54 (rsC (awF m (pre.map (·.1)))) := hB (g, 54, rsC (awF m (pre.map (·.1)))) (by simp)
    have hW' := awF_wf m (pre.map (·.1)) H6.out.1.ok.holds.2
    have hz := HZ.out
    have hsn := awF_snoc m (pre.map (·.1)) (xi, xk)
    have hmp : ((pre ++ [(⟨(xi, xk), hxi⟩ : Rg)]).map (·.1)) = pre.map (·.1) ++ [(xi, xk)] := by rw [List.map_append]; rfl
    generalize awF m (pre.map (·.1)) = P at *
    have e3 := blk_at (H6.out.2.2.1.turned ht (by show ¬ w.heap.size = g; omega)) 0
    simp only [List.getElem?_cons_zero] at e3
    refine wpIn_mono (Q := roundR (fun W' => KeepsFrom x6.heap.size W W' ∧ KeepL [c3] W W' ∧ RB (fun k => k = g) x6 [(g, 54, rsC (awF m ((pre ++ [(⟨(xi, xk), hxi⟩ : Rg)]).map (·.1))))] W')) ?_ ?_
    rotate_left
    · rintro e a W' h
      cases e <;> first | exact h.elim | exact h
    rw [hmp, hsn]
    have hfin : ∀ W', Turned (fun k => k = g) W W' → Blk W' g 54 (rsC (away P xi)) → KeepsFrom x6.heap.size W W' ∧ KeepL [c3] W W' ∧ RB (fun k => k = g) x6 [(g, 54, rsC (away P xi))] W' := fun W' t b1 => by
      have hsz := ht.size
      exact ⟨keepsR t (fun k e => by omega), keepR t (fun k hk => by simp only [List.mem_singleton] at hk; omega), fun b' hb' => by
        simp only [List.mem_singleton] at hb'; subst hb'; exact b1, ht.trans (t.mono (fun k e => .inl e))⟩
    have HF : Hid _ := hfin
    have HT : Hid _ := takeKey_any g P xi W (rv_ok hBg hW') hxi'
    clear hfin hB hsn hmp hsq hz ht hBg
    gi_wp2
    refine ⟨trivial, ?_⟩
    refine (CallsIn.inRound l' (callsIn_wide.2 HT.out)).mono ?_
    rintro e W1 ⟨rfl, st⟩
    have HR : Hid _ := HF.out W1 (st.turned.mono (fun k e => by simpa [rv] using e)) st.ok.holds.1
    clear st HF HT e3
    gi_wp2
    exact HR.out
  case done =>
    rintro D ys W hD hys ⟨hB, ht⟩ hdf
    have hBg := hB (g, 54, rsC (awF m (ys.map (·.1)))) (by simp)
    dsimp only at hBg
    rw [hys] at hBg
    have hW' := awF_wf m (regsL m.ks 16) H6.out.1.ok.holds.2
    generalize awF m (regsL m.ks 16) = P at *
    have hz := HZ.out
    have rW : RT w W g P := ⟨rv_ok hBg hW', H6.out.1.tn.trans (ht.mono (fun k e => .inl e))⟩
    have c3' := blk_at (H6.out.2.2.1.turned ht (by show ¬ w.heap.size = g; omega)) 0
    simp only [List.getElem?_cons_zero] at c3'
    have HEn : Hid _ := end_any g P W rW.ok
    have HW : Hid (RT w W g P ∧ Blk W (w.heap.size + 3) 83 (ivs .i64 ll) ∧ Blk W w.heap.size 23 [.pointer (some ⟨g, 0, none⟩)] ∧ Blk W (w.heap.size + 2) 28 [.int .i64 0, .int .i64 0, .int .i64 0, .int .i64 0, .slice none 0 0] ∧ ll.length = 16 ∧ W.heap[D]? = some (.deferred (some [])) ∧ x6.heap.size ≤ D ∧ x6.heap.size ≤ W.heap.size) := ⟨rW, H6.out.2.1.turned ht (by show ¬ w.heap.size + 3 = g; omega), H6.out.2.2.1.turned ht (by show ¬ w.heap.size = g; omega), H6.out.2.2.2.1.turned ht (by show ¬ w.heap.size + 2 = g; omega), H6.out.2.2.2.2, hdf, hD, ht.size⟩
    clear hBg ht hdf hsq hB hD hz rW hW'
    go_wp2_with fail
    refine (Calls.mono HEn.out) ?_
    rintro e w7 ⟨rfl, st⟩
    have hz := HZ.out
    have t7 : Turned (fun k => k = g) W w7 := st.turned.mono (fun k e => by simpa [rv] using e)
    have r7 := HW.out.1.step st
    have c7 := blk_at (HW.out.2.2.1.turned t7 (by show ¬ w.heap.size = g; omega)) 0
    simp only [List.getElem?_cons_zero] at c7
    have y0 := blk_at r7.ok.holds.1 0
    have f0 := blk_frozen r7.ok.holds.1 0
    simp only [rsC, List.getElem?_cons_zero, List.getElem?_cons_succ] at y0
    have hgg := r7.ok.holds.2.gg
    have r8 := r7.gen (((hold P 0 0).gen + 1) % 4294967296) rfl
    have t8 := t7.trans ((turned_set w7 g 0 (.int .u32 (((hold P 0 0).gen + 1) % 4294967296))).mono (fun k e => .inl e))
    have hDl : D < W.heap.size := (Array.getElem?_eq_some_iff.1 HW.out.2.2.2.2.2.1).1
    have HX8 : Hid (RT w (w7.setCell ⟨g, 0, none⟩ (.int .u32 (((hold P 0 0).gen + 1) % 4294967296))) g (bump (hold P 0 0)) ∧ Blk (w7.setCell ⟨g, 0, none⟩ (.int .u32 (((hold P 0 0).gen + 1) % 4294967296))) (w.heap.size + 3) 83 (ivs .i64 ll) ∧ Blk (w7.setCell ⟨g, 0, none⟩ (.int .u32 (((hold P 0 0).gen + 1) % 4294967296))) (w.heap.size + 2) 28 [.int .i64 0, .int .i64 0, .int .i64 0, .int .i64 0, .slice none 0 0] ∧ ll.length = 16 ∧ ¬ w.heap.size + 3 = w.heap.size + 2 ∧ w.heap.size + 3 ≤ (w7.setCell ⟨g, 0, none⟩ (.int .u32 (((hold P 0 0).gen + 1) % 4294967296))).heap.size) := ⟨r8, HW.out.2.1.turned t8 (by show ¬ w.heap.size + 3 = g; omega), HW.out.2.2.2.1.turned t8 (by show ¬ w.heap.size + 2 = g; omega), HW.out.2.2.2.2.1, by omega, by have := t8.size; have := HW.out.2.2.2.2.2.2.2; omega⟩
    have HD8 : Hid ((w7.setCell ⟨g, 0, none⟩ (.int .u32 (((hold P 0 0).gen + 1) % 4294967296))).heap[D]? = some (.deferred (some [])) ∧ x6.heap.size ≤ D ∧ D < (w7.setCell ⟨g, 0, none⟩ (.int .u32 (((hold P 0 0).gen + 1) % 4294967296))).heap.size) := ⟨by rw [t8.block D hDl (by show ¬ D = g; have := HW.out.2.2.2.2.2.2.1; omega)]; exact HW.out.2.2.2.2.2.1, HW.out.2.2.2.2.2.2.1, Nat.lt_of_lt_of_le hDl t8.size⟩
    clear HEn st t7 r7 r8 t8 hDl HW hz
    generalize (hold P 0 0).gen = gn at *
    go_upto_region 8 with fail
    clear y0 f0 c7
    generalize w7.setCell ⟨g, 0, none⟩ (.int .u32 ((gn + 1) % 4294967296)) = wX at *
    have HX : Hid _ := HX8.out
    have H1 : Hid (True ∧ True ∧ True ∧ True ∧ g < w.heap.size) := ⟨trivial, trivial, trivial, trivial, HZ.out.2.2⟩
    refine wp_region_held_drew (S := fun W => Turned (fun k => k = w.heap.size + 2) wX W) (by kernel_rfl) (tndr (Below.refl _ _).drew) (fun hS => ?_)
    have P0 := HX.out.2.2.1.laterB (Below.refl wX.heap.size wX).drew
    have r0 := HX.out.1.later (Below.refl wX.heap.size wX).drew
    refine any_take (i := 1) (v := .agg (ivs .i64 ll).toArray) rfl (by kernel_rfl) (by kernel_rfl) (by kernel_rfl) (by exact fun _ _ _ h => h) (by rfl) ?_ hS ?_
    · intro W hSW; exact exec_load rfl rfl (load_arr (k := .i64) size_cd und_cd HX.out.2.2.2.1 (fun j hj => by rw [Nat.zero_add, blk_at (HX.out.2.1.turned hSW HX.out.2.2.2.2.1) j]; exact ivs_at .i64 _ j hj))
    (try simp only [Act.put, List.setIfInBounds_toArray, List.set_cons_zero, List.set_cons_succ])
    refine any_one (i := 0) rfl (by kernel_rfl) (fun K hK => ?_)
    go_simp
    refine (Calls.mono (good_any _)) ?_
    rintro e x1 ⟨rfl, b1⟩
    have S1 := hS.trans (tndr b1)
    have P1 := P0.laterB b1
    have r1 := r0.later b1
    have hs1 := b1.size
    go_wp2_with fail
    refine hK.out _ _ S1 ?_
    clear hK K hS b1 P0 r0
    have hS := S1
    clear S1
    refine any_one (i := 2) rfl (by kernel_rfl) (fun K hK => ?_)
    go_simp
    refine (Calls.mono (notes_any ll HX.out.2.2.2.1 _)) ?_
    rintro e x2 ⟨v, rfl, hN⟩
    have S2 := hS.trans (tndr hN.below)
    have P2 := P1.laterB hN.below
    have r2 := r1.later hN.below
    have hn1 := hS.size
    have N2 : Nts w x2 v _ := ⟨hN.own, fun b hb => Nat.le_trans r1.size (hN.new b hb)⟩
    have han : ∀ b, v.ownBlock = some b → b ≠ w.heap.size + 2 := fun b hb => by have := hN.new b hb; have := HX.out.2.2.2.2.2; omega
    go_wp2_with fail
    refine hK.out _ _ S2 ?_
    clear hK K hS hN P1 r1
    have hS := S2
    clear S2
    have y0 := blk_at P2 0
    have f0 := blk_frozen P2 0
    have y1 := blk_at P2 1
    have f1 := blk_frozen P2 1
    have y2 := blk_at P2 2
    have f2 := blk_frozen P2 2
    have y3 := blk_at P2 3
    have f3 := blk_frozen P2 3
    have y4 := blk_at P2 4
    have f4 := blk_frozen P2 4
    simp only [List.getElem?_cons_zero, List.getElem?_cons_succ] at y0 y1 y2 y3 y4
    have SP := rp5_blk P2 (0) (0) (0) (0)
    have G : Hid _ := And.intro SP.1 (And.intro (r2.codes SP.2 (by omega) H1.out.2.2.2.2) (N2.keep SP.2 han))
    have S3 := hS.trans (SP.2.mono (fun k e => .inl e))
    unfold rp5 at G S3
    have SF : Hid _ := S3
    refine any_on (i := 3) rfl (by kernel_rfl) (fun K hK => ?_)
    go_simp
    refine hK.out _ _ S3 (fun hS => ?_)
    clear hK K S3
    refine any_take (i := 4) (v := ?_) rfl (by kernel_rfl) (by kernel_rfl) (by kernel_rfl) (by exact fun _ _ _ h => h) (by rfl) ?_ hS ?_
    rotate_left
    · ((intro w hSw; (try dsimp only at hSw); go_simp) <;> with_reducible rfl)
    (try simp only [Act.put, List.setIfInBounds_toArray, List.set_cons_zero, List.set_cons_succ])
    refine wpAnyH_done (by kernel_rfl) ?_ _
    clear y0 y1 y2 y3 y4 f0 f1 f2 f3 f4 SP P2 r2 N2 han hS hn1 hs1
    generalize (((((x2).setCell ⟨w.heap.size + 2, 0, none⟩ (.int .i64 0)).setCell ⟨w.heap.size + 2, 1, none⟩ (.int .i64 0)).setCell ⟨w.heap.size + 2, 2, none⟩ (.int .i64 0)).setCell ⟨w.heap.size + 2, 3, none⟩ (.int .i64 0)).setCell ⟨w.heap.size + 2, 4, none⟩ (.slice none 0 0) = wf at *
    have hz := HZ.out
    have hd8 := HD8.out
    have hDf : wf.heap[D]? = some (.deferred (some [])) := by rw [SF.out.block D hd8.2.2 (by show ¬ D = w.heap.size + 2; omega)]; exact hd8.1
    have FD : Hid _ := And.intro hDf (And.intro hd8.2.1 hz)
    clear hz hd8 hDf
    go_wp2_with fail
    refine ⟨by simp, .inl ⟨_, _, rfl, run_takeDeferred FD.out.1, ?_⟩⟩
    obtain ⟨hDf, hD6, hz1, hz2, hz3⟩ := FD.out
    have PB : Blk (wf.putObj D (.deferred none)) (w.heap.size + 2) 28 [.int .i64 0, .int .i64 0, .int .i64 0, .int .i64 0, .slice none 0 0] := by
      have := G.out.1
      unfold Blk at this ⊢
      rw [World.putObj_heap_other (by omega)]; exact this
    have PR : RT w (wf.putObj D (.deferred none)) g (bump (hold P 0 0)) := by
      refine ⟨rv_ok ?_ G.out.2.1.ok.holds.2, G.out.2.1.tn.trans ((turned_grown (grownBy_putObj' wf D (.deferred none)) (R := fun k => k = D) (fun k e => by cases e; rfl)).mono (fun k e => .inr (by subst e; omega)))⟩
      have := G.out.2.1.ok.holds.1
      unfold Blk at this ⊢
      rw [World.putObj_heap_other (by omega)]; exact this
    have PN : Nts w (wf.putObj D (.deferred none)) v (ntL ll 16) := by
      refine ⟨G.out.2.2.own.same (fun k hk => World.putObj_heap_other (fun e => ?_)), G.out.2.2.new⟩
      subst e
      obtain ⟨_, ⟨rfl, _⟩ | ⟨g', cap, cur, rfl, hb', hh, r⟩⟩ := G.out.2.2.own
      · cases hk
      · cases hk; rw [hh] at hDf; cases hDf
    have y0 := blk_at PB 0
    have y1 := blk_at PB 1
    have y2 := blk_at PB 2
    have y3 := blk_at PB 3
    have y4 := blk_at PB 4
    simp only [List.getElem?_cons_zero, List.getElem?_cons_succ] at y0 y1 y2 y3 y4
    refine ⟨.tuple #[.agg #[.int .i64 0, .int .i64 0, .int .i64 0, .int .i64 0, .slice none 0 0], v], by simp [results, Try.results37, go_sem, y0, y1, y2, y3, y4], ?_⟩
    rw [HM.out]
    exact ⟨_, rfl, PN, PR⟩
  case stop =>
    rintro D c pre W _ _ h _
    exact h.elim
end Go.Proofs.Ytlopkfenbeahgaa

