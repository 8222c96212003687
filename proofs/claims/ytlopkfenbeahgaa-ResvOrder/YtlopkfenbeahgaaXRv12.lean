/- release. -/
import Derived.Test.YtlopkfenbeahgaaXRv3
namespace Go.Proofs.Ytlopkfenbeahgaa
open Go.RowKit Go.Shelf
set_option linter.unusedVariables false
set_option linter.unusedSimpArgs false
set_option maxRecDepth 4000

def rlN (m : Rs) (i : Nat) : List Int := if m.k > 3 then tellF (i : Int) 4 z16 (regsL m.ks 16) else z16
def relM (m : Rs) (i : Nat) (c : Cm) : Ans := if hoB m i = false then ((0, 0, 0, 0), m, []) else if c.t ≠ m.k then ((2, 5, 38, 4), m, []) else ((0, 0, 0, 0), hold m 0 0, ntL (rlN m i) 16)
set_option maxHeartbeats 8000000 in
theorem release_any (g : Nat) (m : Rs) (i : Nat) (c : Cm) (w : World) (h : (rv g m).Ok w) (hi : i < 16) : Calls Try.prog 36 #[.pointer (some ⟨g, 0, none⟩), .int .i64 i, .agg #[.int .i64 c.a, .int .u64 c.key, .int .u64 c.nw, .int .i64 c.t]] w (Does w g (relM m i c)) := by
  have hgl := h.holds.1.lt
  have b1 : Below w.heap.size w (w.alloc (.cells #[.int .i64 c.a, .int .u64 c.key, .int .u64 c.nw, .int .i64 c.t] 37)) := (Below.refl _ _).alloc (Nat.le_refl _) _
  have B1 := Blk.new' w 37 [.int .i64 c.a, .int .u64 c.key, .int .u64 c.nw, .int .i64 c.t]
  obtain ⟨w0, hw0⟩ : ∃ w0, w0 = w.alloc (.cells #[.int .i64 c.a, .int .u64 c.key, .int .u64 c.nw, .int .i64 c.t] 37) := ⟨_, rfl⟩
  have z0 : w0.heap.size = w.heap.size + 1 := by rw [hw0]; simp
  rw [← hw0] at b1 B1
  have b2 : Below w0.heap.size w0 (w0.alloc (.cells #[.int .i64 0, .int .i64 0, .int .i64 0, .int .i64 0, .slice none 0 0] 28)) := (Below.refl _ _).alloc (Nat.le_refl _) _
  have B2 := Blk.new' w0 28 [.int .i64 0, .int .i64 0, .int .i64 0, .int .i64 0, .slice none 0 0]
  obtain ⟨w1, hw1⟩ : ∃ w1, w1 = w0.alloc (.cells #[.int .i64 0, .int .i64 0, .int .i64 0, .int .i64 0, .slice none 0 0] 28) := ⟨_, rfl⟩
  have z1 : w1.heap.size = w.heap.size + 2 := by rw [hw1]; simp [z0]
  rw [← hw1] at b2 B2
  rw [z0] at B2
  have H1 : Hid (RT w w1 g m ∧ Blk w1 w.heap.size 37 [.int .i64 c.a, .int .u64 c.key, .int .u64 c.nw, .int .i64 c.t] ∧ Blk w1 (w.heap.size + 1) 28 [.int .i64 0, .int .i64 0, .int .i64 0, .int .i64 0, .slice none 0 0] ∧ w1.heap.size = w.heap.size + 2 ∧ g < w.heap.size) := ⟨(RT.start h).later (below_then b1 b2), B1.laterB b2, B2, z1, hgl⟩
  clear b1 B1 b2 B2 z0 z1 hgl h
  go_enter Try.func36, Try.ntmps36
  go_upto_region 1 with fail
  rw [← hw0, ← hw1]
  clear hw0 hw1
  have HH : Hid _ := holds_any g m i w1 H1.out.1.ok hi
  cases hho : hoB m i with
  | false =>
    rw [hho] at HH
    have HM0 : relM m i c = ((0, 0, 0, 0), m, []) := by unfold relM; rw [if_pos hho]
    have HM : Hid _ := HM0
    have RTW := H1.out.1
    have BW := H1.out.2.2.1
    clear HM0
    go_wp2_with fail
    refine (Calls.mono HH.out) ?_
    rintro e _ ⟨rfl, rfl⟩
    clear HH
    have HG : Hid _ := good_any w1
    go_wp2_with fail
    refine (Calls.mono HG.out) ?_
    rintro e w9 ⟨rfl, b9⟩
    have r3' := RTW.later b9
    have B3 := BW.laterB b9
    have hN' : Nts w w9 (.slice none 0 0) [] := Nts.nil _ _
    have han : ∀ b, (Value.slice none 0 0).ownBlock = some b → b ≠ w.heap.size + 1 := fun b hb => by cases hb
    clear HG b9 RTW BW
    have y0 := blk_at B3 0
    have f0 := blk_frozen B3 0
    have y1 := blk_at B3 1
    have f1 := blk_frozen B3 1
    have y2 := blk_at B3 2
    have f2 := blk_frozen B3 2
    have y3 := blk_at B3 3
    have f3 := blk_frozen B3 3
    have y4 := blk_at B3 4
    have f4 := blk_frozen B3 4
    simp only [List.getElem?_cons_zero, List.getElem?_cons_succ] at y0 y1 y2 y3 y4
    have SP := rp5_blk B3 (0) (0) (0) (0)
    have G : Hid _ := And.intro SP.1 (And.intro (r3'.codes SP.2 (by omega) H1.out.2.2.2.2) (hN'.keep SP.2 han))
    unfold rp5 at G
    clear SP B3
    go_wp2
    clear y0 y1 y2 y3 y4 f0 f1 f2 f3 f4
    generalize (((((w9).setCell ⟨w.heap.size + 1, 0, none⟩ (.int .i64 0)).setCell ⟨w.heap.size + 1, 1, none⟩ (.int .i64 0)).setCell ⟨w.heap.size + 1, 2, none⟩ (.int .i64 0)).setCell ⟨w.heap.size + 1, 3, none⟩ (.int .i64 0)).setCell ⟨w.heap.size + 1, 4, none⟩ (.slice none 0 0) = wf at *
    have y0 := blk_at G.out.1 0
    have y1 := blk_at G.out.1 1
    have y2 := blk_at G.out.1 2
    have y3 := blk_at G.out.1 3
    have y4 := blk_at G.out.1 4
    simp only [List.getElem?_cons_zero, List.getElem?_cons_succ] at y0 y1 y2 y3 y4
    refine bodyPost_ret (v := .tuple #[.agg #[.int .i64 0, .int .i64 0, .int .i64 0, .int .i64 0, .slice none 0 0], .slice none 0 0]) (by simp [results, Try.results36, go_sem, y0, y1, y2, y3, y4]) rfl ?_
    exact ⟨_, by rw [HM.out]; rfl, by rw [HM.out]; exact G.out.2.2, by rw [HM.out]; exact G.out.2.1⟩
  | true =>
    rw [hho] at HH
    have HC : Hid (∀ W, Below w1.heap.size w1 W → W.cell? ⟨w.heap.size, 1, none⟩ = some (.int .u64 c.key) ∧ W.cell? ⟨w.heap.size, 3, none⟩ = some (.int .i64 c.t)) := fun W b => ⟨by have := blk_at (H1.out.2.1.laterB b) 1; simpa using this, by have := blk_at (H1.out.2.1.laterB b) 3; simpa using this⟩
    have HY : Hid (∀ W, Below w1.heap.size w1 W → W.cell? ⟨g, 2, none⟩ = some (.int .i64 m.k)) := fun W b => by have := blk_at (H1.out.1.ok.later b).holds.1 2; simpa [rsC] using this
    have bd : Below w1.heap.size w1 w1.drew := (Below.refl _ _).drew
    have H2 : Hid (RT w w1.drew g m ∧ Blk w1.drew (w.heap.size + 1) 28 [.int .i64 0, .int .i64 0, .int .i64 0, .int .i64 0, .slice none 0 0] ∧ w1.drew.heap.size = w.heap.size + 2) := ⟨H1.out.1.later bd, H1.out.2.2.1.laterB bd, H1.out.2.2.2.1⟩
    clear bd
    by_cases hkt : c.t = m.k
    · have hne : (c.t != m.k) = false := by rw [bne_eq_false_iff_eq]; exact hkt
      have HM0 : relM m i c = ((0, 0, 0, 0), hold m 0 0, ntL (rlN m i) 16) := by unfold relM; rw [if_neg (by rw [hho]; decide), if_neg (by rw [hkt]; simp)]
      have HM : Hid _ := HM0
      clear HM0
      have Hkt : Hid _ := hkt
      clear hkt
      go_wp2_with fail
      refine (Calls.mono HH.out) ?_
      rintro e _ ⟨rfl, rfl⟩
      clear HH
      go_upto_region 3 with fail
      refine wp_region_held_drew (S := fun W => Below w1.heap.size w1 W) (by kernel_rfl) ((Below.refl _ _).drew) (fun hS => ?_)
      refine any_take (i := 0) (v := ?_) rfl (by kernel_rfl) (by kernel_rfl) (by kernel_rfl) (by exact fun _ _ _ h => h) (by rfl) ?_ hS ?_
      rotate_left
      · ((intro w hSw; have y2 := HY.out _ hSw; obtain ⟨k1, k3⟩ := HC.out _ hSw; go_simp) <;> with_reducible rfl)
      (try simp only [Act.put, List.setIfInBounds_toArray, List.set_cons_zero, List.set_cons_succ])
      refine any_take (i := 1) (v := ?_) rfl (by kernel_rfl) (by kernel_rfl) (by kernel_rfl) (by exact fun _ _ _ h => h) (by rfl) ?_ hS ?_
      rotate_left
      · ((intro w hSw; have y2 := HY.out _ hSw; obtain ⟨k1, k3⟩ := HC.out _ hSw; go_simp) <;> with_reducible rfl)
      (try simp only [Act.put, List.setIfInBounds_toArray, List.set_cons_zero, List.set_cons_succ])
      refine any_take (i := 2) (v := ?_) rfl (by kernel_rfl) (by kernel_rfl) (by kernel_rfl) (by exact fun _ _ _ h => h) (by rfl) ?_ hS ?_
      rotate_left
      · ((intro w hSw; have y2 := HY.out _ hSw; obtain ⟨k1, k3⟩ := HC.out _ hSw; go_simp) <;> with_reducible rfl)
      (try simp only [Act.put, List.setIfInBounds_toArray, List.set_cons_zero, List.set_cons_succ])
      refine any_take (i := 3) (v := ?_) rfl (by kernel_rfl) (by kernel_rfl) (by kernel_rfl) (by exact fun _ _ _ h => h) (by rfl) ?_ hS ?_
      rotate_left
      · ((intro w hSw; have y2 := HY.out _ hSw; obtain ⟨k1, k3⟩ := HC.out _ hSw; go_simp) <;> with_reducible rfl)
      (try simp only [Act.put, List.setIfInBounds_toArray, List.set_cons_zero, List.set_cons_succ])
      refine any_take (i := 4) (v := ?_) rfl (by kernel_rfl) (by kernel_rfl) (by kernel_rfl) (by exact fun _ _ _ h => h) (by rfl) ?_ hS ?_
      rotate_left
      · ((intro w hSw; have y2 := HY.out _ hSw; obtain ⟨k1, k3⟩ := HC.out _ hSw; go_simp) <;> with_reducible rfl)
      (try simp only [Act.put, List.setIfInBounds_toArray, List.set_cons_zero, List.set_cons_succ])
      refine any_take (i := 5) (v := ?_) rfl (by kernel_rfl) (by kernel_rfl) (by kernel_rfl) (by exact fun _ _ _ h => h) (by rfl) ?_ hS ?_
      rotate_left
      · ((intro w hSw; have y2 := HY.out _ hSw; obtain ⟨k1, k3⟩ := HC.out _ hSw; go_simp) <;> with_reducible rfl)
      (try simp only [Act.put, List.setIfInBounds_toArray, List.set_cons_zero, List.set_cons_succ])
      refine any_take (i := 6) (v := ?_) rfl (by kernel_rfl) (by kernel_rfl) (by kernel_rfl) (by exact fun _ _ _ h => h) (by rfl) ?_ hS ?_
      rotate_left
      · ((intro w hSw; have y2 := HY.out _ hSw; obtain ⟨k1, k3⟩ := HC.out _ hSw; go_simp) <;> with_reducible rfl)
      (try simp only [Act.put, List.setIfInBounds_toArray, List.set_cons_zero, List.set_cons_succ])
      refine wpAnyH_done (by kernel_rfl) ?_ _
      clear hS
      generalize w1.drew = w2 at *
      (try rw [hne])
      clear hne HC HY
      have b3 := (Below.refl w2.heap.size w2).alloc (Nat.le_refl _) (.cells (ivs .i64 z16).toArray 83)
      have Bd := Blk.new' w2 83 (ivs .i64 z16)
      have r3 := H2.out.1.later b3
      have H3 : Hid _ := And.intro r3 (And.intro Bd (And.intro (H2.out.2.1.laterB b3) (And.intro H2.out.2.2 b3.size)))
      clear b3 Bd r3
      simp only [ivs, z16, List.map_cons, List.map_nil] at H3
      go_upto_region 6 with fail
      generalize w2.alloc (.cells #[.int .i64 0, .int .i64 0, .int .i64 0, .int .i64 0, .int .i64 0, .int .i64 0, .int .i64 0, .int .i64 0, .int .i64 0, .int .i64 0, .int .i64 0, .int .i64 0, .int .i64 0, .int .i64 0, .int .i64 0, .int .i64 0] 83) = w3 at *
      have hd2 := H3.out.2.2.2.1
      have H3d : Hid _ := hd2
      clear hd2 H2
      generalize w2.heap.size = d at *
      have y2 := blk_at H3.out.1.ok.holds.1 2
      simp only [rsC, List.getElem?_cons_zero, List.getElem?_cons_succ] at y2
      have HO : Hid _ := tellOthers_any g m (i : Int) 4 d z16 w3 H3.out.1.ok H3.out.2.1 rfl
      go_upto_if 26 with fail
      go_cut [8] from 22 to 34 (fun pv wx => pv = .pointer (some ⟨d, 0, none⟩) ∧ RT w wx g m ∧ Blk wx d 83 (ivs .i64 (rlN m i)) ∧ Blk wx (w.heap.size + 1) 28 [.int .i64 0, .int .i64 0, .int .i64 0, .int .i64 0, .slice none 0 0] ∧ d < wx.heap.size)
      case first =>
        by_cases h3 : m.k > 3
        · have HL0 : rlN m i = tellF (i : Int) 4 z16 (regsL m.ks 16) := by unfold rlN; rw [if_pos h3]
          have HL : Hid _ := HL0
          clear HL0
          go_wp2_with fail
          refine (Calls.mono HO.out) ?_
          rintro e w4 ⟨rfl, Bd4, t4⟩
          rw [← HL.out] at Bd4
          have F : Hid _ := And.intro (H3.out.1.codes t4 (by have := H3d.out; omega) H1.out.2.2.2.2) (And.intro Bd4 (And.intro (H3.out.2.2.1.turned t4 (by have := H3d.out; show ¬ w.heap.size + 1 = d; omega)) Bd4.lt))
          clear HO Bd4 t4 y2 H3
          go_wp2
          go_meet
          exact ⟨rfl, F.out.1, F.out.2.1, F.out.2.2.1, F.out.2.2.2⟩
        · have HL0 : rlN m i = z16 := by unfold rlN; rw [if_neg h3]
          have HL : Hid _ := HL0
          clear HL0 HO
          go_wp2
          go_meet
          exact ⟨rfl, H3.out.1, by rw [HL.out]; exact H3.out.2.1, H3.out.2.2.1, (show Blk w3 d _ (ivs .i64 z16) from H3.out.2.1).lt⟩
      case rest =>
      obtain ⟨rfl, r4, Bd4, Br4, hd4⟩ := hcut
      have HEn : Hid _ := end_any g m wc r4.ok
      have H4 : Hid _ := And.intro r4 (And.intro Bd4 (And.intro Br4 hd4))
      clear HO y2 H3 r4 Bd4 Br4 hd4
      go_wp2_with fail
      refine (Calls.mono HEn.out) ?_
      rintro e wX ⟨rfl, st⟩
      have hdg : ¬ d ∈ (rv g m).W := by have := H3d.out; have := H1.out.2.2.2.2; simp [rv]; omega
      have hrg : ¬ w.heap.size + 1 ∈ (rv g m).W := by have := H1.out.2.2.2.2; simp [rv]; omega
      have hll : (rlN m i).length = 16 := by unfold rlN; split; rw [tellF_len]; rfl; rfl
      have HX : Hid (RT w wX g (hold m 0 0) ∧ Blk wX d 83 (ivs .i64 (rlN m i)) ∧ Blk wX (w.heap.size + 1) 28 [.int .i64 0, .int .i64 0, .int .i64 0, .int .i64 0, .slice none 0 0] ∧ (rlN m i).length = 16 ∧ ¬ d = w.heap.size + 1 ∧ w.heap.size + 2 ≤ wX.heap.size) := ⟨H4.out.1.step st, H4.out.2.1.turned st.turned hdg, H4.out.2.2.1.turned st.turned hrg, hll, by have := H3d.out; omega, by have := st.turned.size; have := H4.out.2.2.2; have := H3d.out; omega⟩
      clear HEn H4 st hdg hrg hll
      generalize rlN m i = ll at *
      go_upto_region 9 with fail
      refine wp_region_held_drew (S := fun W => Turned (fun k => k = w.heap.size + 1) wX W) (by kernel_rfl) (tndr (Below.refl _ _).drew) (fun hS => ?_)
      have P0 := HX.out.2.2.1.laterB (Below.refl wX.heap.size wX).drew
      have r0 := HX.out.1.later (Below.refl wX.heap.size wX).drew
      refine any_take (i := 1) (v := .agg (ivs .i64 ll).toArray) rfl (by kernel_rfl) (by kernel_rfl) (by kernel_rfl) (by exact fun _ _ _ h => h) (by rfl) ?_ hS ?_
      · intro W hSW; exact exec_load rfl rfl (load_arr (k := .i64) size_cd und_cd HX.out.2.2.2.1 (fun j hj => by rw [Nat.zero_add, blk_at (HX.out.2.1.turned hSW HX.out.2.2.2.2.1) j]; exact ivs_at .i64 _ j hj))
      (try simp only [Act.put, List.setIfInBounds_toArray, List.set_cons_zero, List.set_cons_succ])
      refine any_one (i := 0) rfl (by kernel_rfl) (fun K hK => ?_)
      go_simp
      refine (Calls.mono (good_any _)) ?_
      rintro e x1 ⟨rfl, b1⟩
      have S1 := hS.trans (tndr b1)
      have P1 := P0.laterB b1
      have r1 := r0.later b1
      have hs1 := b1.size
      go_wp2_with fail
      refine hK.out _ _ S1 ?_
      clear hK K hS b1 P0 r0
      have hS := S1
      clear S1
      refine any_one (i := 2) rfl (by kernel_rfl) (fun K hK => ?_)
      go_simp
      refine (Calls.mono (notes_any ll HX.out.2.2.2.1 _)) ?_
      rintro e x2 ⟨v, rfl, hN⟩
      have S2 := hS.trans (tndr hN.below)
      have P2 := P1.laterB hN.below
      have r2 := r1.later hN.below
      have hn1 := hS.size
      have N2 : Nts w x2 v _ := ⟨hN.own, fun b hb => Nat.le_trans r1.size (hN.new b hb)⟩
      have han : ∀ b, v.ownBlock = some b → b ≠ w.heap.size + 1 := fun b hb => by have := hN.new b hb; have := HX.out.2.2.2.2.2; omega
      go_wp2_with fail
      refine hK.out _ _ S2 ?_
      clear hK K hS hN P1 r1
      have hS := S2
      clear S2
      have y0 := blk_at P2 0
      have f0 := blk_frozen P2 0
      have y1 := blk_at P2 1
      have f1 := blk_frozen P2 1
      have y2 := blk_at P2 2
      have f2 := blk_frozen P2 2
      have y3 := blk_at P2 3
      have f3 := blk_frozen P2 3
      have y4 := blk_at P2 4
      have f4 := blk_frozen P2 4
      simp only [List.getElem?_cons_zero, List.getElem?_cons_succ] at y0 y1 y2 y3 y4
      have SP := rp5_blk P2 (0) (0) (0) (0)
      have G : Hid _ := And.intro SP.1 (And.intro (r2.codes SP.2 (by omega) H1.out.2.2.2.2) (N2.keep SP.2 han))
      have S3 := hS.trans (SP.2.mono (fun k e => .inl e))
      unfold rp5 at G S3
      refine any_on (i := 3) rfl (by kernel_rfl) (fun K hK => ?_)
      go_simp
      refine hK.out _ _ S3 (fun hS => ?_)
      clear hK K S3
      refine any_take (i := 4) (v := ?_) rfl (by kernel_rfl) (by kernel_rfl) (by kernel_rfl) (by exact fun _ _ _ h => h) (by rfl) ?_ hS ?_
      rotate_left
      · ((intro w hSw; (try dsimp only at hSw); go_simp) <;> with_reducible rfl)
      (try simp only [Act.put, List.setIfInBounds_toArray, List.set_cons_zero, List.set_cons_succ])
      refine wpAnyH_done (by kernel_rfl) ?_ _
      clear y0 y1 y2 y3 y4 f0 f1 f2 f3 f4 SP P2 r2 N2 han hS hn1 hs1
      generalize (((((x2).setCell ⟨w.heap.size + 1, 0, none⟩ (.int .i64 0)).setCell ⟨w.heap.size + 1, 1, none⟩ (.int .i64 0)).setCell ⟨w.heap.size + 1, 2, none⟩ (.int .i64 0)).setCell ⟨w.heap.size + 1, 3, none⟩ (.int .i64 0)).setCell ⟨w.heap.size + 1, 4, none⟩ (.slice none 0 0) = wf at *
      go_wp2
      have y0 := blk_at G.out.1 0
      have y1 := blk_at G.out.1 1
      have y2 := blk_at G.out.1 2
      have y3 := blk_at G.out.1 3
      have y4 := blk_at G.out.1 4
      simp only [List.getElem?_cons_zero, List.getElem?_cons_succ] at y0 y1 y2 y3 y4
      refine bodyPost_ret (v := .tuple #[.agg #[.int .i64 0, .int .i64 0, .int .i64 0, .int .i64 0, .slice none 0 0], v]) (by simp [results, Try.results36, go_sem, y0, y1, y2, y3, y4]) rfl ?_
      exact ⟨_, by rw [HM.out]; rfl, by rw [HM.out]; exact G.out.2.2, by rw [HM.out]; exact G.out.2.1⟩
    · have hne : (c.t != m.k) = true := by rw [bne_iff_ne]; exact hkt
      have HM0 : relM m i c = ((2, 5, 38, 4), m, []) := by unfold relM; rw [if_neg (by rw [hho]; decide), if_pos (fun h => hkt h)]
      have HM : Hid _ := HM0
      have RTW := H2.out.1
      have BW := H2.out.2.1
      clear HM0 H2
      go_wp2_with fail
      refine (Calls.mono HH.out) ?_
      rintro e _ ⟨rfl, rfl⟩
      clear HH
      go_upto_region 3 with fail
      refine wp_region_held_drew (S := fun W => Below w1.heap.size w1 W) (by kernel_rfl) ((Below.refl _ _).drew) (fun hS => ?_)
      refine any_take (i := 0) (v := ?_) rfl (by kernel_rfl) (by kernel_rfl) (by kernel_rfl) (by exact fun _ _ _ h => h) (by rfl) ?_ hS ?_
      rotate_left
      · ((intro w hSw; have y2 := HY.out _ hSw; obtain ⟨k1, k3⟩ := HC.out _ hSw; go_simp) <;> with_reducible rfl)
      (try simp only [Act.put, List.setIfInBounds_toArray, List.set_cons_zero, List.set_cons_succ])
      refine any_take (i := 1) (v := ?_) rfl (by kernel_rfl) (by kernel_rfl) (by kernel_rfl) (by exact fun _ _ _ h => h) (by rfl) ?_ hS ?_
      rotate_left
      · ((intro w hSw; have y2 := HY.out _ hSw; obtain ⟨k1, k3⟩ := HC.out _ hSw; go_simp) <;> with_reducible rfl)
      (try simp only [Act.put, List.setIfInBounds_toArray, List.set_cons_zero, List.set_cons_succ])
      refine any_take (i := 2) (v := ?_) rfl (by kernel_rfl) (by kernel_rfl) (by kernel_rfl) (by exact fun _ _ _ h => h) (by rfl) ?_ hS ?_
      rotate_left
      · ((intro w hSw; have y2 := HY.out _ hSw; obtain ⟨k1, k3⟩ := HC.out _ hSw; go_simp) <;> with_reducible rfl)
      (try simp only [Act.put, List.setIfInBounds_toArray, List.set_cons_zero, List.set_cons_succ])
      refine any_take (i := 3) (v := ?_) rfl (by kernel_rfl) (by kernel_rfl) (by kernel_rfl) (by exact fun _ _ _ h => h) (by rfl) ?_ hS ?_
      rotate_left
      · ((intro w hSw; have y2 := HY.out _ hSw; obtain ⟨k1, k3⟩ := HC.out _ hSw; go_simp) <;> with_reducible rfl)
      (try simp only [Act.put, List.setIfInBounds_toArray, List.set_cons_zero, List.set_cons_succ])
      refine any_take (i := 4) (v := ?_) rfl (by kernel_rfl) (by kernel_rfl) (by kernel_rfl) (by exact fun _ _ _ h => h) (by rfl) ?_ hS ?_
      rotate_left
      · ((intro w hSw; have y2 := HY.out _ hSw; obtain ⟨k1, k3⟩ := HC.out _ hSw; go_simp) <;> with_reducible rfl)
      (try simp only [Act.put, List.setIfInBounds_toArray, List.set_cons_zero, List.set_cons_succ])
      refine any_take (i := 5) (v := ?_) rfl (by kernel_rfl) (by kernel_rfl) (by kernel_rfl) (by exact fun _ _ _ h => h) (by rfl) ?_ hS ?_
      rotate_left
      · ((intro w hSw; have y2 := HY.out _ hSw; obtain ⟨k1, k3⟩ := HC.out _ hSw; go_simp) <;> with_reducible rfl)
      (try simp only [Act.put, List.setIfInBounds_toArray, List.set_cons_zero, List.set_cons_succ])
      refine any_take (i := 6) (v := ?_) rfl (by kernel_rfl) (by kernel_rfl) (by kernel_rfl) (by exact fun _ _ _ h => h) (by rfl) ?_ hS ?_
      rotate_left
      · ((intro w hSw; have y2 := HY.out _ hSw; obtain ⟨k1, k3⟩ := HC.out _ hSw; go_simp) <;> with_reducible rfl)
      (try simp only [Act.put, List.setIfInBounds_toArray, List.set_cons_zero, List.set_cons_succ])
      refine wpAnyH_done (by kernel_rfl) ?_ _
      clear hS
      generalize w1.drew = w2 at *
      (try rw [hne])
      clear HC HY
      have HG : Hid _ := wrongRel_any w2
      go_wp2_with fail
      refine (Calls.mono HG.out) ?_
      rintro e w9 ⟨rfl, b9⟩
      have r3' := RTW.later b9
      have B3 := BW.laterB b9
      have hN' : Nts w w9 (.slice none 0 0) [] := Nts.nil _ _
      have han : ∀ b, (Value.slice none 0 0).ownBlock = some b → b ≠ w.heap.size + 1 := fun b hb => by cases hb
      clear HG b9 RTW BW
      have y0 := blk_at B3 0
      have f0 := blk_frozen B3 0
      have y1 := blk_at B3 1
      have f1 := blk_frozen B3 1
      have y2 := blk_at B3 2
      have f2 := blk_frozen B3 2
      have y3 := blk_at B3 3
      have f3 := blk_frozen B3 3
      have y4 := blk_at B3 4
      have f4 := blk_frozen B3 4
      simp only [List.getElem?_cons_zero, List.getElem?_cons_succ] at y0 y1 y2 y3 y4
      have SP := rp5_blk B3 (2) (5) (38) (4)
      have G : Hid _ := And.intro SP.1 (And.intro (r3'.codes SP.2 (by omega) H1.out.2.2.2.2) (hN'.keep SP.2 han))
      unfold rp5 at G
      clear SP B3
      go_wp2
      clear y0 y1 y2 y3 y4 f0 f1 f2 f3 f4
      generalize (((((w9).setCell ⟨w.heap.size + 1, 0, none⟩ (.int .i64 2)).setCell ⟨w.heap.size + 1, 1, none⟩ (.int .i64 5)).setCell ⟨w.heap.size + 1, 2, none⟩ (.int .i64 38)).setCell ⟨w.heap.size + 1, 3, none⟩ (.int .i64 4)).setCell ⟨w.heap.size + 1, 4, none⟩ (.slice none 0 0) = wf at *
      have y0 := blk_at G.out.1 0
      have y1 := blk_at G.out.1 1
      have y2 := blk_at G.out.1 2
      have y3 := blk_at G.out.1 3
      have y4 := blk_at G.out.1 4
      simp only [List.getElem?_cons_zero, List.getElem?_cons_succ] at y0 y1 y2 y3 y4
      refine bodyPost_ret (v := .tuple #[.agg #[.int .i64 2, .int .i64 5, .int .i64 38, .int .i64 4, .slice none 0 0], .slice none 0 0]) (by simp [results, Try.results36, go_sem, y0, y1, y2, y3, y4]) rfl ?_
      exact ⟨_, by rw [HM.out]; rfl, by rw [HM.out]; exact G.out.2.2, by rw [HM.out]; exact G.out.2.1⟩
end Go.Proofs.Ytlopkfenbeahgaa

