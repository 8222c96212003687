/- What Bytes asks of the state: how many registrants, and the fences as bits. -/
import Derived.Test.YtlopkfenbeahgaaXRv3
import Derived.Test.YtlopkfenbeahgaaXKw
namespace Go.Proofs.Ytlopkfenbeahgaa
open Go.RowKit Go.Shelf
set_option linter.unusedVariables false
set_option linter.unusedSimpArgs false
set_option maxRecDepth 4000
attribute [local go_sem] Oper.semAt_some

set_option maxHeartbeats 4000000 in
theorem count_any (g : Nat) (m : Rs) (w : World) (h : (rv g m).Ok w) :
    Calls Try.prog 18 #[.pointer (some ⟨g, 0, none⟩)] w fun e w' => e = .returned (.int .i64 ((regsL m.ks 16).length : Int)) ∧ Below w.heap.size w w' := by
  have b1 : Below w.heap.size w (w.alloc (.cells #[.int .i64 0] 3)) := (Below.refl _ _).alloc (Nat.le_refl _) _
  have B1 := Blk.new' w 3 [.int .i64 0]
  obtain ⟨w4, hw4⟩ : ∃ w4, w4 = w.alloc (.cells #[.int .i64 0] 3) := ⟨_, rfl⟩
  rw [← hw4] at b1 B1
  have HR : Hid _ := Regs_any g m w4 (h.later b1)
  have H4 : Hid _ := And.intro B1 (And.intro b1 h.holds.2)
  obtain ⟨bx, hbx⟩ : ∃ bx, w.heap.size = bx := ⟨_, rfl⟩
  clear b1 B1 h
  refine (callsIn_wide (n := 9)).1 ?_
  refine callsIn_of_wp_marks Try.func18 rfl trivial ?_ rfl
  simp only [Try.ntmps18, List.size_toArray, List.length_cons, List.length_nil, Nat.reduceAdd, Nat.reduceSub, Array.replicate_succ, Array.replicate_zero, List.push_toArray, List.append_toArray, List.nil_append, List.cons_append]
  refine wpIn_wide.2 (wp_mono (Q := calmR (bodyPostM Fence.wide 9 Try.prog Try.f18 fun e w' => e = .returned (.int .i64 ((regsL m.ks 16).length : Int)) ∧ Below w.heap.size w w')) ?_ (fun e a w h => calmR_out h))
  go_wp2_with fail
  rw [← hw4]
  rw [hbx] at H4
  have HBX : Hid (w.heap.size = bx) := hbx
  clear hw4 hbx
  refine (Calls.mono HR.out) ?_
  rintro e x6 ⟨rfl, Bc, b6⟩
  have hsq := regs_stops 8 (by omega) w4.heap.size m.ks x6 H4.out.2.2.kl Bc
  have H6 : Hid _ := And.intro (H4.out.1.laterB b6) (And.intro ((H4.out.2.1.mono (Nat.le_refl _)).trans (b6.mono (Nat.le_of_lt H4.out.1.lt))) (And.intro (Nat.lt_of_lt_of_le H4.out.1.lt b6.size) (And.intro Bc.lt H4.out.1.lt)))
  clear HR H4 b6 Bc
  generalize w4.heap.size = c3 at *
  go_wp2_with fail
  refine (wpIn_wide (n := 9)).1 ?_
  refine wpIn_rangeFunc_ownG rfl (by omega) (gf := 32) (lb := #[.pointer (some ⟨c3, 0, none⟩)]) rfl trivial (enters_of Try.func32 (by kernel_rfl) rfl) hsq (fun h k => h.t k) (fun W l o o' hl h _ _ k hk => World.putObj_heap_other (by simp only [List.mem_singleton] at hk; have := H6.out.2.2.2.1; omega)) (Below.refl _ _) (fun _ => rfl) (fun pre W => RB (fun k => k = bx) x6 [(bx, 3, [.int .i64 ((pre.length : Nat) : Int)])] W) (fun _ _ _ => False)
    rb_own (fun _ _ _ _ _ hs _ _ => hs) ⟨fun b' hb => by simp only [List.mem_singleton] at hb; subst hb; exact H6.out.1, ⟨rfl, rfl, rfl, Nat.le_refl _, fun _ _ _ => rfl⟩⟩ (fun x => { tmps := #[.pointer (some ⟨g, 0, none⟩), undef, .int .i64 0, .pointer (some ⟨bx, 0, none⟩), .pointer (some ⟨g, 0, none⟩), .func (.func 32) #[] #[.pointer (some ⟨c3, 0, none⟩)], .int .i64 (x.1.1 : Int), .int .u64 x.1.2, undef, undef, undef], defers := [] }) ?assign ?body ?done ?stop
  case assign =>
    intro l x W K hK
    simp only [encP]
    first | (gi_wp2; exact hK) | (simpa using hK) | (gi_wp2; simpa using hK)
  case body =>
    rintro l' pre x W ⟨hB, ht⟩ hlt
    have hBx : Blk W bx 3 [.int .i64 ((pre.length : Nat) : Int)] := hB (bx, 3, [.int .i64 ((pre.length : Nat) : Int)]) (by simp)
    have e8 := blk_at hBx 0
    have f8 := blk_frozen hBx 0
    simp only [List.getElem?_cons_zero] at e8
    have B2 := hBx.set 0 (.int .i64 ((pre.length : Int) + 1))
    simp only [List.set_cons_zero] at B2
    have hl6 := H6.out.2.2.1
    have hc6 := H6.out.2.2.2.2
    have hc7 := H6.out.2.2.2.1
    have hls : ((pre ++ [x]).length : Int) = (pre.length : Int) + 1 := by simp
    refine wpIn_mono (Q := roundR (fun W' => KeepsFrom x6.heap.size W W' ∧ KeepL [c3] W W' ∧ RB (fun k => k = bx) x6 [(bx, 3, [.int .i64 (((pre ++ [x]).length : Nat) : Int)])] W')) ?_ ?_
    rotate_left
    · rintro e a W' h
      cases e <;> first | exact h.elim | exact h
    have t1 := turned_set W bx 0 (.int .i64 ((pre.length : Int) + 1))
    have hszW := ht.size
    have HF : Hid (KeepsFrom x6.heap.size W (W.setCell ⟨bx, 0, none⟩ (.int .i64 ((pre.length : Int) + 1))) ∧ KeepL [c3] W (W.setCell ⟨bx, 0, none⟩ (.int .i64 ((pre.length : Int) + 1))) ∧ RB (fun k => k = bx) x6 [(bx, 3, [.int .i64 (((pre ++ [x]).length : Nat) : Int)])] (W.setCell ⟨bx, 0, none⟩ (.int .i64 ((pre.length : Int) + 1)))) := ⟨keepsR t1 (fun k e => by have e : k = bx := e; omega), keepR t1 (fun k hk => by simp only [List.mem_singleton] at hk; refine ⟨by omega, fun h => ?_⟩; have h : k = bx := h; omega), fun b' hb' => by simp only [List.mem_singleton] at hb'; subst hb'; show Blk _ bx _ _; rw [hls]; exact B2, ht.trans (t1.mono (fun k e => .inl e))⟩
    have hlp : (pre.length : Int) < 16 := by omega
    have hlp0 : 0 ≤ (pre.length : Int) := by omega
    clear hB ht hBx B2 t1 hsq hls hszW hl6 hc6 hc7
    generalize (pre.length : Int) = pl at *
    have hw : wrap64 (pl + 1) = pl + 1 := by unfold wrap64; omega
    gi_wp2
    exact HF.out
  case done =>
    rintro D ys W hD hys ⟨hB, ht⟩ hdf
    have hyl : ys.length = (regsL m.ks 16).length := by rw [← hys, List.length_map]
    have hBx : Blk W bx 3 [.int .i64 ((ys.length : Nat) : Int)] := hB (bx, 3, [.int .i64 ((ys.length : Nat) : Int)]) (by simp)
    rw [hyl] at hBx
    have c9 := blk_at hBx 0
    simp only [List.getElem?_cons_zero] at c9
    have hz6 := H6.out.2.1.size
    have BW : Below bx w W := H6.out.2.1.trans (ht.below bx (by have := H6.out.2.2.1; omega) (fun k e => by rw [e]; exact Nat.le_refl _))
    have F : Hid _ := And.intro BW (And.intro hdf (And.intro hD (And.intro HBX.out hz6)))
    clear BW hdf hD hz6 hB ht hsq hBx hyl hys
    obtain ⟨n, hn⟩ : ∃ n, ((regsL m.ks 16).length : Int) = n := ⟨_, rfl⟩
    rw [hn] at c9
    have HNE : Hid _ := hn
    clear hn
    go_wp2_with fail
    refine ⟨by simp, .inl ⟨_, _, rfl, run_takeDeferred F.out.2.1, ?_⟩⟩
    exact ⟨_, results_tmp rfl _ _ _, by rw [HNE.out]; rfl, (F.out.1.mono (Nat.le_of_eq F.out.2.2.2.1)).trans (belowK_b (w := w) (Nat.le_refl _) W D _ _ (Nat.le_trans F.out.2.2.2.2 F.out.2.2.1) F.out.2.1 rfl rfl)⟩
  case stop =>
    rintro D c pre W _ _ h _
    exact h.elim
end Go.Proofs.Ytlopkfenbeahgaa

