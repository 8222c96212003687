/- Whole of a reader in whatever state. -/
import Derived.Test.YtgonglbgejaffaaXCp4
namespace Go.Proofs.Ytgonglbgejaffaa
open Go.RowKit
set_option linter.unusedVariables false
set_option linter.unusedSimpArgs false
set_option maxRecDepth 4000

/-- the image is whole -/
def whB (m : CR) : Bool := !(m.id == 0) && (!ovB m.ps && (!miss m && decide (m.s = ((Crc.sum (flat m)).toNat : Int))))
def whL (m : CR) : List (BitVec 8) := if whB m = true then flat m else []
theorem wh_no {m : CR} (h : whB m = false) (w w' : World) (hb : Below w.heap.size w w') : ∃ z, Ending.returned (.tuple #[.slice none 0 0, .bool false]) = Ending.returned (.tuple #[z, .bool (whB m)]) ∧ Own w' w.heap.size z (whL m) ∧ Below w.heap.size w w' := by
  refine ⟨_, by rw [h], ?_, hb⟩
  unfold whL
  rw [h, if_neg (by decide)]
  exact Own.nil _ _
set_option maxHeartbeats 4000000 in
theorem cqWhole_any (p : CQl) (m : CR) (w : World) (h : (cqOb p m).Ok w) (hid : ¬ m.id = 0 → m.ps.length ≠ 0) (hn : m.ps.length ≤ 256) (hlb : lenOf m.ps ≤ 1000000000000) :
    Calls Try.prog 18 #[.pointer (some ⟨p.g, 0, none⟩)] w (fun e w' => ∃ z, e = .returned (.tuple #[z, .bool (whB m)]) ∧ Own w' w.heap.size z (whL m) ∧ Below w.heap.size w w') := by
  have hP := h.holds
  have hG := hP.blk
  by_cases hi : m.id = 0
  · have hw : whB m = false := by unfold whB; rw [hi]; rfl
    have HNo : Hid _ := wh_no hw w w (Below.refl _ _)
    obtain ⟨mid, hmid⟩ : ∃ x, x = m.id := ⟨_, rfl⟩
    rw [← hmid] at hG hi
    subst hi
    have y0 := blk_at hG 0
    have y2 := blk_at hG 2
    have y3 := blk_at hG 3
    have y4 := blk_at hG 4
    simp only [List.getElem?_cons_zero, List.getElem?_cons_succ] at y0 y2 y3 y4
    clear hP hG hid h hw y2 y3 y4 hmid
    generalize lenOf m.ps = len at *
    generalize p.g = g at *
    go_enter Try.func18, Try.ntmps18
    go_wp2_with fail
    go_ret2
    exact HNo.out
  have hne := hid hi
  have q2 : (m.id == 0) = false := by rw [beq_eq_false_iff_ne]; exact hi
  cases hov : ovB m.ps with
  | true =>
    have hw : whB m = false := by unfold whB; rw [hov, q2]; rfl
    have HNo : Hid _ := wh_no hw w w (Below.refl _ _)
    have hl : 65536 < lenOf m.ps := by unfold ovB at hov; exact of_decide_eq_true hov
    have q1 : (65536 : Int) < (lenOf m.ps : Int) := by omega
    have y0 := blk_at hG 0
    have y2 := blk_at hG 2
    have y3 := blk_at hG 3
    have y4 := blk_at hG 4
    simp only [List.getElem?_cons_zero, List.getElem?_cons_succ] at y0 y2 y3 y4
    clear hP hG hid h hw y2 y3 hov hl
    generalize lenOf m.ps = len at *
    generalize p.g = g at *
    generalize m.id = mid at *
    go_enter Try.func18, Try.ntmps18
    go_wp2_with fail
    go_ret2
    exact HNo.out
  | false =>
    have hl : lenOf m.ps ≤ 65536 := by unfold ovB at hov; have := of_decide_eq_false hov; omega
    unfold CQl.tv CQl.dv at hG
    rw [if_neg hne, if_neg (fun e => e.elim hne (fun e => by rw [hov] at e; cases e))] at hG
    have hT := hP.there hne
    have hTe : m.ps.map isB = (m.ps.map Option.isSome).map Value.bool := by rw [List.map_map]; rfl
    rw [hTe] at hT
    have HC : Hid _ := containsB_any p.t (m.ps.map Option.isSome) w hT (by rw [List.length_map]; omega)
    rw [List.length_map] at HC
    have hD := hP.data hne hov
    have q1 : (lenOf m.ps : Int) ≤ 65536 := by omega
    have q3 : ¬ (65536 : Int) < (lenOf m.ps : Int) := by omega
    cases hx : miss m with
    | true =>
      have hw : whB m = false := by unfold whB; rw [hov, q2, hx]; rfl
      have HNo : Hid _ := wh_no hw w w (Below.refl _ _)
      unfold miss at hx
      rw [hx] at HC
      have y0 := blk_at hG 0
      have y2 := blk_at hG 2
      have y3 := blk_at hG 3
      have y4 := blk_at hG 4
      simp only [List.getElem?_cons_zero, List.getElem?_cons_succ] at y0 y2 y3 y4
      clear y3 hP hG hid h hw hT hTe hD hx hov
      generalize lenOf m.ps = len at *
      generalize p.g = g at *
      generalize p.t = t at *
      generalize m.ps.length = N at *
      generalize m.id = mid at *
      go_enter Try.func18, Try.ntmps18
      go_wp2_with fail
      refine (Calls.mono HC.out) ?_
      rintro e _ ⟨rfl, rfl⟩
      clear HC
      go_wp2
      go_ret2
      exact HNo.out
    | false =>
      have hw0 : whB m = decide (m.s = ((Crc.sum (flat m)).toNat : Int)) := by unfold whB; rw [hov, q2, hx]; rfl
      unfold miss at hx
      rw [hx] at HC
      have HK : Hid _ := concat_any p.d (m.ps.map (fun o => o.getD [])) p.vs w hD (fun k hk => by
        have hk' : k < m.ps.length := by rw [List.length_map] at hk; exact hk
        obtain ⟨v, hv, ho⟩ := hP.each hov k m.ps[k] (List.getElem?_eq_getElem hk')
        exact ⟨v, hv, by rw [List.getElem_map]; exact ho⟩) (by rw [List.length_map]; omega) (by have := flat_len m; unfold flat at this; omega)
      rw [List.length_map, show (m.ps.map (fun o => o.getD [])).flatten = flat m from rfl] at HK
      have hfl := flat_len m
      have hfl2 : (flat m).length ≤ 65536 := by omega
      clear hfl
      have HG : Hid _ := And.intro hG trivial
      have y0 := blk_at hG 0
      have y2 := blk_at hG 2
      have y3 := blk_at hG 3
      have y4 := blk_at hG 4
      simp only [List.getElem?_cons_zero, List.getElem?_cons_succ] at y0 y2 y3 y4
      clear h hP hG hT hTe hD hx hov hid
      generalize lenOf m.ps = len at *
      generalize p.g = g at *
      generalize p.t = t at *
      generalize p.d = d at *
      generalize p.c6 = K6 at *
      generalize Value.bool p.cl = CL at *
      generalize m.ps.length = N at *
      generalize m.ad = ad at *
      have HW0 : Hid _ := hw0
      have HWL : Hid (whL m = if whB m = true then flat m else []) := (rfl : whL m = if whB m = true then flat m else [])
      clear hw0
      generalize whL m = WL at *
      generalize whB m = WB at *
      generalize m.id = mid at *
      generalize m.s = ms at *
      generalize flat m = F at *
      have hS0 := (Crc.sum F).isLt
      go_enter Try.func18, Try.ntmps18
      go_wp2_with fail
      refine (Calls.mono HC.out) ?_
      rintro e _ ⟨rfl, rfl⟩
      clear HC
      go_wp2_with fail
      refine (Calls.mono HK.out) ?_
      rintro e w2 ⟨z, rfl, o2, b2⟩
      obtain ⟨a, cap, rfl, g1, g2, g3, -, -⟩ := o2.open
      have HSu : Hid (∀ W, Below w2.heap.size w2 W → Calls Try.prog 28 #[.slice a F.length cap] W fun e w' => e = .returned (.int .u32 ((Crc.sum F).toNat : Int)) ∧ W = w') := fun W hW => by
        refine (sum_any a F.length cap F W rfl (by unfold maxLen; omega) (g3.later hW)).mono ?_
        rintro e w' ⟨e1, e2⟩
        exact ⟨e1, e2.symm⟩
      have H2 : Hid _ := And.intro (HG.out.1.laterB b2) (And.intro o2 b2)
      clear HK o2 b2 g1 g2 g3 y0 y2 y3 y4 HG
      go_upto_region 4 with fail
      generalize hSF : ((Crc.sum F).toNat : Int) = sf at *
      by_cases hs : ms = sf
      · subst hs
        refine wp_region_held_drew (S := fun W => Blk W g 74 [.int .i64 mid, .int .u32 ms, .slice (some ⟨t, 0, none⟩) N N, .slice (some ⟨d, 0, none⟩) N N, .int .i64 len, .int .i64 ad, K6, .int .i32 0, .int .u32 0, CL] ∧ Below w2.heap.size w2 W) (by kernel_rfl) (⟨H2.out.1.laterB (Below.refl _ _).drew, (Below.refl _ _).drew⟩) (fun hS => ?_)
        refine any_take (i := 0) (v := ?_) rfl (by kernel_rfl) (by kernel_rfl) (by kernel_rfl) (by exact fun _ _ _ h => h) (by rfl) ?_ hS ?_
        rotate_left
        · ((intro w hSw; have y1 := blk_at hSw.1 1; simp only [List.getElem?_cons_zero, List.getElem?_cons_succ] at y1; clear hSw; go_simp) <;> with_reducible rfl)
        (try simp only [Act.put, List.setIfInBounds_toArray, List.set_cons_zero, List.set_cons_succ])
        refine any_take (i := 2) (v := ?_) rfl (by kernel_rfl) (by kernel_rfl) (by kernel_rfl) (by exact fun _ _ _ h => h) (by rfl) ?_ hS ?_
        rotate_left
        · ((intro w hSw; have y1 := blk_at hSw.1 1; simp only [List.getElem?_cons_zero, List.getElem?_cons_succ] at y1; clear hSw; go_simp) <;> with_reducible rfl)
        (try simp only [Act.put, List.setIfInBounds_toArray, List.set_cons_zero, List.set_cons_succ])
        refine any_take (i := 3) (v := ?_) rfl (by kernel_rfl) (by kernel_rfl) (by kernel_rfl) (by exact fun _ _ _ h => h) (by rfl) ?_ hS ?_
        rotate_left
        · ((intro w hSw; have y1 := blk_at hSw.1 1; simp only [List.getElem?_cons_zero, List.getElem?_cons_succ] at y1; clear hSw; go_simp) <;> with_reducible rfl)
        (try simp only [Act.put, List.setIfInBounds_toArray, List.set_cons_zero, List.set_cons_succ])
        refine any_take (i := 4) (v := ?_) rfl (by kernel_rfl) (by kernel_rfl) (by kernel_rfl) (by exact fun _ _ _ h => h) (by rfl) ?_ hS ?_
        rotate_left
        · ((intro w hSw; have y1 := blk_at hSw.1 1; simp only [List.getElem?_cons_zero, List.getElem?_cons_succ] at y1; clear hSw; go_simp) <;> with_reducible rfl)
        (try simp only [Act.put, List.setIfInBounds_toArray, List.set_cons_zero, List.set_cons_succ])
        refine any_take (i := 5) (v := ?_) rfl (by kernel_rfl) (by kernel_rfl) (by kernel_rfl) (by exact fun _ _ _ h => h) (by rfl) ?_ hS ?_
        rotate_left
        · ((intro w hSw; have y1 := blk_at hSw.1 1; simp only [List.getElem?_cons_zero, List.getElem?_cons_succ] at y1; clear hSw; go_simp) <;> with_reducible rfl)
        (try simp only [Act.put, List.setIfInBounds_toArray, List.set_cons_zero, List.set_cons_succ])
        refine any_one (i := 1) rfl (by kernel_rfl) (fun K hK => ?_)
        go_simp
        refine (Calls.mono (HSu.out _ hS.2)) ?_
        rintro e _ ⟨rfl, rfl⟩
        go_wp2_with fail
        refine hK.out _ _ hS ?_
        clear hK K
        refine any_take (i := 6) (v := ?_) rfl (by kernel_rfl) (by kernel_rfl) (by kernel_rfl) (by exact fun _ _ _ h => h) (by rfl) ?_ hS ?_
        rotate_left
        · ((intro w hSw; have y1 := blk_at hSw.1 1; simp only [List.getElem?_cons_zero, List.getElem?_cons_succ] at y1; clear hSw; go_simp) <;> with_reducible rfl)
        (try simp only [Act.put, List.setIfInBounds_toArray, List.set_cons_zero, List.set_cons_succ])
        refine wpAnyH_done (by kernel_rfl) ?_ _
        have K2 : Hid _ := And.intro (H2.out.2.1.later (Below.refl _ _).drew) (below_then H2.out.2.2 (Below.refl _ _).drew)
        clear H2 hS HSu
        go_wp2
        go_ret2
        have e1 : WB = true := by rw [HW0.out]; simp
        have e2 := HWL.out
        rw [e1, if_pos rfl] at e2
        rw [e1, e2]
        exact ⟨_, rfl, K2.out⟩
      · have hs2 : (sf == ms) = false := by rw [beq_eq_false_iff_ne]; exact fun e => hs e.symm
        refine wp_region_held_drew (S := fun W => Blk W g 74 [.int .i64 mid, .int .u32 ms, .slice (some ⟨t, 0, none⟩) N N, .slice (some ⟨d, 0, none⟩) N N, .int .i64 len, .int .i64 ad, K6, .int .i32 0, .int .u32 0, CL] ∧ Below w2.heap.size w2 W) (by kernel_rfl) (⟨H2.out.1.laterB (Below.refl _ _).drew, (Below.refl _ _).drew⟩) (fun hS => ?_)
        refine any_take (i := 0) (v := ?_) rfl (by kernel_rfl) (by kernel_rfl) (by kernel_rfl) (by exact fun _ _ _ h => h) (by rfl) ?_ hS ?_
        rotate_left
        · ((intro w hSw; have y1 := blk_at hSw.1 1; simp only [List.getElem?_cons_zero, List.getElem?_cons_succ] at y1; clear hSw; go_simp) <;> with_reducible rfl)
        (try simp only [Act.put, List.setIfInBounds_toArray, List.set_cons_zero, List.set_cons_succ])
        refine any_take (i := 2) (v := ?_) rfl (by kernel_rfl) (by kernel_rfl) (by kernel_rfl) (by exact fun _ _ _ h => h) (by rfl) ?_ hS ?_
        rotate_left
        · ((intro w hSw; have y1 := blk_at hSw.1 1; simp only [List.getElem?_cons_zero, List.getElem?_cons_succ] at y1; clear hSw; go_simp) <;> with_reducible rfl)
        (try simp only [Act.put, List.setIfInBounds_toArray, List.set_cons_zero, List.set_cons_succ])
        refine any_take (i := 3) (v := ?_) rfl (by kernel_rfl) (by kernel_rfl) (by kernel_rfl) (by exact fun _ _ _ h => h) (by rfl) ?_ hS ?_
        rotate_left
        · ((intro w hSw; have y1 := blk_at hSw.1 1; simp only [List.getElem?_cons_zero, List.getElem?_cons_succ] at y1; clear hSw; go_simp) <;> with_reducible rfl)
        (try simp only [Act.put, List.setIfInBounds_toArray, List.set_cons_zero, List.set_cons_succ])
        refine any_take (i := 4) (v := ?_) rfl (by kernel_rfl) (by kernel_rfl) (by kernel_rfl) (by exact fun _ _ _ h => h) (by rfl) ?_ hS ?_
        rotate_left
        · ((intro w hSw; have y1 := blk_at hSw.1 1; simp only [List.getElem?_cons_zero, List.getElem?_cons_succ] at y1; clear hSw; go_simp) <;> with_reducible rfl)
        (try simp only [Act.put, List.setIfInBounds_toArray, List.set_cons_zero, List.set_cons_succ])
        refine any_take (i := 5) (v := ?_) rfl (by kernel_rfl) (by kernel_rfl) (by kernel_rfl) (by exact fun _ _ _ h => h) (by rfl) ?_ hS ?_
        rotate_left
        · ((intro w hSw; have y1 := blk_at hSw.1 1; simp only [List.getElem?_cons_zero, List.getElem?_cons_succ] at y1; clear hSw; go_simp) <;> with_reducible rfl)
        (try simp only [Act.put, List.setIfInBounds_toArray, List.set_cons_zero, List.set_cons_succ])
        refine any_one (i := 1) rfl (by kernel_rfl) (fun K hK => ?_)
        go_simp
        refine (Calls.mono (HSu.out _ hS.2)) ?_
        rintro e _ ⟨rfl, rfl⟩
        go_wp2_with fail
        refine hK.out _ _ hS ?_
        clear hK K
        refine any_take (i := 6) (v := ?_) rfl (by kernel_rfl) (by kernel_rfl) (by kernel_rfl) (by exact fun _ _ _ h => h) (by rfl) ?_ hS ?_
        rotate_left
        · ((intro w hSw; have y1 := blk_at hSw.1 1; simp only [List.getElem?_cons_zero, List.getElem?_cons_succ] at y1; clear hSw; go_simp) <;> with_reducible rfl)
        (try simp only [Act.put, List.setIfInBounds_toArray, List.set_cons_zero, List.set_cons_succ])
        refine wpAnyH_done (by kernel_rfl) ?_ _
        have K2 : Hid _ := below_then H2.out.2.2 (Below.refl _ _).drew
        clear H2 hS HSu
        go_wp2
        go_ret2
        have e1 : WB = false := by rw [HW0.out]; exact decide_eq_false hs
        have e2 := HWL.out
        rw [e1, if_neg (by decide)] at e2
        rw [e1, e2]
        exact ⟨_, rfl, Own.nil _ _, K2.out⟩
end Go.Proofs.Ytgonglbgejaffaa

