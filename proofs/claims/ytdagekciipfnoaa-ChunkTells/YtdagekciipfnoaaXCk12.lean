/- Whole. -/
import Derived.Test.YtdagekciipfnoaaXCk11
namespace Go.Proofs.Ytdagekciipfnoaa
open Go.RowKit
set_option linter.unusedVariables false
set_option linter.unusedSimpArgs false
set_option maxRecDepth 4000

/-- a piece is missing -/
def miss (m : CR) : Bool := (m.ps.map Option.isSome).any (fun b => !b)
def flat (m : CR) : List (BitVec 8) := (m.ps.map (fun o => o.getD [])).flatten
theorem flat_len (m : CR) : (flat m).length = lenOf m.ps := by unfold flat lenOf; rw [List.length_flatten, List.map_map]; rfl
set_option maxHeartbeats 4000000 in
theorem whole_no (p : CPl) (m : CR) (w : World) (h : (crOb p m).Ok w) (hid : ¬ m.id = 0) (hne : m.ps.length ≠ 0) (hn : m.ps.length ≤ 256) (hl : lenOf m.ps ≤ 65536) (hx : (m.ps.map Option.isSome).any (fun b => !b) = true) :
    Calls Try.prog 13 #[.pointer (some ⟨p.g, 0, none⟩)] w fun e w' => e = .returned (.tuple #[.slice none 0 0, .bool false]) ∧ Below w.heap.size w w' := by
  have hP := h.holds
  have hG := hP.blk
  unfold CPl.tv CPl.dv at hG
  rw [if_neg hne, if_neg hne] at hG
  have hT := hP.there hne
  have hTe : m.ps.map isB = (m.ps.map Option.isSome).map Value.bool := by rw [List.map_map]; rfl
  rw [hTe] at hT
  have HC : Hid _ := containsB_any p.t (m.ps.map Option.isSome) w hT (by rw [List.length_map]; omega)
  rw [List.length_map, hx] at HC
  have hD := hP.data hne
  have q1 : (lenOf m.ps : Int) ≤ 65536 := by omega
  have q2 : (m.id == 0) = false := by rw [beq_eq_false_iff_ne]; exact hid
  have q3 : decide ((65536 : Int) < (lenOf m.ps : Int)) = false := by rw [decide_eq_false_iff_not]; omega
  have HG : Hid _ := And.intro hG trivial
  have y0 := blk_at hG 0
  have y2 := blk_at hG 2
  have y3 := blk_at hG 3
  have y4 := blk_at hG 4
  simp only [List.getElem?_cons_zero, List.getElem?_cons_succ] at y0 y2 y3 y4
  clear h hP hG hT hTe hD hx
  generalize lenOf m.ps = len at *
  generalize p.g = g at *
  generalize p.t = t at *
  generalize p.d = d at *
  clear y3 HG
  generalize m.ps.length = N at *
  generalize m.id = mid at *
  go_enter Try.func13, Try.ntmps13
  go_wp2_with fail
  refine (Calls.mono HC.out) ?_
  rintro e _ ⟨rfl, rfl⟩
  clear HC
  go_wp2
  go_ret2
  exact ⟨rfl, Below.refl _ _⟩
set_option maxHeartbeats 4000000 in
theorem whole_yes (p : CPl) (m : CR) (w : World) (h : (crOb p m).Ok w) (hid : ¬ m.id = 0) (hne : m.ps.length ≠ 0) (hn : m.ps.length ≤ 256) (hl : lenOf m.ps ≤ 65536) (hx : (m.ps.map Option.isSome).any (fun b => !b) = false) (hs : m.s = ((Crc.sum (flat m)).toNat : Int)) :
    Calls Try.prog 13 #[.pointer (some ⟨p.g, 0, none⟩)] w fun e w' => ∃ z, e = .returned (.tuple #[z, .bool true]) ∧ Own w' w.heap.size z (flat m) ∧ Below w.heap.size w w' := by
  have hP := h.holds
  have hG := hP.blk
  unfold CPl.tv CPl.dv at hG
  rw [if_neg hne, if_neg hne] at hG
  have hT := hP.there hne
  have hTe : m.ps.map isB = (m.ps.map Option.isSome).map Value.bool := by rw [List.map_map]; rfl
  rw [hTe] at hT
  have HC : Hid _ := containsB_any p.t (m.ps.map Option.isSome) w hT (by rw [List.length_map]; omega)
  rw [List.length_map, hx] at HC
  have hD := hP.data hne
  have HK : Hid _ := concat_any p.d (m.ps.map (fun o => o.getD [])) p.vs w hD (fun k hk => by
    have hk' : k < m.ps.length := by rw [List.length_map] at hk; exact hk
    obtain ⟨v, hv, ho⟩ := hP.each k m.ps[k] (List.getElem?_eq_getElem hk')
    exact ⟨v, hv, by rw [List.getElem_map]; exact ho⟩) (by rw [List.length_map]; omega) (by have := flat_len m; unfold flat at this; omega)
  rw [List.length_map, show (m.ps.map (fun o => o.getD [])).flatten = flat m from rfl] at HK
  have hfl := flat_len m
  have hfl2 : (flat m).length ≤ 65536 := by omega
  clear hfl
  rw [hs] at hG
  have q1 : (lenOf m.ps : Int) ≤ 65536 := by omega
  have q2 : (m.id == 0) = false := by rw [beq_eq_false_iff_ne]; exact hid
  have q3 : decide ((65536 : Int) < (lenOf m.ps : Int)) = false := by rw [decide_eq_false_iff_not]; omega
  have HG : Hid _ := And.intro hG trivial
  have y0 := blk_at hG 0
  have y2 := blk_at hG 2
  have y3 := blk_at hG 3
  have y4 := blk_at hG 4
  simp only [List.getElem?_cons_zero, List.getElem?_cons_succ] at y0 y2 y3 y4
  clear h hP hG hT hTe hD hx
  generalize lenOf m.ps = len at *
  generalize p.g = g at *
  generalize p.t = t at *
  generalize p.d = d at *
  generalize m.ps.length = N at *
  generalize m.id = mid at *
  generalize m.ad = ad at *
  clear hs
  generalize flat m = F at *
  have hS0 := (Crc.sum F).isLt
  go_enter Try.func13, Try.ntmps13
  go_wp2_with fail
  refine (Calls.mono HC.out) ?_
  rintro e _ ⟨rfl, rfl⟩
  clear HC
  go_wp2_with fail
  refine (Calls.mono HK.out) ?_
  rintro e w2 ⟨z, rfl, o2, b2⟩
  obtain ⟨a, cap, rfl, g1, g2, g3, -, -⟩ := o2.open
  have HSu : Hid (∀ W, Below w2.heap.size w2 W → Calls Try.prog 19 #[.slice a F.length cap] W fun e w' => e = .returned (.int .u32 ((Crc.sum F).toNat : Int)) ∧ W = w') := fun W hW => by
    refine (sum_any a F.length cap F W rfl (by unfold maxLen; omega) (g3.later hW)).mono ?_
    rintro e w' ⟨e1, e2⟩
    exact ⟨e1, e2.symm⟩
  have H2 : Hid _ := And.intro (HG.out.1.laterB b2) (And.intro o2 b2)
  clear HK o2 b2 g1 g2 g3 y0 y2 y3 y4 HG
  go_upto_region 4 with fail
  generalize ((Crc.sum F).toNat : Int) = ms at *
  refine wp_region_held_drew (S := fun W => Blk W g 67 [.int .i64 mid, .int .u32 ms, .slice (some ⟨t, 0, none⟩) N N, .slice (some ⟨d, 0, none⟩) N N, .int .i64 len, .int .i64 ad, .int .u32 0, .int .i32 0, .int .u32 0, .bool false] ∧ Below w2.heap.size w2 W) (by kernel_rfl) (⟨H2.out.1.laterB (Below.refl _ _).drew, (Below.refl _ _).drew⟩) (fun hS => ?_)
  refine any_take (i := 0) (v := ?_) rfl (by kernel_rfl) (by kernel_rfl) (by kernel_rfl) (by exact fun _ _ _ h => h) (by rfl) ?_ hS ?_
  rotate_left
  · ((intro w hSw; have y1 := blk_at hSw.1 1; simp only [List.getElem?_cons_zero, List.getElem?_cons_succ] at y1; clear hSw; go_simp) <;> with_reducible rfl)
  (try simp only [Act.put, List.setIfInBounds_toArray, List.set_cons_zero, List.set_cons_succ])
  refine any_take (i := 2) (v := ?_) rfl (by kernel_rfl) (by kernel_rfl) (by kernel_rfl) (by exact fun _ _ _ h => h) (by rfl) ?_ hS ?_
  rotate_left
  · ((intro w hSw; have y1 := blk_at hSw.1 1; simp only [List.getElem?_cons_zero, List.getElem?_cons_succ] at y1; clear hSw; go_simp) <;> with_reducible rfl)
  (try simp only [Act.put, List.setIfInBounds_toArray, List.set_cons_zero, List.set_cons_succ])
  refine any_take (i := 3) (v := ?_) rfl (by kernel_rfl) (by kernel_rfl) (by kernel_rfl) (by exact fun _ _ _ h => h) (by rfl) ?_ hS ?_
  rotate_left
  · ((intro w hSw; have y1 := blk_at hSw.1 1; simp only [List.getElem?_cons_zero, List.getElem?_cons_succ] at y1; clear hSw; go_simp) <;> with_reducible rfl)
  (try simp only [Act.put, List.setIfInBounds_toArray, List.set_cons_zero, List.set_cons_succ])
  refine any_take (i := 4) (v := ?_) rfl (by kernel_rfl) (by kernel_rfl) (by kernel_rfl) (by exact fun _ _ _ h => h) (by rfl) ?_ hS ?_
  rotate_left
  · ((intro w hSw; have y1 := blk_at hSw.1 1; simp only [List.getElem?_cons_zero, List.getElem?_cons_succ] at y1; clear hSw; go_simp) <;> with_reducible rfl)
  (try simp only [Act.put, List.setIfInBounds_toArray, List.set_cons_zero, List.set_cons_succ])
  refine any_take (i := 5) (v := ?_) rfl (by kernel_rfl) (by kernel_rfl) (by kernel_rfl) (by exact fun _ _ _ h => h) (by rfl) ?_ hS ?_
  rotate_left
  · ((intro w hSw; have y1 := blk_at hSw.1 1; simp only [List.getElem?_cons_zero, List.getElem?_cons_succ] at y1; clear hSw; go_simp) <;> with_reducible rfl)
  (try simp only [Act.put, List.setIfInBounds_toArray, List.set_cons_zero, List.set_cons_succ])
  refine any_one (i := 1) rfl (by kernel_rfl) (fun K hK => ?_)
  go_simp
  refine (Calls.mono (HSu.out _ hS.2)) ?_
  rintro e _ ⟨rfl, rfl⟩
  go_wp2_with fail
  refine hK.out _ _ hS ?_
  clear hK K
  refine any_take (i := 6) (v := ?_) rfl (by kernel_rfl) (by kernel_rfl) (by kernel_rfl) (by exact fun _ _ _ h => h) (by rfl) ?_ hS ?_
  rotate_left
  · ((intro w hSw; have y1 := blk_at hSw.1 1; simp only [List.getElem?_cons_zero, List.getElem?_cons_succ] at y1; clear hSw; go_simp) <;> with_reducible rfl)
  (try simp only [Act.put, List.setIfInBounds_toArray, List.set_cons_zero, List.set_cons_succ])
  refine wpAnyH_done (by kernel_rfl) ?_ _
  have K2 : Hid _ := And.intro (H2.out.2.1.later (Below.refl _ _).drew) (below_then H2.out.2.2 (Below.refl _ _).drew)
  clear H2 hS HSu
  go_wp2
  go_ret2
  exact ⟨_, rfl, K2.out⟩
end Go.Proofs.Ytdagekciipfnoaa

