/- The document's Missing and Whole. -/
import Derived.Test.YtgonglbgejaffaaXCp9
import Derived.Test.YtgonglbgejaffaaXCk21
namespace Go.Proofs.Ytgonglbgejaffaa
open Go.RowKit
set_option linter.unusedVariables false
set_option linter.unusedSimpArgs false
set_option maxRecDepth 4000

set_option maxHeartbeats 4000000 in
theorem rqMissing_any (p : RQl) (m : CR) (w : World) (h : (rqOb p m).Ok w) (hn : m.ps.length ≤ 256) :
    Calls Try.prog 22 #[.pointer (some ⟨p.g, 0, none⟩)] w fun e w' => ∃ v, e = .returned v ∧ NOwn w' v (mis (m.ps.map Option.isSome) m.ps.length) ∧ (∀ k, v.ownBlock = some k → w.heap.size ≤ k) ∧ Below w.heap.size w w' := by
  have hP := h.holds
  have hG := hP.blk
  have e : p.tv m.ps.length = .slice (if m.ps.length = 0 then none else some ⟨p.t, 0, none⟩) m.ps.length m.ps.length := by
    unfold RQl.tv
    split
    · rename_i h0; rw [h0]
    · rfl
  rw [e] at hG
  have hT := hP.there
  rw [show m.ps.map isB = (m.ps.map Option.isSome).map Value.bool by rw [List.map_map]; rfl] at hT
  have hbl : (m.ps.map Option.isSome).length = m.ps.length := List.length_map _
  obtain ⟨N, hN⟩ : ∃ N, N = m.ps.length := ⟨_, rfl⟩
  rw [← hN] at hG hT hbl hn ⊢
  clear hN
  generalize m.ps.map Option.isSome = bs at *
  have HA : Hid (∀ W, Below w.heap.size w W → W.cell? ⟨p.g, 2, none⟩ = some (.slice (if N = 0 then none else some ⟨p.t, 0, none⟩) N N) ∧ ∀ k (h : k < N), (if N = 0 then none else some (⟨p.t, 0, none⟩ : Addr)) = some ⟨p.t, 0, none⟩ ∧ W.cell? ⟨p.t, k, none⟩ = some (.bool bs[k])) := fun W hW => by
    refine ⟨?_, fun k h => ⟨if_neg (by omega), ?_⟩⟩
    · have := blk_at (hG.laterB hW) 2
      simpa using this
    · rw [blk_at ((hT (by omega)).laterB hW) k, List.getElem?_map, List.getElem?_eq_getElem (by omega)]; rfl
  generalize (if N = 0 then none else some (⟨p.t, 0, none⟩ : Addr)) = ta at *
  generalize p.t = t at *
  generalize p.g = g at *
  clear hG hT hP e h
  go_enter Try.func22, Try.ntmps22
  go_wp2_with fail
  go_loopw [3, 4] (fun lv iv wr => ∃ (k : Nat), iv = .int .i64 k ∧ k ≤ N ∧ NuI w wr lv (mis bs k)) (fun _ iv _ => N - (intOf iv).toNat)
  case atStart => exact ⟨0, rfl, by omega, NOwn.nil _, (fun b hb => by cases hb), Below.refl _ _⟩
  case round =>
    obtain ⟨k, rfl, hk, hI⟩ := hrel
    obtain ⟨va, vc, htv, -, -, -⟩ := hI.own.open
    obtain ⟨y2, hy⟩ := HA.out wr hI.below
    by_cases hlt : k < N
    · obtain ⟨hta2, k1⟩ := hy k hlt
      subst hta2
      have q1 : (k : Int) < N := by omega
      have hms := mis_succ bs k
      have hml := mis_len bs k
      rw [List.getElem?_eq_getElem (by omega)] at hms
      clear hy
      generalize bs[k]'(by omega) = x at *
      generalize hKt : mis bs k = Kt at *
      cases x with
      | true =>
        have HR : Hid _ := And.intro hI hms
        clear hI hms hKt
        rw [htv]
        go_wp2
        go_roundw
        case rel =>
          refine ⟨k + 1, by go_num, by omega, ?_⟩
          rw [HR.out.2, if_neg (by simp), List.append_nil, ← htv]
          exact HR.out.1
        case measure => simp [intOf]; omega
      | false =>
        have bn : Below wr.heap.size wr (wr.alloc (.cells #[.int .i64 k] 3)) := (Below.refl _ _).alloc (Nat.le_refl _) _
        have HN : Hid _ := And.intro (hI.later bn) (And.intro (Blk.new' wr 3 [.int .i64 k]) hms)
        have hul : Kt.length ≤ 1000000 := by omega
        clear hI bn hms hKt
        rw [htv]
        go_wp2_with (at_builtin; refine wpList_append_num _ rfl _ _ rfl _ Kt rfl (by rw [← htv]; exact HN.out.1.own) wr.heap.size k rfl HN.out.2.1 hul ?_)
        intro v' w5 ho5 hg5 hor5
        have R := HN.out.1.put ho5 (by rw [htv]; exact hg5) (by rw [htv, World.size_alloc]; exact hor5)
        obtain ⟨a', c', hv', -, -, -⟩ := ho5.open
        have HR : Hid _ := And.intro R HN.out.2.2
        clear R ho5 hg5 hor5 HN
        rw [hv']
        go_wp2
        go_roundw
        case rel =>
          refine ⟨k + 1, by go_num, by omega, ?_⟩
          rw [HR.out.2, if_pos (by trivial), ← hv']
          exact HR.out.1
        case measure => simp [intOf]; omega
    · obtain rfl : k = N := by omega
      have HI : Hid _ := And.intro hI htv
      clear hI HA hy
      rw [htv]
      go_wp2
      go_ret
      refine ⟨_, rfl, ?_, ?_, HI.out.1.below⟩
      · rw [← htv]; exact HI.out.1.own
      · rw [← htv]; exact HI.out.1.new
theorem mis_zero (bs : List Bool) : (mis bs bs.length).length = 0 ↔ bs.any (fun b => !b) = false := by
  rw [mis_count, count_any]
  simp
set_option maxHeartbeats 8000000 in
theorem rqWhole_any (p : RQl) (m : CR) (w : World) (h : (rqOb p m).Ok w) (hw : CRw m) (hz : m.id = 0 → m.ps.length = 0) :
    Calls Try.prog 19 #[.pointer (some ⟨p.g, 0, none⟩)] w (fun e w' => ∃ z, e = .returned (.tuple #[z, .bool (whB m)]) ∧ Own w' w.heap.size z (whL m) ∧ Below w.heap.size w w') := by
  have hP := h.holds
  have hG := hP.blk
  have hll := hw.len
  by_cases hne : m.ps.length = 0
  · have hid : m.id = 0 := by
      by_cases hi : m.id = 0
      · exact hi
      · exact absurd hne (hw.no hi)
    have hB : whB m = false := by unfold whB; rw [hid]; rfl
    have HNo : Hid _ := wh_no hB w w (Below.refl _ _)
    have y3 := blk_at hG 3
    simp only [List.getElem?_cons_zero, List.getElem?_cons_succ] at y3
    unfold RQl.dv at y3
    rw [if_pos hne] at y3
    clear hP hG h hw hz hid hB hne hll
    generalize p.g = g at *
    go_enter Try.func19, Try.ntmps19
    go_wp2_with fail
    go_ret2
    exact HNo.out
  have hid : ¬ m.id = 0 := fun e => hne (hz e)
  have q2 : (m.id == 0) = false := by rw [beq_eq_false_iff_ne]; exact hid
  have hn256 := hw.few
  have NM : Hid _ := rqMissing_any p m w h hw.few
  have hmz := mis_zero (m.ps.map Option.isSome)
  rw [List.length_map] at hmz
  unfold RQl.dv at hG
  rw [if_neg hne] at hG
  have y3 := blk_at hG 3
  simp only [List.getElem?_cons_zero, List.getElem?_cons_succ] at y3
  have hne2 : ¬ ((m.ps.length : Int) = 0) := by omega
  have hne3 : ((m.ps.length : Int) == 0) = false := by rw [beq_eq_false_iff_ne]; exact hne2
  cases hx : miss m with
  | true =>
    have hB : whB m = false := by unfold whB; rw [q2, hx]; simp
    have HNo : Hid (∀ w', Below w.heap.size w w' → _) := fun w' hb => wh_no hB w w' hb
    have hml : 0 < (mis (m.ps.map Option.isSome) m.ps.length).length := by
      rcases Nat.eq_zero_or_pos (mis (m.ps.map Option.isSome) m.ps.length).length with e | e
      · have := hmz.1 e
        unfold miss at hx
        rw [this] at hx
        cases hx
      · exact e
    clear hP hG hw hz hid hB hx hmz q2 hll h
    generalize mis (m.ps.map Option.isSome) m.ps.length = L at *
    generalize m.ps.length = N at *
    generalize p.g = g at *
    generalize p.d = dd at *
    go_enter Try.func19, Try.ntmps19
    go_wp2_with fail
    refine (Calls.mono NM.out) ?_
    rintro e w2 ⟨v, rfl, ho, -, b2⟩
    obtain ⟨va, vc, rfl, -, -, -⟩ := ho.open
    have F : Hid _ := HNo.out w2 b2
    have q5 : (0 : Int) < (L.length : Int) := by omega
    clear NM HNo ho b2
    go_wp2
    go_ret2
    exact F.out
  | false =>
    have hml : (mis (m.ps.map Option.isSome) m.ps.length).length = 0 := hmz.2 hx
    have hw0 : whB m = (!ovB m.ps && decide (m.s = ((Crc.sum (flat m)).toNat : Int))) := by unfold whB; rw [q2, hx]; simp
    have hfl := flat_len m
    have HL : Hid (∀ (k : Nat) (h : k < m.ps.length) W, Below w.heap.size w W → ∃ a c, W.cell? ⟨p.d, k, none⟩ = some (.slice a (m.ps[k].getD []).length c) ∧ Row W a (m.ps[k].getD []) ∧ (a = none → c = 0) ∧ (m.ps[k].getD []).length ≤ c ∧ (m.ps[k].getD []).length ≤ 4096) := fun k hk W hW => by
      obtain ⟨v, hv, ho⟩ := hP.each k m.ps[k] (List.getElem?_eq_getElem hk)
      obtain ⟨a, c, rfl, h1, -, h2, h3, -⟩ := ho.open
      exact ⟨a, c, by rw [blk_at ((hP.data hne).laterB hW) k, hv], h2.later hW, h3, h1, hw.each _ (List.getElem_mem hk)⟩
    have HFT : Hid (∀ k (h : k < m.ps.length), ((m.ps.map (fun o => o.getD [])).take (k + 1)).flatten = ((m.ps.map (fun o => o.getD [])).take k).flatten ++ m.ps[k].getD []) := fun k hk => by
      rw [flat_take _ k (by rw [List.length_map]; exact hk), List.getElem_map]
    have HFL : Hid (∀ k, ((m.ps.map (fun o => o.getD [])).take k).flatten.length ≤ 1048576) := fun k => by
      have h1 := flat_take_le (m.ps.map (fun o => o.getD [])) k
      have h2 : (m.ps.map (fun o => o.getD [])).flatten.length = lenOf m.ps := hfl
      omega
    have HFE : Hid (((m.ps.map (fun o => o.getD [])).take m.ps.length).flatten = flat m) := by
      rw [show m.ps.length = (m.ps.map (fun o => o.getD [])).length by rw [List.length_map], List.take_length]; rfl
    have HW0 : Hid (whB m = (!ovB m.ps && decide (m.s = ((Crc.sum (flat m)).toNat : Int))) ∧ (whL m = if whB m = true then flat m else []) ∧ (flat m).length = lenOf m.ps) := ⟨hw0, rfl, hfl⟩
    have HGL : Hid (∀ W, Below w.heap.size w W → Blk W p.g 41 [.int .i64 m.id, .int .u32 m.s, p.tv m.ps.length, .slice (some ⟨p.d, 0, none⟩) m.ps.length m.ps.length, .int .i64 m.ad, .bool p.cl]) := fun W hW => hG.laterB hW
    clear hP hG hw hz hid hx hmz q2 h hw0 hfl
    have NM2 : Hid (Calls Try.prog 22 #[.pointer (some ⟨p.g, 0, none⟩)] w fun e w' => ∃ va vc, e = .returned (.slice va 0 vc) ∧ Below w.heap.size w w') := Calls.mono NM.out (by
      rintro e w' ⟨v, rfl, ho, -, b2⟩
      obtain ⟨va, vc, rfl, -, -, -⟩ := ho.open
      exact ⟨va, vc, by rw [hml], b2⟩)
    clear NM hml
    generalize whL m = WL at *
    generalize whB m = WB at *
    go_enter Try.func19, Try.ntmps19
    go_wp2_with fail
    refine (Calls.mono NM2.out) ?_
    rintro e w2 ⟨va, vc, rfl, b2⟩
    have B2 : Hid _ := b2
    clear NM2 b2 y3
    go_wp2_with fail
    obtain ⟨N, hN⟩ : ∃ N, N = m.ps.length := ⟨_, rfl⟩
    have HN : Hid _ := hN
    clear hN
    go_loopw [4, 5] (fun ov i wr => ∃ k : Nat, k ≤ m.ps.length ∧ i = .int .i64 k ∧ Own wr w.heap.size ov ((m.ps.map (fun o => o.getD [])).take k).flatten ∧ Below w.heap.size w wr) (fun _ i _ => m.ps.length - (intOf i).toNat)
    case atStart => exact ⟨0, by omega, rfl, Own.nil _ _, B2.out⟩
    case round =>
      clear B2
      obtain ⟨k, hk, rfl, ho, hb⟩ := hrel
      have hGb := HGL.out wr hb
      have y3 := blk_at hGb 3
      simp only [List.getElem?_cons_zero, List.getElem?_cons_succ] at y3
      clear hGb
      by_cases hlt : k < m.ps.length
      · obtain ⟨a, c, c1, hr, hnil, g2, g4⟩ := HL.out k hlt wr hb
        have hft := HFT.out k hlt
        have hfl := HFL.out k
        have hbs := hb.size
        have q1 : (k : Int) < (m.ps.length : Int) := by omega
        obtain ⟨za, zc, hz, -, -, -, -, -⟩ := ho.open
        subst hz
        have HO : Hid _ := And.intro ho (And.intro hb hft)
        generalize m.ps[k].getD [] = lk at *
        generalize ((m.ps.map (fun o => o.getD [])).take k).flatten = acc at *
        have HR : Hid _ := And.intro hr hnil
        clear ho hb hft hr hnil
        go_wp2_with (at_builtin; refine wpList_append_bytes _ rfl _ _ rfl w.heap.size _ acc rfl HO.out.1 a lk.length c lk rfl rfl HR.out.1 HR.out.2 g2 (by omega) hbs ?_)
        intro v' w5 ho5 hg5
        have hlo := World.ownsRow.lt HO.out.1
        have hb5 := HO.out.2.1.grown hg5 HO.out.2.1.size (fun k' hk' => (hlo k' hk').1)
        obtain ⟨za2, zc2, hz2, -, -, -, -, -⟩ := ho5.open
        subst hz2
        have F : Hid _ := And.intro ho5 (And.intro hb5 HO.out.2.2)
        clear hlo hb5 ho5 hg5 HO HR y3 c1
        go_wp2
        go_roundw
        case rel =>
          exact ⟨k + 1, by omega, by go_num, by rw [F.out.2.2]; exact F.out.1, F.out.2.1⟩
        case measure => simp [intOf]; omega
      · obtain rfl : k = m.ps.length := by omega
        have q1 : ¬ ((m.ps.length : Int) < (m.ps.length : Int)) := by omega
        rw [HFE.out] at ho
        have H2 : Hid _ := And.intro (HGL.out wr hb) (And.intro ho hb)
        obtain ⟨za, zc, hz, g1, -, g3, -, -⟩ := ho.open
        subst hz
        have HFl : Hid _ := HW0.out.2.2
        have hfl2 : (flat m).length ≤ 1048576 := by have := HW0.out.2.2; omega
        have HSu : Hid (∀ W, Below wr.heap.size wr W → Calls Try.prog 32 #[.slice za (flat m).length zc] W fun e w' => e = .returned (.int .u32 ((Crc.sum (flat m)).toNat : Int)) ∧ W = w') := fun W hW => rsum_any za (flat m).length zc (flat m) W rfl (by unfold maxLen; omega) (g3.later hW)
        clear ho hb g3 HL HFT HFL HFE HGL
        have HOV : Hid (ovB m.ps = decide (65536 < (flat m).length)) := (show ovB m.ps = decide (65536 < (flat m).length) by rw [HFl.out]; rfl)
        generalize ovB m.ps = OV at *
        generalize p.tv m.ps.length = TV at *
        generalize p.d = d at *
        generalize p.g = g at *
        generalize Value.bool p.cl = CL at *
        generalize m.ad = ad at *
        generalize m.id = mid at *
        generalize m.s = ms at *
        clear HFl
        have HW1 : Hid (WB = (!OV && decide (ms = ((Crc.sum (flat m)).toNat : Int))) ∧ WL = if WB = true then flat m else []) := ⟨HW0.out.1, HW0.out.2.1⟩
        clear HW0
        generalize flat m = F at *
        generalize m.ps.length = N at *
        go_upto_region 8 with fail
        generalize hSF : ((Crc.sum F).toNat : Int) = sf at *
        by_cases hov : 65536 < F.length
        · have j1 : (65536 : Int) < (F.length : Int) := by omega
          refine wp_region_held_drew (S := fun W => Blk W g 41 [.int .i64 mid, .int .u32 ms, TV, .slice (some ⟨d, 0, none⟩) N N, .int .i64 ad, CL] ∧ Below wr.heap.size wr W) (by kernel_rfl) (⟨H2.out.1.laterB (Below.refl _ _).drew, (Below.refl _ _).drew⟩) (fun hS => ?_)
          refine any_take (i := 0) (v := ?_) rfl (by kernel_rfl) (by kernel_rfl) (by kernel_rfl) (by exact fun _ _ _ h => h) (by rfl) ?_ hS ?_
          rotate_left
          · ((intro w hSw; have y1 := blk_at hSw.1 1; simp only [List.getElem?_cons_zero, List.getElem?_cons_succ] at y1; clear hSw; go_simp) <;> with_reducible rfl)
          (try simp only [Act.put, List.setIfInBounds_toArray, List.set_cons_zero, List.set_cons_succ])
          refine any_take (i := 1) (v := ?_) rfl (by kernel_rfl) (by kernel_rfl) (by kernel_rfl) (by exact fun _ _ _ h => h) (by rfl) ?_ hS ?_
          rotate_left
          · ((intro w hSw; have y1 := blk_at hSw.1 1; simp only [List.getElem?_cons_zero, List.getElem?_cons_succ] at y1; clear hSw; go_simp) <;> with_reducible rfl)
          (try simp only [Act.put, List.setIfInBounds_toArray, List.set_cons_zero, List.set_cons_succ])
          refine any_take (i := 2) (v := ?_) rfl (by kernel_rfl) (by kernel_rfl) (by kernel_rfl) (by exact fun _ _ _ h => h) (by rfl) ?_ hS ?_
          rotate_left
          · ((intro w hSw; have y1 := blk_at hSw.1 1; simp only [List.getElem?_cons_zero, List.getElem?_cons_succ] at y1; clear hSw; go_simp) <;> with_reducible rfl)
          (try simp only [Act.put, List.setIfInBounds_toArray, List.set_cons_zero, List.set_cons_succ])
          refine any_take (i := 3) (v := ?_) rfl (by kernel_rfl) (by kernel_rfl) (by kernel_rfl) (by exact fun _ _ _ h => h) (by rfl) ?_ hS ?_
          rotate_left
          · ((intro w hSw; have y1 := blk_at hSw.1 1; simp only [List.getElem?_cons_zero, List.getElem?_cons_succ] at y1; clear hSw; go_simp) <;> with_reducible rfl)
          (try simp only [Act.put, List.setIfInBounds_toArray, List.set_cons_zero, List.set_cons_succ])
          refine any_skip (i := 4) rfl (by kernel_rfl) (by kernel_rfl) (by kernel_rfl) (by exact fun _ _ _ h => h) (by rfl) hS ?_
          (try simp only [Act.put, List.setIfInBounds_toArray, List.set_cons_zero, List.set_cons_succ])
          refine any_skip (i := 5) rfl (by kernel_rfl) (by kernel_rfl) (by kernel_rfl) (by exact fun _ _ _ h => h) (by rfl) hS ?_
          (try simp only [Act.put, List.setIfInBounds_toArray, List.set_cons_zero, List.set_cons_succ])
          refine any_skip (i := 6) rfl (by kernel_rfl) (by kernel_rfl) (by kernel_rfl) (by exact fun _ _ _ h => h) (by rfl) hS ?_
          (try simp only [Act.put, List.setIfInBounds_toArray, List.set_cons_zero, List.set_cons_succ])
          refine any_skip (i := 7) rfl (by kernel_rfl) (by kernel_rfl) (by kernel_rfl) (by exact fun _ _ _ h => h) (by rfl) hS ?_
          (try simp only [Act.put, List.setIfInBounds_toArray, List.set_cons_zero, List.set_cons_succ])
          refine any_skip (i := 8) rfl (by kernel_rfl) (by kernel_rfl) (by kernel_rfl) (by exact fun _ _ _ h => h) (by rfl) hS ?_
          (try simp only [Act.put, List.setIfInBounds_toArray, List.set_cons_zero, List.set_cons_succ])
          refine any_skip (i := 9) rfl (by kernel_rfl) (by kernel_rfl) (by kernel_rfl) (by exact fun _ _ _ h => h) (by rfl) hS ?_
          (try simp only [Act.put, List.setIfInBounds_toArray, List.set_cons_zero, List.set_cons_succ])
          refine any_skip (i := 10) rfl (by kernel_rfl) (by kernel_rfl) (by kernel_rfl) (by exact fun _ _ _ h => h) (by rfl) hS ?_
          (try simp only [Act.put, List.setIfInBounds_toArray, List.set_cons_zero, List.set_cons_succ])
          refine any_take (i := 11) (v := ?_) rfl (by kernel_rfl) (by kernel_rfl) (by kernel_rfl) (by exact fun _ _ _ h => h) (by rfl) ?_ hS ?_
          rotate_left
          · ((intro w hSw; have y1 := blk_at hSw.1 1; simp only [List.getElem?_cons_zero, List.getElem?_cons_succ] at y1; clear hSw; go_simp) <;> with_reducible rfl)
          (try simp only [Act.put, List.setIfInBounds_toArray, List.set_cons_zero, List.set_cons_succ])
          refine wpAnyH_done (by kernel_rfl) ?_ _
          have K2 : Hid _ := below_then H2.out.2.2 (Below.refl _ _).drew
          clear H2 hS HSu
          go_wp2
          go_ret2
          have e0 : OV = true := by rw [HOV.out]; exact decide_eq_true hov
          have e1 : WB = false := by rw [HW1.out.1, e0]; rfl
          have e2 : WL = [] := by rw [HW1.out.2, e1, if_neg (by decide)]
          subst e1
          subst e2
          exact ⟨_, rfl, Own.nil _ _, K2.out⟩
        · have j1 : ¬ ((65536 : Int) < (F.length : Int)) := by omega
          have e0 : Hid (OV = false) := (show OV = false by rw [HOV.out]; exact decide_eq_false hov)
          by_cases hs : sf = ms
          · have hs' := hs.symm
            clear hs
            subst hs'
            refine wp_region_held_drew (S := fun W => Blk W g 41 [.int .i64 mid, .int .u32 ms, TV, .slice (some ⟨d, 0, none⟩) N N, .int .i64 ad, CL] ∧ Below wr.heap.size wr W) (by kernel_rfl) (⟨H2.out.1.laterB (Below.refl _ _).drew, (Below.refl _ _).drew⟩) (fun hS => ?_)
            refine any_take (i := 0) (v := ?_) rfl (by kernel_rfl) (by kernel_rfl) (by kernel_rfl) (by exact fun _ _ _ h => h) (by rfl) ?_ hS ?_
            rotate_left
            · ((intro w hSw; have y1 := blk_at hSw.1 1; simp only [List.getElem?_cons_zero, List.getElem?_cons_succ] at y1; clear hSw; go_simp) <;> with_reducible rfl)
            (try simp only [Act.put, List.setIfInBounds_toArray, List.set_cons_zero, List.set_cons_succ])
            refine any_take (i := 1) (v := ?_) rfl (by kernel_rfl) (by kernel_rfl) (by kernel_rfl) (by exact fun _ _ _ h => h) (by rfl) ?_ hS ?_
            rotate_left
            · ((intro w hSw; have y1 := blk_at hSw.1 1; simp only [List.getElem?_cons_zero, List.getElem?_cons_succ] at y1; clear hSw; go_simp) <;> with_reducible rfl)
            (try simp only [Act.put, List.setIfInBounds_toArray, List.set_cons_zero, List.set_cons_succ])
            refine any_take (i := 2) (v := ?_) rfl (by kernel_rfl) (by kernel_rfl) (by kernel_rfl) (by exact fun _ _ _ h => h) (by rfl) ?_ hS ?_
            rotate_left
            · ((intro w hSw; have y1 := blk_at hSw.1 1; simp only [List.getElem?_cons_zero, List.getElem?_cons_succ] at y1; clear hSw; go_simp) <;> with_reducible rfl)
            (try simp only [Act.put, List.setIfInBounds_toArray, List.set_cons_zero, List.set_cons_succ])
            refine any_take (i := 3) (v := ?_) rfl (by kernel_rfl) (by kernel_rfl) (by kernel_rfl) (by exact fun _ _ _ h => h) (by rfl) ?_ hS ?_
            rotate_left
            · ((intro w hSw; have y1 := blk_at hSw.1 1; simp only [List.getElem?_cons_zero, List.getElem?_cons_succ] at y1; clear hSw; go_simp) <;> with_reducible rfl)
            (try simp only [Act.put, List.setIfInBounds_toArray, List.set_cons_zero, List.set_cons_succ])
            refine any_take (i := 4) (v := ?_) rfl (by kernel_rfl) (by kernel_rfl) (by kernel_rfl) (by exact fun _ _ _ h => h) (by rfl) ?_ hS ?_
            rotate_left
            · ((intro w hSw; have y1 := blk_at hSw.1 1; simp only [List.getElem?_cons_zero, List.getElem?_cons_succ] at y1; clear hSw; go_simp) <;> with_reducible rfl)
            (try simp only [Act.put, List.setIfInBounds_toArray, List.set_cons_zero, List.set_cons_succ])
            refine any_take (i := 6) (v := ?_) rfl (by kernel_rfl) (by kernel_rfl) (by kernel_rfl) (by exact fun _ _ _ h => h) (by rfl) ?_ hS ?_
            rotate_left
            · ((intro w hSw; have y1 := blk_at hSw.1 1; simp only [List.getElem?_cons_zero, List.getElem?_cons_succ] at y1; clear hSw; go_simp) <;> with_reducible rfl)
            (try simp only [Act.put, List.setIfInBounds_toArray, List.set_cons_zero, List.set_cons_succ])
            refine any_take (i := 7) (v := ?_) rfl (by kernel_rfl) (by kernel_rfl) (by kernel_rfl) (by exact fun _ _ _ h => h) (by rfl) ?_ hS ?_
            rotate_left
            · ((intro w hSw; have y1 := blk_at hSw.1 1; simp only [List.getElem?_cons_zero, List.getElem?_cons_succ] at y1; clear hSw; go_simp) <;> with_reducible rfl)
            (try simp only [Act.put, List.setIfInBounds_toArray, List.set_cons_zero, List.set_cons_succ])
            refine any_take (i := 8) (v := ?_) rfl (by kernel_rfl) (by kernel_rfl) (by kernel_rfl) (by exact fun _ _ _ h => h) (by rfl) ?_ hS ?_
            rotate_left
            · ((intro w hSw; have y1 := blk_at hSw.1 1; simp only [List.getElem?_cons_zero, List.getElem?_cons_succ] at y1; clear hSw; go_simp) <;> with_reducible rfl)
            (try simp only [Act.put, List.setIfInBounds_toArray, List.set_cons_zero, List.set_cons_succ])
            refine any_take (i := 9) (v := ?_) rfl (by kernel_rfl) (by kernel_rfl) (by kernel_rfl) (by exact fun _ _ _ h => h) (by rfl) ?_ hS ?_
            rotate_left
            · ((intro w hSw; have y1 := blk_at hSw.1 1; simp only [List.getElem?_cons_zero, List.getElem?_cons_succ] at y1; clear hSw; go_simp) <;> with_reducible rfl)
            (try simp only [Act.put, List.setIfInBounds_toArray, List.set_cons_zero, List.set_cons_succ])
            refine any_one (i := 5) rfl (by kernel_rfl) (fun K hK => ?_)
            go_simp
            refine (Calls.mono (HSu.out _ hS.2)) ?_
            rintro e _ ⟨rfl, rfl⟩
            go_wp2_with fail
            refine hK.out _ _ hS ?_
            clear hK K
            refine any_take (i := 10) (v := ?_) rfl (by kernel_rfl) (by kernel_rfl) (by kernel_rfl) (by exact fun _ _ _ h => h) (by rfl) ?_ hS ?_
            rotate_left
            · ((intro w hSw; have y1 := blk_at hSw.1 1; simp only [List.getElem?_cons_zero, List.getElem?_cons_succ] at y1; clear hSw; go_simp) <;> with_reducible rfl)
            (try simp only [Act.put, List.setIfInBounds_toArray, List.set_cons_zero, List.set_cons_succ])
            refine any_take (i := 11) (v := ?_) rfl (by kernel_rfl) (by kernel_rfl) (by kernel_rfl) (by exact fun _ _ _ h => h) (by rfl) ?_ hS ?_
            rotate_left
            · ((intro w hSw; have y1 := blk_at hSw.1 1; simp only [List.getElem?_cons_zero, List.getElem?_cons_succ] at y1; clear hSw; go_simp) <;> with_reducible rfl)
            (try simp only [Act.put, List.setIfInBounds_toArray, List.set_cons_zero, List.set_cons_succ])
            refine wpAnyH_done (by kernel_rfl) ?_ _
            have K2 : Hid _ := And.intro (H2.out.2.1.later (Below.refl _ _).drew) (below_then H2.out.2.2 (Below.refl _ _).drew)
            clear H2 hS HSu
            go_wp2
            go_ret2
            have e1 : WB = true := by rw [HW1.out.1, e0.out]; simp
            have e2 : WL = F := by rw [HW1.out.2, e1, if_pos rfl]
            subst e1
            subst e2
            exact ⟨_, rfl, K2.out⟩
          · have hs2 : (sf == ms) = false := by rw [beq_eq_false_iff_ne]; exact hs
            refine wp_region_held_drew (S := fun W => Blk W g 41 [.int .i64 mid, .int .u32 ms, TV, .slice (some ⟨d, 0, none⟩) N N, .int .i64 ad, CL] ∧ Below wr.heap.size wr W) (by kernel_rfl) (⟨H2.out.1.laterB (Below.refl _ _).drew, (Below.refl _ _).drew⟩) (fun hS => ?_)
            refine any_take (i := 0) (v := ?_) rfl (by kernel_rfl) (by kernel_rfl) (by kernel_rfl) (by exact fun _ _ _ h => h) (by rfl) ?_ hS ?_
            rotate_left
            · ((intro w hSw; have y1 := blk_at hSw.1 1; simp only [List.getElem?_cons_zero, List.getElem?_cons_succ] at y1; clear hSw; go_simp) <;> with_reducible rfl)
            (try simp only [Act.put, List.setIfInBounds_toArray, List.set_cons_zero, List.set_cons_succ])
            refine any_take (i := 1) (v := ?_) rfl (by kernel_rfl) (by kernel_rfl) (by kernel_rfl) (by exact fun _ _ _ h => h) (by rfl) ?_ hS ?_
            rotate_left
            · ((intro w hSw; have y1 := blk_at hSw.1 1; simp only [List.getElem?_cons_zero, List.getElem?_cons_succ] at y1; clear hSw; go_simp) <;> with_reducible rfl)
            (try simp only [Act.put, List.setIfInBounds_toArray, List.set_cons_zero, List.set_cons_succ])
            refine any_take (i := 2) (v := ?_) rfl (by kernel_rfl) (by kernel_rfl) (by kernel_rfl) (by exact fun _ _ _ h => h) (by rfl) ?_ hS ?_
            rotate_left
            · ((intro w hSw; have y1 := blk_at hSw.1 1; simp only [List.getElem?_cons_zero, List.getElem?_cons_succ] at y1; clear hSw; go_simp) <;> with_reducible rfl)
            (try simp only [Act.put, List.setIfInBounds_toArray, List.set_cons_zero, List.set_cons_succ])
            refine any_take (i := 3) (v := ?_) rfl (by kernel_rfl) (by kernel_rfl) (by kernel_rfl) (by exact fun _ _ _ h => h) (by rfl) ?_ hS ?_
            rotate_left
            · ((intro w hSw; have y1 := blk_at hSw.1 1; simp only [List.getElem?_cons_zero, List.getElem?_cons_succ] at y1; clear hSw; go_simp) <;> with_reducible rfl)
            (try simp only [Act.put, List.setIfInBounds_toArray, List.set_cons_zero, List.set_cons_succ])
            refine any_take (i := 4) (v := ?_) rfl (by kernel_rfl) (by kernel_rfl) (by kernel_rfl) (by exact fun _ _ _ h => h) (by rfl) ?_ hS ?_
            rotate_left
            · ((intro w hSw; have y1 := blk_at hSw.1 1; simp only [List.getElem?_cons_zero, List.getElem?_cons_succ] at y1; clear hSw; go_simp) <;> with_reducible rfl)
            (try simp only [Act.put, List.setIfInBounds_toArray, List.set_cons_zero, List.set_cons_succ])
            refine any_take (i := 6) (v := ?_) rfl (by kernel_rfl) (by kernel_rfl) (by kernel_rfl) (by exact fun _ _ _ h => h) (by rfl) ?_ hS ?_
            rotate_left
            · ((intro w hSw; have y1 := blk_at hSw.1 1; simp only [List.getElem?_cons_zero, List.getElem?_cons_succ] at y1; clear hSw; go_simp) <;> with_reducible rfl)
            (try simp only [Act.put, List.setIfInBounds_toArray, List.set_cons_zero, List.set_cons_succ])
            refine any_take (i := 7) (v := ?_) rfl (by kernel_rfl) (by kernel_rfl) (by kernel_rfl) (by exact fun _ _ _ h => h) (by rfl) ?_ hS ?_
            rotate_left
            · ((intro w hSw; have y1 := blk_at hSw.1 1; simp only [List.getElem?_cons_zero, List.getElem?_cons_succ] at y1; clear hSw; go_simp) <;> with_reducible rfl)
            (try simp only [Act.put, List.setIfInBounds_toArray, List.set_cons_zero, List.set_cons_succ])
            refine any_take (i := 8) (v := ?_) rfl (by kernel_rfl) (by kernel_rfl) (by kernel_rfl) (by exact fun _ _ _ h => h) (by rfl) ?_ hS ?_
            rotate_left
            · ((intro w hSw; have y1 := blk_at hSw.1 1; simp only [List.getElem?_cons_zero, List.getElem?_cons_succ] at y1; clear hSw; go_simp) <;> with_reducible rfl)
            (try simp only [Act.put, List.setIfInBounds_toArray, List.set_cons_zero, List.set_cons_succ])
            refine any_take (i := 9) (v := ?_) rfl (by kernel_rfl) (by kernel_rfl) (by kernel_rfl) (by exact fun _ _ _ h => h) (by rfl) ?_ hS ?_
            rotate_left
            · ((intro w hSw; have y1 := blk_at hSw.1 1; simp only [List.getElem?_cons_zero, List.getElem?_cons_succ] at y1; clear hSw; go_simp) <;> with_reducible rfl)
            (try simp only [Act.put, List.setIfInBounds_toArray, List.set_cons_zero, List.set_cons_succ])
            refine any_one (i := 5) rfl (by kernel_rfl) (fun K hK => ?_)
            go_simp
            refine (Calls.mono (HSu.out _ hS.2)) ?_
            rintro e _ ⟨rfl, rfl⟩
            go_wp2_with fail
            refine hK.out _ _ hS ?_
            clear hK K
            refine any_take (i := 10) (v := ?_) rfl (by kernel_rfl) (by kernel_rfl) (by kernel_rfl) (by exact fun _ _ _ h => h) (by rfl) ?_ hS ?_
            rotate_left
            · ((intro w hSw; have y1 := blk_at hSw.1 1; simp only [List.getElem?_cons_zero, List.getElem?_cons_succ] at y1; clear hSw; go_simp) <;> with_reducible rfl)
            (try simp only [Act.put, List.setIfInBounds_toArray, List.set_cons_zero, List.set_cons_succ])
            refine any_take (i := 11) (v := ?_) rfl (by kernel_rfl) (by kernel_rfl) (by kernel_rfl) (by exact fun _ _ _ h => h) (by rfl) ?_ hS ?_
            rotate_left
            · ((intro w hSw; have y1 := blk_at hSw.1 1; simp only [List.getElem?_cons_zero, List.getElem?_cons_succ] at y1; clear hSw; go_simp) <;> with_reducible rfl)
            (try simp only [Act.put, List.setIfInBounds_toArray, List.set_cons_zero, List.set_cons_succ])
            refine wpAnyH_done (by kernel_rfl) ?_ _
            have K2 : Hid _ := below_then H2.out.2.2 (Below.refl _ _).drew
            clear H2 hS HSu
            go_wp2
            go_ret2
            have e1 : WB = false := by rw [HW1.out.1, e0.out]; simp; exact fun e => hs e.symm
            have e2 : WL = [] := by rw [HW1.out.2, e1, if_neg (by decide)]
            subst e1
            subst e2
            exact ⟨_, rfl, Own.nil _ _, K2.out⟩
end Go.Proofs.Ytgonglbgejaffaa

