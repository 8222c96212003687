/- A nexus that leaves. -/
import Derived.Test.YtjokohjdpickoaaXRv8
namespace Go.Proofs.Ytjokohjdpickoaa
open Go.RowKit Go.Shelf
set_option linter.unusedVariables false
set_option linter.unusedSimpArgs false
set_option maxRecDepth 4000

/-- a state on its way: all else that was there lies as it lay -/
structure RT (w W : World) (g : Nat) (m : Rs) : Prop where
  ok : (rv g m).Ok W
  tn : Turned (fun k => k = g) w W
theorem RT.start {w : World} {g : Nat} {m : Rs} (h : (rv g m).Ok w) : RT w w g m := ⟨h, ⟨rfl, rfl, rfl, Nat.le_refl _, fun _ _ _ => rfl⟩⟩
theorem RT.later {w W W' : World} {g : Nat} {m : Rs} (h : RT w W g m) (hb : Below W.heap.size W W') : RT w W' g m := ⟨h.ok.later hb, h.tn.trans (tndr hb)⟩
theorem RT.step {w W W' : World} {g : Nat} {m m' : Rs} (h : RT w W g m) (s : Step W W' (rv g m) (rv g m')) : RT w W' g m' := ⟨s.ok, h.tn.trans (s.turned.mono (fun k e => .inl (by simpa [rv] using e)))⟩
theorem RT.gen {w W : World} {g : Nat} {m : Rs} (h : RT w W g m) (x : Int) (hx : x = (m.gen + 1) % 4294967296) : RT w (W.setCell ⟨g, 0, none⟩ (.int .u32 x)) g (bump m) := by
  have B := h.ok.holds.1.set 0 (.int .u32 x)
  subst hx
  exact ⟨rv_ok B (bump_wf h.ok.holds.2), h.tn.trans ((turned_set W g 0 _).mono (fun k e => .inl e))⟩
theorem RT.codes {w W W' : World} {g d : Nat} {m : Rs} (h : RT w W g m) (t : Turned (fun k => k = d) W W') (hd : w.heap.size ≤ d) (hg : g < w.heap.size) : RT w W' g m := by
  refine ⟨?_, h.tn.trans (t.mono (fun k e => .inr (by subst e; exact hd)))⟩
  exact rv_ok (h.ok.holds.1.turned t (by show ¬ g = d; omega)) h.ok.holds.2
theorem RT.fin {w W : World} {g : Nat} {m m' : Rs} (h : RT w W g m') : Step w W (rv g m) (rv g m') := rv_step h.tn h.ok.holds.1 h.ok.holds.2
/-- notes that a call has made -/
structure Nts (w W : World) (v : Value) (l : List (Int × Int)) : Prop where
  own : NtOwn W v l
  new : ∀ b, v.ownBlock = some b → w.heap.size ≤ b
theorem Nts.nil (w W : World) : Nts w W (.slice none 0 0) [] := ⟨PrOwn.nil _ _, fun b hb => by cases hb⟩
theorem Nts.later {w W W' : World} {v : Value} {l : List (Int × Int)} (h : Nts w W v l) (hb : Below W.heap.size W W') : Nts w W' v l := ⟨h.own.later hb, h.new⟩
def lvN (m : Rs) (i : Nat) : List Int := if m.k = 5 ∨ m.k = 6 then tellF (i : Int) 4 z16 (regsL (away m i).ks 16) else z16
/-- a nexus that leaves: the state, the notes -/
def leaveM (m : Rs) (i : Nat) : Rs × List (Int × Int) :=
  if rg m i = true then (if (hoB m i && !eaB m.k || !anyB (bump (away m i))) = true then (hold (bump (away m i)) 0 0, ntL (lvN m i) 16) else (bump (away m i), [])) else (m, [])
theorem ntL_z : ntL z16 16 = [] := by decide
set_option maxHeartbeats 8000000 in
theorem leave_any (g : Nat) (m : Rs) (i : Nat) (w : World) (h : (rv g m).Ok w) (hi : i < 16) :
    Calls Try.prog 57 #[.pointer (some ⟨g, 0, none⟩), .int .i64 i] w fun e w' => ∃ v, e = .returned v ∧ Nts w w' v (leaveM m i).2 ∧ RT w w' g (leaveM m i).1 := by
  have HR : Hid _ := isReg_any g m i w h hi
  have HH : Hid _ := holds_any g m i w h hi
  have HE : Hid _ := isEach_any m.k w
  have HT : Hid _ := takeKey_any g m i w h hi
  have H0 : Hid _ := And.intro h hi
  have y2 := blk_at h.holds.1 2
  simp only [rsC, List.getElem?_cons_zero, List.getElem?_cons_succ] at y2
  clear h
  cases hr : rg m i with
  | false =>
    have HM : Hid (leaveM m i = (m, [])) := by unfold leaveM; rw [hr]; rfl
    rw [hr] at HR
    clear hr
    go_enter Try.func57, Try.ntmps57
    go_wp2_with fail
    refine (Calls.mono HR.out) ?_
    rintro e _ ⟨rfl, rfl⟩
    go_wp2
    go_ret
    exact ⟨_, rfl, by rw [HM.out]; exact Nts.nil _ _, by rw [HM.out]; exact RT.start H0.out.1⟩
  | true =>
    have HM : Hid (leaveM m i = if (hoB m i && !eaB m.k || !anyB (bump (away m i))) = true then (hold (bump (away m i)) 0 0, ntL (lvN m i) 16) else (bump (away m i), [])) := by unfold leaveM; rw [hr]; rfl
    rw [hr] at HR
    clear hr
    go_enter Try.func57, Try.ntmps57
    go_wp2_with fail
    refine (Calls.mono HR.out) ?_
    rintro e _ ⟨rfl, rfl⟩
    clear HR
    go_upto_region 3 with fail
    go_cut [5] from 11 to 56 (fun hv wx => hv = .bool (hoB m i && !eaB m.k) ∧ wx = w)
    case first =>
      cases hb : hoB m i with
      | false =>
        rw [hb] at HH
        go_wp2_with fail
        refine (Calls.mono HH.out) ?_
        rintro e _ ⟨rfl, rfl⟩
        go_wp2
        go_meet
        exact ⟨by rw [hb]; rfl, rfl⟩
      | true =>
        rw [hb] at HH
        go_wp2_with fail
        refine (Calls.mono HH.out) ?_
        rintro e _ ⟨rfl, rfl⟩
        go_wp2_with fail
        refine (Calls.mono HE.out) ?_
        rintro e _ ⟨rfl, rfl⟩
        go_wp2
        go_meet
        exact ⟨by rw [hb]; rfl, rfl⟩
    case rest =>
    obtain ⟨rfl, hwc⟩ := hcut
    obtain rfl := hwc.symm
    clear hwc HH HE y2
    generalize hheld : (hoB m i && !eaB m.k) = held at *
    have Hheld : Hid _ := hheld
    clear hheld
    go_wp2_with fail
    refine (Calls.mono HT.out) ?_
    rintro e w1 ⟨rfl, st⟩
    have r1 := (RT.start H0.out.1).step st
    have hgl := H0.out.1.holds.1.lt
    have y0 := blk_at r1.ok.holds.1 0
    have f0 := blk_frozen r1.ok.holds.1 0
    simp only [rsC, List.getElem?_cons_zero, List.getElem?_cons_succ] at y0
    have hgg := r1.ok.holds.2.gg
    have r2 := r1.gen (((away m i).gen + 1) % 4294967296) rfl
    have H2 : Hid _ := And.intro r2 (And.intro hgl H0.out.2)
    have hz1 : (w1.setCell ⟨g, 0, none⟩ (.int .u32 (((away m i).gen + 1) % 4294967296))).heap.size = w1.heap.size := by simp [World.setCell]
    have b3 := (Below.refl (w1.setCell ⟨g, 0, none⟩ (.int .u32 (((away m i).gen + 1) % 4294967296))).heap.size (w1.setCell ⟨g, 0, none⟩ (.int .u32 (((away m i).gen + 1) % 4294967296)))).alloc (Nat.le_refl _) (.cells (ivs .i64 z16).toArray 84)
    have Bd := Blk.new' (w1.setCell ⟨g, 0, none⟩ (.int .u32 (((away m i).gen + 1) % 4294967296))) 84 (ivs .i64 z16)
    rw [hz1] at Bd
    have r3 := r2.later b3
    have hd : w.heap.size ≤ w1.heap.size := (show Turned (fun k => k = g) w w1 from r1.tn).size
    have H3 : Hid _ := And.intro r3 (And.intro Bd (And.intro hd (And.intro hgl H0.out.2)))
    clear HT st r1 r2 H0 hz1 b3 Bd r3 H2
    simp only [ivs, z16, List.map_cons, List.map_nil] at H3
    have hk2 : (away m i).k = m.k := rfl
    generalize (away m i).gen = gn at *
    go_upto_region 7 with fail
    clear y0 f0
    generalize (w1.setCell ⟨g, 0, none⟩ (.int .u32 ((gn + 1) % 4294967296))).alloc (.cells #[.int .i64 0, .int .i64 0, .int .i64 0, .int .i64 0, .int .i64 0, .int .i64 0, .int .i64 0, .int .i64 0, .int .i64 0, .int .i64 0, .int .i64 0, .int .i64 0, .int .i64 0, .int .i64 0, .int .i64 0, .int .i64 0] 84) = w3 at *
    have hd3 : Hid _ := H3.out.2.2.1
    generalize w1.heap.size = d at *
    have hk3 : (bump (away m i)).k = m.k := rfl
    have HA : Hid _ := anyReg_any g (bump (away m i)) w3 H3.out.1.ok
    go_cut [37] from 32 to 56 (fun cv wx => cv = .bool (held || !anyB (bump (away m i))) ∧ wx = w3)
    case first =>
      cases held with
      | true =>
        go_wp2
        go_meet
        exact ⟨rfl, rfl⟩
      | false =>
        go_wp2_with fail
        refine (Calls.mono HA.out) ?_
        rintro e _ ⟨rfl, rfl⟩
        go_wp2
        go_meet
        exact ⟨rfl, rfl⟩
    case rest =>
    obtain ⟨rfl, hwc⟩ := hcut
    obtain rfl := hwc.symm
    clear hwc HA
    generalize hc : (held || !anyB (bump (away m i))) = cnd at *
    have hlz : ∀ l : List Int, l = tellF (i : Int) 4 z16 (regsL (away m i).ks 16) → l.length = 16 := fun l e => by rw [e, tellF_len]; rfl
    go_upto_if 37 with fail
    go_cut [6] from 38 to 56 (fun pv wx => pv = .pointer (some ⟨d, 0, none⟩) ∧ RT w wx g (if cnd = true then hold (bump (away m i)) 0 0 else bump (away m i)) ∧ Blk wx d 84 (ivs .i64 (if cnd = true then lvN m i else z16)))
    case first =>
      cases cnd with
      | false =>
        go_wp2
        go_meet
        exact ⟨rfl, H3.out.1, H3.out.2.1⟩
      | true =>
        have y2 := blk_at H3.out.1.ok.holds.1 2
        simp only [rsC, List.getElem?_cons_zero, List.getElem?_cons_succ] at y2
        rw [hk3] at y2
        have HO : Hid _ := tellOthers_any g (bump (away m i)) (i : Int) 4 d z16 w3 H3.out.1.ok H3.out.2.1 rfl
        have HD0 : Hid _ := end_any g (bump (away m i)) w3 H3.out.1.ok
        by_cases h5 : m.k = 5
        · have HL0 : lvN m i = tellF (i : Int) 4 z16 (regsL (bump (away m i)).ks 16) := by unfold lvN; rw [if_pos (by omega)]; rfl
          have HL : Hid _ := HL0
          clear HL0
          rw [h5] at y2
          clear HD0
          go_wp2_with fail
          refine (Calls.mono HO.out) ?_
          rintro e w4 ⟨rfl, Bd4, t4⟩
          have r4 := H3.out.1.codes t4 hd3.out H3.out.2.2.2.1
          have HEn : Hid _ := end_any g (bump (away m i)) w4 r4.ok
          have H4 : Hid _ := And.intro r4 Bd4
          clear HO t4 r4 Bd4 y2
          go_wp2_with fail
          refine (Calls.mono HEn.out) ?_
          rintro e w5 ⟨rfl, st⟩
          have r5 := H4.out.1.step st
          have Bd5 := H4.out.2.turned st.turned (by have := hd3.out; have := H3.out.2.2.2.1; simp [rv]; omega)
          rw [← HL.out] at Bd5
          have H5 : Hid _ := And.intro r5 Bd5
          clear HEn H4 st r5 Bd5 H3
          go_wp2
          go_meet
          exact ⟨rfl, H5.out.1, H5.out.2⟩
        · by_cases h6 : m.k = 6
          · have HL0 : lvN m i = tellF (i : Int) 4 z16 (regsL (bump (away m i)).ks 16) := by unfold lvN; rw [if_pos (by omega)]; rfl
            have HL : Hid _ := HL0
            clear HL0
            rw [h6] at y2
            clear HD0
            go_wp2_with fail
            refine (Calls.mono HO.out) ?_
            rintro e w4 ⟨rfl, Bd4, t4⟩
            have r4 := H3.out.1.codes t4 hd3.out H3.out.2.2.2.1
            have HEn : Hid _ := end_any g (bump (away m i)) w4 r4.ok
            have H4 : Hid _ := And.intro r4 Bd4
            clear HO t4 r4 Bd4 y2
            go_wp2_with fail
            refine (Calls.mono HEn.out) ?_
            rintro e w5 ⟨rfl, st⟩
            have r5 := H4.out.1.step st
            have Bd5 := H4.out.2.turned st.turned (by have := hd3.out; have := H3.out.2.2.2.1; simp [rv]; omega)
            rw [← HL.out] at Bd5
            have H5 : Hid _ := And.intro r5 Bd5
            clear HEn H4 st r5 Bd5 H3
            go_wp2
            go_meet
            exact ⟨rfl, H5.out.1, H5.out.2⟩
          · have HL0 : lvN m i = z16 := by unfold lvN; rw [if_neg (by omega)]
            have HL : Hid _ := HL0
            have d5 : (m.k == 5) = false := by rw [beq_eq_false_iff_ne]; exact h5
            have d6 : (m.k == 6) = false := by rw [beq_eq_false_iff_ne]; exact h6
            clear HL0 HO
            go_wp2_with fail
            refine (Calls.mono HD0.out) ?_
            rintro e w5 ⟨rfl, st⟩
            have r5 := H3.out.1.step st
            have Bd5 := H3.out.2.1.turned st.turned (by have := hd3.out; have := H3.out.2.2.2.1; simp [rv]; omega)
            have H5 : Hid _ := And.intro r5 Bd5
            clear HD0 st r5 Bd5 H3 y2
            go_wp2
            go_meet
            exact ⟨rfl, H5.out.1, by rw [if_pos trivial, HL.out]; exact H5.out.2⟩
    case rest =>
    obtain ⟨rfl, r5, Bd5⟩ := hcut
    have hll : (if cnd = true then lvN m i else z16).length = 16 := by
      split
      · unfold lvN; split
        · rw [tellF_len]; rfl
        · rfl
      · rfl
    have hld := load_arr (k := .i64) size_cd und_cd hll (w := wc) (c := d) (off := 0) (fun j hj => by rw [Nat.zero_add, blk_at Bd5 j]; exact ivs_at .i64 _ j hj)
    have HN : Hid _ := notes_any _ hll wc
    have H5 : Hid _ := And.intro r5 (And.intro H3.out.2.2.2.1 hd3.out)
    have HM2 : Hid (leaveM m i = ((if cnd = true then hold (bump (away m i)) 0 0 else bump (away m i)), ntL (if cnd = true then lvN m i else z16) 16)) := by
      rw [HM.out]; cases cnd
      · show (bump (away m i), []) = (_, ntL z16 16); rw [ntL_z]; rfl
      · rfl
    clear r5 Bd5 H3 hd3 HM hll
    generalize (if cnd = true then lvN m i else z16) = ll at *
    have hav : av .i64 ll = .agg (ivs .i64 ll).toArray := rfl
    rw [hav] at hld HN
    go_wp2_with (refine wpList_value rfl (exec_load rfl rfl hld) ?_)
    refine (Calls.mono HN.out) ?_
    rintro e w6 ⟨v, rfl, hN⟩
    obtain ⟨va, vc, hv, -, -⟩ := hN.own.open
    have F : Hid _ := And.intro (H5.out.1.later hN.below) (Nts.mk (w := w) hN.own (fun b hb => Nat.le_trans (show Turned (fun k => k = g) w wc from H5.out.1.tn).size (hN.new b hb)))
    clear HN hN H5 hld
    rw [hv]
    go_wp2
    go_ret
    exact ⟨_, rfl, by rw [HM2.out, ← hv]; exact F.out.2, by rw [HM2.out]; exact F.out.1⟩
end Go.Proofs.Ytjokohjdpickoaa

