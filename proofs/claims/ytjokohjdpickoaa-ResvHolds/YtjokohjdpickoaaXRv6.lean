/- Keys that are taken away from others. -/
import Derived.Test.YtjokohjdpickoaaXRv5
namespace Go.Proofs.Ytjokohjdpickoaa
open Go.RowKit Go.Shelf
set_option linter.unusedVariables false
set_option linter.unusedSimpArgs false
set_option maxRecDepth 4000
attribute [local go_sem] Oper.semAt_some

/-- whether the key of a registrant is taken away -/
def tkB (nx key : Int) (r : Nat × Int) : Bool := decide ((r.1 : Int) ≠ nx ∧ (key = 0 ∨ r.2 = key))
def tkF (nx key : Int) (s : Rs × List Int) (rs : List (Nat × Int)) : Rs × List Int := rs.foldl (fun s r => if tkB nx key r = true then (away s.1 r.1, s.2.set r.1 5) else s) s
theorem tkF_snoc (nx key : Int) (s : Rs × List Int) (rs : List (Nat × Int)) (r : Nat × Int) : tkF nx key s (rs ++ [r]) = if tkB nx key r = true then (away (tkF nx key s rs).1 r.1, (tkF nx key s rs).2.set r.1 5) else tkF nx key s rs := by
  unfold tkF; rw [List.foldl_append]; rfl
theorem tkF_ok (nx key : Int) (s : Rs × List Int) (rs : List (Nat × Int)) (h : s.1.Wf) (hl : s.2.length = 16) : (tkF nx key s rs).1.Wf ∧ (tkF nx key s rs).2.length = 16 := by
  unfold tkF
  induction rs generalizing s with
  | nil => exact ⟨h, hl⟩
  | cons r rs ih =>
    rw [List.foldl_cons]
    split
    · exact ih _ (away_wf h _) (by simp [hl])
    · exact ih _ h hl
theorem box_two {w : World} {a b : Nat} {T U : TypeId} {xs ys : List Value} (h : Blk w a T xs) (k : Blk w b U ys) (hT : T ≠ U) : a ≠ b := by
  rintro rfl
  unfold Blk at h k
  rw [h] at k
  cases k
  exact hT rfl
set_option maxHeartbeats 4000000 in
theorem takeFrom_any (g : Nat) (m : Rs) (nx key : Int) (d : Nat) (l : List Int) (w : World) (h : (rv g m).Ok w) (hd : Blk w d 84 (ivs .i64 l)) (hl : l.length = 16) :
    Calls Try.prog 56 #[.pointer (some ⟨g, 0, none⟩), .int .i64 nx, .int .u64 key, .pointer (some ⟨d, 0, none⟩)] w fun e w' => e = .returned (.tuple #[]) ∧ Blk w' g 63 (rsC (tkF nx key (m, l) (regsL m.ks 16)).1) ∧ Blk w' d 84 (ivs .i64 (tkF nx key (m, l) (regsL m.ks 16)).2) ∧ Turned (fun k => k = g ∨ k = d) w w' := by
  have b0 : Below w.heap.size w (w.alloc (.cells #[.pointer (some ⟨g, 0, none⟩)] 23)) := (Below.refl _ _).alloc (Nat.le_refl _) _
  have B0 := Blk.new' w 23 [.pointer (some ⟨g, 0, none⟩)]
  obtain ⟨w0, hw0⟩ : ∃ w0, w0 = w.alloc (.cells #[.pointer (some ⟨g, 0, none⟩)] 23) := ⟨_, rfl⟩
  have b1 : Below w0.heap.size w0 (w0.alloc (.cells #[.int .i64 nx] 3)) := (Below.refl _ _).alloc (Nat.le_refl _) _
  have B1 := Blk.new' w0 3 [.int .i64 nx]
  obtain ⟨w1, hw1⟩ : ∃ w1, w1 = w0.alloc (.cells #[.int .i64 nx] 3) := ⟨_, rfl⟩
  have b2 : Below w1.heap.size w1 (w1.alloc (.cells #[.int .u64 key] 32)) := (Below.refl _ _).alloc (Nat.le_refl _) _
  have B2 := Blk.new' w1 32 [.int .u64 key]
  obtain ⟨w2, hw2⟩ : ∃ w2, w2 = w1.alloc (.cells #[.int .u64 key] 32) := ⟨_, rfl⟩
  have b3 : Below w2.heap.size w2 (w2.alloc (.cells #[.pointer (some ⟨d, 0, none⟩)] 86)) := (Below.refl _ _).alloc (Nat.le_refl _) _
  have B3 := Blk.new' w2 86 [.pointer (some ⟨d, 0, none⟩)]
  obtain ⟨w3, hw3⟩ : ∃ w3, w3 = w2.alloc (.cells #[.pointer (some ⟨d, 0, none⟩)] 86) := ⟨_, rfl⟩
  have z0 : w0.heap.size = w.heap.size + 1 := by rw [hw0]; simp
  have z1 : w1.heap.size = w.heap.size + 2 := by rw [hw1]; simp [z0]
  have z2 : w2.heap.size = w.heap.size + 3 := by rw [hw2]; simp [z1]
  rw [← hw0] at b0 B0
  rw [← hw1] at b1 B1
  rw [← hw2] at b2 B2
  rw [← hw3] at b3 B3
  rw [z0] at B1
  rw [z1] at B2
  rw [z2] at B3
  have b13 := below_then (below_then (below_then b0 b1) b2) b3
  have z3 : w3.heap.size = w.heap.size + 4 := by rw [hw3]; simp [z2]
  have HR : Hid _ := Regs_any g m w3 (h.later b13)
  have F0 : Hid _ := And.intro (((B0.laterB b1).laterB b2).laterB b3) (And.intro ((B1.laterB b2).laterB b3) (And.intro (B2.laterB b3) (And.intro B3 (And.intro b13 (And.intro (hd.laterB b13) (And.intro (h.later b13) z3))))))
  have hdl := hd.lt
  have hgl := h.holds.1.lt
  have hgd : g ≠ d := box_two h.holds.1 hd (by decide)
  clear b0 B0 b1 B1 b2 B2 b3 B3 b13 h hd
  have c4 : w3.cell? ⟨w.heap.size, 0, none⟩ = some (.pointer (some ⟨g, 0, none⟩)) := by have := blk_at F0.out.1 0; simpa using this
  refine (callsIn_wide (n := 9)).1 ?_
  refine callsIn_of_wp_marks Try.func56 rfl trivial ?_ rfl
  simp only [Try.ntmps56, List.size_toArray, List.length_cons, List.length_nil, Nat.reduceAdd, Nat.reduceSub, Array.replicate_succ, Array.replicate_zero, List.push_toArray, List.append_toArray, List.nil_append, List.cons_append]
  refine wpIn_wide.2 (wp_mono (Q := calmR (bodyPostM Fence.wide 9 Try.prog Try.f56 fun e w' => e = .returned (.tuple #[]) ∧ Blk w' g 63 (rsC (tkF nx key (m, l) (regsL m.ks 16)).1) ∧ Blk w' d 84 (ivs .i64 (tkF nx key (m, l) (regsL m.ks 16)).2) ∧ Turned (fun k => k = g ∨ k = d) w w')) ?_ (fun e a w h => calmR_out h))
  rw [hw3, hw2, hw1, hw0] at c4
  go_wp2_with fail
  rw [← hw0, ← hw1, ← hw2, ← hw3]
  clear hw0 hw1 hw2 hw3 c4
  refine (Calls.mono HR.out) ?_
  rintro e x6 ⟨rfl, Bc, b6⟩
  obtain ⟨E0, E1, E2, E3, b13, Fd, Fg, z3'⟩ := F0.out
  have bb6 := below_then b13 b6
  have hcl := Bc.lt
  have hW := Fg.holds.2
  have H6 : Hid _ := And.intro (E0.laterB b6) (And.intro (E1.laterB b6) (And.intro (E2.laterB b6) (And.intro (E3.laterB b6) (And.intro (Fd.laterB b6) (And.intro ((Fg.later b6).holds.1) bb6)))))
  have hsq := regs_stops 8 (by omega) w3.heap.size m.ks x6 hW.kl Bc
  have HZ : Hid (d < w.heap.size ∧ g < w.heap.size ∧ g ≠ d ∧ w3.heap.size = w.heap.size + 4 ∧ w3.heap.size < x6.heap.size) := ⟨hdl, hgl, hgd, z3, hcl⟩
  have HW : Hid _ := And.intro hW hl
  clear HR E0 E1 E2 E3 Fd Fg b13 b6 F0 z0 z1 z2 bb6 hW hdl z3 z3' hcl Bc hgl hgd hl
  generalize w3.heap.size = c3 at *
  go_wp2_with fail
  refine (wpIn_wide (n := 9)).1 ?_
  refine wpIn_rangeFunc_ownG rfl (by omega) (gf := 34) (lb := #[.pointer (some ⟨c3, 0, none⟩)]) rfl trivial (enters_of Try.func34 (by kernel_rfl) rfl) hsq (fun h k => h.t k) (fun W l o o' hl h _ _ k hk => World.putObj_heap_other (by simp only [List.mem_singleton] at hk; have := HZ.out; omega)) (Below.refl _ _) (fun _ => rfl) (fun pre W => RB (fun k => k = g ∨ k = d) x6 [(g, 63, rsC (tkF nx key (m, l) (pre.map (·.1))).1), (d, 84, ivs .i64 (tkF nx key (m, l) (pre.map (·.1))).2)] W) (fun _ _ _ => False)
    rb_own (fun _ _ _ _ _ hs _ _ => hs) ⟨fun b hb => by simp only [List.mem_cons, List.not_mem_nil, or_false] at hb; rcases hb with rfl | rfl; exact H6.out.2.2.2.2.2.1; exact H6.out.2.2.2.2.1, ⟨rfl, rfl, rfl, Nat.le_refl _, fun _ _ _ => rfl⟩⟩ (fun x => { tmps := #[.pointer (some ⟨g, 0, none⟩), .int .i64 nx, .int .u64 key, .pointer (some ⟨d, 0, none⟩), .pointer (some ⟨w.heap.size, 0, none⟩), .pointer (some ⟨w.heap.size + 1, 0, none⟩), .pointer (some ⟨w.heap.size + 1 + 1, 0, none⟩), .pointer (some ⟨w.heap.size + 1 + 1 + 1, 0, none⟩), .int .i64 (x.1.1 : Int), .int .u64 x.1.2, .pointer (some ⟨g, 0, none⟩), .func (.func 34) #[] #[.pointer (some ⟨c3, 0, none⟩)], .int .i64 (x.1.1 : Int), .int .u64 x.1.2, undef, undef, undef, undef, undef, undef, undef, undef, undef, undef, undef, undef, undef, undef, undef, undef, undef, undef, undef], defers := [] }) ?assign ?body ?done ?stop
  case assign =>
    intro l x W K hK
    simp only [encP]
    gi_wp2
    exact hK
  case body =>
    rintro l' pre x W ⟨hB, ht⟩ hlt
    obtain ⟨⟨xi, xk⟩, hxi⟩ := x
    have hxi' : xi < 16 := hxi
    have hBg : Blk W g 63 (rsC (tkF nx key (m, l) (pre.map (·.1))).1) := hB (g, 63, rsC (tkF nx key (m, l) (pre.map (·.1))).1) (by simp)
    have hBd : Blk W d 84 (ivs .i64 (tkF nx key (m, l) (pre.map (·.1))).2) := hB (d, 84, ivs .i64 (tkF nx key (m, l) (pre.map (·.1))).2) (by simp)
    obtain ⟨hW', hL⟩ := tkF_ok nx key (m, l) (pre.map (·.1)) HW.out.1 HW.out.2
    have hz := HZ.out
    have hsn := tkF_snoc nx key (m, l) (pre.map (·.1)) (xi, xk)
    have hmp : ((pre ++ [(⟨(xi, xk), hxi⟩ : Rg)]).map (·.1)) = pre.map (·.1) ++ [(xi, xk)] := by rw [List.map_append]; rfl
    generalize tkF nx key (m, l) (pre.map (·.1)) = P at *
    have e4 := blk_at (H6.out.1.turned ht (by show ¬ (w.heap.size = g ∨ w.heap.size = d); omega)) 0
    have e5 := blk_at (H6.out.2.1.turned ht (by show ¬ (w.heap.size + 1 = g ∨ w.heap.size + 1 = d); omega)) 0
    have e6 := blk_at (H6.out.2.2.1.turned ht (by show ¬ (w.heap.size + 2 = g ∨ w.heap.size + 2 = d); omega)) 0
    simp only [List.getElem?_cons_zero] at e4 e5 e6
    have E7 : Hid (∀ W', Turned (fun k => k = g ∨ k = d) W W' → W'.cell? ⟨w.heap.size + 1 + 1 + 1, 0, none⟩ = some (.pointer (some ⟨d, 0, none⟩))) := fun W' t => by
      have := blk_at (H6.out.2.2.2.1.turned (ht.trans (t.mono (fun k e => .inl e))) (by show ¬ (w.heap.size + 3 = g ∨ w.heap.size + 3 = d); omega)) 0
      simpa using this
    refine wpIn_mono (Q := roundR (fun W' => KeepsFrom x6.heap.size W W' ∧ KeepL [c3] W W' ∧ RB (fun k => k = g ∨ k = d) x6 [(g, 63, rsC (tkF nx key (m, l) ((pre ++ [(⟨(xi, xk), hxi⟩ : Rg)]).map (·.1))).1), (d, 84, ivs .i64 (tkF nx key (m, l) ((pre ++ [(⟨(xi, xk), hxi⟩ : Rg)]).map (·.1))).2)] W')) ?_ ?_
    rotate_left
    · rintro e a W' h
      cases e <;> first | exact h.elim | exact h
    rw [hmp]
    have hfin : ∀ W', Turned (fun k => k = g ∨ k = d) W W' → Blk W' g 63 (rsC (tkF nx key (m, l) (pre.map (·.1) ++ [(xi, xk)])).1) → Blk W' d 84 (ivs .i64 (tkF nx key (m, l) (pre.map (·.1) ++ [(xi, xk)])).2) → KeepsFrom x6.heap.size W W' ∧ KeepL [c3] W W' ∧ RB (fun k => k = g ∨ k = d) x6 [(g, 63, rsC (tkF nx key (m, l) (pre.map (·.1) ++ [(xi, xk)])).1), (d, 84, ivs .i64 (tkF nx key (m, l) (pre.map (·.1) ++ [(xi, xk)])).2)] W' := fun W' t b1 b2 => by
      have hsz := ht.size
      exact ⟨keepsR t (fun k e => by have := H6.out.2.2.2.2.2.2.size; omega), keepR t (fun k hk => by simp only [List.mem_singleton] at hk; omega), fun b' hb' => by
        simp only [List.mem_cons, List.not_mem_nil, or_false] at hb'
        rcases hb' with rfl | rfl
        · exact b1
        · exact b2, ht.trans (t.mono (fun k e => .inl e))⟩
    cases htk : tkB nx key (xi, xk) with
    | false =>
      rw [htk, if_neg (by decide)] at hsn
      rw [hsn] at hfin ⊢
      have HF : Hid _ := hfin W ⟨rfl, rfl, rfl, Nat.le_refl _, fun _ _ _ => rfl⟩ hBg hBd
      unfold tkB at htk
      have htk' := of_decide_eq_false htk
      clear hfin hBd hBg hB ht hsn hmp hsq hz E7 htk
      by_cases c1 : (xi : Int) = nx
      · gi_wp2
        exact HF.out
      · have c2 : ¬ key = 0 := fun e => htk' ⟨c1, .inl e⟩
        have c3' : ¬ xk = key := fun e => htk' ⟨c1, .inr e⟩
        have d2 : (key == 0) = false := by rw [beq_eq_false_iff_ne]; exact c2
        have d3 : (xk == key) = false := by rw [beq_eq_false_iff_ne]; exact c3'
        have d1 : ((xi : Int) != nx) = true := by rw [bne_iff_ne]; exact c1
        clear htk'
        gi_wp2
        exact HF.out
    | true =>
      rw [htk, if_pos rfl] at hsn
      rw [hsn] at hfin ⊢
      have HF : Hid _ := hfin
      unfold tkB at htk
      obtain ⟨c1, c2⟩ := of_decide_eq_true htk
      have HT : Hid _ := takeKey_any g P.1 xi W (rv_ok hBg hW') hxi'
      have HD : Hid _ := And.intro hBd (And.intro ht (And.intro hL hW'))
      have c1' : ¬ (xi : Int) = nx := c1
      have hq : (xi : Int) < 16 := by omega
      clear hfin hB hsn hmp hsq hz htk ht hBd hBg c1
      by_cases ck : key = 0
      · clear c2
        gi_wp2
        refine ⟨trivial, ?_⟩
        refine (CallsIn.inRound l' (callsIn_wide.2 HT.out)).mono ?_
        rintro e W1 ⟨rfl, st⟩
        have hz := HZ.out
        have t0 : Turned (fun k => k = g) W W1 := st.turned.mono (fun k e => by simpa [rv] using e)
        have t1 : Turned (fun k => k = g ∨ k = d) W W1 := t0.mono (fun k e => .inl e)
        have hBd1 := HD.out.1.turned t0 (fun e => hz.2.2.1 e.symm)
        have y7 := E7.out W1 t1
        have hc := blk_at hBd1 xi
        have hxl : xi < P.2.length := by have := HD.out.2.2.1; omega
        rw [ivs_at .i64 P.2 xi hxl] at hc
        generalize P.2[xi] = pv at hc
        have hf := blk_frozen hBd1 xi
        have B2 := hBd1.set xi (.int .i64 5)
        rw [show (ivs .i64 P.2).set xi (.int .i64 5) = ivs .i64 (P.2.set xi 5) by unfold ivs; rw [List.map_set]] at B2
        have HR : Hid _ := HF.out _ (t1.trans ((turned_set W1 d xi (.int .i64 5)).mono (fun k e => .inl (.inr e)))) (st.ok.holds.1.turned (turned_set W1 d xi _) hz.2.2.1) B2
        clear hz t0 t1 hBd1 B2 st HF HT HD E7 e4 e5 e6
        gi_wp2
        exact HR.out
      · have c3' : xk = key := c2.resolve_left ck
        clear c2
        gi_wp2
        refine ⟨trivial, ?_⟩
        refine (CallsIn.inRound l' (callsIn_wide.2 HT.out)).mono ?_
        rintro e W1 ⟨rfl, st⟩
        have hz := HZ.out
        have t0 : Turned (fun k => k = g) W W1 := st.turned.mono (fun k e => by simpa [rv] using e)
        have t1 : Turned (fun k => k = g ∨ k = d) W W1 := t0.mono (fun k e => .inl e)
        have hBd1 := HD.out.1.turned t0 (fun e => hz.2.2.1 e.symm)
        have y7 := E7.out W1 t1
        have hc := blk_at hBd1 xi
        have hxl : xi < P.2.length := by have := HD.out.2.2.1; omega
        rw [ivs_at .i64 P.2 xi hxl] at hc
        generalize P.2[xi] = pv at hc
        have hf := blk_frozen hBd1 xi
        have B2 := hBd1.set xi (.int .i64 5)
        rw [show (ivs .i64 P.2).set xi (.int .i64 5) = ivs .i64 (P.2.set xi 5) by unfold ivs; rw [List.map_set]] at B2
        have HR : Hid _ := HF.out _ (t1.trans ((turned_set W1 d xi (.int .i64 5)).mono (fun k e => .inl (.inr e)))) (st.ok.holds.1.turned (turned_set W1 d xi _) hz.2.2.1) B2
        clear hz t0 t1 hBd1 B2 st HF HT HD E7 e4 e5 e6
        gi_wp2
        exact HR.out
  case done =>
    rintro D ys W hD hys ⟨hB, ht⟩ hdf
    have hBg := hB (g, 63, rsC (tkF nx key (m, l) (ys.map (·.1))).1) (by simp)
    have hBd := hB (d, 84, ivs .i64 (tkF nx key (m, l) (ys.map (·.1))).2) (by simp)
    dsimp only at hBg hBd
    rw [hys] at hBd hBg
    have hz := HZ.out
    have bb6 := H6.out.2.2.2.2.2.2
    have F : Hid _ := And.intro hBd (And.intro ht (And.intro hdf (And.intro hD (And.intro hz (And.intro bb6 hBg)))))
    clear hBd ht hdf hsq hB hD hz bb6 hBg
    go_wp2_with fail
    refine ⟨by simp, .inl ⟨_, _, rfl, run_takeDeferred F.out.2.2.1, ?_⟩⟩
    obtain ⟨hBd, ht, hdf, hD, hz, bb6, hBg⟩ := F.out
    have hs6 := bb6.size
    refine ⟨_, results_none rfl _ _ _, rfl, ?_, ?_, ?_⟩
    · unfold Blk at hBg ⊢
      rw [World.putObj_heap_other (by omega)]
      exact hBg
    · unfold Blk at hBd ⊢
      rw [World.putObj_heap_other (by omega)]
      exact hBd
    · exact ((tndr bb6).trans (ht.mono (fun k e => .inl e))).trans ((turned_grown (grownBy_putObj' W D (.deferred none)) (R := fun k => k = D) (fun k e => by cases e; rfl)).mono (fun k e => .inr (by subst e; omega)))
  case stop =>
    rintro D c pre W _ _ h _
    exact h.elim
end Go.Proofs.Ytjokohjdpickoaa

