/- What is told to the others. -/
import Derived.Test.YtjokohjdpickoaaXRv4
namespace Go.Proofs.Ytjokohjdpickoaa
open Go.RowKit Go.Shelf
set_option linter.unusedVariables false
set_option linter.unusedSimpArgs false
set_option maxRecDepth 4000
attribute [local go_sem] Oper.semAt_some

def calmR (Q : Exit → Act → World → Prop) : Exit → Act → World → Prop
  | .panic _, _, _ => False
  | .normal, a, w => Q .normal a w
  | .ret, a, w => Q .ret a w
  | .exit i, a, w => Q (.exit i) a w
  | .goto i, a, w => Q (.goto i) a w
  | .outgrown, a, w => Q .outgrown a w
theorem calmR_out {Q : Exit → Act → World → Prop} {e : Exit} {a : Act} {w : World} (h : calmR Q e a w) : Q e a w := by
  cases e <;> first | exact h | exact h.elim
theorem blk_nonR {A : World} {k T' : Nat} {xs : List Value} {o : Obj} (hB : Blk A k T' xs) (ho : A.heap[k]? = some o) (hc : o.isCells = false) : False := by
  unfold Blk at hB
  rw [hB] at ho
  cases ho
  simp [Obj.isCells] at hc
/-- a round that goes on -/
def roundR (R : World → Prop) : Exit → Act → World → Prop
  | .normal, _, W' => R W'
  | _, _, _ => False
/-- between two rounds: these blocks say so, and only blocks of R have turned -/
structure RB (R : Nat → Prop) (x6 : World) (Bs : List (Nat × TypeId × List Value)) (W : World) : Prop where
  blk : ∀ b ∈ Bs, Blk W b.1 b.2.1 b.2.2
  turned : Turned R x6 W
theorem rb_own {α : Type} {R : Nat → Prop} {x6 : World} {F : List α → List (Nat × TypeId × List Value)} : OwnFrom x6.heap.size (fun pre W => RB R x6 (F pre) W) := by
  rintro s A B row ⟨hB, ht⟩ hg hr
  have ht' : Turned (fun k => row = some k) A B := turned_grown hg (fun k e => e)
  refine ⟨fun b hb => (hB b hb).turned ht' (fun e => ?_), ht.trans (ht'.mono (fun k e => .inr (hr k e).1))⟩
  obtain ⟨_, o, ho', hc⟩ := hr _ e
  exact blk_nonR (hB b hb) ho' hc
theorem keepsR {B : Nat} {W W' : World} {R : Nat → Prop} (ht : Turned R W W') (hR : ∀ k, R k → k < B) : KeepsFrom B W W' := by
  refine ⟨ht.size, fun k o hk hko hc => ?_⟩
  rw [ht.block k (Array.getElem?_eq_some_iff.1 hko).1 (fun e => by have := hR k e; omega)]
  exact hko
theorem keepR {bs : List Nat} {W W' : World} {R : Nat → Prop} (ht : Turned R W W') (hl : ∀ k ∈ bs, k < W.heap.size ∧ ¬ R k) : KeepL bs W W' := fun k hk => ht.block k (hl k hk).1 (hl k hk).2
/-- a code for each of these but one -/
def tellF (nx cd : Int) (l : List Int) (rs : List (Nat × Int)) : List Int := rs.foldl (fun l r => if (r.1 : Int) = nx then l else l.set r.1 cd) l
theorem tellF_len (nx cd : Int) (l : List Int) (rs : List (Nat × Int)) : (tellF nx cd l rs).length = l.length := by
  unfold tellF
  induction rs generalizing l with
  | nil => rfl
  | cons r rs ih => rw [List.foldl_cons, ih]; split <;> simp
theorem tellF_snoc (nx cd : Int) (l : List Int) (rs : List (Nat × Int)) (r : Nat × Int) : tellF nx cd l (rs ++ [r]) = if (r.1 : Int) = nx then tellF nx cd l rs else (tellF nx cd l rs).set r.1 cd := by
  unfold tellF; rw [List.foldl_append]; rfl
theorem regsL_lt {ks : List Int} {k : Nat} {r : Nat × Int} (h : r ∈ regsL ks k) : r.1 < k := by
  unfold regsL at h
  obtain ⟨i, hi, rfl⟩ := List.mem_map.1 h
  exact List.mem_range.1 (List.mem_filter.1 hi).1
set_option maxHeartbeats 4000000 in
theorem tellOthers_any (g : Nat) (m : Rs) (nx cd : Int) (d : Nat) (l : List Int) (w : World) (h : (rv g m).Ok w) (hd : Blk w d 84 (ivs .i64 l)) (hl : l.length = 16) :
    Calls Try.prog 49 #[.pointer (some ⟨g, 0, none⟩), .int .i64 nx, .int .i64 cd, .pointer (some ⟨d, 0, none⟩)] w fun e w' => e = .returned (.tuple #[]) ∧ Blk w' d 84 (ivs .i64 (tellF nx cd l (regsL m.ks 16))) ∧ Turned (fun k => k = d) w w' := by
  have b1 : Below w.heap.size w (w.alloc (.cells #[.int .i64 nx] 3)) := (Below.refl _ _).alloc (Nat.le_refl _) _
  have B1 := Blk.new' w 3 [.int .i64 nx]
  obtain ⟨w1, hw1⟩ : ∃ w1, w1 = w.alloc (.cells #[.int .i64 nx] 3) := ⟨_, rfl⟩
  have b2 : Below w1.heap.size w1 (w1.alloc (.cells #[.int .i64 cd] 3)) := (Below.refl _ _).alloc (Nat.le_refl _) _
  have B2 := Blk.new' w1 3 [.int .i64 cd]
  obtain ⟨w2, hw2⟩ : ∃ w2, w2 = w1.alloc (.cells #[.int .i64 cd] 3) := ⟨_, rfl⟩
  have b3 : Below w2.heap.size w2 (w2.alloc (.cells #[.pointer (some ⟨d, 0, none⟩)] 86)) := (Below.refl _ _).alloc (Nat.le_refl _) _
  have B3 := Blk.new' w2 86 [.pointer (some ⟨d, 0, none⟩)]
  obtain ⟨w3, hw3⟩ : ∃ w3, w3 = w2.alloc (.cells #[.pointer (some ⟨d, 0, none⟩)] 86) := ⟨_, rfl⟩
  have z1 : w1.heap.size = w.heap.size + 1 := by rw [hw1]; simp
  have z2 : w2.heap.size = w.heap.size + 2 := by rw [hw2]; simp [z1]
  rw [← hw1] at b1 B1
  rw [← hw2] at b2 B2
  rw [← hw3] at b3 B3
  rw [z1] at B2
  rw [z2] at B3
  have b12 := below_then b1 b2
  have b13 := below_then b12 b3
  have z3 : w3.heap.size = w.heap.size + 3 := by rw [hw3]; simp [z2]
  have HR : Hid _ := Regs_any g m w3 (h.later b13)
  have F0 : Hid _ := And.intro ((B1.laterB b2).laterB b3) (And.intro (B2.laterB b3) (And.intro B3 (And.intro b13 (And.intro (hd.laterB b13) (And.intro z3 h.holds.2)))))
  have hdl := hd.lt
  clear b1 B1 b2 B2 b3 B3 b12 b13 h hd
  refine (callsIn_wide (n := 9)).1 ?_
  refine callsIn_of_wp_marks Try.func49 rfl trivial ?_ rfl
  simp only [Try.ntmps49, List.size_toArray, List.length_cons, List.length_nil, Nat.reduceAdd, Nat.reduceSub, Array.replicate_succ, Array.replicate_zero, List.push_toArray, List.append_toArray, List.nil_append, List.cons_append]
  refine wpIn_wide.2 (wp_mono (Q := calmR (bodyPostM Fence.wide 9 Try.prog Try.f49 fun e w' => e = .returned (.tuple #[]) ∧ Blk w' d 84 (ivs .i64 (tellF nx cd l (regsL m.ks 16))) ∧ Turned (fun k => k = d) w w')) ?_ (fun e a w h => calmR_out h))
  go_wp2_with fail
  rw [← hw1, ← hw2, ← hw3]
  clear hw1 hw2 hw3
  refine (Calls.mono HR.out) ?_
  rintro e x6 ⟨rfl, Bc, b6⟩
  obtain ⟨F1, F2, F3, b13, Fd, z3', hW⟩ := F0.out
  have bb6 := below_then b13 b6
  have hz6 := b6.size
  have hcl := Bc.lt
  have H6 : Hid _ := And.intro (F1.laterB b6) (And.intro (F2.laterB b6) (And.intro (F3.laterB b6) (And.intro (Fd.laterB b6) bb6)))
  have hsq := regs_stops 8 (by omega) w3.heap.size m.ks x6 hW.kl Bc
  have HZ : Hid (d < w.heap.size ∧ w3.heap.size = w.heap.size + 3 ∧ w3.heap.size < x6.heap.size) := ⟨hdl, z3, hcl⟩
  clear HR F1 F2 F3 Fd b13 b6 F0 z1 z2 bb6 hW hdl z3 z3' hcl hz6 Bc
  generalize w3.heap.size = c3 at *
  go_wp2_with fail
  refine (wpIn_wide (n := 9)).1 ?_
  refine wpIn_rangeFunc_ownG rfl (by omega) (gf := 34) (lb := #[.pointer (some ⟨c3, 0, none⟩)]) rfl trivial (enters_of Try.func34 (by kernel_rfl) rfl) hsq (fun h k => h.t k) (fun W l o o' hl h _ _ k hk => World.putObj_heap_other (by simp only [List.mem_singleton] at hk; have := HZ.out; omega)) (Below.refl _ _) (fun _ => rfl) (fun pre W => RB (fun k => k = d) x6 [(d, 84, ivs .i64 (tellF nx cd l (pre.map (·.1))))] W) (fun _ _ _ => False)
    rb_own (fun _ _ _ _ _ hs _ _ => hs) ⟨fun b hb => by simp only [List.mem_singleton] at hb; subst hb; exact H6.out.2.2.2.1, ⟨rfl, rfl, rfl, Nat.le_refl _, fun _ _ _ => rfl⟩⟩ (fun x => { tmps := #[.pointer (some ⟨g, 0, none⟩), .int .i64 nx, .int .i64 cd, .pointer (some ⟨d, 0, none⟩), undef, .pointer (some ⟨w.heap.size, 0, none⟩), .pointer (some ⟨w.heap.size + 1, 0, none⟩), .pointer (some ⟨w.heap.size + 1 + 1, 0, none⟩), .int .i64 (x.1.1 : Int), .pointer (some ⟨g, 0, none⟩), .func (.func 34) #[] #[.pointer (some ⟨c3, 0, none⟩)], .int .i64 (x.1.1 : Int), .int .u64 x.1.2, undef, undef, undef, undef, undef, undef, undef, undef], defers := [] }) ?assign ?body ?done ?stop
  case assign =>
    intro l x W K hK
    simp only [encP]
    gi_wp2
    exact hK
  case body =>
    rintro l' pre x W ⟨hB, ht⟩ hlt
    obtain ⟨⟨xi, xk⟩, hxi⟩ := x
    have hxi' : xi < 16 := hxi
    have hBd : Blk W d 84 (ivs .i64 (tellF nx cd l (pre.map (·.1)))) := hB (d, 84, ivs .i64 (tellF nx cd l (pre.map (·.1)))) (by simp)
    have htl : (tellF nx cd l (pre.map (·.1))).length = 16 := by rw [tellF_len, hl]
    have hz := HZ.out
    have hsn := tellF_snoc nx cd l (pre.map (·.1)) (xi, xk)
    have hmp : ((pre ++ [(⟨(xi, xk), hxi⟩ : Rg)]).map (·.1)) = pre.map (·.1) ++ [(xi, xk)] := by rw [List.map_append]; rfl
    generalize tellF nx cd l (pre.map (·.1)) = L at *
    have b5 := blk_at (H6.out.1.turned ht (by show ¬ w.heap.size = d; omega)) 0
    have b6 := blk_at (H6.out.2.1.turned ht (by show ¬ w.heap.size + 1 = d; omega)) 0
    have b7 := blk_at (H6.out.2.2.1.turned ht (by show ¬ w.heap.size + 2 = d; omega)) 0
    simp only [List.getElem?_cons_zero] at b5 b6 b7
    refine wpIn_mono (Q := roundR (fun W' => KeepsFrom x6.heap.size W W' ∧ KeepL [c3] W W' ∧ RB (fun k => k = d) x6 [(d, 84, ivs .i64 (tellF nx cd l ((pre ++ [(⟨(xi, xk), hxi⟩ : Rg)]).map (·.1))))] W')) ?_ ?_
    rotate_left
    · rintro e a W' h
      cases e <;> first | exact h.elim | exact h
    rw [hmp]
    have hfin : ∀ W', Turned (fun k => k = d) W W' → Blk W' d 84 (ivs .i64 (tellF nx cd l (pre.map (·.1) ++ [(xi, xk)]))) → KeepsFrom x6.heap.size W W' ∧ KeepL [c3] W W' ∧ RB (fun k => k = d) x6 [(d, 84, ivs .i64 (tellF nx cd l (pre.map (·.1) ++ [(xi, xk)])))] W' := fun W' t b => by
      have hsz := ht.size
      exact ⟨keepsR t (fun k e => by have := H6.out.2.2.2.2.size; subst e; omega), keepR t (fun k hk => by simp only [List.mem_singleton] at hk; omega), fun b' hb' => by simp only [List.mem_singleton] at hb'; subst hb'; exact b, ht.trans (t.mono (fun k e => .inl e))⟩
    by_cases hxn : (xi : Int) = nx
    · rw [if_pos hxn] at hsn
      rw [hsn] at hfin ⊢
      have HF : Hid _ := hfin W ⟨rfl, rfl, rfl, Nat.le_refl _, fun _ _ _ => rfl⟩ hBd
      clear hfin hBd hB ht hsn hmp hsq hz
      gi_wp2
      exact HF.out
    · rw [if_neg hxn] at hsn
      rw [hsn] at hfin ⊢
      have HF : Hid _ := hfin
      have HC : Hid (∀ W', Turned (fun k => k = d) W W' → W'.cell? ⟨w.heap.size + 1 + 1, 0, none⟩ = some (.pointer (some ⟨d, 0, none⟩)) ∧ W'.cell? ⟨w.heap.size + 1, 0, none⟩ = some (.int .i64 cd)) := fun W' t => by
        have e7 := blk_at (H6.out.2.2.1.turned (ht.trans (t.mono (fun k e => .inl e))) (by show ¬ w.heap.size + 2 = d; omega)) 0
        have e6 := blk_at (H6.out.2.1.turned (ht.trans (t.mono (fun k e => .inl e))) (by show ¬ w.heap.size + 1 = d; omega)) 0
        simp only [List.getElem?_cons_zero] at e6 e7
        exact ⟨e7, e6⟩
      have hq : (xi : Int) < 16 := by omega
      clear hfin hB hsn hmp hsq hz b6 b7
      gi_wp2
      refine wpIn_region_held (S := fun W' => Turned (fun k => k = d) W W') (by kernel_rfl) (by kernel_rfl) (by rintro ⟨a, w, h⟩; exact h) (tndr (Below.refl _ _).drew) (fun hS => ?_)
      refine any_take (i := 0) (v := ?_) rfl (by kernel_rfl) (by kernel_rfl) (by kernel_rfl) (by exact fun _ _ _ h => h) (by rfl) ?_ hS ?_
      rotate_left
      · ((intro w hSw; obtain ⟨y7, y6⟩ := HC.out _ hSw; go_simp) <;> with_reducible rfl)
      (try simp only [Act.put, List.setIfInBounds_toArray, List.set_cons_zero, List.set_cons_succ])
      refine any_take (i := 1) (v := ?_) rfl (by kernel_rfl) (by kernel_rfl) (by kernel_rfl) (by exact fun _ _ _ h => h) (by rfl) ?_ hS ?_
      rotate_left
      · ((intro w hSw; obtain ⟨y7, y6⟩ := HC.out _ hSw; go_simp) <;> with_reducible rfl)
      (try simp only [Act.put, List.setIfInBounds_toArray, List.set_cons_zero, List.set_cons_succ])
      refine any_take (i := 2) (v := ?_) rfl (by kernel_rfl) (by kernel_rfl) (by kernel_rfl) (by exact fun _ _ _ h => h) (by rfl) ?_ hS ?_
      rotate_left
      · ((intro w hSw; obtain ⟨y7, y6⟩ := HC.out _ hSw; go_simp) <;> with_reducible rfl)
      (try simp only [Act.put, List.setIfInBounds_toArray, List.set_cons_zero, List.set_cons_succ])
      refine any_take (i := 3) (v := ?_) rfl (by kernel_rfl) (by kernel_rfl) (by kernel_rfl) (by exact fun _ _ _ h => h) (by rfl) ?_ hS ?_
      rotate_left
      · ((intro w hSw; obtain ⟨y7, y6⟩ := HC.out _ hSw; go_simp) <;> with_reducible rfl)
      (try simp only [Act.put, List.setIfInBounds_toArray, List.set_cons_zero, List.set_cons_succ])
      refine any_take (i := 4) (v := ?_) rfl (by kernel_rfl) (by kernel_rfl) (by kernel_rfl) (by exact fun _ _ _ h => h) (by rfl) ?_ hS ?_
      rotate_left
      · ((intro w hSw; obtain ⟨y7, y6⟩ := HC.out _ hSw; go_simp) <;> with_reducible rfl)
      (try simp only [Act.put, List.setIfInBounds_toArray, List.set_cons_zero, List.set_cons_succ])
      have B0 : Blk W.drew d 84 (ivs .i64 L) := hBd.laterB (Below.refl _ _).drew
      generalize W.drew = W0 at *
      have hc := blk_at B0 xi
      rw [ivs_at .i64 L xi (by omega)] at hc
      have hf := blk_frozen B0 xi
      refine any_on (i := 5) rfl (by kernel_rfl) (fun K hK => ?_)
      go_simp
      have B1 := B0.set xi (.int .i64 cd)
      rw [show (ivs .i64 L).set xi (.int .i64 cd) = ivs .i64 (L.set xi cd) by unfold ivs; rw [List.map_set]] at B1
      clear hc hf
      refine hK.out _ _ (hS.trans ((turned_set _ d xi _).mono (fun k e => .inl e))) (fun hS => ?_)
      clear hK K
      refine wpAnyH_done (by kernel_rfl) ?_ _
      exact HF.out _ hS B1
  case done =>
    rintro D ys W hD hys ⟨hB, ht⟩ hdf
    have hBd : Blk W d 84 (ivs .i64 (tellF nx cd l (ys.map (·.1)))) := hB (d, 84, ivs .i64 (tellF nx cd l (ys.map (·.1)))) (by simp)
    rw [hys] at hBd
    have hz := HZ.out
    have bb6 := H6.out.2.2.2.2
    have F : Hid _ := And.intro hBd (And.intro ht (And.intro hdf (And.intro hD (And.intro hz bb6))))
    clear hBd ht hdf hsq hB hD hz bb6
    go_wp2_with fail
    refine ⟨by simp, .inl ⟨_, _, rfl, run_takeDeferred F.out.2.2.1, ?_⟩⟩
    obtain ⟨hBd, ht, hdf, hD, hz, bb6⟩ := F.out
    have hs6 := bb6.size
    refine ⟨_, results_none rfl _ _ _, rfl, ?_, ?_⟩
    · unfold Blk at hBd ⊢
      rw [World.putObj_heap_other (by omega)]
      exact hBd
    · exact ((tndr bb6).trans (ht.mono (fun k e => .inl e))).trans ((turned_grown (grownBy_putObj' W D (.deferred none)) (R := fun k => k = D) (fun k e => by cases e; rfl)).mono (fun k e => .inr (by subst e; omega)))
  case stop =>
    rintro D c pre W _ _ h _
    exact h.elim
end Go.Proofs.Ytjokohjdpickoaa

