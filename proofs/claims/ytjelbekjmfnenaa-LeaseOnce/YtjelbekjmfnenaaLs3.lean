/- The last round that is not above one: the queue's own call, and upTo. -/
import Derived.Test.YtjelbekjmfnenaaLs2
namespace Go.Proofs.Ytjelbekjmfnenaa
open Go.RowKit Go.Shelf
set_option linter.unusedVariables false
set_option maxRecDepth 4000
attribute [local go_sem] Oper.semAt_some

/-- nothing panics -/
def calm11 (Q : Exit → Act → World → Prop) : Exit → Act → World → Prop
  | .panic _, _, _ => False
  | .normal, a, w => Q .normal a w
  | .ret, a, w => Q .ret a w
  | .exit i, a, w => Q (.exit i) a w
  | .goto i, a, w => Q (.goto i) a w
  | .outgrown, a, w => Q .outgrown a w
theorem calm11_out {Q : Exit → Act → World → Prop} {e : Exit} {a : Act} {w : World} (h : calm11 Q e a w) : Q e a w := by
  cases e <;> first | exact h | exact h.elim
theorem blk_non {A : World} {k T' : Nat} {xs : List Value} {o : Obj} (hB : Blk A k T' xs) (ho : A.heap[k]? = some o) (hc : o.isCells = false) : False := by
  unfold Blk at hB
  rw [hB] at ho
  cases ho
  simp [Obj.isCells] at hc
/-- a block of cells stays while others turn -/
theorem blk_row {A B : World} {k T' : Nat} {xs : List Value} {row : Option Nat} (hB : Blk A k T' xs) (hg : A.grownBy B row) (hr : ∀ r, row = some r → ∃ o : Obj, A.heap[r]? = some o ∧ o.isCells = false) : Blk B k T' xs :=
  hB.grown hg (fun e => by obtain ⟨o, h1, h2⟩ := hr k e.symm; exact blk_non hB h1 h2)
/-- between two rounds: none was meant -/
structure LI (z r1 fb rb : Nat) (r : Int) (w : World) (pre : List (Int × Int × Int)) (W : World) : Prop where
  no : ∀ x ∈ pre, ¬ x.2.1 ≤ r
  fn : Blk W fb 111 [.func (.func 50) #[] #[.pointer (some ⟨rb, 0, none⟩)]]
  num : Blk W rb 2 [.int .i64 r]
  res : Blk W r1 72 [.int .i64 0, .int .i64 0]
  below : Below w.heap.size w W
  big : z ≤ W.heap.size
/-- a round has found one -/
structure LX (r1 : Nat) (r : Int) (w : World) (pre : List (Int × Int × Int)) (W : World) : Prop where
  found : ∃ ys x, pre = ys ++ [x] ∧ (∀ y ∈ ys, ¬ y.2.1 ≤ r) ∧ x.2.1 ≤ r ∧ Blk W r1 72 [.int .i64 x.2.1, .int .i64 x.2.2]
  below : Below w.heap.size w W
theorem li_own {z r1 fb rb B : Nat} {r : Int} {w : World} (hB : w.heap.size ≤ B) : OwnFrom B (fun pre W => LI z r1 fb rb r w pre W) := by
  rintro s X Y row ⟨h1, h2, h3, h4, h5, h6⟩ hg hr
  have hr' : ∀ r, row = some r → ∃ o : Obj, X.heap[r]? = some o ∧ o.isCells = false := fun r e => (hr r e).2
  exact ⟨h1, blk_row h2 hg hr', blk_row h3 hg hr', blk_row h4 hg hr', h5.grown hg h5.size (fun k e => Nat.le_trans hB (hr k e).1), Nat.le_trans h6 hg.size⟩
theorem lx_own {r1 B : Nat} {r : Int} {w : World} (hB : w.heap.size ≤ B) : OwnFrom B (fun pre W => LX r1 r w pre W) := by
  rintro s X Y row ⟨⟨ys, x, h1, h2, h3, h4⟩, h5⟩ hg hr
  have hr' : ∀ r, row = some r → ∃ o : Obj, X.heap[r]? = some o ∧ o.isCells = false := fun r e => (hr r e).2
  exact ⟨⟨ys, x, h1, h2, h3, blk_row h4 hg hr'⟩, h5.grown hg h5.size (fun k e => Nat.le_trans hB (hr k e).1)⟩
theorem lastOf_none {l : List (Int × Int)} {r : Int} {ys : List (Int × Int × Int)} (h : ys.map (·.2) = l.reverse) (hn : ∀ x ∈ ys, ¬ x.2.1 ≤ r) : lastOf l r = (0, 0) := by
  unfold lastOf
  rw [← h, List.find?_eq_none.2 ?_]
  · rfl
  · intro x hx
    obtain ⟨y, hy, rfl⟩ := List.mem_map.1 hx
    simpa using hn y hy
theorem lastOf_some {l : List (Int × Int)} {r : Int} {ys : List (Int × Int × Int)} {x : Int × Int × Int} (h : (ys ++ [x]).map (·.2) <+: l.reverse) (hn : ∀ y ∈ ys, ¬ y.2.1 ≤ r) (hx : x.2.1 ≤ r) : lastOf l r = x.2 := by
  obtain ⟨t, ht⟩ := h
  unfold lastOf
  rw [← ht, List.map_append, List.append_assoc, List.find?_append, List.find?_eq_none.2 ?_]
  · simp [hx]
  · intro z hz
    obtain ⟨y, hy, rfl⟩ := List.mem_map.1 hz
    simpa using hn y hy
set_option maxHeartbeats 4000000 in
theorem lslast_any (g : Nat) (q : Option Nat) (s : Int) (l : List (Int × Int)) (rb : Nat) (r : Int) (w : World) (h : (qu 70 72 g q [.int .i64 s] l).Ok w) (hl : l.length ≤ 1000) (hB : Blk w rb 2 [.int .i64 r]) :
    Calls Try.prog 49 #[.pointer (some ⟨g, 1, none⟩), .func (.func 50) #[] #[.pointer (some ⟨rb, 0, none⟩)]] w fun e w' => e = .returned (.agg #[.int .i64 (lastOf l r).1, .int .i64 (lastOf l r).2]) ∧ Below w.heap.size w w' := by
  obtain ⟨hn, v, hq, hG, ho⟩ := h.holds
  obtain ⟨w1, hw1⟩ : ∃ w1, (w.alloc (.cells #[.func (.func 50) #[] #[.pointer (some ⟨rb, 0, none⟩)]] 111)) = w1 := ⟨_, rfl⟩
  have B1 : Blk w1 w.heap.size 111 [.func (.func 50) #[] #[.pointer (some ⟨rb, 0, none⟩)]] := by rw [← hw1]; exact Blk.new' w _ _
  have b1 : Below w.heap.size w w1 := by rw [← hw1]; exact (Below.refl _ _).alloc (Nat.le_refl _) _
  have s1 : w1.heap.size = w.heap.size + 1 := by rw [← hw1]; simp
  obtain ⟨w2, hw2⟩ : ∃ w2, (w1.alloc (.cells #[.int .i64 0, .int .i64 0] 72)) = w2 := ⟨_, rfl⟩
  have B2 : Blk w2 w1.heap.size 72 [.int .i64 0, .int .i64 0] := by rw [← hw2]; exact Blk.new' w1 _ _
  have b2 : Below w1.heap.size w1 w2 := by rw [← hw2]; exact (Below.refl _ _).alloc (Nat.le_refl _) _
  have b12 := below_then b1 b2
  have hG2 := hG.laterB b12
  have c2 := blk_at hG2 1
  simp at c2
  obtain ⟨va, vc, hv, hvc, -⟩ := ho.open
  have F : Hid _ := And.intro (B1.laterB b2) (And.intro B2 (And.intro (hB.laterB b12) (And.intro b12 (And.intro (ho.later b12) s1))))
  clear B1 B2 hB b12 ho hG hG2 b1 b2 h hn
  refine (callsIn_wide (n := 9)).1 ?_
  refine callsIn_of_wp_marks Try.func49 rfl trivial ?_ rfl
  simp only [Try.ntmps49, List.size_toArray, List.length_cons, List.length_nil, Nat.reduceAdd, Nat.reduceSub, Array.replicate_succ, Array.replicate_zero, List.push_toArray, List.append_toArray, List.nil_append, List.cons_append]
  refine wpIn_wide.2 (wp_mono (Q := calm11 (bodyPostM Fence.wide 9 Try.prog Try.f49 fun e w' => e = .returned (.agg #[.int .i64 (lastOf l r).1, .int .i64 (lastOf l r).2]) ∧ Below w.heap.size w w')) ?_ (fun e a w h => calm11_out h))
  rw [hv] at c2
  subst hw2
  subst hw1
  go_wp2_with fail
  generalize w.alloc (.cells #[.func (.func 50) #[] #[.pointer (some ⟨rb, 0, none⟩)]] 111) = w1 at *
  generalize w1.alloc (.cells #[.int .i64 0, .int .i64 0] 72) = w2 at *
  refine (back_any va l.length vc w2).mono ?_
  rintro e x6 ⟨cb, rfl, hcb, Bc, b6⟩
  go_wp2_with fail
  obtain ⟨B1, B2, Br, b12, ho, s1⟩ := F.out
  have bb6 := below_then b12 b6
  have hz6 := bb6.size
  have ho6 := ho.later b6
  have hsq := back_stops 8 (by omega) cb v l x6 (by rw [hv]; exact Bc) ho6 hl
  have hks : ∀ k ∈ cb :: v.ownBlock.toList, k < x6.heap.size := by
    intro k hk
    simp only [List.mem_cons, Option.mem_toList] at hk
    rcases hk with rfl | hk
    · exact Bc.lt
    · exact ho6.lt k hk
  have B16 := B1.laterB b6
  have B26 := B2.laterB b6
  have Br6 := Br.laterB b6
  rw [s1] at B26
  refine (wpIn_wide (n := 9)).1 ?_
  refine wpIn_rangeFunc_ownH rfl (by omega) (gf := 60) (lb := #[.pointer (some ⟨cb, 0, none⟩)]) rfl trivial (enters_of Try.func60 (by kernel_rfl) rfl) hsq (fun h k => h.t k) (fun W l' o o' hl' h _ _ k hk => World.putObj_heap_other (by have := hks k hk; omega)) (Below.refl _ _) (fun _ => rfl)
    (fun pre W => LI x6.heap.size (w.heap.size + 1) w.heap.size rb r w pre W) (fun c pre W => c = .ret ∧ LX (w.heap.size + 1) r w pre W) (li_own hz6)
    (fun c s X Y row hs hg hr => ⟨hs.1, lx_own hz6 s X Y row hs.2 hg hr⟩) ⟨(fun x hx => by cases hx), B16, Br6, B26, bb6, Nat.le_refl _⟩
    (fun x a' W => ∃ Bx, x6.heap.size ≤ Bx ∧ Blk W Bx 72 [.int .i64 x.2.1, .int .i64 x.2.2] ∧ a' = { tmps := #[.pointer (some ⟨g, 1, none⟩), .func (.func 50) #[] #[.pointer (some ⟨rb, 0, none⟩)], undef, .pointer (some ⟨w.heap.size, 0, none⟩), .pointer (some ⟨w.heap.size + 1, 0, none⟩), undef, .pointer (some ⟨Bx, 0, none⟩), undef, .pointer (some ⟨g, 1, none⟩), .pointer (some ⟨g, 1, none⟩), .pointer (some ⟨g, 1, none⟩), .slice va l.length vc, .func (.func 60) #[] #[.pointer (some ⟨cb, 0, none⟩)], .int .i64 x.1, .agg #[.int .i64 x.2.1, .int .i64 x.2.2], undef, undef, undef, undef, undef], defers := [] })
    (fun x a' s X Y row hs hg hr => by obtain ⟨Bx, h1, h2, h3⟩ := hs; exact ⟨Bx, h1, blk_row h2 hg (fun r e => (hr r e).2), h3⟩) ?assign ?body ?done ?stop
  case assign =>
    rintro l' pre x W K hi hK
    simp only [encS]
    have N := Blk.new' W 72 [.int .i64 x.2.1, .int .i64 x.2.2]
    have bn : Below W.heap.size W (W.alloc (.cells #[.int .i64 x.2.1, .int .i64 x.2.2] 72)) := (Below.refl _ _).alloc (Nat.le_refl _) _
    have HN : Hid _ := And.intro N bn
    clear N bn
    gi_wp2
    exact hK _ _ ((KeepsOthers.alloc _ _).from _) (KeepL.below HN.out.2 (fun k hk => Nat.lt_of_lt_of_le (hks k hk) hi.big)) ⟨hi.no, hi.fn.laterB HN.out.2, hi.num.laterB HN.out.2, hi.res.laterB HN.out.2, below_then hi.below HN.out.2, Nat.le_trans hi.big HN.out.2.size⟩ ⟨W.heap.size, hi.big, HN.out.1, rfl⟩
  case body =>
    rintro l' pre x a' W hl' ⟨rr, hrr⟩ hI ⟨Bx, hBx, BX, rfl⟩ hlt
    have kf := hI.fn.cell (by simp [maxLen]) 0 (by simp)
    have kx0 := blk_at BX 0
    have kx1 := blk_at BX 1
    have kr := hI.num.cell (by simp [maxLen]) 0 (by simp)
    have HU := upTo1_any x.2.1 x.2.2 r rb W (by simpa using kr)
    simp only [List.getElem?_cons_zero, List.getElem?_cons_succ] at kf kx0 kx1
    have hx1 : w.heap.size + 1 < x6.heap.size := by have := B26.lt; omega
    by_cases hx : x.2.1 ≤ r
    · rw [decide_eq_true hx] at HU
      gi_wp2
      refine ⟨trivial, (CallsIn.inRound l' (callsIn_wide.2 HU)).mono ?_⟩
      rintro e W2 ⟨rfl, bu⟩
      have R2 := hI.res.laterB bu
      have r0 := blk_at R2 0
      have r1 := blk_at R2 1
      have f0 := blk_frozen R2 0
      have f1 := blk_frozen R2 1
      have y0 := cell_later bu kx0
      have y1 := cell_later bu kx1
      simp only [List.getElem?_cons_zero, List.getElem?_cons_succ] at r0 r1
      have R3 := (R2.set 0 (.int .i64 x.2.1)).set 1 (.int .i64 x.2.2)
      simp only [List.set_cons_zero, List.set_cons_succ] at R3
      have b3 : Below w.heap.size w ((W2.setCell ⟨w.heap.size + 1, 0, none⟩ (.int .i64 x.2.1)).setCell ⟨w.heap.size + 1, 1, none⟩ (.int .i64 x.2.2)) := ((below_then hI.below bu).setCell (p := ⟨w.heap.size + 1, 0, none⟩) (by simp) _).setCell (p := ⟨w.heap.size + 1, 1, none⟩) (by simp) _
      have kp : KeepsFrom x6.heap.size W ((W2.setCell ⟨w.heap.size + 1, 0, none⟩ (.int .i64 x.2.1)).setCell ⟨w.heap.size + 1, 1, none⟩ (.int .i64 x.2.2)) := by
        refine ⟨by have := bu.size; simp [World.setCell]; exact this, fun k o hk hko hc => ?_⟩
        rw [Below.heap_setCell _ _ _ _ (show k ≠ w.heap.size + 1 by omega), Below.heap_setCell _ _ _ _ (show k ≠ w.heap.size + 1 by omega), bu.block k (Array.getElem?_eq_some_iff.1 hko).1]
        exact hko
      have G : Hid _ := And.intro R3 (And.intro b3 (And.intro kp hI))
      clear R2 R3 b3 kp hI HU bu BX kf kr hrr
      gi_wp2
      exact ⟨G.out.2.2.1, rfl, ⟨⟨pre, x, rfl, G.out.2.2.2.no, hx, G.out.1⟩, G.out.2.1⟩⟩
    · rw [decide_eq_false hx] at HU
      gi_wp2
      refine ⟨trivial, (CallsIn.inRound l' (callsIn_wide.2 HU)).mono ?_⟩
      rintro e W2 ⟨rfl, bu⟩
      have G : Hid _ := And.intro hI bu
      clear HU bu hI BX kf kr
      gi_wp2
      obtain ⟨hI, bu⟩ := G.out
      refine ⟨⟨bu.size, fun k o hk hko hc => by rw [bu.block k (Array.getElem?_eq_some_iff.1 hko).1]; exact hko⟩, KeepL.below bu (fun k hk => Nat.lt_of_lt_of_le (hks k hk) hI.big), ⟨?_, hI.fn.laterB bu, hI.num.laterB bu, hI.res.laterB bu, below_then hI.below bu, Nat.le_trans hI.big bu.size⟩⟩
      intro y hy
      rcases List.mem_append.1 hy with hy | hy
      · exact hI.no y hy
      · rw [List.mem_singleton.1 hy]; omega
  case done =>
    rintro D ys W hD hys hI hdf
    have hl0 : Hid _ := lastOf_none hys hI.no
    have bn : Below W.heap.size W (W.alloc (.cells #[.int .i64 0, .int .i64 0] 72)) := (Below.refl _ _).alloc (Nat.le_refl _) _
    have R2 := hI.res.laterB bn
    have r0 := blk_at R2 0
    have r1 := blk_at R2 1
    have f0 := blk_frozen R2 0
    have f1 := blk_frozen R2 1
    simp only [List.getElem?_cons_zero, List.getElem?_cons_succ] at r0 r1
    have hDl : D < W.heap.size := (Array.getElem?_eq_some_iff.1 hdf).1
    have hd2 := (bn.block D hDl).trans hdf
    have G : Hid _ := And.intro hI.below (And.intro bn (And.intro hd2 (And.intro hD (And.intro hz6 R2))))
    clear hI bn hd2 hD R2 hsq hdf hys
    go_wp2_with fail
    obtain ⟨hb, bn, hd2, hD, hz6, R2⟩ := G.out
    have R3 := (R2.set 0 (.int .i64 0)).set 1 (.int .i64 0)
    simp only [List.set_cons_zero, List.set_cons_succ] at R3
    have hD1 : D ≠ w.heap.size + 1 := by have := B26.lt; omega
    have hd3 : (((W.alloc (.cells #[.int .i64 0, .int .i64 0] 72)).setCell ⟨w.heap.size + 1, 0, none⟩ (.int .i64 0)).setCell ⟨w.heap.size + 1, 1, none⟩ (.int .i64 0)).heap[D]? = some (.deferred (some [])) := by
      rw [Below.heap_setCell _ _ _ _ hD1, Below.heap_setCell _ _ _ _ hD1]; exact hd2
    have b3 : Below w.heap.size w (((W.alloc (.cells #[.int .i64 0, .int .i64 0] 72)).setCell ⟨w.heap.size + 1, 0, none⟩ (.int .i64 0)).setCell ⟨w.heap.size + 1, 1, none⟩ (.int .i64 0)) := ((below_then hb bn).setCell (p := ⟨w.heap.size + 1, 0, none⟩) (by simp) _).setCell (p := ⟨w.heap.size + 1, 1, none⟩) (by simp) _
    generalize ((W.alloc (.cells #[.int .i64 0, .int .i64 0] 72)).setCell ⟨w.heap.size + 1, 0, none⟩ (.int .i64 0)).setCell ⟨w.heap.size + 1, 1, none⟩ (.int .i64 0) = V at *
    refine ⟨by simp, .inl ⟨_, _, rfl, run_takeDeferred hd3, ?_⟩⟩
    have R4 : Blk (V.putObj D (.deferred none)) (w.heap.size + 1) 72 [.int .i64 0, .int .i64 0] := by unfold Blk at *; rw [World.putObj_heap_other (Ne.symm hD1)]; exact R3
    have z0 := blk_at R4 0
    have z1 := blk_at R4 1
    simp only [List.getElem?_cons_zero, List.getElem?_cons_succ] at z0 z1
    refine ⟨.agg #[.int .i64 0, .int .i64 0], by simp [results, Try.results49, go_sem, z0, z1], by rw [hl0.out], b3.trans (belowK_b (w := w) (Nat.le_refl _) V D _ _ (Nat.le_trans hz6 hD) hd3 rfl rfl)⟩
  case stop =>
    rintro D c pre W hD hSp ⟨rfl, ⟨⟨ys, x, rfl, hno, hx, R3⟩, b3⟩⟩ hdf
    have hl0 : Hid _ := lastOf_some hSp hno hx
    have hD1 : D ≠ w.heap.size + 1 := by have := B26.lt; omega
    have G : Hid _ := And.intro R3 (And.intro b3 (And.intro hD hdf))
    clear R3 b3 hD hdf hsq hSp hno
    gi_wp2
    obtain ⟨R3, b3, hD, hdf⟩ := G.out
    refine ⟨by simp, .inl ⟨_, _, rfl, run_takeDeferred hdf, ?_⟩⟩
    have R4 : Blk (W.putObj D (.deferred none)) (w.heap.size + 1) 72 [.int .i64 x.2.1, .int .i64 x.2.2] := by unfold Blk at *; rw [World.putObj_heap_other (Ne.symm hD1)]; exact R3
    have z0 := blk_at R4 0
    have z1 := blk_at R4 1
    simp only [List.getElem?_cons_zero, List.getElem?_cons_succ] at z0 z1
    refine ⟨.agg #[.int .i64 x.2.1, .int .i64 x.2.2], by simp [results, Try.results49, go_sem, z0, z1], by rw [hl0.out], b3.trans (belowK_b (w := w) (Nat.le_refl _) W D _ _ (Nat.le_trans hz6 hD) hdf rfl rfl)⟩
end Go.Proofs.Ytjelbekjmfnenaa
