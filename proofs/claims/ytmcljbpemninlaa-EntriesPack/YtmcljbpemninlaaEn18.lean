/- The runs of a log, gathered. -/
import Derived.Test.YtmcljbpemninlaaEn17
namespace Go.Proofs.Ytmcljbpemninlaa
open Go.RowKit Go.Shelf
set_option linter.unusedVariables false
set_option maxRecDepth 4000
attribute [local go_sem] Oper.semAt_some

/-- runs as cells -/
def rcells (l : List (Int × Int)) : List Value := l.flatMap (fun r => [.int .i64 r.1, .int .i64 r.2])
theorem rcells_snoc (l : List (Int × Int)) (r : Int × Int) : rcells (l ++ [r]) = rcells l ++ [.int .i64 r.1, .int .i64 r.2] := by unfold rcells; rw [List.flatMap_append]; simp
theorem rcells_at (l : List (Int × Int)) (i : Nat) (hi : i < l.length) : (rcells l)[i * 2]? = some (.int .i64 l[i].1) ∧ (rcells l)[i * 2 + 1]? = some (.int .i64 l[i].2) := by
  induction l generalizing i with
  | nil => simp at hi
  | cons h l ih =>
    unfold rcells at *
    rw [List.flatMap_cons]
    cases i with
    | zero => simp
    | succ i =>
      have := ih i (by simpa using hi)
      rw [List.getElem?_append_right (by simp; omega), List.getElem?_append_right (by simp; omega)]
      have e1 : (i + 1) * 2 - [Value.int .i64 h.1, Value.int .i64 h.2].length = i * 2 := by simp; omega
      have e2 : (i + 1) * 2 + 1 - [Value.int .i64 h.1, Value.int .i64 h.2].length = i * 2 + 1 := by simp; omega
      rw [e1, e2, this.1, this.2]
      simp
/-- runs of the call's own -/
def RnOwn (w : World) (base : Nat) (v : Value) (l : List (Int × Int)) : Prop := w.ownsRow base 75 2 v l.length (rcells l)
theorem RnOwn.later {w w' : World} {base : Nat} {v : Value} {l : List (Int × Int)} (h : RnOwn w base v l) (hb : Below w.heap.size w w') : RnOwn w' base v l :=
  World.ownsRow.kept h (row := none) ⟨hb.os, hb.tape, hb.output, hb.size, fun k hk _ => hb.block k hk⟩ (by cases hv : v.ownBlock <;> simp)
theorem RnOwn.open {w : World} {base : Nat} {v : Value} {l : List (Int × Int)} (h : RnOwn w base v l) : ∃ a c, v = .slice a l.length c ∧ l.length ≤ c ∧ ∀ i (hi : i < l.length), ∃ b, a = some ⟨b, 0, none⟩ ∧ w.cell? ⟨b, i * 2, none⟩ = some (.int .i64 l[i].1) ∧ w.cell? ⟨b, i * 2 + 1, none⟩ = some (.int .i64 l[i].2) := by
  have h0 := h
  obtain ⟨h1, ⟨h2, h3⟩ | ⟨g, cap, cur, rfl, hb, hh, hc, hm, hs, ht⟩⟩ := h
  · exact ⟨none, 0, by rw [h2, h3], by omega, fun i hi => by omega⟩
  · refine ⟨_, cap, rfl, hc, fun i hi => ⟨g, rfl, ?_, ?_⟩⟩
    · rw [World.ownsRow.cellAt h0 _ (by omega)]; exact (rcells_at l i hi).1
    · rw [World.ownsRow.cellAt h0 _ (by omega)]; exact (rcells_at l i hi).2
theorem info_rn : (Try.prog.info? 75).map (fun i => (i.zero, i.size, i.bytes)) = some (some (.agg #[.int .i64 0, .int .i64 0]), 2, 16) := by kernel_rfl
/-- nothing panics -/
def calm9 (Q : Exit → Act → World → Prop) : Exit → Act → World → Prop
  | .panic _, _, _ => False
  | .normal, a, w => Q .normal a w
  | .ret, a, w => Q .ret a w
  | .exit i, a, w => Q (.exit i) a w
  | .goto i, a, w => Q (.goto i) a w
  | .outgrown, a, w => Q .outgrown a w
theorem calm9_out {Q : Exit → Act → World → Prop} {e : Exit} {a : Act} {w : World} (h : calm9 Q e a w) : Q e a w := by
  cases e <;> first | exact h | exact h.elim
theorem blk_non {A : World} {k T' : Nat} {xs : List Value} {o : Obj} (hB : Blk A k T' xs) (ho : A.heap[k]? = some o) (hc : o.isCells = false) : False := by
  unfold Blk at hB
  rw [hB] at ho
  cases ho
  simp [Obj.isCells] at hc
theorem seq9_not_nil (w : World) (f : Fn) (x y : Array Value) : (binOp .eql 100 (.func f x y) .nilFunc).run Try.prog w = .ok (.bool false) w := by kernel_rfl
/-- between two rounds -/
structure RI (q base : Nat) (w : World) (pre : List (Int × Int)) (W : World) : Prop where
  ex : ∃ v, Blk W q 69 [v] ∧ RnOwn W base v pre
  below : Below w.heap.size w W
  base_w : base ≤ W.heap.size
theorem ri_own {q base : Nat} {w : World} (hz : w.heap.size ≤ base) : OwnFrom base (fun pre W => RI q base w pre W) := by
  rintro s A B row ⟨⟨v, hB, ho⟩, hb, hbase⟩ hg hr
  have ht : Turned (fun k => row = some k) A B := turned_grown hg (fun k e => e)
  refine ⟨⟨v, hB.turned ht (fun e => ?_), ?_⟩, hb.grown hg hb.size (fun k e => Nat.le_trans hz (hr k e).1), Nat.le_trans hbase hg.size⟩
  · obtain ⟨_, o, ho', hc⟩ := hr _ e; exact blk_non hB ho' hc
  · refine World.ownsRow.kept ho hg ?_
    cases hv : v.ownBlock with
    | none => exact .inl rfl
    | some k =>
      refine .inr (fun e => ?_)
      obtain ⟨_, o, ho', hc⟩ := hr k e.symm
      obtain ⟨_, ⟨rfl, _⟩ | ⟨g', cap, cur, rfl, hb', hh, r⟩⟩ := ho
      · cases hv
      · cases hv
        rw [hh] at ho'; cases ho'
        simp [Obj.isCells] at hc
/-- a round that goes on -/
def round9 (R : World → Prop) : Exit → Act → World → Prop
  | .normal, _, W' => R W'
  | _, _, _ => False
set_option maxHeartbeats 4000000 in
theorem lawruns9 (p : Option Addr) (L : List (Int × Int)) (w : World) (hLl : L.length ≤ 5000)
    (hseq : ∀ (x6 : World) (c : Nat), Below w.heap.size w x6 → w.heap.size < c → Blk x6 c 65 [.pointer p] → ∃ ks : List Nat, (∀ k ∈ ks, k < x6.heap.size ∧ k ≠ w.heap.size) ∧ SeqStopsK Fence.wide 8 Try.prog 86 #[.pointer (some ⟨c, 0, none⟩)] encI (KeepL ks) (fun ys => ys = L) (fun _ => True) L.length x6) :
    Calls Try.prog 36 #[.pointer p] w fun e w' => ∃ v, e = .returned v ∧ RnOwn w' w.heap.size v L ∧ Below w.heap.size w w' := by
  have B1 : Blk (w.alloc (.cells #[.slice none 0 0] 69)) w.heap.size 69 [.slice none 0 0] := Blk.new' w _ _
  have b1 : Below w.heap.size w (w.alloc (.cells #[.slice none 0 0] 69)) := (Below.refl _ _).alloc (Nat.le_refl _) _
  have s1 : (w.alloc (.cells #[.slice none 0 0] 69)).heap.size = w.heap.size + 1 := by simp
  have F0 : Hid _ := And.intro B1 (And.intro b1 s1)
  have HS : Hid _ := hseq
  clear B1 b1 s1 hseq
  refine (callsIn_wide (n := 9)).1 ?_
  refine callsIn_of_wp_marks Try.func36 rfl trivial ?_ rfl
  simp only [Try.ntmps36, List.size_toArray, List.length_cons, List.length_nil, Nat.reduceAdd, Nat.reduceSub, Array.replicate_succ, Array.replicate_zero, List.push_toArray, List.append_toArray, List.nil_append, List.cons_append]
  refine wpIn_wide.2 (wp_mono (Q := calm9 (bodyPostM Fence.wide 9 Try.prog Try.f36 fun e w' => ∃ v, e = .returned v ∧ RnOwn w' w.heap.size v L ∧ Below w.heap.size w w')) ?_ (fun e a w h => calm9_out h))
  go_wp2_with fail
  generalize w.alloc (.cells #[.slice none 0 0] 69) = w1 at *
  refine (enRuns_any p w1).mono ?_
  rintro e x6 ⟨cb, rfl, hcb, Bc, b6⟩
  have hsn := seq9_not_nil x6
  go_wp2_with fail
  have B6 := F0.out.1.laterB b6
  have bb6 := below_then F0.out.2.1 b6
  have hz6 := bb6.size
  have hs1 := F0.out.2.2
  have hq6 : w.heap.size < x6.heap.size := by have := b6.size; omega
  obtain ⟨ks, hks, hsq⟩ := HS.out x6 cb bb6 (by omega) Bc
  refine (wpIn_wide (n := 9)).1 ?_
  refine wpIn_rangeFunc_ownG rfl (by omega) (gf := 86) (lb := #[.pointer (some ⟨cb, 0, none⟩)]) rfl trivial (enters_of Try.func86 (by kernel_rfl) rfl) hsq (fun h k => h.t k) (fun W l o o' hl h _ _ k hk => World.putObj_heap_other (by have := (hks k hk).1; omega)) (Below.refl _ _) (fun _ => rfl) (fun pre W => RI w.heap.size x6.heap.size w pre W) (fun _ _ _ => False)
    (ri_own hz6)
    (fun _ _ _ _ _ hs _ _ => hs) ⟨⟨_, B6, World.ownsRow_nil _ _ _ _⟩, bb6, Nat.le_refl _⟩ (fun x => { tmps := #[.pointer p, undef, .slice none 0 0, .pointer (some ⟨w.heap.size, 0, none⟩), .func (.func 86) #[] #[.pointer (some ⟨cb, 0, none⟩)], .int .i64 x.1, .int .i64 x.2, .pointer p, .func (.func 86) #[] #[.pointer (some ⟨cb, 0, none⟩)], .func (.func 86) #[] #[.pointer (some ⟨cb, 0, none⟩)], .bool false, .func (.func 86) #[] #[.pointer (some ⟨cb, 0, none⟩)], .int .i64 x.1, .int .i64 x.2, undef, undef, undef, undef, undef, undef, undef], defers := [] }) ?assign ?body ?done ?stop
  case assign =>
    intro l x W K hK
    simp only [encI]
    gi_wp2
    exact hK
  case body =>
    rintro l pre ⟨xa, xt⟩ W ⟨⟨v, hB, ho⟩, hb, hbase⟩ hlt
    refine wpIn_mono (Q := round9 (fun W' => KeepsFrom x6.heap.size W W' ∧ KeepL ks W W' ∧ RI w.heap.size x6.heap.size w (pre ++ [(xa, xt)]) W')) ?_ ?_
    rotate_left
    · rintro e a W' h
      cases e <;> first | exact h.elim | exact h
    have c0 := hB.cell (by simp [maxLen]) 0 (by simp)
    simp only [List.getElem?_cons_zero] at c0
    have bx : Below W.heap.size W (W.alloc (.cells #[.int .i64 xa, .int .i64 xt] 75)) := (Below.refl _ _).alloc (Nat.le_refl _) _
    have BX : Blk (W.alloc (.cells #[.int .i64 xa, .int .i64 xt] 75)) W.heap.size 75 [.int .i64 xa, .int .i64 xt] := Blk.new' W _ _
    have hox := RnOwn.later ho bx
    have hBx := hB.laterB bx
    have hbx := below_then hb bx
    have hbs : x6.heap.size ≤ (W.alloc (.cells #[.int .i64 xa, .int .i64 xt] 75)).heap.size := Nat.le_trans hbase bx.size
    obtain ⟨i0, hi, hz0, hz1, hz2⟩ := info_parts info_rn
    have hnews : ∀ j u, [Value.int .i64 xa, .int .i64 xt][j]? = some u → (W.alloc (.cells #[.int .i64 xa, .int .i64 xt] 75)).cell? ((⟨W.heap.size, 0, none⟩ : Addr).add j) = some u := by
      intro j u hj
      have hjl : j < 2 := by
        rcases Nat.lt_or_ge j 2 with h | h
        · exact h
        · rw [List.getElem?_eq_none (by simpa using h)] at hj; cases hj
      have e1 : (⟨W.heap.size, 0, none⟩ : Addr).add j = ⟨W.heap.size, j, none⟩ := by unfold Addr.add; split <;> simp_all
      rw [e1, BX.cell (by simp [maxLen]) j (by simpa using hjl)]; exact hj
    have H0 : Hid _ := And.intro hox (And.intro hnews (And.intro hBx (And.intro hbx (And.intro hbs (And.intro bx (And.intro hbase ho))))))
    clear hox hnews hBx hbx hbs bx ho hb hB BX
    gi_wp2_with (gi_at_builtin; refine wpListIn_append_own _ rfl _ _ 69 rfl x6.heap.size 75 i0 (.agg #[.int .i64 0, .int .i64 0]) 2 16 Try.underlying69 hi hz0 hz1 hz2 rfl (by decide) v pre.length (rcells pre) rfl H0.out.1 ⟨W.heap.size, 0, none⟩ 1 1 [.int .i64 xa, .int .i64 xt] rfl rfl H0.out.2.1 (by intro u hu; simp only [List.mem_cons, List.not_mem_nil, or_false] at hu; rcases hu with rfl | rfl <;> rfl) (by unfold maxLen; omega) (by omega) H0.out.2.2.2.2.1 ?_)
    intro v' w7 ho7 hg7 _
    obtain ⟨va, vn, vc, rfl⟩ : ∃ va vn vc, v' = .slice va vn vc := by
      obtain ⟨_, ⟨rfl, _⟩ | ⟨g', cap, cur, rfl, _⟩⟩ := ho7
      · exact ⟨_, _, _, rfl⟩
      · exact ⟨_, _, _, rfl⟩
    obtain ⟨v', hv'⟩ : ∃ v', v' = Value.slice va vn vc := ⟨_, rfl⟩
    rw [← hv'] at ho7
    obtain ⟨hox, hnews, hBx, hbx, hbs, bx, hbase, ho⟩ := H0.out
    have hlt' := World.ownsRow.lt ho
    have hne : v.ownBlock ≠ some w.heap.size := fun e => by have := (hlt' _ e).1; omega
    have ht7 : Turned (fun k => v.ownBlock = some k) _ w7 := turned_grown hg7 (fun k e => e)
    have hB7 := hBx.turned ht7 hne
    have hb7 : Below w.heap.size w w7 := hbx.grown hg7 hbx.size (fun k e => Nat.le_trans hz6 (hlt' k e).1)
    obtain ⟨e7, f7⟩ : w7.cell? ⟨w.heap.size, 0, none⟩ = some v ∧ w7.frozen? ⟨w.heap.size, 0, none⟩ = false := ⟨by have := hB7.cell (by simp [maxLen]) 0 (by simp); simpa using this, hB7.frozen (by simp [maxLen]) 0⟩
    have hB8 := hB7.set 0 v'
    have hne' : v'.ownBlock ≠ some w.heap.size := fun e => by have := (World.ownsRow.lt ho7 _ e).1; omega
    have ho8 : RnOwn (w7.setCell ⟨w.heap.size, 0, none⟩ v') x6.heap.size v' (pre ++ [(xa, xt)]) := by
      unfold RnOwn
      rw [rcells_snoc, List.length_append]
      exact World.ownsRow.kept ho7 (grown_set w7 w.heap.size 0 v') (.inr hne')
    have hb8 : Below w.heap.size w (w7.setCell ⟨w.heap.size, 0, none⟩ v') := hb7.trans (grown_below (grown_set w7 w.heap.size 0 v') _ (Nat.le_refl _) hb7.size)
    have hlater : ∀ k, k < W.heap.size → k ≠ w.heap.size → v.ownBlock ≠ some k → (w7.setCell ⟨w.heap.size, 0, none⟩ v').heap[k]? = W.heap[k]? := by
      intro k hk h1 h2
      rw [Below.heap_setCell _ _ _ _ h1, hg7.block k (Nat.lt_of_lt_of_le hk bx.size) (fun e => h2 e.symm), bx.block k hk]
    have hKF : KeepsFrom x6.heap.size W (w7.setCell ⟨w.heap.size, 0, none⟩ v') := by
      refine ⟨Nat.le_trans bx.size (Nat.le_trans hg7.size (by simp [World.setCell])), fun k o hk hko hc => ?_⟩
      rw [hlater k (Array.getElem?_eq_some_iff.1 hko).1 (by omega) (fun e => ?_)]
      · exact hko
      · obtain ⟨_, ⟨rfl, _⟩ | ⟨g', cap, cur, rfl, hb', hh, r⟩⟩ := ho
        · cases e
        · cases e
          rw [hh] at hko; cases hko
          simp [Obj.isCells] at hc
    have hKL : KeepL ks W (w7.setCell ⟨w.heap.size, 0, none⟩ v') := by
      intro k hk
      have := hks k hk
      exact hlater k (by omega) this.2 (fun e => by have := (hlt' k e).1; omega)
    rw [hv'] at hKF hKL hB8 ho8 hb8
    have F : Hid _ := And.intro hKF (And.intro hKL (RI.mk ⟨_, by simpa using hB8, ho8⟩ hb8 (by have := hKF.size; omega)))
    clear hox hnews hBx hbx hbs bx ho hlt' hne ht7 hB7 hb7 hB8 hne' ho8 hb8 hlater hKF hKL ho7 hg7 H0 c0 hv' v'
    gi_wp2
    exact F.out
  case done =>
    rintro D ys W hD hys ⟨⟨v, hB, ho⟩, hb, hbase⟩ hdf
    have c1 := hB.cell (by simp [maxLen]) 0 (by simp)
    simp only [List.getElem?_cons_zero] at c1
    subst hys
    have hDv : ∀ k, v.ownBlock = some k → k ≠ D := by
      rintro k hk rfl
      obtain ⟨_, ⟨rfl, _⟩ | ⟨g', cap, cur, rfl, hb', hh, r⟩⟩ := ho
      · cases hk
      · cases hk
        rw [hh] at hdf; cases hdf
    have F : Hid _ := And.intro hb (And.intro hdf (And.intro hD (And.intro hz6 (And.intro ho hDv))))
    clear hb hdf hsq hB hD ho hDv
    go_wp2_with fail
    refine ⟨by simp, .inl ⟨_, _, rfl, run_takeDeferred F.out.2.1, ?_⟩⟩
    obtain ⟨hb, hdf, hD, hz6, ho, hDv⟩ := F.out
    refine ⟨_, results_tmp rfl _ _ _, v, rfl, ?_, hb.trans (belowK_b (w := w) (Nat.le_refl _) W D _ _ (Nat.le_trans hz6 hD) hdf rfl rfl)⟩
    obtain ⟨h1, h2 | ⟨g', cap, cur, rfl, hb', hh, r⟩⟩ := ho
    · exact ⟨h1, .inl h2⟩
    · exact ⟨h1, .inr ⟨g', cap, cur, rfl, Nat.le_trans hz6 hb', by rw [World.putObj_heap_other (hDv g' rfl)]; exact hh, r⟩⟩
  case stop =>
    rintro D c pre W _ _ h _
    exact h.elim
end Go.Proofs.Ytmcljbpemninlaa
