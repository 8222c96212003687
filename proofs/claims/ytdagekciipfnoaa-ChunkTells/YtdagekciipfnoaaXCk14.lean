/- Missing. -/
import Derived.Test.YtdagekciipfnoaaXCk13
namespace Go.Proofs.Ytdagekciipfnoaa
open Go.RowKit Go.Shelf
set_option linter.unusedVariables false
set_option linter.unusedSimpArgs false
set_option maxRecDepth 4000
attribute [local go_sem] Oper.semAt_some

/-- the numbers, below k, of what is not there -/
def mis (bs : List Bool) (k : Nat) : List Int := ((List.range k).filter (fun i => bs[i]? == some false)).map (fun i : Nat => (i : Int))
theorem mis_succ (bs : List Bool) (k : Nat) : mis bs (k + 1) = mis bs k ++ (if bs[k]? = some false then [(k : Int)] else []) := by
  unfold mis
  rw [List.range_succ, List.filter_append, List.map_append]
  congr 1
  by_cases h : bs[k]? = some false
  · simp [h]
  · simp [h]
theorem mis_len (bs : List Bool) (k : Nat) : (mis bs k).length ≤ k := by
  unfold mis
  rw [List.length_map]
  have := List.length_filter_le (fun i => bs[i]? == some false) (List.range k)
  rw [List.length_range] at this
  exact this
set_option maxHeartbeats 4000000 in
theorem missing_raw (g t : Nat) (bs : List Bool) (c0 c1 c3 c4 c5 c6 c7 c8 c9 : Value) (w : World) (hG : Blk w g 67 [c0, c1, .slice (some ⟨t, 0, none⟩) bs.length bs.length, c3, c4, c5, c6, c7, c8, c9]) (hB : Blk w t 4 (bs.map .bool)) (hl : bs.length ≤ 1000) :
    Calls Try.prog 28 #[.pointer (some ⟨g, 0, none⟩)] w fun e w' => RdSeq w w' e (mis bs bs.length) ∧ Below w.heap.size w w' := by
  have HA : Hid (∀ k (h : k < bs.length) W, Below w.heap.size w W → W.cell? ⟨t, k, none⟩ = some (.bool bs[k])) := fun k h W hW => by rw [blk_at (hB.laterB hW) k, List.getElem?_map, List.getElem?_eq_getElem h]; rfl
  have y2 := blk_at hG 2
  simp only [List.getElem?_cons_zero, List.getElem?_cons_succ] at y2
  clear hB hG
  go_enter Try.func28, Try.ntmps28
  go_wp2_with fail
  clear y2
  go_loopw [3, 14] (fun lv iv wr => ∃ (k : Nat), iv = .int .i64 k ∧ k ≤ bs.length ∧ NuI w wr lv (mis bs k)) (fun _ iv _ => bs.length - (intOf iv).toNat)
  case atStart => exact ⟨0, rfl, by omega, NOwn.nil _, (fun b hb => by cases hb), Below.refl _ _⟩
  case round =>
    obtain ⟨k, rfl, hk, hI⟩ := hrel
    obtain ⟨ta, tc, htv, -, -, -⟩ := hI.own.open
    by_cases hlt : k < bs.length
    · have k1 := HA.out k hlt wr hI.below
      have q1 : (k : Int) < bs.length := by omega
      have hms := mis_succ bs k
      have hml := mis_len bs k
      rw [List.getElem?_eq_getElem hlt] at hms
      generalize bs[k] = x at *
      generalize hKt : mis bs k = Kt at *
      cases x with
      | true =>
        have HR : Hid _ := And.intro hI hms
        clear hI hms hKt
        rw [htv]
        go_wp2
        go_roundw
        case rel =>
          refine ⟨k + 1, by go_num, by omega, ?_⟩
          rw [HR.out.2, if_neg (by simp), List.append_nil, ← htv]
          exact HR.out.1
        case measure => simp [intOf]; omega
      | false =>
        have bn : Below wr.heap.size wr (wr.alloc (.cells #[.int .i64 k] 3)) := (Below.refl _ _).alloc (Nat.le_refl _) _
        have HN : Hid _ := And.intro (hI.later bn) (And.intro (Blk.new' wr 3 [.int .i64 k]) hms)
        have hul : Kt.length ≤ 1000000 := by omega
        clear hI bn hms hKt
        rw [htv]
        go_wp2_with (at_builtin; refine wpList_append_num _ rfl _ _ rfl _ Kt rfl (by rw [← htv]; exact HN.out.1.own) wr.heap.size k rfl HN.out.2.1 hul ?_)
        intro v' w5 ho5 hg5 hor5
        have R := HN.out.1.put ho5 (by rw [htv]; exact hg5) (by rw [htv, World.size_alloc]; exact hor5)
        obtain ⟨a', c', hv', -, -, -⟩ := ho5.open
        have HR : Hid _ := And.intro R HN.out.2.2
        clear R ho5 hg5 hor5 HN
        rw [hv']
        go_wp2
        go_roundw
        case rel =>
          refine ⟨k + 1, by go_num, by omega, ?_⟩
          rw [HR.out.2, if_pos (by trivial), ← hv']
          exact HR.out.1
        case measure => simp [intOf]; omega
    · obtain rfl : k = bs.length := by omega
      have HV : Hid _ := vals_any ta (mis bs bs.length).length tc wr
      rw [← htv] at HV
      have HI : Hid _ := And.intro hI htv
      clear hI HA
      rw [htv] at HV ⊢
      generalize (mis bs bs.length).length = N at *
      go_wp2_with fail
      refine (Calls.mono HV.out) ?_
      rintro e w3 ⟨c, rfl, hc, Bc, b3⟩
      have F : Hid _ := And.intro (⟨c, _, rfl, Nat.le_trans HI.out.1.below.size hc, Bc, by have := HI.out.1.own.later b3; rw [HI.out.2] at this; exact this, fun b hb => by have := HI.out.1.new b; rw [HI.out.2] at this; exact this hb⟩ : RdSeq w w3 (.returned (.func (.func 56) #[] #[.pointer (some ⟨c, 0, none⟩)])) (mis bs bs.length)) (below_then HI.out.1.below b3)
      clear HV Bc b3 hc HI htv
      go_wp2
      go_ret
      exact F.out
theorem seqn_not_nil (w : World) (f : Fn) (x y : Array Value) : (binOp .eql 75 (.func f x y) .nilFunc).run Try.prog w = .ok (.bool false) w := by kernel_rfl
/-- between two rounds -/
structure RN (box base : Nat) (x6 : World) (pre : List Int) (W : World) : Prop where
  ex : ∃ v, Blk W box 23 [v] ∧ W.ownsRow base 3 1 v pre.length (ncells pre)
  turned : Turned (fun k => k = box) x6 W
  big : base ≤ W.heap.size
theorem rn_own {box : Nat} {x6 : World} : OwnFrom x6.heap.size (fun pre W => RN box x6.heap.size x6 pre W) := by
  rintro s A B row ⟨⟨v, hB, ho⟩, ht, hbig⟩ hg hr
  have ht' : Turned (fun k => row = some k) A B := turned_grown hg (fun k e => e)
  refine ⟨⟨v, hB.turned ht' (fun e => ?_), ?_⟩, ht.trans (ht'.mono (fun k e => .inr (hr k e).1)), Nat.le_trans hbig hg.size⟩
  · obtain ⟨_, o, ho', hc⟩ := hr _ e; exact blk_non hB ho' hc
  · refine World.ownsRow.kept ho hg ?_
    cases hv : v.ownBlock with
    | none => exact .inl rfl
    | some k =>
      refine .inr (fun e => ?_)
      obtain ⟨_, o, ho', hc⟩ := hr k e.symm
      obtain ⟨_, ⟨rfl, _⟩ | ⟨g', cap, cur, rfl, hb', hh, r⟩⟩ := ho
      · cases hv
      · cases hv
        rw [hh] at ho'; cases ho'
        simp [Obj.isCells] at hc
/-- a round that goes on -/
def roundN (R : World → Prop) : Exit → Act → World → Prop
  | .normal, _, W' => R W'
  | _, _, _ => False
set_option maxHeartbeats 4000000 in
theorem lawmiss_gen (p : Option Addr) (L : List Int) (w : World) (hLl : L.length ≤ 5000) (P : World → World → Prop)
    (hR : ∀ w1, Below w.heap.size w w1 → Calls Try.prog 28 #[.pointer p] w1 fun e w' => RdSeq w1 w' e L ∧ P w1 w')
    (hP : ∀ w1 w2, P w1 w2 → w1.heap.size ≤ w2.heap.size ∧ (∀ k, w.heap.size ≤ k → k < w1.heap.size → w2.heap[k]? = w1.heap[k]?)) :
    Calls Try.prog 14 #[.pointer p] w fun e w' => ∃ v, e = .returned v ∧ NOwn w' v L ∧ (∃ w1 w2, Below w.heap.size w w1 ∧ w1.heap.size = w.heap.size + 1 ∧ P w1 w2 ∧ Turned (fun k => k = w.heap.size) w2 w' ∧ (∀ b, v.ownBlock = some b → w2.heap.size ≤ b)) := by
  have B1 : Blk (w.alloc (.cells #[.slice none 0 0] 23)) w.heap.size 23 [.slice none 0 0] := Blk.new' w _ _
  have b1 : Below w.heap.size w (w.alloc (.cells #[.slice none 0 0] 23)) := (Below.refl _ _).alloc (Nat.le_refl _) _
  have s1 : (w.alloc (.cells #[.slice none 0 0] 23)).heap.size = w.heap.size + 1 := by simp
  have F0 : Hid _ := And.intro B1 (And.intro b1 s1)
  have HR : Hid _ := And.intro hR hP
  clear B1 b1 s1 hR hP
  refine (callsIn_wide (n := 9)).1 ?_
  refine callsIn_of_wp_marks Try.func14 rfl trivial ?_ rfl
  simp only [Try.ntmps14, List.size_toArray, List.length_cons, List.length_nil, Nat.reduceAdd, Nat.reduceSub, Array.replicate_succ, Array.replicate_zero, List.push_toArray, List.append_toArray, List.nil_append, List.cons_append]
  refine wpIn_wide.2 (wp_mono (Q := calm11 (bodyPostM Fence.wide 9 Try.prog Try.f14 fun e w' => ∃ v, e = .returned v ∧ NOwn w' v L ∧ (∃ w1 w2, Below w.heap.size w w1 ∧ w1.heap.size = w.heap.size + 1 ∧ P w1 w2 ∧ Turned (fun k => k = w.heap.size) w2 w' ∧ (∀ b, v.ownBlock = some b → w2.heap.size ≤ b)))) ?_ (fun e a w h => calm11_out h))
  go_wp2_with fail
  generalize w.alloc (.cells #[.slice none 0 0] 23) = w1 at *
  refine (HR.out.1 w1 F0.out.2.1).mono ?_
  rintro e x6 ⟨⟨cb, sv, rfl, hcb, Bc, hso, hsf⟩, hp6⟩
  have hsn := seqn_not_nil x6
  go_wp2_with fail
  obtain ⟨z6, k6⟩ := HR.out.2 w1 x6 hp6
  have hs1 := F0.out.2.2
  have B6 : Blk x6 w.heap.size 23 [.slice none 0 0] := by have := F0.out.1; unfold Blk at *; rw [k6 w.heap.size (Nat.le_refl _) (by omega)]; exact this
  have hks : ∀ k ∈ cb :: sv.ownBlock.toList, k < x6.heap.size ∧ k ≠ w.heap.size := by
    intro k hk
    simp only [List.mem_cons, Option.mem_toList] at hk
    rcases hk with rfl | hk
    · exact ⟨Bc.lt, by omega⟩
    · exact ⟨hso.lt k hk, by have := hsf k hk; omega⟩
  have hsq := vals_stops 8 (by omega) cb sv L x6 Bc hso (by omega)
  have hq6 : w.heap.size < x6.heap.size := by omega
  refine (wpIn_wide (n := 9)).1 ?_
  refine wpIn_rangeFunc_ownG rfl (by omega) (gf := 56) (lb := #[.pointer (some ⟨cb, 0, none⟩)]) rfl trivial (enters_of Try.func56 (by kernel_rfl) rfl) hsq (fun h k => h.t k) (fun W l o o' hl h _ _ k hk => World.putObj_heap_other (by have := (hks k hk).1; omega)) (Below.refl _ _) (fun _ => rfl) (fun pre W => RN w.heap.size x6.heap.size x6 pre W) (fun _ _ _ => False)
    rn_own (fun _ _ _ _ _ hs _ _ => hs) ⟨⟨_, B6, World.ownsRow_nil _ _ _ _⟩, ⟨rfl, rfl, rfl, Nat.le_refl _, fun _ _ _ => rfl⟩, Nat.le_refl _⟩ (fun x => { tmps := #[.pointer p, undef, .slice none 0 0, .pointer (some ⟨w.heap.size, 0, none⟩), .func (.func 56) #[] #[.pointer (some ⟨cb, 0, none⟩)], .int .i64 x, .pointer p, .func (.func 56) #[] #[.pointer (some ⟨cb, 0, none⟩)], .func (.func 56) #[] #[.pointer (some ⟨cb, 0, none⟩)], .bool false, .func (.func 56) #[] #[.pointer (some ⟨cb, 0, none⟩)], .int .i64 x, undef, undef, undef, undef, undef], defers := [] }) ?assign ?body ?done ?stop
  case assign =>
    intro l x W K hK
    simp only [encN]
    gi_wp2
    exact hK
  case body =>
    rintro l pre x W ⟨⟨v, hB, ho⟩, ht, hbig⟩ hlt
    refine wpIn_mono (Q := roundN (fun W' => KeepsFrom x6.heap.size W W' ∧ KeepL (cb :: sv.ownBlock.toList) W W' ∧ RN w.heap.size x6.heap.size x6 (pre ++ [x]) W')) ?_ ?_
    rotate_left
    · rintro e a W' h
      cases e <;> first | exact h.elim | exact h
    have c0 := hB.cell (by simp [maxLen]) 0 (by simp)
    simp only [List.getElem?_cons_zero] at c0
    have bx : Below W.heap.size W (W.alloc (.cells #[.int .i64 x] 3)) := (Below.refl _ _).alloc (Nat.le_refl _) _
    have BX : Blk (W.alloc (.cells #[.int .i64 x] 3)) W.heap.size 3 [.int .i64 x] := Blk.new' W _ _
    have hox := World.ownsRow.kept ho (row := none) (below_grown bx) (by cases hv : v.ownBlock <;> simp)
    have hBx := hB.laterB bx
    have htx : Turned (fun k => k = w.heap.size) x6 (W.alloc (.cells #[.int .i64 x] 3)) := ht.trans ((turned_below bx).mono (fun _ h => h.elim))
    have hbs : x6.heap.size ≤ (W.alloc (.cells #[.int .i64 x] 3)).heap.size := Nat.le_trans hbig bx.size
    obtain ⟨i0, hi, hz0, hz1, hz2⟩ := info_parts info_n64
    have hnews : ∀ j u, [Value.int .i64 x][j]? = some u → (W.alloc (.cells #[.int .i64 x] 3)).cell? ((⟨W.heap.size, 0, none⟩ : Addr).add j) = some u := by
      intro j u hj
      match j, hj with
      | 0, hj =>
        simp at hj; subst hj
        simp [Addr.add]
    have H0 : Hid _ := And.intro hox (And.intro hnews (And.intro hBx (And.intro htx (And.intro hbs (And.intro bx (And.intro hbig ho))))))
    clear hox hnews hBx htx hbs bx ho ht hB BX
    gi_wp2_with (gi_at_builtin; refine wpListIn_append_own _ rfl _ _ 23 rfl x6.heap.size 3 i0 (.int .i64 0) 1 8 Try.underlying23 hi hz0 hz1 hz2 rfl (by decide) v pre.length (ncells pre) rfl H0.out.1 ⟨W.heap.size, 0, none⟩ 1 1 [.int .i64 x] rfl rfl H0.out.2.1 (by intro u hu; simp only [List.mem_cons, List.not_mem_nil, or_false] at hu; subst hu; rfl) (by unfold maxLen; omega) (by omega) H0.out.2.2.2.2.1 ?_)
    intro v' w7 ho7 hg7 _
    obtain ⟨va, vn, vc, rfl⟩ : ∃ va vn vc, v' = .slice va vn vc := by
      obtain ⟨_, ⟨rfl, _⟩ | ⟨g', cap, cur, rfl, _⟩⟩ := ho7
      · exact ⟨_, _, _, rfl⟩
      · exact ⟨_, _, _, rfl⟩
    obtain ⟨v', hv'⟩ : ∃ v', v' = Value.slice va vn vc := ⟨_, rfl⟩
    rw [← hv'] at ho7
    obtain ⟨hox, hnews, hBx, htx, hbs, bx, hbig, ho⟩ := H0.out
    have hlt' := World.ownsRow.lt ho
    have hne : v.ownBlock ≠ some w.heap.size := fun e => by have := (hlt' _ e).1; omega
    have ht7 : Turned (fun k => v.ownBlock = some k) _ w7 := turned_grown hg7 (fun k e => e)
    have hB7 := hBx.turned ht7 hne
    obtain ⟨e7, f7⟩ : w7.cell? ⟨w.heap.size, 0, none⟩ = some v ∧ w7.frozen? ⟨w.heap.size, 0, none⟩ = false := ⟨by have := hB7.cell (by simp [maxLen]) 0 (by simp); simpa using this, hB7.frozen (by simp [maxLen]) 0⟩
    have hB8 := hB7.set 0 v'
    have hne' : v'.ownBlock ≠ some w.heap.size := fun e => by have := (World.ownsRow.lt ho7 _ e).1; omega
    have ho8 : World.ownsRow (w7.setCell ⟨w.heap.size, 0, none⟩ v') x6.heap.size 3 1 v' (pre ++ [x]).length (ncells (pre ++ [x])) := by
      rw [ncells_append, List.length_append]
      exact World.ownsRow.kept ho7 (grown_set w7 w.heap.size 0 v') (.inr hne')
    have ht8 : Turned (fun k => k = w.heap.size) x6 (w7.setCell ⟨w.heap.size, 0, none⟩ v') :=
      (htx.trans (ht7.mono (fun k e => .inr (hlt' k e).1))).trans ((turned_grown (grown_set w7 w.heap.size 0 v') (R := fun k => k = w.heap.size) (fun k e => by cases e; rfl)).mono (fun k e => .inl e))
    have hlater : ∀ k, k < W.heap.size → k ≠ w.heap.size → v.ownBlock ≠ some k → (w7.setCell ⟨w.heap.size, 0, none⟩ v').heap[k]? = W.heap[k]? := by
      intro k hk h1 h2
      rw [Below.heap_setCell _ _ _ _ h1, hg7.block k (Nat.lt_of_lt_of_le hk bx.size) (fun e => h2 e.symm), bx.block k hk]
    have hKF : KeepsFrom x6.heap.size W (w7.setCell ⟨w.heap.size, 0, none⟩ v') := by
      refine ⟨Nat.le_trans bx.size (Nat.le_trans hg7.size (by simp [World.setCell])), fun k o hk hko hc => ?_⟩
      rw [hlater k (Array.getElem?_eq_some_iff.1 hko).1 (by omega) (fun e => ?_)]
      · exact hko
      · obtain ⟨_, ⟨rfl, _⟩ | ⟨g', cap, cur, rfl, hb', hh, r⟩⟩ := ho
        · cases e
        · cases e
          rw [hh] at hko; cases hko
          simp [Obj.isCells] at hc
    have hKL : KeepL (cb :: sv.ownBlock.toList) W (w7.setCell ⟨w.heap.size, 0, none⟩ v') := by
      intro k hk
      have := hks k hk
      exact hlater k (by omega) this.2 (fun e => by have := (hlt' k e).1; omega)
    rw [hv'] at hKF hKL hB8 ho8 ht8
    have F : Hid _ := And.intro hKF (And.intro hKL (RN.mk ⟨_, by simpa using hB8, ho8⟩ ht8 (by have := hKF.size; omega)))
    clear hox hnews hBx htx hbs bx ho hlt' hne ht7 hB7 hB8 hne' ho8 ht8 hlater hKF hKL ho7 hg7 H0 c0 hv' v'
    gi_wp2
    exact F.out
  case done =>
    rintro D ys W hD hys ⟨⟨v, hB, ho⟩, ht, hbig⟩ hdf
    have c1 := hB.cell (by simp [maxLen]) 0 (by simp)
    simp only [List.getElem?_cons_zero] at c1
    subst hys
    have hDv : ∀ k, v.ownBlock = some k → k ≠ D := by
      rintro k hk rfl
      obtain ⟨_, ⟨rfl, _⟩ | ⟨g', cap, cur, rfl, hb', hh, r⟩⟩ := ho
      · cases hk
      · cases hk
        rw [hh] at hdf; cases hdf
    have F : Hid _ := And.intro ht (And.intro hdf (And.intro hD (And.intro ho (And.intro hDv hp6))))
    clear ht hdf hsq hB hD ho hDv hp6
    go_wp2_with fail
    refine ⟨by simp, .inl ⟨_, _, rfl, run_takeDeferred F.out.2.1, ?_⟩⟩
    obtain ⟨ht, hdf, hD, ho, hDv, hp6⟩ := F.out
    refine ⟨_, results_tmp rfl _ _ _, v, rfl, ?_, w1, x6, F0.out.2.1, hs1, hp6, ?_, fun b hb => (World.ownsRow.lt ho b hb).1⟩
    · obtain ⟨h1, h2 | ⟨g', cap, cur, rfl, hb', hh, r⟩⟩ := ho
      · exact ⟨h1, .inl h2⟩
      · exact ⟨h1, .inr ⟨g', cap, cur, rfl, Nat.zero_le _, by rw [World.putObj_heap_other (hDv g' rfl)]; exact hh, r⟩⟩
    · exact ht.trans ((turned_grown (grownBy_putObj' W D (.deferred none)) (R := fun k => k = D) (fun k e => by cases e; rfl)).mono (fun k e => .inr (by subst e; exact hD)))
  case stop =>
    rintro D c pre W _ _ h _
    exact h.elim

end Go.Proofs.Ytdagekciipfnoaa

