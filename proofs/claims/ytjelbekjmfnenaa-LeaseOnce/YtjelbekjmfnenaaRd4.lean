/- Reads that are ready, as a list. -/
import Derived.Test.YtjelbekjmfnenaaRd3
namespace Go.Proofs.Ytjelbekjmfnenaa
open Go.RowKit Go.Shelf
set_option linter.unusedVariables false
set_option linter.unusedSimpArgs false
set_option maxRecDepth 4000
attribute [local go_sem] Oper.semAt_some

def encN (x : Int) : Array Value := #[.int .i64 x]
set_option maxHeartbeats 2000000 in
theorem vals_stops (n : Nat) (hn : 1 ≤ n) (c : Nat) (v : Value) (l : List Int) (w : World) (hB : Blk w c 33 [v]) (ho : NOwn w v l) (hl : l.length ≤ 100000) :
    SeqStopsK Fence.wide n Try.prog 59 #[.pointer (some ⟨c, 0, none⟩)] encN (KeepL (c :: v.ownBlock.toList)) (fun ys => ys = l) (fun _ => True) l.length w := fun y J Jx W hW hJ _ hY h0 => by
  have hB' : Blk W c 33 [v] := hB.laterB hW
  have ho' : NOwn W v l := ho.later hW
  have cc := hB'.cell (by simp [maxLen]) 0 (by simp)
  simp only [List.getElem?_cons_zero] at cc
  obtain ⟨va, vc, hv, hvc, hcs, -⟩ := ho'.open
  have HX : Hid _ := And.intro hB' ho'
  have HV : Hid _ := hv
  clear hB ho hW hB' ho' hcs
  rw [hv] at cc
  refine callsIn_of_wp Try.func59 rfl trivial ?_ rfl
  simp only [Try.ntmps59, List.size_toArray, List.length_cons, List.length_nil, Nat.reduceAdd, Nat.reduceSub, Array.replicate_succ, Array.replicate_zero, List.push_toArray, List.append_toArray, List.nil_append, List.cons_append]
  gi_wp2
  gi_loopw [7] (fun iv wr => ∃ k : Nat, k ≤ l.length ∧ iv = .int .i64 k ∧ J (l.take k) wr ∧ KeepL (c :: v.ownBlock.toList) W wr) (fun iv _ => l.length - (intOf iv).toNat)
  case atStart => exact ⟨0, by omega, rfl, h0, fun _ _ => rfl⟩
  case round =>
    obtain ⟨k, hk, rfl, hJk, hKk⟩ := hrel
    by_cases hlt : k < l.length
    · have ho1 : NOwn wr v l := HX.out.2.same (fun k hk => hKk k (by simp [hk]))
      obtain ⟨va', vc', hv', hvc', hcs, -⟩ := ho1.open
      obtain ⟨b, hb, hob, k1⟩ := hcs k hlt
      subst hb
      have e0 : va = some ⟨b, 0, none⟩ := by have := HV.out; rw [hv'] at this; cases this; rfl
      subst e0
      have hrv : l.take (k + 1) = l.take k ++ [l[k]] := List.take_succ_eq_append_getElem hlt
      obtain ⟨fn, tmps, assign, body, hy, hRd⟩ := hY (l.take k) l[k] wr hJk (by simp; omega)
      unfold encN at hy
      have q1 : (k : Int) < (l.length : Int) := by omega
      generalize l[k] = x at *
      have G : Hid _ := And.intro hKk hrv
      clear hKk hrv hJk ho1 hcs
      gi_wp2
      refine hRd.mono ?_
      rintro e W5 (⟨rfl, hJ5, hk5⟩ | ⟨rfl, hJx5⟩)
      · have R : Hid _ := And.intro (show J (l.take (k + 1)) W5 by rw [G.out.2]; exact hJ5) (KeepL.t G.out.1 hk5)
        clear hJ5 hk5 G
        gi_wp2
        go_roundw
        case rel => exact ⟨k + 1, by omega, by go_num, R.out.1, R.out.2⟩
        case measure => simp [intOf]; omega
      · gi_wp2
        refine bodyPost_ret (results_none rfl _ _ _) rfl ?_
        exact ⟨⟨_, rfl⟩, .inr ⟨_, trivial, hJx5⟩⟩
    · obtain rfl : k = l.length := by omega
      rw [List.take_length] at hJk
      gi_wp2
      go_end0
      exact ⟨⟨_, rfl⟩, .inl ⟨_, rfl, hJk⟩⟩
set_option maxHeartbeats 400000 in
theorem vals_any (va : Option Addr) (vn vc : Nat) (w : World) :
    Calls Try.prog 53 #[.slice va vn vc] w fun e w' => ∃ c, e = .returned (.func (.func 59) #[] #[.pointer (some ⟨c, 0, none⟩)]) ∧ w.heap.size ≤ c ∧ Blk w' c 33 [.slice va vn vc] ∧ Below w.heap.size w w' := by
  have B2 : Blk (w.alloc (.cells #[.slice va vn vc] 33)) w.heap.size 33 [.slice va vn vc] := Blk.new' w _ _
  have b2 : Below w.heap.size w (w.alloc (.cells #[.slice va vn vc] 33)) := (Below.refl _ _).alloc (Nat.le_refl _) _
  have F : Hid _ := And.intro B2 b2
  clear B2 b2
  go_enter Try.func53, Try.ntmps53
  go_wp2
  go_ret
  exact ⟨_, rfl, Nat.le_refl _, F.out.1, F.out.2⟩
/-- what Ready hands back: a function over a list -/
def RdSeq (w w' : World) (e : Ending) (l : List Int) : Prop := ∃ c v, e = .returned (.func (.func 59) #[] #[.pointer (some ⟨c, 0, none⟩)]) ∧ w.heap.size ≤ c ∧ Blk w' c 33 [v] ∧ NOwn w' v l ∧ (∀ b, v.ownBlock = some b → w.heap.size ≤ b)
theorem rdReady_any (g : Nat) (q : Option Nat) (l : List (Int × Int)) (r : Int) (w : World) (h : (rdOb g q l).Ok w) (hl : l.length ≤ 1000) :
    Calls Try.prog 45 #[.pointer (some ⟨g, 0, none⟩), .int .i64 r] w fun e w' => RdSeq w w' e ((upto r l).map (·.1)) ∧ ∃ q', Step w w' (rdOb g q l) (rdOb g q' (above r l)) := by
  have HT : Hid _ := rdtake_any g q l r w h hl
  clear h
  go_enter Try.func45, Try.ntmps45
  go_wp2_with fail
  refine (Calls.mono HT.out) ?_
  rintro e w2 ⟨v, q', rfl, ho, hfar, st⟩
  obtain ⟨va, vc, hv, -, -, -⟩ := ho.open
  rw [hv]
  have HV : Hid _ := vals_any va ((upto r l).map (·.1)).length vc w2
  have HO : Hid _ := And.intro ho (And.intro hfar (And.intro st hv))
  clear HT ho hfar st
  generalize hN : ((upto r l).map (·.1)).length = N at *
  go_wp2_with fail
  refine (Calls.mono HV.out) ?_
  rintro e w3 ⟨c, rfl, hc, Bc, b3⟩
  obtain ⟨ho, hfar, st, hv⟩ := HO.out
  have F : Hid _ := And.intro (⟨c, v, rfl, Nat.le_trans st.turned.size hc, by rw [hv]; exact Bc, ho.later b3, fun b hb => (hfar b hb).1⟩ : RdSeq w w3 (.returned (.func (.func 59) #[] #[.pointer (some ⟨c, 0, none⟩)])) _) (⟨q', st.trans (Step.quiet st.ok b3)⟩ : ∃ q', Step w w3 (rdOb g q l) (rdOb g q' (above r l)))
  clear ho hfar st HV HO Bc b3 hc
  go_wp2
  go_ret
  exact F.out
theorem rdReady_nil (r : Int) (w : World) : Calls Try.prog 45 #[.pointer none, .int .i64 r] w fun e w' => RdSeq w w' e [] ∧ Below w.heap.size w w' := by
  have HT : Hid _ := rdtake_nil r w
  go_enter Try.func45, Try.ntmps45
  go_wp2_with fail
  refine (Calls.mono HT.out) ?_
  rintro e w2 ⟨rfl, b2⟩
  have HV : Hid _ := vals_any none 0 0 w2
  have HB : Hid _ := b2
  clear b2 HT
  go_wp2_with fail
  refine (Calls.mono HV.out) ?_
  rintro e w3 ⟨c, rfl, hc, Bc, b3⟩
  have F : Hid _ := And.intro (⟨c, _, rfl, Nat.le_trans HB.out.size hc, Bc, NOwn.nil _, (fun b hb => by cases hb)⟩ : RdSeq w w3 (.returned (.func (.func 59) #[] #[.pointer (some ⟨c, 0, none⟩)])) []) (below_then HB.out b3)
  clear HV Bc b3 hc HB
  go_wp2
  go_ret
  exact F.out
theorem seqn_not_nil (w : World) (f : Fn) (x y : Array Value) : (binOp .eql 90 (.func f x y) .nilFunc).run Try.prog w = .ok (.bool false) w := by kernel_rfl
/-- between two rounds -/
structure RN (box base : Nat) (x6 : World) (pre : List Int) (W : World) : Prop where
  ex : ∃ v, Blk W box 33 [v] ∧ W.ownsRow base 2 1 v pre.length (ncells pre)
  turned : Turned (fun k => k = box) x6 W
  big : base ≤ W.heap.size
theorem rn_own {box : Nat} {x6 : World} : OwnFrom x6.heap.size (fun pre W => RN box x6.heap.size x6 pre W) := by
  rintro s A B row ⟨⟨v, hB, ho⟩, ht, hbig⟩ hg hr
  have ht' : Turned (fun k => row = some k) A B := turned_grown hg (fun k e => e)
  refine ⟨⟨v, hB.turned ht' (fun e => ?_), ?_⟩, ht.trans (ht'.mono (fun k e => .inr (hr k e).1)), Nat.le_trans hbig hg.size⟩
  · obtain ⟨_, o, ho', hc⟩ := hr _ e; exact blk_non hB ho' hc
  · refine World.ownsRow.kept ho hg ?_
    cases hv : v.ownBlock with
    | none => exact .inl rfl
    | some k =>
      refine .inr (fun e => ?_)
      obtain ⟨_, o, ho', hc⟩ := hr k e.symm
      obtain ⟨_, ⟨rfl, _⟩ | ⟨g', cap, cur, rfl, hb', hh, r⟩⟩ := ho
      · cases hv
      · cases hv
        rw [hh] at ho'; cases ho'
        simp [Obj.isCells] at hc
/-- a round that goes on -/
def roundN (R : World → Prop) : Exit → Act → World → Prop
  | .normal, _, W' => R W'
  | _, _, _ => False
set_option maxHeartbeats 4000000 in
theorem lawready_gen (p : Option Addr) (r : Int) (L : List Int) (w : World) (hLl : L.length ≤ 5000) (P : World → World → Prop)
    (hR : ∀ w1, Below w.heap.size w w1 → Calls Try.prog 45 #[.pointer p, .int .i64 r] w1 fun e w' => RdSeq w1 w' e L ∧ P w1 w')
    (hP : ∀ w1 w2, P w1 w2 → w1.heap.size ≤ w2.heap.size ∧ (∀ k, w.heap.size ≤ k → k < w1.heap.size → w2.heap[k]? = w1.heap[k]?)) :
    Calls Try.prog 23 #[.pointer p, .int .i64 r] w fun e w' => ∃ v, e = .returned v ∧ NOwn w' v L ∧ (∃ w1 w2, Below w.heap.size w w1 ∧ w1.heap.size = w.heap.size + 1 ∧ P w1 w2 ∧ Turned (fun k => k = w.heap.size) w2 w' ∧ (∀ b, v.ownBlock = some b → w2.heap.size ≤ b)) := by
  have B1 : Blk (w.alloc (.cells #[.slice none 0 0] 33)) w.heap.size 33 [.slice none 0 0] := Blk.new' w _ _
  have b1 : Below w.heap.size w (w.alloc (.cells #[.slice none 0 0] 33)) := (Below.refl _ _).alloc (Nat.le_refl _) _
  have s1 : (w.alloc (.cells #[.slice none 0 0] 33)).heap.size = w.heap.size + 1 := by simp
  have F0 : Hid _ := And.intro B1 (And.intro b1 s1)
  have HR : Hid _ := And.intro hR hP
  clear B1 b1 s1 hR hP
  refine (callsIn_wide (n := 9)).1 ?_
  refine callsIn_of_wp_marks Try.func23 rfl trivial ?_ rfl
  simp only [Try.ntmps23, List.size_toArray, List.length_cons, List.length_nil, Nat.reduceAdd, Nat.reduceSub, Array.replicate_succ, Array.replicate_zero, List.push_toArray, List.append_toArray, List.nil_append, List.cons_append]
  refine wpIn_wide.2 (wp_mono (Q := calm11 (bodyPostM Fence.wide 9 Try.prog Try.f23 fun e w' => ∃ v, e = .returned v ∧ NOwn w' v L ∧ (∃ w1 w2, Below w.heap.size w w1 ∧ w1.heap.size = w.heap.size + 1 ∧ P w1 w2 ∧ Turned (fun k => k = w.heap.size) w2 w' ∧ (∀ b, v.ownBlock = some b → w2.heap.size ≤ b)))) ?_ (fun e a w h => calm11_out h))
  go_wp2_with fail
  generalize w.alloc (.cells #[.slice none 0 0] 33) = w1 at *
  refine (HR.out.1 w1 F0.out.2.1).mono ?_
  rintro e x6 ⟨⟨cb, sv, rfl, hcb, Bc, hso, hsf⟩, hp6⟩
  have hsn := seqn_not_nil x6
  go_wp2_with fail
  obtain ⟨z6, k6⟩ := HR.out.2 w1 x6 hp6
  have hs1 := F0.out.2.2
  have B6 : Blk x6 w.heap.size 33 [.slice none 0 0] := by have := F0.out.1; unfold Blk at *; rw [k6 w.heap.size (Nat.le_refl _) (by omega)]; exact this
  have hks : ∀ k ∈ cb :: sv.ownBlock.toList, k < x6.heap.size ∧ k ≠ w.heap.size := by
    intro k hk
    simp only [List.mem_cons, Option.mem_toList] at hk
    rcases hk with rfl | hk
    · exact ⟨Bc.lt, by omega⟩
    · exact ⟨hso.lt k hk, by have := hsf k hk; omega⟩
  have hsq := vals_stops 8 (by omega) cb sv L x6 Bc hso (by omega)
  have hq6 : w.heap.size < x6.heap.size := by omega
  refine (wpIn_wide (n := 9)).1 ?_
  refine wpIn_rangeFunc_ownG rfl (by omega) (gf := 59) (lb := #[.pointer (some ⟨cb, 0, none⟩)]) rfl trivial (enters_of Try.func59 (by kernel_rfl) rfl) hsq (fun h k => h.t k) (fun W l o o' hl h _ _ k hk => World.putObj_heap_other (by have := (hks k hk).1; omega)) (Below.refl _ _) (fun _ => rfl) (fun pre W => RN w.heap.size x6.heap.size x6 pre W) (fun _ _ _ => False)
    rn_own (fun _ _ _ _ _ hs _ _ => hs) ⟨⟨_, B6, World.ownsRow_nil _ _ _ _⟩, ⟨rfl, rfl, rfl, Nat.le_refl _, fun _ _ _ => rfl⟩, Nat.le_refl _⟩ (fun x => { tmps := #[.pointer p, .int .i64 r, undef, undef, .slice none 0 0, .pointer (some ⟨w.heap.size, 0, none⟩), .func (.func 59) #[] #[.pointer (some ⟨cb, 0, none⟩)], .int .i64 x, .pointer p, .int .i64 r, .func (.func 59) #[] #[.pointer (some ⟨cb, 0, none⟩)], .func (.func 59) #[] #[.pointer (some ⟨cb, 0, none⟩)], .bool false, .func (.func 59) #[] #[.pointer (some ⟨cb, 0, none⟩)], .int .i64 x, undef, undef, undef, undef, undef], defers := [] }) ?assign ?body ?done ?stop
  case assign =>
    intro l x W K hK
    simp only [encN]
    gi_wp2
    exact hK
  case body =>
    rintro l pre x W ⟨⟨v, hB, ho⟩, ht, hbig⟩ hlt
    refine wpIn_mono (Q := roundN (fun W' => KeepsFrom x6.heap.size W W' ∧ KeepL (cb :: sv.ownBlock.toList) W W' ∧ RN w.heap.size x6.heap.size x6 (pre ++ [x]) W')) ?_ ?_
    rotate_left
    · rintro e a W' h
      cases e <;> first | exact h.elim | exact h
    have c0 := hB.cell (by simp [maxLen]) 0 (by simp)
    simp only [List.getElem?_cons_zero] at c0
    have bx : Below W.heap.size W (W.alloc (.cells #[.int .i64 x] 2)) := (Below.refl _ _).alloc (Nat.le_refl _) _
    have BX : Blk (W.alloc (.cells #[.int .i64 x] 2)) W.heap.size 2 [.int .i64 x] := Blk.new' W _ _
    have hox := World.ownsRow.kept ho (row := none) (below_grown7 bx) (by cases hv : v.ownBlock <;> simp)
    have hBx := hB.laterB bx
    have htx : Turned (fun k => k = w.heap.size) x6 (W.alloc (.cells #[.int .i64 x] 2)) := ht.trans ((turned_below bx).mono (fun _ h => h.elim))
    have hbs : x6.heap.size ≤ (W.alloc (.cells #[.int .i64 x] 2)).heap.size := Nat.le_trans hbig bx.size
    obtain ⟨i0, hi, hz0, hz1, hz2⟩ := info_parts info_n64
    have hnews : ∀ j u, [Value.int .i64 x][j]? = some u → (W.alloc (.cells #[.int .i64 x] 2)).cell? ((⟨W.heap.size, 0, none⟩ : Addr).add j) = some u := by
      intro j u hj
      match j, hj with
      | 0, hj =>
        simp at hj; subst hj
        simp [Addr.add]
    have H0 : Hid _ := And.intro hox (And.intro hnews (And.intro hBx (And.intro htx (And.intro hbs (And.intro bx (And.intro hbig ho))))))
    clear hox hnews hBx htx hbs bx ho ht hB BX
    gi_wp2_with (gi_at_builtin; refine wpListIn_append_own _ rfl _ _ 33 rfl x6.heap.size 2 i0 (.int .i64 0) 1 8 Try.underlying33 hi hz0 hz1 hz2 rfl (by decide) v pre.length (ncells pre) rfl H0.out.1 ⟨W.heap.size, 0, none⟩ 1 1 [.int .i64 x] rfl rfl H0.out.2.1 (by intro u hu; simp only [List.mem_cons, List.not_mem_nil, or_false] at hu; subst hu; rfl) (by unfold maxLen; omega) (by omega) H0.out.2.2.2.2.1 ?_)
    intro v' w7 ho7 hg7 _
    obtain ⟨va, vn, vc, rfl⟩ : ∃ va vn vc, v' = .slice va vn vc := by
      obtain ⟨_, ⟨rfl, _⟩ | ⟨g', cap, cur, rfl, _⟩⟩ := ho7
      · exact ⟨_, _, _, rfl⟩
      · exact ⟨_, _, _, rfl⟩
    obtain ⟨v', hv'⟩ : ∃ v', v' = Value.slice va vn vc := ⟨_, rfl⟩
    rw [← hv'] at ho7
    obtain ⟨hox, hnews, hBx, htx, hbs, bx, hbig, ho⟩ := H0.out
    have hlt' := World.ownsRow.lt ho
    have hne : v.ownBlock ≠ some w.heap.size := fun e => by have := (hlt' _ e).1; omega
    have ht7 : Turned (fun k => v.ownBlock = some k) _ w7 := turned_grown hg7 (fun k e => e)
    have hB7 := hBx.turned ht7 hne
    obtain ⟨e7, f7⟩ : w7.cell? ⟨w.heap.size, 0, none⟩ = some v ∧ w7.frozen? ⟨w.heap.size, 0, none⟩ = false := ⟨by have := hB7.cell (by simp [maxLen]) 0 (by simp); simpa using this, hB7.frozen (by simp [maxLen]) 0⟩
    have hB8 := hB7.set 0 v'
    have hne' : v'.ownBlock ≠ some w.heap.size := fun e => by have := (World.ownsRow.lt ho7 _ e).1; omega
    have ho8 : World.ownsRow (w7.setCell ⟨w.heap.size, 0, none⟩ v') x6.heap.size 2 1 v' (pre ++ [x]).length (ncells (pre ++ [x])) := by
      rw [ncells_append, List.length_append]
      exact World.ownsRow.kept ho7 (grown_set w7 w.heap.size 0 v') (.inr hne')
    have ht8 : Turned (fun k => k = w.heap.size) x6 (w7.setCell ⟨w.heap.size, 0, none⟩ v') :=
      (htx.trans (ht7.mono (fun k e => .inr (hlt' k e).1))).trans ((turned_grown (grown_set w7 w.heap.size 0 v') (R := fun k => k = w.heap.size) (fun k e => by cases e; rfl)).mono (fun k e => .inl e))
    have hlater : ∀ k, k < W.heap.size → k ≠ w.heap.size → v.ownBlock ≠ some k → (w7.setCell ⟨w.heap.size, 0, none⟩ v').heap[k]? = W.heap[k]? := by
      intro k hk h1 h2
      rw [Below.heap_setCell _ _ _ _ h1, hg7.block k (Nat.lt_of_lt_of_le hk bx.size) (fun e => h2 e.symm), bx.block k hk]
    have hKF : KeepsFrom x6.heap.size W (w7.setCell ⟨w.heap.size, 0, none⟩ v') := by
      refine ⟨Nat.le_trans bx.size (Nat.le_trans hg7.size (by simp [World.setCell])), fun k o hk hko hc => ?_⟩
      rw [hlater k (Array.getElem?_eq_some_iff.1 hko).1 (by omega) (fun e => ?_)]
      · exact hko
      · obtain ⟨_, ⟨rfl, _⟩ | ⟨g', cap, cur, rfl, hb', hh, r⟩⟩ := ho
        · cases e
        · cases e
          rw [hh] at hko; cases hko
          simp [Obj.isCells] at hc
    have hKL : KeepL (cb :: sv.ownBlock.toList) W (w7.setCell ⟨w.heap.size, 0, none⟩ v') := by
      intro k hk
      have := hks k hk
      exact hlater k (by omega) this.2 (fun e => by have := (hlt' k e).1; omega)
    rw [hv'] at hKF hKL hB8 ho8 ht8
    have F : Hid _ := And.intro hKF (And.intro hKL (RN.mk ⟨_, by simpa using hB8, ho8⟩ ht8 (by have := hKF.size; omega)))
    clear hox hnews hBx htx hbs bx ho hlt' hne ht7 hB7 hB8 hne' ho8 ht8 hlater hKF hKL ho7 hg7 H0 c0 hv' v'
    gi_wp2
    exact F.out
  case done =>
    rintro D ys W hD hys ⟨⟨v, hB, ho⟩, ht, hbig⟩ hdf
    have c1 := hB.cell (by simp [maxLen]) 0 (by simp)
    simp only [List.getElem?_cons_zero] at c1
    subst hys
    have hDv : ∀ k, v.ownBlock = some k → k ≠ D := by
      rintro k hk rfl
      obtain ⟨_, ⟨rfl, _⟩ | ⟨g', cap, cur, rfl, hb', hh, r⟩⟩ := ho
      · cases hk
      · cases hk
        rw [hh] at hdf; cases hdf
    have F : Hid _ := And.intro ht (And.intro hdf (And.intro hD (And.intro ho (And.intro hDv hp6))))
    clear ht hdf hsq hB hD ho hDv hp6
    go_wp2_with fail
    refine ⟨by simp, .inl ⟨_, _, rfl, run_takeDeferred F.out.2.1, ?_⟩⟩
    obtain ⟨ht, hdf, hD, ho, hDv, hp6⟩ := F.out
    refine ⟨_, results_tmp rfl _ _ _, v, rfl, ?_, w1, x6, F0.out.2.1, hs1, hp6, ?_, fun b hb => (World.ownsRow.lt ho b hb).1⟩
    · obtain ⟨h1, h2 | ⟨g', cap, cur, rfl, hb', hh, r⟩⟩ := ho
      · exact ⟨h1, .inl h2⟩
      · exact ⟨h1, .inr ⟨g', cap, cur, rfl, Nat.zero_le _, by rw [World.putObj_heap_other (hDv g' rfl)]; exact hh, r⟩⟩
    · exact ht.trans ((turned_grown (grownBy_putObj' W D (.deferred none)) (R := fun k => k = D) (fun k e => by cases e; rfl)).mono (fun k e => .inr (by subst e; exact hD)))
  case stop =>
    rintro D c pre W _ _ h _
    exact h.elim
end Go.Proofs.Ytjelbekjmfnenaa
