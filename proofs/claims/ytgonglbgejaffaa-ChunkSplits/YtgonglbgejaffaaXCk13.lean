/- Numbers of a call's own, and a function that goes through them. -/
import Derived.Test.YtgonglbgejaffaaXCk10
import Derived.Test.YtgonglbgejaffaaXRnd
import Derived.Shelf.RegionOpen
import Derived.Maps.AppendAt
import Derived.BigQuiet
namespace Go.Proofs.Ytgonglbgejaffaa
open Go.RowKit Go.Shelf
set_option linter.unusedVariables false
set_option linter.unusedSimpArgs false
set_option maxRecDepth 4000

def ncells (l : List Int) : List Value := l.map fun c => .int .i64 c
theorem ncells_append (a b : List Int) : ncells (a ++ b) = ncells a ++ ncells b := List.map_append
theorem ncells_at (l : List Int) (i : Nat) (h : i < l.length) : (ncells l)[i]? = some (.int .i64 l[i]) := by unfold ncells; rw [List.getElem?_map, List.getElem?_eq_getElem h]; rfl
/-- numbers of the call's own -/
def NOwn (w : World) (v : Value) (l : List Int) : Prop := w.ownsRow 0 3 1 v l.length (ncells l)
theorem NOwn.nil (w : World) : NOwn w (.slice none 0 0) [] := World.ownsRow_nil w 0 _ 1
theorem NOwn.same {w w' : World} {v : Value} {l : List Int} (h : NOwn w v l) (hb : ∀ k, v.ownBlock = some k → w'.heap[k]? = w.heap[k]?) : NOwn w' v l := ownsRow_same h hb
theorem NOwn.lt {w : World} {v : Value} {l : List Int} (h : NOwn w v l) (k : Nat) (hk : v.ownBlock = some k) : k < w.heap.size := (World.ownsRow.lt h k hk).2
theorem NOwn.later {w w' : World} {v : Value} {l : List Int} (h : NOwn w v l) (hb : Below w.heap.size w w') : NOwn w' v l := h.same (fun k hk => hb.block k (h.lt k hk))
theorem NOwn.open {w : World} {v : Value} {l : List Int} (h : NOwn w v l) : ∃ a c, v = .slice a l.length c ∧ l.length ≤ c ∧ (∀ i (hi : i < l.length), ∃ b, a = some ⟨b, 0, none⟩ ∧ v.ownBlock = some b ∧ w.cell? ⟨b, i, none⟩ = some (.int .i64 l[i])) ∧ c ≤ maxLen := by
  have h0 := h
  obtain ⟨h1, ⟨h2, h3⟩ | ⟨g, cap, cur, rfl, hb, hh, hc, hm, hs, ht⟩⟩ := h
  · exact ⟨none, 0, by rw [h2, h3], by omega, (fun i hi => by omega), by simp⟩
  · refine ⟨_, cap, rfl, hc, fun i hi => ⟨g, rfl, rfl, ?_⟩, hm⟩
    rw [World.ownsRow.cellAt h0 _ (by omega)]; exact ncells_at l i hi
theorem info_n64 : (Try.prog.info? 3).map (fun i => (i.zero, i.size, i.bytes)) = some (some (.int .i64 0), 1, 8) := by kernel_rfl
theorem wpList_append_num (w : World) {ops : Array Oper} {rest : List Oper} {o : Oper} {a : Act} {Q : Exit → Act → World → Prop} (hg : o.guard = none) (s x : Operand)
    (ho : o.op = .call { callee := .builtin .append, args := #[s, x], argTypes := #[46, 46] }) (v : Value) (l : List Int) (hs : a.eval s = v) (hown : NOwn w v l)
    (k : Nat) (u : Int) (hx : a.eval x = .slice (some ⟨k, 0, none⟩) 1 1) (hB : Blk w k 3 [.int .i64 u]) (hmax : l.length ≤ 1000000)
    (next : ∀ (v' : Value) (w' : World), NOwn w' v' (l ++ [u]) → w.grownBy w' v.ownBlock → (v'.ownBlock = v.ownBlock ∨ v'.ownBlock = some w.heap.size) → wpList Try.prog ops Q rest (a.put o.dst v') w') : wpList Try.prog ops Q (o :: rest) a w := by
  obtain ⟨i0, hi, hz0, hz1, hz2⟩ := info_parts info_n64
  have c0 := blk_at hB 0
  simp at c0
  refine wpList_append_own_at (w := w) hg s x 46 ho 0 3 i0 (.int .i64 0) 1 8 Try.underlying46 hi hz0 hz1 hz2 rfl (by decide) v l.length (ncells l) hs hown ⟨k, 0, none⟩ 1 1 [.int .i64 u] hx rfl
    (fun j y hj => by
      match j, hj with
      | 0, hj => simp at hj; subst hj; simpa [Addr.add] using c0)
    (fun y hy => by simp at hy; subst hy; rfl) (by unfold maxLen; omega) (by omega) (Nat.zero_le _) ?_
  intro v' w' h2 h3 _ h5
  refine next v' w' ?_ h3 h5
  unfold NOwn
  rw [List.length_append, ncells_append]
  exact h2
/-- a list of numbers, as an object -/
def nuOb (v : Value) (l : List Int) : Ob := ⟨v.ownBlock.toList, [], fun w => NOwn w v l⟩
theorem nuOb_ok {w : World} {v : Value} {l : List Int} (h : NOwn w v l) : (nuOb v l).Ok w :=
  ⟨h, (fun k hk => by rcases hk with hk | hk; exact h.lt k (by simpa [nuOb] using hk); cases hk), (fun k _ hv => by cases hv), fun w1 w2 hs h => NOwn.same h (fun k hk => hs k (.inl (by simp [nuOb, hk])))⟩
/-- a list of the call's own that grows, while nothing else turns -/
structure NuI (w wr : World) (v : Value) (l : List Int) : Prop where
  own : NOwn wr v l
  new : ∀ b, v.ownBlock = some b → w.heap.size ≤ b
  below : Below w.heap.size w wr
theorem NuI.later {w wr w' : World} {v : Value} {l : List Int} (h : NuI w wr v l) (hb : Below wr.heap.size wr w') : NuI w w' v l := ⟨h.own.later hb, h.new, below_then h.below hb⟩
theorem NuI.put {w wr w' : World} {v v' : Value} {l l' : List Int} (h : NuI w wr v l) (ho : NOwn w' v' l') (hg : wr.grownBy w' v.ownBlock) (hor : v'.ownBlock = v.ownBlock ∨ v'.ownBlock = some wr.heap.size) : NuI w w' v' l' :=
  ⟨ho, fun b hb => by
    rcases hor with e | e
    · exact h.new b (by rw [← e]; exact hb)
    · rw [e] at hb; cases hb; exact h.below.size, h.below.grown hg h.below.size (fun k e => h.new k e)⟩
def KeepL (bs : List Nat) (W W' : World) : Prop := ∀ k ∈ bs, W'.heap[k]? = W.heap[k]?
theorem KeepL.t {bs : List Nat} {A B C : World} (h : KeepL bs A B) (k : KeepL bs B C) : KeepL bs A C := fun i hi => (k i hi).trans (h i hi)
theorem KeepL.below {bs : List Nat} {A B : World} (h : Below A.heap.size A B) (hl : ∀ k ∈ bs, k < A.heap.size) : KeepL bs A B := fun k hk => h.block k (hl k hk)
def calm11 (Q : Exit → Act → World → Prop) : Exit → Act → World → Prop
  | .panic _, _, _ => False
  | .normal, a, w => Q .normal a w
  | .ret, a, w => Q .ret a w
  | .exit i, a, w => Q (.exit i) a w
  | .goto i, a, w => Q (.goto i) a w
  | .outgrown, a, w => Q .outgrown a w
theorem calm11_out {Q : Exit → Act → World → Prop} {e : Exit} {a : Act} {w : World} (h : calm11 Q e a w) : Q e a w := by
  cases e <;> first | exact h | exact h.elim
theorem blk_non {A : World} {k T' : Nat} {xs : List Value} {o : Obj} (hB : Blk A k T' xs) (ho : A.heap[k]? = some o) (hc : o.isCells = false) : False := by
  unfold Blk at hB
  rw [hB] at ho
  cases ho
  simp [Obj.isCells] at hc
attribute [local go_sem] Oper.semAt_some

def encN (x : Int) : Array Value := #[.int .i64 x]
set_option maxHeartbeats 2000000 in
theorem vals_stops (n : Nat) (hn : 1 ≤ n) (c : Nat) (v : Value) (l : List Int) (w : World) (hB : Blk w c 46 [v]) (ho : NOwn w v l) (hl : l.length ≤ 100000) :
    SeqStopsK Fence.wide n Try.prog 87 #[.pointer (some ⟨c, 0, none⟩)] encN (KeepL (c :: v.ownBlock.toList)) (fun ys => ys = l) (fun _ => True) l.length w := fun y J Jx W hW hJ _ hY h0 => by
  have hB' : Blk W c 46 [v] := hB.laterB hW
  have ho' : NOwn W v l := ho.later hW
  have cc := hB'.cell (by simp [maxLen]) 0 (by simp)
  simp only [List.getElem?_cons_zero] at cc
  obtain ⟨va, vc, hv, hvc, hcs, -⟩ := ho'.open
  have HX : Hid _ := And.intro hB' ho'
  have HV : Hid _ := hv
  clear hB ho hW hB' ho' hcs
  rw [hv] at cc
  refine callsIn_of_wp Try.func87 rfl trivial ?_ rfl
  simp only [Try.ntmps87, List.size_toArray, List.length_cons, List.length_nil, Nat.reduceAdd, Nat.reduceSub, Array.replicate_succ, Array.replicate_zero, List.push_toArray, List.append_toArray, List.nil_append, List.cons_append]
  gi_wp2
  gi_loopw [7] (fun iv wr => ∃ k : Nat, k ≤ l.length ∧ iv = .int .i64 k ∧ J (l.take k) wr ∧ KeepL (c :: v.ownBlock.toList) W wr) (fun iv _ => l.length - (intOf iv).toNat)
  case atStart => exact ⟨0, by omega, rfl, h0, fun _ _ => rfl⟩
  case round =>
    obtain ⟨k, hk, rfl, hJk, hKk⟩ := hrel
    by_cases hlt : k < l.length
    · have ho1 : NOwn wr v l := HX.out.2.same (fun k hk => hKk k (by simp [hk]))
      obtain ⟨va', vc', hv', hvc', hcs, -⟩ := ho1.open
      obtain ⟨b, hb, hob, k1⟩ := hcs k hlt
      subst hb
      have e0 : va = some ⟨b, 0, none⟩ := by have := HV.out; rw [hv'] at this; cases this; rfl
      subst e0
      have hrv : l.take (k + 1) = l.take k ++ [l[k]] := List.take_succ_eq_append_getElem hlt
      obtain ⟨fn, tmps, assign, body, hy, hRd⟩ := hY (l.take k) l[k] wr hJk (by simp; omega)
      unfold encN at hy
      have q1 : (k : Int) < (l.length : Int) := by omega
      generalize l[k] = x at *
      have G : Hid _ := And.intro hKk hrv
      clear hKk hrv hJk ho1 hcs
      gi_wp2
      refine hRd.mono ?_
      rintro e W5 (⟨rfl, hJ5, hk5⟩ | ⟨rfl, hJx5⟩)
      · have R : Hid _ := And.intro (show J (l.take (k + 1)) W5 by rw [G.out.2]; exact hJ5) (KeepL.t G.out.1 hk5)
        clear hJ5 hk5 G
        gi_wp2
        go_roundw
        case rel => exact ⟨k + 1, by omega, by go_num, R.out.1, R.out.2⟩
        case measure => simp [intOf]; omega
      · gi_wp2
        refine bodyPost_ret (results_none rfl _ _ _) rfl ?_
        exact ⟨⟨_, rfl⟩, .inr ⟨_, trivial, hJx5⟩⟩
    · obtain rfl : k = l.length := by omega
      rw [List.take_length] at hJk
      gi_wp2
      go_end0
      exact ⟨⟨_, rfl⟩, .inl ⟨_, rfl, hJk⟩⟩
set_option maxHeartbeats 400000 in
theorem vals_any (va : Option Addr) (vn vc : Nat) (w : World) :
    Calls Try.prog 68 #[.slice va vn vc] w fun e w' => ∃ c, e = .returned (.func (.func 87) #[] #[.pointer (some ⟨c, 0, none⟩)]) ∧ w.heap.size ≤ c ∧ Blk w' c 46 [.slice va vn vc] ∧ Below w.heap.size w w' := by
  have B2 : Blk (w.alloc (.cells #[.slice va vn vc] 46)) w.heap.size 46 [.slice va vn vc] := Blk.new' w _ _
  have b2 : Below w.heap.size w (w.alloc (.cells #[.slice va vn vc] 46)) := (Below.refl _ _).alloc (Nat.le_refl _) _
  have F : Hid _ := And.intro B2 b2
  clear B2 b2
  go_enter Try.func68, Try.ntmps68
  go_wp2
  go_ret
  exact ⟨_, rfl, Nat.le_refl _, F.out.1, F.out.2⟩
/-- a function over a list -/
def RdSeq (w w' : World) (e : Ending) (l : List Int) : Prop := ∃ c v, e = .returned (.func (.func 87) #[] #[.pointer (some ⟨c, 0, none⟩)]) ∧ w.heap.size ≤ c ∧ Blk w' c 46 [v] ∧ NOwn w' v l ∧ (∀ b, v.ownBlock = some b → w.heap.size ≤ b)
end Go.Proofs.Ytgonglbgejaffaa

/- Missing. -/
namespace Go.Proofs.Ytgonglbgejaffaa
open Go.RowKit Go.Shelf
set_option linter.unusedVariables false
set_option linter.unusedSimpArgs false
set_option maxRecDepth 4000
attribute [local go_sem] Oper.semAt_some

/-- the numbers, below k, of what is not there -/
def mis (bs : List Bool) (k : Nat) : List Int := ((List.range k).filter (fun i => bs[i]? == some false)).map (fun i : Nat => (i : Int))
theorem mis_succ (bs : List Bool) (k : Nat) : mis bs (k + 1) = mis bs k ++ (if bs[k]? = some false then [(k : Int)] else []) := by
  unfold mis
  rw [List.range_succ, List.filter_append, List.map_append]
  congr 1
  by_cases h : bs[k]? = some false
  · simp [h]
  · simp [h]
theorem mis_len (bs : List Bool) (k : Nat) : (mis bs k).length ≤ k := by
  unfold mis
  rw [List.length_map]
  have := List.length_filter_le (fun i => bs[i]? == some false) (List.range k)
  rw [List.length_range] at this
  exact this
set_option maxHeartbeats 4000000 in
theorem missing_raw (g t : Nat) (bs : List Bool) (c0 c1 c3 c4 c5 c6 c7 c8 c9 : Value) (w : World) (hG : Blk w g 74 [c0, c1, .slice (some ⟨t, 0, none⟩) bs.length bs.length, c3, c4, c5, c6, c7, c8, c9]) (hB : Blk w t 4 (bs.map .bool)) (hl : bs.length ≤ 1000) :
    Calls Try.prog 45 #[.pointer (some ⟨g, 0, none⟩)] w fun e w' => RdSeq w w' e (mis bs bs.length) ∧ Below w.heap.size w w' := by
  have HA : Hid (∀ k (h : k < bs.length) W, Below w.heap.size w W → W.cell? ⟨t, k, none⟩ = some (.bool bs[k])) := fun k h W hW => by rw [blk_at (hB.laterB hW) k, List.getElem?_map, List.getElem?_eq_getElem h]; rfl
  have y2 := blk_at hG 2
  simp only [List.getElem?_cons_zero, List.getElem?_cons_succ] at y2
  clear hB hG
  go_enter Try.func45, Try.ntmps45
  go_wp2_with fail
  clear y2
  go_loopw [3, 14] (fun lv iv wr => ∃ (k : Nat), iv = .int .i64 k ∧ k ≤ bs.length ∧ NuI w wr lv (mis bs k)) (fun _ iv _ => bs.length - (intOf iv).toNat)
  case atStart => exact ⟨0, rfl, by omega, NOwn.nil _, (fun b hb => by cases hb), Below.refl _ _⟩
  case round =>
    obtain ⟨k, rfl, hk, hI⟩ := hrel
    obtain ⟨ta, tc, htv, -, -, -⟩ := hI.own.open
    by_cases hlt : k < bs.length
    · have k1 := HA.out k hlt wr hI.below
      have q1 : (k : Int) < bs.length := by omega
      have hms := mis_succ bs k
      have hml := mis_len bs k
      rw [List.getElem?_eq_getElem hlt] at hms
      generalize bs[k] = x at *
      generalize hKt : mis bs k = Kt at *
      cases x with
      | true =>
        have HR : Hid _ := And.intro hI hms
        clear hI hms hKt
        rw [htv]
        go_wp2
        go_roundw
        case rel =>
          refine ⟨k + 1, by go_num, by omega, ?_⟩
          rw [HR.out.2, if_neg (by simp), List.append_nil, ← htv]
          exact HR.out.1
        case measure => simp [intOf]; omega
      | false =>
        have bn : Below wr.heap.size wr (wr.alloc (.cells #[.int .i64 k] 3)) := (Below.refl _ _).alloc (Nat.le_refl _) _
        have HN : Hid _ := And.intro (hI.later bn) (And.intro (Blk.new' wr 3 [.int .i64 k]) hms)
        have hul : Kt.length ≤ 1000000 := by omega
        clear hI bn hms hKt
        rw [htv]
        go_wp2_with (at_builtin; refine wpList_append_num _ rfl _ _ rfl _ Kt rfl (by rw [← htv]; exact HN.out.1.own) wr.heap.size k rfl HN.out.2.1 hul ?_)
        intro v' w5 ho5 hg5 hor5
        have R := HN.out.1.put ho5 (by rw [htv]; exact hg5) (by rw [htv, World.size_alloc]; exact hor5)
        obtain ⟨a', c', hv', -, -, -⟩ := ho5.open
        have HR : Hid _ := And.intro R HN.out.2.2
        clear R ho5 hg5 hor5 HN
        rw [hv']
        go_wp2
        go_roundw
        case rel =>
          refine ⟨k + 1, by go_num, by omega, ?_⟩
          rw [HR.out.2, if_pos (by trivial), ← hv']
          exact HR.out.1
        case measure => simp [intOf]; omega
    · obtain rfl : k = bs.length := by omega
      have HV : Hid _ := vals_any ta (mis bs bs.length).length tc wr
      rw [← htv] at HV
      have HI : Hid _ := And.intro hI htv
      clear hI HA
      rw [htv] at HV ⊢
      generalize (mis bs bs.length).length = N at *
      go_wp2_with fail
      refine (Calls.mono HV.out) ?_
      rintro e w3 ⟨c, rfl, hc, Bc, b3⟩
      have F : Hid _ := And.intro (⟨c, _, rfl, Nat.le_trans HI.out.1.below.size hc, Bc, by have := HI.out.1.own.later b3; rw [HI.out.2] at this; exact this, fun b hb => by have := HI.out.1.new b; rw [HI.out.2] at this; exact this hb⟩ : RdSeq w w3 (.returned (.func (.func 87) #[] #[.pointer (some ⟨c, 0, none⟩)])) (mis bs bs.length)) (below_then HI.out.1.below b3)
      clear HV Bc b3 hc HI htv
      go_wp2
      go_ret
      exact F.out
theorem seqn_not_nil (w : World) (f : Fn) (x y : Array Value) : (binOp .eql 88 (.func f x y) .nilFunc).run Try.prog w = .ok (.bool false) w := by kernel_rfl
/-- between two rounds -/
structure RN (box base : Nat) (x6 : World) (pre : List Int) (W : World) : Prop where
  ex : ∃ v, Blk W box 46 [v] ∧ W.ownsRow base 3 1 v pre.length (ncells pre)
  turned : Turned (fun k => k = box) x6 W
  big : base ≤ W.heap.size
theorem rn_own {box : Nat} {x6 : World} : OwnFrom x6.heap.size (fun pre W => RN box x6.heap.size x6 pre W) := by
  rintro s A B row ⟨⟨v, hB, ho⟩, ht, hbig⟩ hg hr
  have ht' : Turned (fun k => row = some k) A B := turned_grown hg (fun k e => e)
  refine ⟨⟨v, hB.turned ht' (fun e => ?_), ?_⟩, ht.trans (ht'.mono (fun k e => .inr (hr k e).1)), Nat.le_trans hbig hg.size⟩
  · obtain ⟨_, o, ho', hc⟩ := hr _ e; exact blk_non hB ho' hc
  · refine World.ownsRow.kept ho hg ?_
    cases hv : v.ownBlock with
    | none => exact .inl rfl
    | some k =>
      refine .inr (fun e => ?_)
      obtain ⟨_, o, ho', hc⟩ := hr k e.symm
      obtain ⟨_, ⟨rfl, _⟩ | ⟨g', cap, cur, rfl, hb', hh, r⟩⟩ := ho
      · cases hv
      · cases hv
        rw [hh] at ho'; cases ho'
        simp [Obj.isCells] at hc
/-- a round that goes on -/
def roundN (R : World → Prop) : Exit → Act → World → Prop
  | .normal, _, W' => R W'
  | _, _, _ => False
set_option maxHeartbeats 4000000 in
theorem lawmiss_gen (p : Option Addr) (L : List Int) (w : World) (hLl : L.length ≤ 5000) (P : World → World → Prop)
    (hR : ∀ w1, Below w.heap.size w w1 → Calls Try.prog 45 #[.pointer p] w1 fun e w' => RdSeq w1 w' e L ∧ P w1 w')
    (hP : ∀ w1 w2, P w1 w2 → w1.heap.size ≤ w2.heap.size ∧ (∀ k, w.heap.size ≤ k → k < w1.heap.size → w2.heap[k]? = w1.heap[k]?)) :
    Calls Try.prog 21 #[.pointer p] w fun e w' => ∃ v, e = .returned v ∧ NOwn w' v L ∧ (∃ w1 w2, Below w.heap.size w w1 ∧ w1.heap.size = w.heap.size + 1 ∧ P w1 w2 ∧ Turned (fun k => k = w.heap.size) w2 w' ∧ (∀ b, v.ownBlock = some b → w2.heap.size ≤ b)) := by
  have B1 : Blk (w.alloc (.cells #[.slice none 0 0] 46)) w.heap.size 46 [.slice none 0 0] := Blk.new' w _ _
  have b1 : Below w.heap.size w (w.alloc (.cells #[.slice none 0 0] 46)) := (Below.refl _ _).alloc (Nat.le_refl _) _
  have s1 : (w.alloc (.cells #[.slice none 0 0] 46)).heap.size = w.heap.size + 1 := by simp
  have F0 : Hid _ := And.intro B1 (And.intro b1 s1)
  have HR : Hid _ := And.intro hR hP
  clear B1 b1 s1 hR hP
  refine (callsIn_wide (n := 9)).1 ?_
  refine callsIn_of_wp_marks Try.func21 rfl trivial ?_ rfl
  simp only [Try.ntmps21, List.size_toArray, List.length_cons, List.length_nil, Nat.reduceAdd, Nat.reduceSub, Array.replicate_succ, Array.replicate_zero, List.push_toArray, List.append_toArray, List.nil_append, List.cons_append]
  refine wpIn_wide.2 (wp_mono (Q := calm11 (bodyPostM Fence.wide 9 Try.prog Try.f21 fun e w' => ∃ v, e = .returned v ∧ NOwn w' v L ∧ (∃ w1 w2, Below w.heap.size w w1 ∧ w1.heap.size = w.heap.size + 1 ∧ P w1 w2 ∧ Turned (fun k => k = w.heap.size) w2 w' ∧ (∀ b, v.ownBlock = some b → w2.heap.size ≤ b)))) ?_ (fun e a w h => calm11_out h))
  go_wp2_with fail
  generalize w.alloc (.cells #[.slice none 0 0] 46) = w1 at *
  refine (HR.out.1 w1 F0.out.2.1).mono ?_
  rintro e x6 ⟨⟨cb, sv, rfl, hcb, Bc, hso, hsf⟩, hp6⟩
  have hsn := seqn_not_nil x6
  go_wp2_with fail
  obtain ⟨z6, k6⟩ := HR.out.2 w1 x6 hp6
  have hs1 := F0.out.2.2
  have B6 : Blk x6 w.heap.size 46 [.slice none 0 0] := by have := F0.out.1; unfold Blk at *; rw [k6 w.heap.size (Nat.le_refl _) (by omega)]; exact this
  have hks : ∀ k ∈ cb :: sv.ownBlock.toList, k < x6.heap.size ∧ k ≠ w.heap.size := by
    intro k hk
    simp only [List.mem_cons, Option.mem_toList] at hk
    rcases hk with rfl | hk
    · exact ⟨Bc.lt, by omega⟩
    · exact ⟨hso.lt k hk, by have := hsf k hk; omega⟩
  have hsq := vals_stops 8 (by omega) cb sv L x6 Bc hso (by omega)
  have hq6 : w.heap.size < x6.heap.size := by omega
  refine (wpIn_wide (n := 9)).1 ?_
  refine wpIn_rangeFunc_ownG rfl (by omega) (gf := 87) (lb := #[.pointer (some ⟨cb, 0, none⟩)]) rfl trivial (enters_of Try.func87 (by kernel_rfl) rfl) hsq (fun h k => h.t k) (fun W l o o' hl h _ _ k hk => World.putObj_heap_other (by have := (hks k hk).1; omega)) (Below.refl _ _) (fun _ => rfl) (fun pre W => RN w.heap.size x6.heap.size x6 pre W) (fun _ _ _ => False)
    rn_own (fun _ _ _ _ _ hs _ _ => hs) ⟨⟨_, B6, World.ownsRow_nil _ _ _ _⟩, ⟨rfl, rfl, rfl, Nat.le_refl _, fun _ _ _ => rfl⟩, Nat.le_refl _⟩ (fun x => { tmps := #[.pointer p, undef, .slice none 0 0, .pointer (some ⟨w.heap.size, 0, none⟩), .func (.func 87) #[] #[.pointer (some ⟨cb, 0, none⟩)], .int .i64 x, .pointer p, .func (.func 87) #[] #[.pointer (some ⟨cb, 0, none⟩)], .func (.func 87) #[] #[.pointer (some ⟨cb, 0, none⟩)], .bool false, .func (.func 87) #[] #[.pointer (some ⟨cb, 0, none⟩)], .int .i64 x, undef, undef, undef, undef, undef], defers := [] }) ?assign ?body ?done ?stop
  case assign =>
    intro l x W K hK
    simp only [encN]
    gi_wp2
    exact hK
  case body =>
    rintro l pre x W ⟨⟨v, hB, ho⟩, ht, hbig⟩ hlt
    refine wpIn_mono (Q := roundN (fun W' => KeepsFrom x6.heap.size W W' ∧ KeepL (cb :: sv.ownBlock.toList) W W' ∧ RN w.heap.size x6.heap.size x6 (pre ++ [x]) W')) ?_ ?_
    rotate_left
    · rintro e a W' h
      cases e <;> first | exact h.elim | exact h
    have c0 := hB.cell (by simp [maxLen]) 0 (by simp)
    simp only [List.getElem?_cons_zero] at c0
    have bx : Below W.heap.size W (W.alloc (.cells #[.int .i64 x] 3)) := (Below.refl _ _).alloc (Nat.le_refl _) _
    have BX : Blk (W.alloc (.cells #[.int .i64 x] 3)) W.heap.size 3 [.int .i64 x] := Blk.new' W _ _
    have hox := World.ownsRow.kept ho (row := none) (below_grown bx) (by cases hv : v.ownBlock <;> simp)
    have hBx := hB.laterB bx
    have htx : Turned (fun k => k = w.heap.size) x6 (W.alloc (.cells #[.int .i64 x] 3)) := ht.trans ((turned_below bx).mono (fun _ h => h.elim))
    have hbs : x6.heap.size ≤ (W.alloc (.cells #[.int .i64 x] 3)).heap.size := Nat.le_trans hbig bx.size
    obtain ⟨i0, hi, hz0, hz1, hz2⟩ := info_parts info_n64
    have hnews : ∀ j u, [Value.int .i64 x][j]? = some u → (W.alloc (.cells #[.int .i64 x] 3)).cell? ((⟨W.heap.size, 0, none⟩ : Addr).add j) = some u := by
      intro j u hj
      match j, hj with
      | 0, hj =>
        simp at hj; subst hj
        simp [Addr.add]
    have H0 : Hid _ := And.intro hox (And.intro hnews (And.intro hBx (And.intro htx (And.intro hbs (And.intro bx (And.intro hbig ho))))))
    clear hox hnews hBx htx hbs bx ho ht hB BX
    gi_wp2_with (gi_at_builtin; refine wpListIn_append_own _ rfl _ _ 46 rfl x6.heap.size 3 i0 (.int .i64 0) 1 8 Try.underlying46 hi hz0 hz1 hz2 rfl (by decide) v pre.length (ncells pre) rfl H0.out.1 ⟨W.heap.size, 0, none⟩ 1 1 [.int .i64 x] rfl rfl H0.out.2.1 (by intro u hu; simp only [List.mem_cons, List.not_mem_nil, or_false] at hu; subst hu; rfl) (by unfold maxLen; omega) (by omega) H0.out.2.2.2.2.1 ?_)
    intro v' w7 ho7 hg7 _
    obtain ⟨va, vn, vc, rfl⟩ : ∃ va vn vc, v' = .slice va vn vc := by
      obtain ⟨_, ⟨rfl, _⟩ | ⟨g', cap, cur, rfl, _⟩⟩ := ho7
      · exact ⟨_, _, _, rfl⟩
      · exact ⟨_, _, _, rfl⟩
    obtain ⟨v', hv'⟩ : ∃ v', v' = Value.slice va vn vc := ⟨_, rfl⟩
    rw [← hv'] at ho7
    obtain ⟨hox, hnews, hBx, htx, hbs, bx, hbig, ho⟩ := H0.out
    have hlt' := World.ownsRow.lt ho
    have hne : v.ownBlock ≠ some w.heap.size := fun e => by have := (hlt' _ e).1; omega
    have ht7 : Turned (fun k => v.ownBlock = some k) _ w7 := turned_grown hg7 (fun k e => e)
    have hB7 := hBx.turned ht7 hne
    obtain ⟨e7, f7⟩ : w7.cell? ⟨w.heap.size, 0, none⟩ = some v ∧ w7.frozen? ⟨w.heap.size, 0, none⟩ = false := ⟨by have := hB7.cell (by simp [maxLen]) 0 (by simp); simpa using this, hB7.frozen (by simp [maxLen]) 0⟩
    have hB8 := hB7.set 0 v'
    have hne' : v'.ownBlock ≠ some w.heap.size := fun e => by have := (World.ownsRow.lt ho7 _ e).1; omega
    have ho8 : World.ownsRow (w7.setCell ⟨w.heap.size, 0, none⟩ v') x6.heap.size 3 1 v' (pre ++ [x]).length (ncells (pre ++ [x])) := by
      rw [ncells_append, List.length_append]
      exact World.ownsRow.kept ho7 (grown_set w7 w.heap.size 0 v') (.inr hne')
    have ht8 : Turned (fun k => k = w.heap.size) x6 (w7.setCell ⟨w.heap.size, 0, none⟩ v') :=
      (htx.trans (ht7.mono (fun k e => .inr (hlt' k e).1))).trans ((turned_grown (grown_set w7 w.heap.size 0 v') (R := fun k => k = w.heap.size) (fun k e => by cases e; rfl)).mono (fun k e => .inl e))
    have hlater : ∀ k, k < W.heap.size → k ≠ w.heap.size → v.ownBlock ≠ some k → (w7.setCell ⟨w.heap.size, 0, none⟩ v').heap[k]? = W.heap[k]? := by
      intro k hk h1 h2
      rw [Below.heap_setCell _ _ _ _ h1, hg7.block k (Nat.lt_of_lt_of_le hk bx.size) (fun e => h2 e.symm), bx.block k hk]
    have hKF : KeepsFrom x6.heap.size W (w7.setCell ⟨w.heap.size, 0, none⟩ v') := by
      refine ⟨Nat.le_trans bx.size (Nat.le_trans hg7.size (by simp [World.setCell])), fun k o hk hko hc => ?_⟩
      rw [hlater k (Array.getElem?_eq_some_iff.1 hko).1 (by omega) (fun e => ?_)]
      · exact hko
      · obtain ⟨_, ⟨rfl, _⟩ | ⟨g', cap, cur, rfl, hb', hh, r⟩⟩ := ho
        · cases e
        · cases e
          rw [hh] at hko; cases hko
          simp [Obj.isCells] at hc
    have hKL : KeepL (cb :: sv.ownBlock.toList) W (w7.setCell ⟨w.heap.size, 0, none⟩ v') := by
      intro k hk
      have := hks k hk
      exact hlater k (by omega) this.2 (fun e => by have := (hlt' k e).1; omega)
    rw [hv'] at hKF hKL hB8 ho8 ht8
    have F : Hid _ := And.intro hKF (And.intro hKL (RN.mk ⟨_, by simpa using hB8, ho8⟩ ht8 (by have := hKF.size; omega)))
    clear hox hnews hBx htx hbs bx ho hlt' hne ht7 hB7 hB8 hne' ho8 ht8 hlater hKF hKL ho7 hg7 H0 c0 hv' v'
    gi_wp2
    exact F.out
  case done =>
    rintro D ys W hD hys ⟨⟨v, hB, ho⟩, ht, hbig⟩ hdf
    have c1 := hB.cell (by simp [maxLen]) 0 (by simp)
    simp only [List.getElem?_cons_zero] at c1
    subst hys
    have hDv : ∀ k, v.ownBlock = some k → k ≠ D := by
      rintro k hk rfl
      obtain ⟨_, ⟨rfl, _⟩ | ⟨g', cap, cur, rfl, hb', hh, r⟩⟩ := ho
      · cases hk
      · cases hk
        rw [hh] at hdf; cases hdf
    have F : Hid _ := And.intro ht (And.intro hdf (And.intro hD (And.intro ho (And.intro hDv hp6))))
    clear ht hdf hsq hB hD ho hDv hp6
    go_wp2_with fail
    refine ⟨by simp, .inl ⟨_, _, rfl, run_takeDeferred F.out.2.1, ?_⟩⟩
    obtain ⟨ht, hdf, hD, ho, hDv, hp6⟩ := F.out
    refine ⟨_, results_tmp rfl _ _ _, v, rfl, ?_, w1, x6, F0.out.2.1, hs1, hp6, ?_, fun b hb => (World.ownsRow.lt ho b hb).1⟩
    · obtain ⟨h1, h2 | ⟨g', cap, cur, rfl, hb', hh, r⟩⟩ := ho
      · exact ⟨h1, .inl h2⟩
      · exact ⟨h1, .inr ⟨g', cap, cur, rfl, Nat.zero_le _, by rw [World.putObj_heap_other (hDv g' rfl)]; exact hh, r⟩⟩
    · exact ht.trans ((turned_grown (grownBy_putObj' W D (.deferred none)) (R := fun k => k = D) (fun k e => by cases e; rfl)).mono (fun k e => .inr (by subst e; exact hD)))
  case stop =>
    rintro D c pre W _ _ h _
    exact h.elim

end Go.Proofs.Ytgonglbgejaffaa

/- A reader that gathers the pieces of one image (no Go). -/
namespace Go.Proofs.Ytgonglbgejaffaa
open Go.RowKit Go.Shelf
set_option linter.unusedVariables false
set_option linter.unusedSimpArgs false
set_option maxRecDepth 4000

/-- the bytes of the piece i -/
def chk (b : List (BitVec 8)) (s i : Nat) : List (BitVec 8) := (b.drop (i * s)).take s
def chks (b : List (BitVec 8)) (s n : Nat) : List (List (BitVec 8)) := (List.range n).map (chk b s)
theorem chks_take (b : List (BitVec 8)) (s n : Nat) : (chks b s n).flatten = b.take (n * s) := by
  induction n with
  | zero => simp [chks]
  | succ n ih =>
    have : chks b s (n + 1) = chks b s n ++ [chk b s n] := by unfold chks; rw [List.range_succ, List.map_append]; rfl
    rw [this, List.flatten_append, ih]
    simp only [List.flatten_cons, List.flatten_nil, List.append_nil]
    rw [Nat.add_mul, Nat.one_mul, List.take_add]
    rfl
theorem npc_ge (n s : Nat) (hs : 1 ≤ s) : n ≤ npc n s * s := by
  have h1 : (n + s - 1) / s ≤ npc n s := Nat.le_max_right _ _
  have h2 := Nat.div_add_mod (n + s - 1) s
  have h3 := Nat.mod_lt (n + s - 1) (show s > 0 by omega)
  have h4 : (n + s - 1) / s * s ≤ npc n s * s := Nat.mul_le_mul_right s h1
  rw [Nat.mul_comm] at h2
  omega
theorem chks_all (b : List (BitVec 8)) (s : Nat) (hs : 1 ≤ s) : (chks b s (npc b.length s)).flatten = b := by
  rw [chks_take]; exact List.take_of_length_le (npc_ge _ _ hs)
theorem sum_le7 : ∀ (xs ys : List Nat), xs.length = ys.length → (∀ i (h : i < xs.length) (k : i < ys.length), xs[i] ≤ ys[i]) → xs.sum ≤ ys.sum
  | [], [], _, _ => Nat.le_refl _
  | x :: xs, y :: ys, hl, h => by
    have h0 := h 0 (by simp) (by simp)
    have ih := sum_le7 xs ys (by simpa using hl) (fun i hi hk => by have := h (i + 1) (by simp; omega) (by simp; omega); simpa using this)
    simp only [List.getElem_cons_zero] at h0
    simp only [List.sum_cons]
    omega
/-- the pieces of one image, some of them -/
structure GI (m : CR) (id : Int) (b : List (BitVec 8)) (s : Nat) : Prop where
  id : m.id = id
  sum : m.s = ((Crc.sum b).toNat : Int)
  len : m.ps.length = npc b.length s
  each : ∀ (i : Nat) (o : Option (List (BitVec 8))), m.ps[i]? = some o → o = none ∨ o = some (chk b s i)
theorem GI.lenOf_le {m : CR} {id : Int} {b : List (BitVec 8)} {s : Nat} (h : GI m id b s) (hs : 1 ≤ s) : lenOf m.ps ≤ b.length := by
  have e : b.length = ((chks b s (npc b.length s)).map List.length).sum := by rw [← List.length_flatten, chks_all b s hs]
  rw [e]
  unfold lenOf
  refine sum_le7 _ _ (by simp [chks, h.len]) (fun i hi hk => ?_)
  rw [List.length_map] at hi
  rw [List.getElem_map, List.getElem_map]
  simp only [chks, List.getElem_map, List.getElem_range]
  rcases h.each i m.ps[i] (List.getElem?_eq_getElem hi) with e | e
  · rw [e]; exact Nat.zero_le _
  · rw [e]; exact Nat.le_refl _
theorem setPc_fields (m : CR) (i : Nat) (d : List (BitVec 8)) : (setPc m i d).id = m.id ∧ (setPc m i d).s = m.s ∧ (setPc m i d).ps.length = m.ps.length := by
  unfold setPc; split
  · exact ⟨rfl, rfl, List.length_set⟩
  · exact ⟨rfl, rfl, rfl⟩
theorem GI.set {m : CR} {id : Int} {b : List (BitVec 8)} {s : Nat} (h : GI m id b s) (i : Nat) : GI (setPc m i (chk b s i)) id b s := by
  obtain ⟨e1, e2, e3⟩ := setPc_fields m i (chk b s i)
  refine ⟨e1.trans h.id, e2.trans h.sum, e3.trans h.len, fun j o hj => ?_⟩
  unfold setPc at hj
  split at hj
  · by_cases hij : i = j
    · subst hij
      have hl : i < m.ps.length := by
        have := (List.getElem?_eq_some_iff.1 hj).1
        simpa using this
      rw [List.getElem?_set_self hl] at hj
      cases hj
      exact .inr rfl
    · rw [List.getElem?_set_ne hij] at hj
      exact h.each j o hj
  · exact h.each j o hj
theorem GI.add {m : CR} {id : Int} {b : List (BitVec 8)} {s : Nat} (h : GI m id b s) : GI (addM m) id b s := ⟨h.id, h.sum, h.len, h.each⟩
theorem GI.room {m : CR} {id : Int} {b : List (BitVec 8)} {s : Nat} (h : GI m id b s) (hs : 1 ≤ s) (i : Nat) (hi : m.ps[i]? = some none) : lenOf m.ps + (chk b s i).length ≤ b.length := by
  have := (h.set i).lenOf_le hs
  unfold setPc at this
  rw [hi] at this
  simp only at this
  rw [lenOf_set _ _ _ hi] at this
  exact this
theorem GI.begin (m : CR) (id : Int) (b : List (BitVec 8)) (s : Nat) : GI (begM m id ((Crc.sum b).toNat : Int) (npc b.length s)) id b s :=
  ⟨rfl, rfl, by simp [begM], fun i o hi => by
    have hic := (List.getElem?_eq_some_iff.1 hi)
    obtain ⟨h1, h2⟩ := hic
    simp [begM] at h2
    exact .inl h2.symm⟩
theorem GI.whole {m : CR} {id : Int} {b : List (BitVec 8)} {s : Nat} (h : GI m id b s) (hs : 1 ≤ s) (hx : (m.ps.map Option.isSome).any (fun b => !b) = false) : flat m = b := by
  unfold flat
  rw [← chks_all b s hs]
  congr 1
  refine List.ext_getElem (by simp [chks, h.len, chks_all b s hs]) (fun i h1 h2 => ?_)
  rw [List.length_map] at h1
  rw [List.getElem_map]
  have hsm : m.ps[i].isSome = true := by
    rw [List.any_eq_false] at hx
    have := hx m.ps[i].isSome (List.mem_map.2 ⟨_, List.getElem_mem h1, rfl⟩)
    cases hq : m.ps[i].isSome with
    | true => rfl
    | false => rw [hq] at this; exact absurd rfl this
  rcases h.each i m.ps[i] (List.getElem?_eq_getElem h1) with e | e
  · rw [e] at hsm; cases hsm
  · rw [e]
    simp [chks, chks_all b s hs]
end Go.Proofs.Ytgonglbgejaffaa
