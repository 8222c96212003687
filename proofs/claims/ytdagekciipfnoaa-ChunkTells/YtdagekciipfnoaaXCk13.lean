/- Numbers of a call's own, and a function that goes through them. -/
import Derived.Test.YtdagekciipfnoaaXCk12
import Derived.Test.YtdagekciipfnoaaXRnd
import Derived.Shelf.RegionOpen
import Derived.Maps.AppendAt
import Derived.BigQuiet
namespace Go.Proofs.Ytdagekciipfnoaa
open Go.RowKit Go.Shelf
set_option linter.unusedVariables false
set_option linter.unusedSimpArgs false
set_option maxRecDepth 4000

def ncells (l : List Int) : List Value := l.map fun c => .int .i64 c
theorem ncells_append (a b : List Int) : ncells (a ++ b) = ncells a ++ ncells b := List.map_append
theorem ncells_at (l : List Int) (i : Nat) (h : i < l.length) : (ncells l)[i]? = some (.int .i64 l[i]) := by unfold ncells; rw [List.getElem?_map, List.getElem?_eq_getElem h]; rfl
/-- numbers of the call's own -/
def NOwn (w : World) (v : Value) (l : List Int) : Prop := w.ownsRow 0 3 1 v l.length (ncells l)
theorem NOwn.nil (w : World) : NOwn w (.slice none 0 0) [] := World.ownsRow_nil w 0 _ 1
theorem NOwn.same {w w' : World} {v : Value} {l : List Int} (h : NOwn w v l) (hb : ∀ k, v.ownBlock = some k → w'.heap[k]? = w.heap[k]?) : NOwn w' v l := ownsRow_same h hb
theorem NOwn.lt {w : World} {v : Value} {l : List Int} (h : NOwn w v l) (k : Nat) (hk : v.ownBlock = some k) : k < w.heap.size := (World.ownsRow.lt h k hk).2
theorem NOwn.later {w w' : World} {v : Value} {l : List Int} (h : NOwn w v l) (hb : Below w.heap.size w w') : NOwn w' v l := h.same (fun k hk => hb.block k (h.lt k hk))
theorem NOwn.open {w : World} {v : Value} {l : List Int} (h : NOwn w v l) : ∃ a c, v = .slice a l.length c ∧ l.length ≤ c ∧ (∀ i (hi : i < l.length), ∃ b, a = some ⟨b, 0, none⟩ ∧ v.ownBlock = some b ∧ w.cell? ⟨b, i, none⟩ = some (.int .i64 l[i])) ∧ c ≤ maxLen := by
  have h0 := h
  obtain ⟨h1, ⟨h2, h3⟩ | ⟨g, cap, cur, rfl, hb, hh, hc, hm, hs, ht⟩⟩ := h
  · exact ⟨none, 0, by rw [h2, h3], by omega, (fun i hi => by omega), by simp⟩
  · refine ⟨_, cap, rfl, hc, fun i hi => ⟨g, rfl, rfl, ?_⟩, hm⟩
    rw [World.ownsRow.cellAt h0 _ (by omega)]; exact ncells_at l i hi
theorem info_n64 : (Try.prog.info? 3).map (fun i => (i.zero, i.size, i.bytes)) = some (some (.int .i64 0), 1, 8) := by kernel_rfl
theorem wpList_append_num (w : World) {ops : Array Oper} {rest : List Oper} {o : Oper} {a : Act} {Q : Exit → Act → World → Prop} (hg : o.guard = none) (s x : Operand)
    (ho : o.op = .call { callee := .builtin .append, args := #[s, x], argTypes := #[23, 23] }) (v : Value) (l : List Int) (hs : a.eval s = v) (hown : NOwn w v l)
    (k : Nat) (u : Int) (hx : a.eval x = .slice (some ⟨k, 0, none⟩) 1 1) (hB : Blk w k 3 [.int .i64 u]) (hmax : l.length ≤ 1000000)
    (next : ∀ (v' : Value) (w' : World), NOwn w' v' (l ++ [u]) → w.grownBy w' v.ownBlock → (v'.ownBlock = v.ownBlock ∨ v'.ownBlock = some w.heap.size) → wpList Try.prog ops Q rest (a.put o.dst v') w') : wpList Try.prog ops Q (o :: rest) a w := by
  obtain ⟨i0, hi, hz0, hz1, hz2⟩ := info_parts info_n64
  have c0 := blk_at hB 0
  simp at c0
  refine wpList_append_own_at (w := w) hg s x 23 ho 0 3 i0 (.int .i64 0) 1 8 Try.underlying23 hi hz0 hz1 hz2 rfl (by decide) v l.length (ncells l) hs hown ⟨k, 0, none⟩ 1 1 [.int .i64 u] hx rfl
    (fun j y hj => by
      match j, hj with
      | 0, hj => simp at hj; subst hj; simpa [Addr.add] using c0)
    (fun y hy => by simp at hy; subst hy; rfl) (by unfold maxLen; omega) (by omega) (Nat.zero_le _) ?_
  intro v' w' h2 h3 _ h5
  refine next v' w' ?_ h3 h5
  unfold NOwn
  rw [List.length_append, ncells_append]
  exact h2
/-- a list of numbers, as an object -/
def nuOb (v : Value) (l : List Int) : Ob := ⟨v.ownBlock.toList, [], fun w => NOwn w v l⟩
theorem nuOb_ok {w : World} {v : Value} {l : List Int} (h : NOwn w v l) : (nuOb v l).Ok w :=
  ⟨h, (fun k hk => by rcases hk with hk | hk; exact h.lt k (by simpa [nuOb] using hk); cases hk), (fun k _ hv => by cases hv), fun w1 w2 hs h => NOwn.same h (fun k hk => hs k (.inl (by simp [nuOb, hk])))⟩
/-- a list of the call's own that grows, while nothing else turns -/
structure NuI (w wr : World) (v : Value) (l : List Int) : Prop where
  own : NOwn wr v l
  new : ∀ b, v.ownBlock = some b → w.heap.size ≤ b
  below : Below w.heap.size w wr
theorem NuI.later {w wr w' : World} {v : Value} {l : List Int} (h : NuI w wr v l) (hb : Below wr.heap.size wr w') : NuI w w' v l := ⟨h.own.later hb, h.new, below_then h.below hb⟩
theorem NuI.put {w wr w' : World} {v v' : Value} {l l' : List Int} (h : NuI w wr v l) (ho : NOwn w' v' l') (hg : wr.grownBy w' v.ownBlock) (hor : v'.ownBlock = v.ownBlock ∨ v'.ownBlock = some wr.heap.size) : NuI w w' v' l' :=
  ⟨ho, fun b hb => by
    rcases hor with e | e
    · exact h.new b (by rw [← e]; exact hb)
    · rw [e] at hb; cases hb; exact h.below.size, h.below.grown hg h.below.size (fun k e => h.new k e)⟩
def KeepL (bs : List Nat) (W W' : World) : Prop := ∀ k ∈ bs, W'.heap[k]? = W.heap[k]?
theorem KeepL.t {bs : List Nat} {A B C : World} (h : KeepL bs A B) (k : KeepL bs B C) : KeepL bs A C := fun i hi => (k i hi).trans (h i hi)
theorem KeepL.below {bs : List Nat} {A B : World} (h : Below A.heap.size A B) (hl : ∀ k ∈ bs, k < A.heap.size) : KeepL bs A B := fun k hk => h.block k (hl k hk)
def calm11 (Q : Exit → Act → World → Prop) : Exit → Act → World → Prop
  | .panic _, _, _ => False
  | .normal, a, w => Q .normal a w
  | .ret, a, w => Q .ret a w
  | .exit i, a, w => Q (.exit i) a w
  | .goto i, a, w => Q (.goto i) a w
  | .outgrown, a, w => Q .outgrown a w
theorem calm11_out {Q : Exit → Act → World → Prop} {e : Exit} {a : Act} {w : World} (h : calm11 Q e a w) : Q e a w := by
  cases e <;> first | exact h | exact h.elim
theorem blk_non {A : World} {k T' : Nat} {xs : List Value} {o : Obj} (hB : Blk A k T' xs) (ho : A.heap[k]? = some o) (hc : o.isCells = false) : False := by
  unfold Blk at hB
  rw [hB] at ho
  cases ho
  simp [Obj.isCells] at hc
attribute [local go_sem] Oper.semAt_some

def encN (x : Int) : Array Value := #[.int .i64 x]
set_option maxHeartbeats 2000000 in
theorem vals_stops (n : Nat) (hn : 1 ≤ n) (c : Nat) (v : Value) (l : List Int) (w : World) (hB : Blk w c 23 [v]) (ho : NOwn w v l) (hl : l.length ≤ 100000) :
    SeqStopsK Fence.wide n Try.prog 56 #[.pointer (some ⟨c, 0, none⟩)] encN (KeepL (c :: v.ownBlock.toList)) (fun ys => ys = l) (fun _ => True) l.length w := fun y J Jx W hW hJ _ hY h0 => by
  have hB' : Blk W c 23 [v] := hB.laterB hW
  have ho' : NOwn W v l := ho.later hW
  have cc := hB'.cell (by simp [maxLen]) 0 (by simp)
  simp only [List.getElem?_cons_zero] at cc
  obtain ⟨va, vc, hv, hvc, hcs, -⟩ := ho'.open
  have HX : Hid _ := And.intro hB' ho'
  have HV : Hid _ := hv
  clear hB ho hW hB' ho' hcs
  rw [hv] at cc
  refine callsIn_of_wp Try.func56 rfl trivial ?_ rfl
  simp only [Try.ntmps56, List.size_toArray, List.length_cons, List.length_nil, Nat.reduceAdd, Nat.reduceSub, Array.replicate_succ, Array.replicate_zero, List.push_toArray, List.append_toArray, List.nil_append, List.cons_append]
  gi_wp2
  gi_loopw [7] (fun iv wr => ∃ k : Nat, k ≤ l.length ∧ iv = .int .i64 k ∧ J (l.take k) wr ∧ KeepL (c :: v.ownBlock.toList) W wr) (fun iv _ => l.length - (intOf iv).toNat)
  case atStart => exact ⟨0, by omega, rfl, h0, fun _ _ => rfl⟩
  case round =>
    obtain ⟨k, hk, rfl, hJk, hKk⟩ := hrel
    by_cases hlt : k < l.length
    · have ho1 : NOwn wr v l := HX.out.2.same (fun k hk => hKk k (by simp [hk]))
      obtain ⟨va', vc', hv', hvc', hcs, -⟩ := ho1.open
      obtain ⟨b, hb, hob, k1⟩ := hcs k hlt
      subst hb
      have e0 : va = some ⟨b, 0, none⟩ := by have := HV.out; rw [hv'] at this; cases this; rfl
      subst e0
      have hrv : l.take (k + 1) = l.take k ++ [l[k]] := List.take_succ_eq_append_getElem hlt
      obtain ⟨fn, tmps, assign, body, hy, hRd⟩ := hY (l.take k) l[k] wr hJk (by simp; omega)
      unfold encN at hy
      have q1 : (k : Int) < (l.length : Int) := by omega
      generalize l[k] = x at *
      have G : Hid _ := And.intro hKk hrv
      clear hKk hrv hJk ho1 hcs
      gi_wp2
      refine hRd.mono ?_
      rintro e W5 (⟨rfl, hJ5, hk5⟩ | ⟨rfl, hJx5⟩)
      · have R : Hid _ := And.intro (show J (l.take (k + 1)) W5 by rw [G.out.2]; exact hJ5) (KeepL.t G.out.1 hk5)
        clear hJ5 hk5 G
        gi_wp2
        go_roundw
        case rel => exact ⟨k + 1, by omega, by go_num, R.out.1, R.out.2⟩
        case measure => simp [intOf]; omega
      · gi_wp2
        refine bodyPost_ret (results_none rfl _ _ _) rfl ?_
        exact ⟨⟨_, rfl⟩, .inr ⟨_, trivial, hJx5⟩⟩
    · obtain rfl : k = l.length := by omega
      rw [List.take_length] at hJk
      gi_wp2
      go_end0
      exact ⟨⟨_, rfl⟩, .inl ⟨_, rfl, hJk⟩⟩
set_option maxHeartbeats 400000 in
theorem vals_any (va : Option Addr) (vn vc : Nat) (w : World) :
    Calls Try.prog 43 #[.slice va vn vc] w fun e w' => ∃ c, e = .returned (.func (.func 56) #[] #[.pointer (some ⟨c, 0, none⟩)]) ∧ w.heap.size ≤ c ∧ Blk w' c 23 [.slice va vn vc] ∧ Below w.heap.size w w' := by
  have B2 : Blk (w.alloc (.cells #[.slice va vn vc] 23)) w.heap.size 23 [.slice va vn vc] := Blk.new' w _ _
  have b2 : Below w.heap.size w (w.alloc (.cells #[.slice va vn vc] 23)) := (Below.refl _ _).alloc (Nat.le_refl _) _
  have F : Hid _ := And.intro B2 b2
  clear B2 b2
  go_enter Try.func43, Try.ntmps43
  go_wp2
  go_ret
  exact ⟨_, rfl, Nat.le_refl _, F.out.1, F.out.2⟩
/-- a function over a list -/
def RdSeq (w w' : World) (e : Ending) (l : List Int) : Prop := ∃ c v, e = .returned (.func (.func 56) #[] #[.pointer (some ⟨c, 0, none⟩)]) ∧ w.heap.size ≤ c ∧ Blk w' c 23 [v] ∧ NOwn w' v l ∧ (∀ b, v.ownBlock = some b → w.heap.size ≤ b)
end Go.Proofs.Ytdagekciipfnoaa

