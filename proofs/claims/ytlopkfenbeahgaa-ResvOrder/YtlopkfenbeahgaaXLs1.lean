/- Pairs of numbers in a queue; a queue in memory. -/
import Derived.Test.YtlopkfenbeahgaaXWo5
import Derived.Test.YtlopkfenbeahgaaXRnd
import Derived.Shelf.RegionOpen
namespace Go.Proofs.Ytlopkfenbeahgaa
open Go.RowKit Go.Shelf
set_option linter.unusedVariables false
set_option maxRecDepth 4000

/-- pairs as cells -/
def pcells (l : List (Int × Int)) : List Value := l.flatMap (fun r => [.int .i64 r.1, .int .i64 r.2])
theorem pcells_append (l k : List (Int × Int)) : pcells (l ++ k) = pcells l ++ pcells k := List.flatMap_append
theorem pcells_length (l : List (Int × Int)) : (pcells l).length = l.length * 2 := by
  induction l with
  | nil => rfl
  | cons h l ih => unfold pcells at *; rw [List.flatMap_cons, List.length_append, ih]; simp; omega
theorem pcells_at (l : List (Int × Int)) (i : Nat) (hi : i < l.length) : (pcells l)[i * 2]? = some (.int .i64 l[i].1) ∧ (pcells l)[i * 2 + 1]? = some (.int .i64 l[i].2) := by
  induction l generalizing i with
  | nil => simp at hi
  | cons h l ih =>
    unfold pcells at *
    rw [List.flatMap_cons]
    cases i with
    | zero => simp
    | succ i =>
      have := ih i (by simpa using hi)
      rw [List.getElem?_append_right (by simp; omega), List.getElem?_append_right (by simp; omega)]
      have e1 : (i + 1) * 2 - [Value.int .i64 h.1, Value.int .i64 h.2].length = i * 2 := by simp; omega
      have e2 : (i + 1) * 2 + 1 - [Value.int .i64 h.1, Value.int .i64 h.2].length = i * 2 + 1 := by simp; omega
      rw [e1, e2, this.1, this.2]
      simp
theorem pcells_one (l : List (Int × Int)) : ∀ u ∈ pcells l, u.oneCell' = true := by
  intro u hu
  unfold pcells at hu
  obtain ⟨r, _, hr⟩ := List.mem_flatMap.1 hu
  simp at hr
  rcases hr with rfl | rfl <;> rfl
theorem pcells_drop (l : List (Int × Int)) (k : Nat) : (pcells l).drop (k * 2) = pcells (l.drop k) := by
  induction k generalizing l with
  | zero => simp
  | succ k ih =>
    cases l with
    | nil => simp [pcells]
    | cons h l =>
      have := ih l
      unfold pcells at *
      rw [List.flatMap_cons, show (k + 1) * 2 = k * 2 + 1 + 1 by omega]
      simpa using this
/-- pairs of the call's own -/
def PrOwn (E : TypeId) (w : World) (v : Value) (l : List (Int × Int)) : Prop := w.ownsRow 0 E 2 v l.length (pcells l)
theorem PrOwn.nil (E : TypeId) (w : World) : PrOwn E w (.slice none 0 0) [] := World.ownsRow_nil w 0 E 2
theorem PrOwn.same {E : TypeId} {w w' : World} {v : Value} {l : List (Int × Int)} (h : PrOwn E w v l) (hb : ∀ k, v.ownBlock = some k → w'.heap[k]? = w.heap[k]?) : PrOwn E w' v l := ownsRow_same h hb
theorem PrOwn.lt {E : TypeId} {w : World} {v : Value} {l : List (Int × Int)} (h : PrOwn E w v l) (k : Nat) (hk : v.ownBlock = some k) : k < w.heap.size := (World.ownsRow.lt h k hk).2
theorem PrOwn.later {E : TypeId} {w w' : World} {v : Value} {l : List (Int × Int)} (h : PrOwn E w v l) (hb : Below w.heap.size w w') : PrOwn E w' v l := h.same (fun k hk => hb.block k (h.lt k hk))
theorem PrOwn.open {E : TypeId} {w : World} {v : Value} {l : List (Int × Int)} (h : PrOwn E w v l) : ∃ a c, v = .slice a l.length c ∧ l.length ≤ c ∧ ∀ i (hi : i < l.length), ∃ b, a = some ⟨b, 0, none⟩ ∧ v.ownBlock = some b ∧ w.cell? ⟨b, i * 2, none⟩ = some (.int .i64 l[i].1) ∧ w.cell? ⟨b, i * 2 + 1, none⟩ = some (.int .i64 l[i].2) := by
  have h0 := h
  obtain ⟨h1, ⟨h2, h3⟩ | ⟨g, cap, cur, rfl, hb, hh, hc, hm, hs, ht⟩⟩ := h
  · exact ⟨none, 0, by rw [h2, h3], by omega, fun i hi => by omega⟩
  · refine ⟨_, cap, rfl, hc, fun i hi => ⟨g, rfl, rfl, ?_, ?_⟩⟩
    · rw [World.ownsRow.cellAt h0 _ (by omega)]; exact (pcells_at l i hi).1
    · rw [World.ownsRow.cellAt h0 _ (by omega)]; exact (pcells_at l i hi).2
/-- a queue in the last cell of the block g; q: where its things lie -/
def qu (T E : TypeId) (g : Nat) (q : Option Nat) (hd : List Value) (l : List (Int × Int)) : Ob :=
  ⟨g :: q.toList, [], fun w => q ≠ some g ∧ ∃ v, v.ownBlock = q ∧ Blk w g T (hd ++ [v]) ∧ PrOwn E w v l⟩
section
variable {T E : TypeId} {g : Nat} {q : Option Nat} {hd : List Value} {l l' : List (Int × Int)} {w w5 : World} {v v' : Value}
theorem qu_stable (T E : TypeId) (g : Nat) (q : Option Nat) (hd : List Value) (l : List (Int × Int)) (w1 w2 : World) (hb : ∀ k, k ∈ (qu T E g q hd l).W ∨ k ∈ (qu T E g q hd l).V → w2.heap[k]? = w1.heap[k]?) (h : (qu T E g q hd l).P w1) : (qu T E g q hd l).P w2 := by
  obtain ⟨hn, v, hq, h1, h2⟩ := h
  refine ⟨hn, v, hq, ?_, h2.same (fun k hk => hb k (.inl (by rw [hq] at hk; simp [qu, hk])))⟩
  unfold Blk at *; rw [hb g (.inl (by simp [qu]))]; exact h1
theorem qu_ok (h : (qu T E g q hd l).P w) : (qu T E g q hd l).Ok w := by
  obtain ⟨hn, v, hq, h1, h2⟩ := id h
  refine ⟨h, fun k hk => ?_, (fun k _ hv => by cases hv), qu_stable T E g q hd l⟩
  rcases hk with hk | hk
  · simp only [qu, List.mem_cons, Option.mem_toList] at hk
    rcases hk with rfl | hk
    · exact h1.lt
    · exact h2.lt k (by rw [hq]; exact hk)
  · cases hk
/-- what has been done to memory ahead of the store of a queue's new things -/
structure Put2 (T E : TypeId) (g : Nat) (q : Option Nat) (hd : List Value) (l : List (Int × Int)) (w w5 : World) (v v' : Value) (l' : List (Int × Int)) : Prop where
  ok : (qu T E g q hd l).Ok w
  hq : v.ownBlock = q
  blk : Blk w g T (hd ++ [v])
  turned : Turned (fun k => q = some k) w w5
  own : PrOwn E w5 v' l'
  or : ∀ k, v'.ownBlock = some k → q = some k ∨ w.heap.size ≤ k
theorem Put2.blk5 (H : Put2 T E g q hd l w w5 v v' l') : Blk w5 g T (hd ++ [v]) := H.blk.turned H.turned H.ok.holds.1
theorem Put2.cell (H : Put2 T E g q hd l w w5 v v' l') : w5.cell? ⟨g, hd.length, none⟩ = some v ∧ w5.frozen? ⟨g, hd.length, none⟩ = false :=
  ⟨by rw [blk_at H.blk5]; simp, blk_frozen H.blk5 _⟩
theorem Put2.done (H : Put2 T E g q hd l w w5 v v' l') : Step w (w5.setCell ⟨g, hd.length, none⟩ v') (qu T E g q hd l) (qu T E g v'.ownBlock hd l') := by
  have hn := H.ok.holds.1
  have lg := H.blk.lt
  have hset : ∀ k, k ≠ g → (w5.setCell ⟨g, hd.length, none⟩ v').heap[k]? = w5.heap[k]? := fun k hk => Below.heap_setCell _ _ _ _ hk
  have hsz : (w5.setCell ⟨g, hd.length, none⟩ v').heap.size = w5.heap.size := by simp [World.setCell]
  have hne : ∀ k, v'.ownBlock = some k → k ≠ g := by
    intro k hk e
    subst e
    rcases H.or k hk with e | e
    · exact hn e
    · omega
  have z5 := H.turned.size
  refine step_of ⟨H.turned.os, H.turned.tape, H.turned.output, by omega, ?_⟩ ⟨?_, v', rfl, ?_, ?_⟩ (qu_stable T E g _ hd l') ?_ (fun k hk => by cases hk) (fun k _ hv => by cases hv)
  · intro k hk hn'
    simp only [qu, List.mem_cons, Option.mem_toList, not_or] at hn'
    rw [hset k hn'.1, H.turned.block k hk hn'.2]
  · exact fun e => hne g e rfl
  · have := H.blk5.set hd.length v'
    rw [List.set_append_right _ _ (Nat.le_refl _)] at this
    simpa using this
  · exact H.own.same (fun k hk => hset k (hne k hk))
  · intro k hk
    simp only [qu, List.mem_cons, Option.mem_toList] at hk ⊢
    rw [hsz]
    rcases hk with rfl | hk
    · exact ⟨.inl (.inl rfl), by omega⟩
    · refine ⟨?_, H.own.lt k hk⟩
      rcases H.or k hk with e | e
      · exact .inl (.inr e)
      · exact .inr e
end
/-- append of one pair, as a step of a statement whose order is drawn -/
theorem step_append_pair (LT E : TypeId) (hU : Try.prog.underlying LT = some (.slice E)) (hI : (Try.prog.info? E).map (fun i => (i.zero, i.size, i.bytes)) = some (some (.agg #[.int .i64 0, .int .i64 0]), 2, 16))
    {ops : Array Oper} {o : Oper} {a : Act} {w : World} {K : Act → World → Prop} {Q : Exit → Act → World → Prop} {F : Prop} (hg : o.guard = none) (s x : Operand)
    (ho : o.op = .call { callee := .builtin .append, args := #[s, x], argTypes := #[LT, LT] }) (v : Value) (l : List (Int × Int)) (hs : a.eval s = v) (hown : PrOwn E w v l)
    (k : Nat) (u0 u1 : Int) (hx : a.eval x = .slice (some ⟨k, 0, none⟩) 1 1) (hB : Blk w k E [.int .i64 u0, .int .i64 u1]) (hmax : l.length ≤ 1000000)
    (next : ∀ (v' : Value) (w' : World), PrOwn E w' v' (l ++ [(u0, u1)]) → w.grownBy w' v.ownBlock → (v'.ownBlock = v.ownBlock ∨ v'.ownBlock = some w.heap.size) → K (a.put o.dst v') w') :
    if Region.wanted o (yielded ops a.tmps) = true then Oper.wp Try.prog o a w K Q else F := by
  have hw : Region.wanted o (yielded ops a.tmps) = true := by simp [Region.wanted, hg]
  rw [if_pos hw]
  obtain ⟨i0, hi, hz0, hz1, hz2⟩ := info_parts hI
  have c0 := blk_at hB 0
  have c1 := blk_at hB 1
  simp at c0 c1
  obtain ⟨v', w', hr, h2, h3, h4, h5⟩ := run_append_own_at (P := Try.prog) w 0 LT o.type E i0 (.agg #[.int .i64 0, .int .i64 0]) 2 16 hU hi hz0 hz1 hz2 rfl (by decide) v l.length (pcells l) hown ⟨k, 0, none⟩ 1 1 [.int .i64 u0, .int .i64 u1] rfl
    (fun j u hj => by
      match j, hj with
      | 0, hj => simp at hj; subst hj; simpa [Addr.add] using c0
      | 1, hj => simp at hj; subst hj; simpa [Addr.add] using c1)
    (fun u hu => by simp at hu; rcases hu with rfl | rfl <;> rfl) (by unfold maxLen; omega) (by omega) (Nat.zero_le _)
  unfold Oper.wp
  simp only [execOp, ho, resolve, invoke, builtin, Sem.run_bind, Sem.run_pure, Result.andThen_ok, List.map_toArray, List.map_cons, List.map_nil, hs, hx, hr]
  refine next v' w' ?_ h3 h5
  unfold PrOwn
  rw [List.length_append, pcells_append]
  exact h2
/-- these blocks lie as they lay -/
def KeepL (bs : List Nat) (W W' : World) : Prop := ∀ k ∈ bs, W'.heap[k]? = W.heap[k]?
theorem KeepL.t {bs : List Nat} {A B C : World} (h : KeepL bs A B) (k : KeepL bs B C) : KeepL bs A C := fun i hi => (k i hi).trans (h i hi)
theorem KeepL.below {bs : List Nat} {A B : World} (h : Below A.heap.size A B) (hl : ∀ k ∈ bs, k < A.heap.size) : KeepL bs A B := fun k hk => h.block k (hl k hk)
theorem below_grown7 {w w' : World} (h : Below w.heap.size w w') : w.grownBy w' none := ⟨h.os, h.tape, h.output, h.size, fun k hk _ => h.block k hk⟩
end Go.Proofs.Ytlopkfenbeahgaa

