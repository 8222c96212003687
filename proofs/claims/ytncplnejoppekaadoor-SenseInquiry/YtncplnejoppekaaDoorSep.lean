/- Objects in memory that do not meet. -/
import Derived.Test.YtncplnejoppekaaDoorTurn
namespace Go.Proofs.YtncplnejoppekaaDoor
open Go.RowKit

/-- an object: the blocks that it may turn, those that it only reads, and what it says -/
structure Ob where
  W : List Nat
  V : List Nat
  P : World → Prop
structure Ob.Ok (o : Ob) (w : World) : Prop where
  holds : o.P w
  lt : ∀ k, k ∈ o.W ∨ k ∈ o.V → k < w.heap.size
  apart : ∀ k ∈ o.W, k ∉ o.V
  stable : ∀ w1 w2 : World, (∀ k, k ∈ o.W ∨ k ∈ o.V → w2.heap[k]? = w1.heap[k]?) → o.P w1 → o.P w2
theorem Ob.Ok.turned {o : Ob} {w w' : World} {R : Nat → Prop} (h : o.Ok w) (ht : Turned R w w') (hr : ∀ k, k ∈ o.W ∨ k ∈ o.V → ¬ R k) : o.Ok w' :=
  ⟨h.stable w w' (fun k hk => ht.block k (h.lt k hk) (hr k hk)) h.holds, fun k hk => Nat.lt_of_lt_of_le (h.lt k hk) ht.size, h.apart, h.stable⟩
theorem turned_below {w w' : World} (hb : Below w.heap.size w w') : Turned (fun _ => False) w w' := ⟨hb.os, hb.tape, hb.output, hb.size, fun k hk _ => hb.block k hk⟩
theorem Ob.Ok.later {o : Ob} {w w' : World} (h : o.Ok w) (hb : Below w.heap.size w w') : o.Ok w' := h.turned (turned_below hb) (fun _ _ h => h)
theorem Ob.Ok.drew {o : Ob} {w : World} (h : o.Ok w) : o.Ok w.drew := h.later (Below.refl _ _).drew

def Clear (a b : Ob) : Prop := (∀ k ∈ a.W, k ∉ b.W ∧ k ∉ b.V) ∧ ∀ k ∈ b.W, k ∉ a.V
theorem Clear.symm {a b : Ob} (h : Clear a b) : Clear b a := ⟨fun k hk => ⟨fun e => (h.1 k e).1 hk, h.2 k hk⟩, fun k hk => (h.1 k hk).2⟩

/-- objects that do not meet, and what they may turn lies behind B -/
structure Sep (B : Nat) (l : List Ob) (w : World) : Prop where
  each : ∀ o ∈ l, o.Ok w
  new : ∀ o ∈ l, ∀ k ∈ o.W, B ≤ k
  pair : l.Pairwise Clear
  base : B ≤ w.heap.size

/-- what a call of an object does -/
structure Step (w w' : World) (o o' : Ob) : Prop where
  turned : Turned (· ∈ o.W) w w'
  ok : o'.Ok w'
  writes : ∀ k ∈ o'.W, k ∈ o.W ∨ w.heap.size ≤ k
  reads : ∀ k ∈ o'.V, k ∈ o.W ∨ k ∈ o.V ∨ w.heap.size ≤ k

theorem Step.refl {w : World} {o : Ob} (h : o.Ok w) : Step w w o o := ⟨⟨rfl, rfl, rfl, Nat.le_refl _, fun _ _ _ => rfl⟩, h, fun _ h => .inl h, fun _ h => .inr (.inl h)⟩
theorem Step.quiet {w w' : World} {o : Ob} (h : o.Ok w) (hb : Below w.heap.size w w') : Step w w' o o :=
  ⟨(turned_below hb).mono (fun _ h => h.elim), h.later hb, fun _ h => .inl h, fun _ h => .inr (.inl h)⟩
theorem Step.trans {a b c : World} {o p q : Ob} (h : Step a b o p) (k : Step b c p q) : Step a c o q :=
  ⟨h.turned.trans (k.turned.mono (fun i hi => h.writes i hi)), k.ok,
   fun i hi => by
    rcases k.writes i hi with e | e
    · exact h.writes i e
    · have := h.turned.size; exact .inr (by omega),
   fun i hi => by
    rcases k.reads i hi with e | e | e
    · rcases h.writes i e with e | e
      · exact .inl e
      · exact .inr (.inr e)
    · exact h.reads i e
    · have := h.turned.size; exact .inr (.inr (by omega))⟩
theorem Step.below {w w' : World} {o o' : Ob} (h : Step w w' o o') (B : Nat) (hB : B ≤ w.heap.size) (hw : ∀ k ∈ o.W, B ≤ k) : Below B w w' := h.turned.below B hB hw

theorem Sep.head {B : Nat} {l : List Ob} {o : Ob} {w : World} (h : Sep B (o :: l) w) : o.Ok w := h.each o (by simp)
theorem Sep.tail {B : Nat} {l : List Ob} {o : Ob} {w : World} (h : Sep B (o :: l) w) : Sep B l w :=
  ⟨fun p hp => h.each p (List.mem_cons_of_mem _ hp), fun p hp => h.new p (List.mem_cons_of_mem _ hp), (List.pairwise_cons.1 h.pair).2, h.base⟩
theorem Sep.later {B : Nat} {l : List Ob} {w w' : World} (h : Sep B l w) (hb : Below w.heap.size w w') : Sep B l w' :=
  ⟨fun p hp => (h.each p hp).later hb, h.new, h.pair, Nat.le_trans h.base hb.size⟩
theorem Sep.drew {B : Nat} {l : List Ob} {w : World} (h : Sep B l w) : Sep B l w.drew := h.later (Below.refl _ _).drew
theorem Sep.perm {B : Nat} {l l' : List Ob} {w : World} (h : Sep B l w) (hp : l.Perm l') : Sep B l' w :=
  ⟨fun p hp' => h.each p (hp.mem_iff.2 hp'), fun p hp' => h.new p (hp.mem_iff.2 hp'), (hp.pairwise_iff (fun h => Clear.symm h)).1 h.pair, h.base⟩
theorem Sep.swap {B : Nat} {l : List Ob} {a b : Ob} {w : World} (h : Sep B (a :: b :: l) w) : Sep B (b :: a :: l) w := h.perm (List.Perm.swap _ _ _)
theorem Sep.third {B : Nat} {l : List Ob} {a b c : Ob} {w : World} (h : Sep B (a :: b :: c :: l) w) : Sep B (c :: a :: b :: l) w :=
  h.perm ((List.Perm.cons a (List.Perm.swap c b l)).trans (List.Perm.swap c a _))
theorem Sep.step {B : Nat} {l : List Ob} {o o' : Ob} {w w' : World} (h : Sep B (o :: l) w) (s : Step w w' o o') : Sep B (o' :: l) w' := by
  have hp := List.pairwise_cons.1 h.pair
  refine ⟨fun p hp' => ?_, fun p hp' => ?_, List.pairwise_cons.2 ⟨fun p hp' => ?_, hp.2⟩, Nat.le_trans h.base s.turned.size⟩
  · rcases List.mem_cons.1 hp' with rfl | hp'
    · exact s.ok
    · refine (h.each p (List.mem_cons_of_mem _ hp')).turned s.turned (fun k hk hr => ?_)
      rcases hk with hk | hk
      · exact ((hp.1 p hp').1 k hr).1 hk
      · exact ((hp.1 p hp').1 k hr).2 hk
  · rcases List.mem_cons.1 hp' with rfl | hp'
    · intro k hk
      rcases s.writes k hk with e | e
      · exact h.new o (by simp) k e
      · have := h.base; omega
    · exact h.new p (List.mem_cons_of_mem _ hp')
  · have hl := (h.each p (List.mem_cons_of_mem _ hp')).lt
    have hc := hp.1 p hp'
    refine ⟨fun k hk => ?_, fun k hk hv => ?_⟩
    · rcases s.writes k hk with e | e
      · exact hc.1 k e
      · exact ⟨fun e' => by have := hl k (.inl e'); omega, fun e' => by have := hl k (.inr e'); omega⟩
    · rcases s.reads k hv with e | e | e
      · exact (hc.1 k e).1 hk
      · exact hc.2 k hk e
      · have := hl k (.inl hk); omega
theorem Sep.below {B : Nat} {l : List Ob} {o o' : Ob} {w w' : World} (h : Sep B (o :: l) w) (s : Step w w' o o') : Below B w w' := s.below B h.base (h.new o (by simp))
/-- a new object -/
theorem Sep.add {B : Nat} {l : List Ob} {o : Ob} {w w' : World} (h : Sep B l w) (hb : Below w.heap.size w w') (ho : o.Ok w') (hw : ∀ k ∈ o.W, w.heap.size ≤ k) (hv : ∀ k ∈ o.V, ∀ p ∈ l, k ∉ p.W) : Sep B (o :: l) w' := by
  have h' := h.later hb
  refine ⟨fun p hp => ?_, fun p hp => ?_, List.pairwise_cons.2 ⟨fun p hp => ⟨fun k hk => ?_, fun k hk e => hv k e p hp hk⟩, h'.pair⟩, h'.base⟩
  · rcases List.mem_cons.1 hp with rfl | hp
    · exact ho
    · exact h'.each p hp
  · rcases List.mem_cons.1 hp with rfl | hp
    · intro k hk; have := hw k hk; have := h.base; omega
    · exact h'.new p hp
  · have hl := (h.each p hp).lt
    have := hw k hk
    exact ⟨fun e => by have := hl k (.inl e); omega, fun e => by have := hl k (.inr e); omega⟩
/-- a new object whose blocks are all new -/
theorem Sep.fresh {B : Nat} {l : List Ob} {o : Ob} {w w' : World} (h : Sep B l w) (hb : Below w.heap.size w w') (ho : o.Ok w') (hw : ∀ k, k ∈ o.W ∨ k ∈ o.V → w.heap.size ≤ k) : Sep B (o :: l) w' :=
  h.add hb ho (fun k hk => hw k (.inl hk)) (fun k hk p hp e => by have := hw k (.inr hk); have := (h.each p hp).lt k (.inl e); omega)
/-- what only is read: bytes that came in -/
def roOb (V : List Nat) (P : World → Prop) : Ob := ⟨[], V, P⟩
theorem Sep.nil {w : World} : Sep w.heap.size [] w := ⟨(fun o h => by cases h), (fun o h => by cases h), .nil, Nat.le_refl _⟩
/-- bytes of the call's own -/
def byOb (v : Value) (base : Nat) (l : List (BitVec 8)) : Ob := ⟨v.ownBlock.toList, [], fun w => Own w base v l⟩
theorem Own.same {w w' : World} {base : Nat} {v : Value} {l : List (BitVec 8)} (h : Own w base v l) (hb : ∀ k, v.ownBlock = some k → w'.heap[k]? = w.heap[k]?) : Own w' base v l := by
  obtain ⟨h1, h2 | ⟨g, cap, cur, rfl, hg, hh, r⟩⟩ := h
  · exact ⟨h1, .inl h2⟩
  · exact ⟨h1, .inr ⟨g, cap, cur, rfl, hg, by rw [hb g rfl]; exact hh, r⟩⟩
theorem byOb_ok {w : World} {base : Nat} {v : Value} {l : List (BitVec 8)} (h : Own w base v l) : (byOb v base l).Ok w := by
  refine ⟨h, fun k hk => ?_, (fun k _ hv => by cases hv), fun w1 w2 hs h => Own.same h (fun k hk => hs k (.inl (by simp [byOb, hk])))⟩
  rcases hk with hk | hk
  · exact (World.ownsRow.lt h k (by simpa [byOb] using hk)).2
  · cases hk
end Go.Proofs.YtncplnejoppekaaDoor
