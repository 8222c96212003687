/- A table in memory, of all nexuses. -/
import Derived.Test.YtkcbbaanlkpeiaaXDd22
import Derived.Test.YtkcbbaanlkpeiaaXAid
namespace Go.Proofs.Ytkcbbaanlkpeiaa
open Go.RowKit
set_option linter.unusedVariables false
set_option linter.unusedSimpArgs false
set_option maxRecDepth 4000

/-- a nexus: its floor, where its answers lie, they -/
abbrev Nx := Int × Value × List An
def tcells (fs : List Nx) : List Value := fs.flatMap (fun f => [.int .i64 f.1, f.2.1])
theorem tcells_at (fs : List Nx) (q : Nat) : (tcells fs)[q * 2]? = (fs[q]?).map (fun f => .int .i64 f.1) ∧ (tcells fs)[q * 2 + 1]? = (fs[q]?).map (fun f => f.2.1) := by
  induction fs generalizing q with
  | nil => simp [tcells]
  | cons h l ih =>
    unfold tcells at *
    rw [List.flatMap_cons]
    cases q with
    | zero => simp
    | succ q =>
      have := ih q
      rw [show (q + 1) * 2 = q * 2 + 1 + 1 by omega, show q * 2 + 1 + 1 + 1 = (q * 2 + 1) + 1 + 1 by omega]
      simpa using this
theorem tcells_set (fs : List Nx) (q : Nat) (a : Int) (v : Value) (l : List An) : tcells (fs.set q (a, v, l)) = ((tcells fs).set (q * 2 + 1) v).set (q * 2) (.int .i64 a) := by
  induction fs generalizing q with
  | nil => simp [tcells]
  | cons h r ih =>
    cases q with
    | zero => simp [tcells]
    | succ q =>
      have := ih q
      unfold tcells at *
      rw [List.set_cons_succ, List.flatMap_cons, this, List.flatMap_cons, show (q + 1) * 2 = q * 2 + 1 + 1 by omega]
      rfl
theorem tcells_length (fs : List Nx) : (tcells fs).length = fs.length * 2 := by
  induction fs with
  | nil => rfl
  | cons h l ih => unfold tcells at *; rw [List.flatMap_cons, List.length_append, ih]; simp; omega
structure TbP (w : World) (g : Nat) (fs : List Nx) : Prop where
  len : fs.length = 16
  blk : Blk w g 62 (tcells fs)
  own : ∀ f ∈ fs, AOwn w f.2.1 f.2.2
  apart : ∀ (i j : Nat) (f f' : Nx), fs[i]? = some f → fs[j]? = some f' → i ≠ j → ∀ k, f.2.1.ownBlock = some k → f'.2.1.ownBlock ≠ some k
  rise : ∀ f ∈ fs, Rise f.2.2
  most : ∀ f ∈ fs, f.2.2.length ≤ 64
  place : ∀ (i : Nat) (f : Nx), fs[i]? = some f → ∀ a ∈ f.2.2, a.1 = (i : Int)
  byt : ∀ f ∈ fs, ∀ a ∈ f.2.2, ∃ bs : List (BitVec 8), a.2.2 = str bs ∧ bs.length ≤ 5000
def tb (g : Nat) (fs : List Nx) : Ob := ⟨g :: fs.filterMap (fun f => f.2.1.ownBlock), [], fun w => TbP w g fs⟩
theorem mem_tb {g : Nat} {fs : List Nx} {k : Nat} : k ∈ (tb g fs).W ↔ k = g ∨ ∃ f ∈ fs, f.2.1.ownBlock = some k := by
  simp only [tb, List.mem_cons, List.mem_filterMap]
theorem tb_stable (g : Nat) (fs : List Nx) (w1 w2 : World) (hb : ∀ k, k ∈ (tb g fs).W ∨ k ∈ (tb g fs).V → w2.heap[k]? = w1.heap[k]?) (h : (tb g fs).P w1) : (tb g fs).P w2 :=
  ⟨h.len, by have := h.blk; unfold Blk at *; rw [hb g (.inl (mem_tb.2 (.inl rfl)))]; exact this, fun f hf => (h.own f hf).same (fun k hk => hb k (.inl (mem_tb.2 (.inr ⟨f, hf, hk⟩)))), h.apart, h.rise, h.most, h.place, h.byt⟩
theorem tb_ok {w : World} {g : Nat} {fs : List Nx} (h : TbP w g fs) : (tb g fs).Ok w := by
  refine ⟨h, fun k hk => ?_, (fun k _ hv => by cases hv), tb_stable g fs⟩
  rcases hk with hk | hk
  · rcases mem_tb.1 hk with rfl | ⟨f, hf, hk⟩
    · exact h.blk.lt
    · exact (h.own f hf).lt k hk
  · cases hk
theorem ty_ne : (62 : Nat) ≠ 90 := by decide
theorem TbP.ne {w : World} {g : Nat} {fs : List Nx} (h : TbP w g fs) {f : Nx} (hf : f ∈ fs) : f.2.1.ownBlock ≠ some g := own_ne (h.own f hf) h.blk ty_ne
theorem TbP.mem {w : World} {g : Nat} {fs : List Nx} (h : TbP w g fs) {q : Nat} {fl : Int} {v : Value} {l : List An} (hq : fs[q]? = some (fl, v, l)) : MemAt w g q fl v l := by
  have hm := List.mem_of_getElem? hq
  refine ⟨by rw [blk_at h.blk, (tcells_at fs q).1, hq]; rfl, by rw [blk_at h.blk, (tcells_at fs q).2, hq]; rfl, h.own _ hm, h.rise _ hm, ?_⟩
  have := h.most _ hm
  simp only at this
  omega
theorem tb_put {w w' : World} {g q : Nat} {fs : List Nx} {fl fl' : Int} {v v' : Value} {l l' : List An} (h : TbP w g fs) (hq : fs[q]? = some (fl, v, l)) (p : PG g 62 (((tcells fs).set (q * 2 + 1) v').set (q * 2) (.int .i64 fl')) w v l' w' v') (hr : Rise l') (hm : l'.length ≤ 64) (hpl : ∀ a ∈ l', a.1 = (q : Int)) (hby : ∀ a ∈ l', ∃ bs : List (BitVec 8), a.2.2 = str bs ∧ bs.length ≤ 5000) :
    Step w w' (tb g fs) (tb g (fs.set q (fl', v', l'))) := by
  have hmq := List.mem_of_getElem? hq
  have hql : q < fs.length := by
    rcases Nat.lt_or_ge q fs.length with k | k
    · exact k
    · rw [List.getElem?_eq_none k] at hq; cases hq
  have hlt : ∀ f ∈ fs, ∀ k, f.2.1.ownBlock = some k → k < w.heap.size := fun f hf k hk => (h.own f hf).lt k hk
  have each : ∀ i f, (fs.set q (fl', v', l'))[i]? = some f → (i = q ∧ f = (fl', v', l')) ∨ (i ≠ q ∧ fs[i]? = some f) := fun i f hi => by
    rw [List.getElem?_set] at hi
    by_cases e : q = i
    · subst e
      simp [hql] at hi
      exact .inl ⟨rfl, hi.symm⟩
    · rw [if_neg e] at hi
      exact .inr ⟨fun k => e k.symm, hi⟩
  have idx : ∀ f, f ∈ fs.set q (fl', v', l') → ∃ i, (fs.set q (fl', v', l'))[i]? = some f := fun f hf => List.getElem?_of_mem hf
  have ht : Turned (· ∈ (tb g fs).W) w w' := p.turned.mono (fun k e => by
    rcases e with e | e
    · exact mem_tb.2 (.inr ⟨_, hmq, e⟩)
    · exact mem_tb.2 (.inl e))
  have hP : TbP w' g (fs.set q (fl', v', l')) := by
    refine ⟨by rw [List.length_set]; exact h.len, by rw [tcells_set]; exact p.blk, fun f hf => ?_, fun i j f f' hi hj hij k hk => ?_, fun f hf => ?_, fun f hf => ?_, fun i f hi => ?_, fun f hf => ?_⟩
    · obtain ⟨i, hi⟩ := idx f hf
      rcases each i f hi with ⟨-, rfl⟩ | ⟨hne, hi⟩
      · exact p.own
      · refine (h.own f (List.mem_of_getElem? hi)).same (fun k hk => p.turned.block k (hlt f (List.mem_of_getElem? hi) k hk) (fun e => ?_))
        rcases e with e | e
        · exact h.apart q i _ _ hq hi (fun e => hne e.symm) k e hk
        · exact h.ne (List.mem_of_getElem? hi) (by rw [← e]; exact hk)
    · rcases each i f hi with ⟨e1, e2⟩ | ⟨hne, hi2⟩
      · rcases each j f' hj with ⟨e3, e4⟩ | ⟨hnj, hj2⟩
        · exact absurd (e1.trans e3.symm) hij
        · rw [e2] at hk
          rcases p.or k hk with e | e
          · exact h.apart q j _ _ hq hj2 (fun e => hnj e.symm) k e
          · intro e'
            have := hlt f' (List.mem_of_getElem? hj2) k e'
            omega
      · rcases each j f' hj with ⟨e3, e4⟩ | ⟨hnj, hj2⟩
        · intro e'
          rw [e4] at e'
          rcases p.or k e' with e | e
          · exact h.apart i q _ _ hi2 hq hne k hk e
          · have := hlt f (List.mem_of_getElem? hi2) k hk
            omega
        · exact h.apart i j _ _ hi2 hj2 hij k hk
    · obtain ⟨i, hi⟩ := idx f hf
      rcases each i f hi with ⟨-, rfl⟩ | ⟨-, hi⟩
      · exact hr
      · exact h.rise f (List.mem_of_getElem? hi)
    · obtain ⟨i, hi⟩ := idx f hf
      rcases each i f hi with ⟨-, rfl⟩ | ⟨-, hi⟩
      · exact hm
      · exact h.most f (List.mem_of_getElem? hi)
    · rcases each i f hi with ⟨rfl, rfl⟩ | ⟨-, hi⟩
      · exact hpl
      · exact h.place i f hi
    · obtain ⟨i, hi⟩ := idx f hf
      rcases each i f hi with ⟨-, rfl⟩ | ⟨-, hi⟩
      · exact hby
      · exact h.byt f (List.mem_of_getElem? hi)
  refine ⟨ht, tb_ok hP, fun k hk => ?_, (fun k hk => by cases hk)⟩
  rcases mem_tb.1 hk with rfl | ⟨f, hf, hk⟩
  · exact .inl (mem_tb.2 (.inl rfl))
  · obtain ⟨i, hi⟩ := idx f hf
    rcases each i f hi with ⟨-, rfl⟩ | ⟨-, hi⟩
    · rcases p.or k hk with e | e
      · exact .inl (mem_tb.2 (.inr ⟨_, hmq, e⟩))
      · exact .inr e
    · exact .inl (mem_tb.2 (.inr ⟨f, List.mem_of_getElem? hi, hk⟩))
/-- the first answer from a number on -/
theorem from_mem {l : List An} {a : An} (hr : Rise l) (ha : a ∈ l) : fromOf l a.2.1 = a := by
  have e : l.find? (fun z => decide (a.2.1 ≤ z.2.1)) = some a := by
    induction l with
    | nil => cases ha
    | cons z l ih =>
      have hz := List.pairwise_cons.1 hr
      rw [List.find?_cons]
      rcases List.mem_cons.1 ha with rfl | ha
      · simp
      · have h1 := hz.1 a ha
        have h2 : decide (a.2.1 ≤ z.2.1) = false := by simp; omega
        rw [h2]
        exact ih hz.2 ha
  unfold fromOf
  rw [e]
  rfl
theorem from_not {l : List An} {n : Int} (h : ∀ a ∈ l, a.2.1 ≠ n) (h0 : n ≠ 0) : (fromOf l n).2.1 ≠ n := by
  unfold fromOf
  cases e : l.find? (fun z => decide (n ≤ z.2.1)) with
  | none => simp only [Option.getD_none]; exact fun k => h0 k.symm
  | some a => simp only [Option.getD_some]; exact h a (List.mem_of_find?_eq_some e)
end Go.Proofs.Ytkcbbaanlkpeiaa

