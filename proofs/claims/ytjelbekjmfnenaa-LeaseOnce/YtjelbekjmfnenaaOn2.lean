/- Reads that are told, without Go. -/
import Derived.Test.YtjelbekjmfnenaaOn1
namespace Go.Proofs.Ytjelbekjmfnenaa
open Go.RowKit Go.Shelf
set_option linter.unusedVariables false
set_option linter.unusedSimpArgs false

abbrev ids (l : List (Int × Int)) : List Int := l.map (·.1)
theorem idx_of_nodup {L : List Int} (h : L.Nodup) (i : Nat) (hi : i < L.length) : L.idxOf L[i] = i :=
  idx_first (List.getElem?_eq_getElem hi) (fun y hy e => by
    obtain ⟨j, hj, hjy⟩ := List.getElem_of_mem hy
    simp only [List.length_take] at hj
    rw [List.getElem_take] at hjy
    exact List.pairwise_iff_getElem.1 h j i (by omega) hi (by omega) (hjy.trans e))
/-- places rise -/
theorem places_rise {l : List (Int × Int)} (h : (ids l).Nodup) (P : Int × Int → Bool) : (l.filter P).Pairwise (fun x y => (ids l).idxOf x.1 < (ids l).idxOf y.1) := by
  refine List.Pairwise.sublist List.filter_sublist ?_
  rw [List.pairwise_iff_getElem]
  intro i j hi hj hij
  have e1 := idx_of_nodup h i (by simpa using hi)
  have e2 := idx_of_nodup h j (by simpa using hj)
  simp only [List.getElem_map] at e1 e2
  omega
theorem place_self {l : List (Int × Int)} (h : (ids l).Nodup) {x : Int × Int} (hx : x ∈ l) : ∃ n, ∃ hn : n < l.length, l[n] = x ∧ (ids l).idxOf x.1 = n := by
  obtain ⟨n, hn, e⟩ := List.getElem_of_mem hx
  refine ⟨n, hn, e, ?_⟩
  have := idx_of_nodup h n (by simpa using hn)
  simp only [List.getElem_map] at this
  rw [← e]; exact this
/-- what is left when k of those told have gone -/
def leftK (l : List (Int × Int)) (T : List Int) (k : Nat) : List (Int × Int) := l.filter (fun x => !(T.take k).contains x.1)
theorem leftK_nd {l : List (Int × Int)} (h : (ids l).Nodup) (T : List Int) (k : Nat) : (ids (leftK l T k)).Nodup := List.Nodup.sublist (List.Sublist.map _ List.filter_sublist) h
theorem erase_id {c : List (Int × Int)} (h : (ids c).Nodup) (j : Nat) (hj : j < c.length) : c.filter (fun x => !decide (x.1 = c[j].1)) = c.eraseIdx j := by
  induction c generalizing j with
  | nil => simp at hj
  | cons z c ih =>
    have hp := List.nodup_cons.1 h
    cases j with
    | zero =>
      simp only [List.getElem_cons_zero, List.eraseIdx_cons_zero]
      rw [List.filter_cons]
      simp only [decide_true, Bool.not_true, Bool.false_eq_true, if_false]
      refine List.filter_eq_self.2 (fun x hx => ?_)
      have : x.1 ≠ z.1 := fun e => hp.1 (List.mem_map.2 ⟨x, hx, e⟩)
      simpa using this
    | succ j =>
      simp only [List.getElem_cons_succ, List.eraseIdx_cons_succ]
      have hj' : j < c.length := by simpa using hj
      have hz : z.1 ≠ c[j].1 := fun e => hp.1 (List.mem_map.2 ⟨_, List.getElem_mem hj', e.symm⟩)
      rw [List.filter_cons]
      simp only [hz, decide_false, Bool.not_false, if_true]
      rw [ih hp.2 j hj']
theorem leftK_step {l : List (Int × Int)} (h : (ids l).Nodup) (T : List Int) (k : Nat) (hk : k < T.length) (hT : T.Nodup) (hm : T[k] ∈ ids l) :
    ∃ j, ∃ hj : j < (leftK l T k).length, (leftK l T k)[j].1 = T[k] ∧ (ids (leftK l T k)).idxOf T[k] = j ∧ leftK l T (k + 1) = (leftK l T k).eraseIdx j := by
  obtain ⟨x, hx, hxe⟩ := List.mem_map.1 hm
  have hnot : T[k] ∉ T.take k := fun e => by
    obtain ⟨i, hi, hie⟩ := List.getElem_of_mem e
    simp only [List.length_take] at hi
    rw [List.getElem_take] at hie
    exact List.pairwise_iff_getElem.1 hT i k (by omega) hk (by omega) hie
  have hxl : x ∈ leftK l T k := by
    unfold leftK
    refine List.mem_filter.2 ⟨hx, ?_⟩
    rw [hxe]
    simpa using hnot
  obtain ⟨j, hj, e1, e2⟩ := place_self (leftK_nd h T k) hxl
  refine ⟨j, hj, by rw [e1]; exact hxe, by rw [← hxe]; exact e2, ?_⟩
  rw [← erase_id (leftK_nd h T k) j hj, e1, hxe]
  unfold leftK
  rw [List.filter_filter]
  refine List.filter_congr (fun y _ => ?_)
  rw [List.take_succ_eq_append_getElem hk]
  simp only [List.contains_eq_mem, List.mem_append, List.mem_singleton]
  by_cases h1 : y.1 = T[k] <;> by_cases h2 : y.1 ∈ T.take k <;> simp [h1, h2]
theorem leftK_all {l : List (Int × Int)} (h : (ids l).Nodup) (P : Int × Int → Bool) : leftK l (ids (l.filter P)) (ids (l.filter P)).length = l.filter (fun x => !P x) := by
  unfold leftK
  rw [List.take_length]
  refine List.filter_congr (fun x hx => ?_)
  congr 1
  rw [Bool.eq_iff_iff, List.contains_iff_mem]
  constructor
  · intro e
    obtain ⟨y, hy, hye⟩ := List.mem_map.1 e
    obtain ⟨hy1, hy2⟩ := List.mem_filter.1 hy
    obtain ⟨n, hn, e1, e2⟩ := place_self h hx
    obtain ⟨m, hm, e3, e4⟩ := place_self h hy1
    have : n = m := by rw [← e2, ← e4, hye]
    subst this
    rw [← e1, e3]; exact hy2
  · intro e
    exact List.mem_map.2 ⟨x, List.mem_filter.2 ⟨hx, e⟩, rfl⟩
theorem leftK_zero (l : List (Int × Int)) (T : List Int) : leftK l T 0 = l := List.filter_eq_self.2 (fun x _ => by simp)
theorem leftK_len (l : List (Int × Int)) (T : List Int) (k : Nat) : (leftK l T k).length ≤ l.length := List.length_filter_le _ _
theorem nd_filter {l : List (Int × Int)} (h : (ids l).Nodup) (P : Int × Int → Bool) : (ids (l.filter P)).Nodup := List.Nodup.sublist (List.Sublist.map _ List.filter_sublist) h
theorem nd_ask {l : List (Int × Int)} (h : (ids l).Nodup) (a b : Int) : (ids (askTo l a b)).Nodup := by
  unfold askTo
  by_cases he : askE l a b = 0
  · rw [if_pos he]
    have hna : ¬ hasId l a = true := fun e => by
      unfold askE at he
      rw [e] at he
      split at he <;> simp at he
    unfold ids
    rw [List.map_append, List.nodup_append]
    refine ⟨h, by simp, fun x hx y hy e => ?_⟩
    simp at hy
    subst hy
    subst e
    obtain ⟨z, hz, hze⟩ := List.mem_map.1 hx
    exact hna (List.any_eq_true.2 ⟨z, hz, by simpa using hze⟩)
  · rw [if_neg he]; exact h
/-- numbers in a part of a block, as an object -/
def nsOb (v : Value) (q : Option Nat) (L : List Int) : Ob := ⟨q.toList, [], fun w => NSl w v q L⟩
theorem nsOb_ok {w : World} {v : Value} {q : Option Nat} {L : List Int} (h : NSl w v q L) : (nsOb v q L).Ok w :=
  ⟨h, (fun k hk => by rcases hk with hk | hk; exact h.lt k (by simpa [nsOb] using hk); cases hk), (fun k _ hv => by cases hv), fun w1 w2 hs h => NSl.same h (fun k hk => hs k (.inl (by simp [nsOb, hk])))⟩
/-- a step of numbers -/
theorem ns_step {w w' : World} {v v' : Value} {q q' : Option Nat} {L L' : List Int} (h : NSl w v q L) (ho : NSl w' v' q' L') (hg : w.grownBy w' q) (hor : ∀ b, q' = some b → q = some b ∨ w.heap.size ≤ b) : Step w w' (nsOb v q L) (nsOb v' q' L') :=
  ⟨turned_grown hg (fun k e => by simp [nsOb, e]), nsOb_ok ho, fun k hk => by
    simp only [nsOb, Option.mem_toList] at hk ⊢
    exact hor k hk, (fun k hk => by cases hk)⟩
end Go.Proofs.Ytjelbekjmfnenaa
