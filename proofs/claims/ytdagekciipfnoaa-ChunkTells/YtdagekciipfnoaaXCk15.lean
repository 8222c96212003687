/- A reader that gathers the pieces of one image (no Go). -/
import Derived.Test.YtdagekciipfnoaaXCk14
namespace Go.Proofs.Ytdagekciipfnoaa
open Go.RowKit Go.Shelf
set_option linter.unusedVariables false
set_option linter.unusedSimpArgs false
set_option maxRecDepth 4000

/-- the bytes of the piece i -/
def chk (b : List (BitVec 8)) (s i : Nat) : List (BitVec 8) := (b.drop (i * s)).take s
def chks (b : List (BitVec 8)) (s n : Nat) : List (List (BitVec 8)) := (List.range n).map (chk b s)
theorem chks_take (b : List (BitVec 8)) (s n : Nat) : (chks b s n).flatten = b.take (n * s) := by
  induction n with
  | zero => simp [chks]
  | succ n ih =>
    have : chks b s (n + 1) = chks b s n ++ [chk b s n] := by unfold chks; rw [List.range_succ, List.map_append]; rfl
    rw [this, List.flatten_append, ih]
    simp only [List.flatten_cons, List.flatten_nil, List.append_nil]
    rw [Nat.add_mul, Nat.one_mul, List.take_add]
    rfl
theorem npc_ge (n s : Nat) (hs : 1 ≤ s) : n ≤ npc n s * s := by
  have h1 : (n + s - 1) / s ≤ npc n s := Nat.le_max_right _ _
  have h2 := Nat.div_add_mod (n + s - 1) s
  have h3 := Nat.mod_lt (n + s - 1) (show s > 0 by omega)
  have h4 : (n + s - 1) / s * s ≤ npc n s * s := Nat.mul_le_mul_right s h1
  rw [Nat.mul_comm] at h2
  omega
theorem chks_all (b : List (BitVec 8)) (s : Nat) (hs : 1 ≤ s) : (chks b s (npc b.length s)).flatten = b := by
  rw [chks_take]; exact List.take_of_length_le (npc_ge _ _ hs)
theorem sum_le7 : ∀ (xs ys : List Nat), xs.length = ys.length → (∀ i (h : i < xs.length) (k : i < ys.length), xs[i] ≤ ys[i]) → xs.sum ≤ ys.sum
  | [], [], _, _ => Nat.le_refl _
  | x :: xs, y :: ys, hl, h => by
    have h0 := h 0 (by simp) (by simp)
    have ih := sum_le7 xs ys (by simpa using hl) (fun i hi hk => by have := h (i + 1) (by simp; omega) (by simp; omega); simpa using this)
    simp only [List.getElem_cons_zero] at h0
    simp only [List.sum_cons]
    omega
/-- the pieces of one image, some of them -/
structure GI (m : CR) (id : Int) (b : List (BitVec 8)) (s : Nat) : Prop where
  id : m.id = id
  sum : m.s = ((Crc.sum b).toNat : Int)
  len : m.ps.length = npc b.length s
  each : ∀ (i : Nat) (o : Option (List (BitVec 8))), m.ps[i]? = some o → o = none ∨ o = some (chk b s i)
theorem GI.lenOf_le {m : CR} {id : Int} {b : List (BitVec 8)} {s : Nat} (h : GI m id b s) (hs : 1 ≤ s) : lenOf m.ps ≤ b.length := by
  have e : b.length = ((chks b s (npc b.length s)).map List.length).sum := by rw [← List.length_flatten, chks_all b s hs]
  rw [e]
  unfold lenOf
  refine sum_le7 _ _ (by simp [chks, h.len]) (fun i hi hk => ?_)
  rw [List.length_map] at hi
  rw [List.getElem_map, List.getElem_map]
  simp only [chks, List.getElem_map, List.getElem_range]
  rcases h.each i m.ps[i] (List.getElem?_eq_getElem hi) with e | e
  · rw [e]; exact Nat.zero_le _
  · rw [e]; exact Nat.le_refl _
theorem setPc_fields (m : CR) (i : Nat) (d : List (BitVec 8)) : (setPc m i d).id = m.id ∧ (setPc m i d).s = m.s ∧ (setPc m i d).ps.length = m.ps.length := by
  unfold setPc; split
  · exact ⟨rfl, rfl, List.length_set⟩
  · exact ⟨rfl, rfl, rfl⟩
theorem GI.set {m : CR} {id : Int} {b : List (BitVec 8)} {s : Nat} (h : GI m id b s) (i : Nat) : GI (setPc m i (chk b s i)) id b s := by
  obtain ⟨e1, e2, e3⟩ := setPc_fields m i (chk b s i)
  refine ⟨e1.trans h.id, e2.trans h.sum, e3.trans h.len, fun j o hj => ?_⟩
  unfold setPc at hj
  split at hj
  · by_cases hij : i = j
    · subst hij
      have hl : i < m.ps.length := by
        have := (List.getElem?_eq_some_iff.1 hj).1
        simpa using this
      rw [List.getElem?_set_self hl] at hj
      cases hj
      exact .inr rfl
    · rw [List.getElem?_set_ne hij] at hj
      exact h.each j o hj
  · exact h.each j o hj
theorem GI.add {m : CR} {id : Int} {b : List (BitVec 8)} {s : Nat} (h : GI m id b s) : GI (addM m) id b s := ⟨h.id, h.sum, h.len, h.each⟩
theorem GI.room {m : CR} {id : Int} {b : List (BitVec 8)} {s : Nat} (h : GI m id b s) (hs : 1 ≤ s) (i : Nat) (hi : m.ps[i]? = some none) : lenOf m.ps + (chk b s i).length ≤ b.length := by
  have := (h.set i).lenOf_le hs
  unfold setPc at this
  rw [hi] at this
  simp only at this
  rw [lenOf_set _ _ _ hi] at this
  exact this
theorem GI.begin (m : CR) (id : Int) (b : List (BitVec 8)) (s : Nat) : GI (begM m id ((Crc.sum b).toNat : Int) (npc b.length s)) id b s :=
  ⟨rfl, rfl, by simp [begM], fun i o hi => by
    have hic := (List.getElem?_eq_some_iff.1 hi)
    obtain ⟨h1, h2⟩ := hic
    simp [begM] at h2
    exact .inl h2.symm⟩
theorem GI.whole {m : CR} {id : Int} {b : List (BitVec 8)} {s : Nat} (h : GI m id b s) (hs : 1 ≤ s) (hx : (m.ps.map Option.isSome).any (fun b => !b) = false) : flat m = b := by
  unfold flat
  rw [← chks_all b s hs]
  congr 1
  refine List.ext_getElem (by simp [chks, h.len, chks_all b s hs]) (fun i h1 h2 => ?_)
  rw [List.length_map] at h1
  rw [List.getElem_map]
  have hsm : m.ps[i].isSome = true := by
    rw [List.any_eq_false] at hx
    have := hx m.ps[i].isSome (List.mem_map.2 ⟨_, List.getElem_mem h1, rfl⟩)
    cases hq : m.ps[i].isSome with
    | true => rfl
    | false => rw [hq] at this; exact absurd rfl this
  rcases h.each i m.ps[i] (List.getElem?_eq_getElem h1) with e | e
  · rw [e] at hsm; cases hsm
  · rw [e]
    simp [chks, chks_all b s hs]
end Go.Proofs.Ytdagekciipfnoaa

