/- extent: a slice of pairs of numbers of the call's own, each pair a slice of its own. -/
import Derived.Test.YtmkacgdbmojomaaXErD
import Derived.Maps.OwnIn
namespace Go.Proofs.Ytmkacgdbmojomaa
open Go.RowKit
set_option linter.unusedVariables false
set_option linter.unusedSimpArgs false
set_option maxRecDepth 8000

/-- a pair, and the block it lies in -/
abbrev Tn := (Nat × Nat) × Nat
def nsV (T : List Tn) : List Value := T.map fun p => .slice (some ⟨p.2, 0, none⟩) 2 2
theorem nsV_snoc (T : List Tn) (p : Tn) : nsV (T ++ [p]) = nsV T ++ [.slice (some ⟨p.2, 0, none⟩) 2 2] := by unfold nsV; rw [List.map_append]; rfl
theorem nsV_len (T : List Tn) : (nsV T).length = T.length := List.length_map _
structure NsOwn (w : World) (base : Nat) (v : Value) (T : List Tn) : Prop where
  own : w.ownsRow base 123 1 v T.length (nsV T)
  each : ∀ p ∈ T, base ≤ p.2 ∧ Blk w p.2 3 [.int .i64 (p.1.1 : Int), .int .i64 (p.1.2 : Int)]
  apart : ∀ p ∈ T, v.ownBlock ≠ some p.2
theorem NsOwn.nil (w : World) (base : Nat) : NsOwn w base (.slice none 0 0) [] := ⟨World.ownsRow_nil _ _ _ _, (fun p h => by cases h), (fun p h => by cases h)⟩
theorem NsOwn.low {w : World} {base base' : Nat} {v : Value} {T : List Tn} (h : NsOwn w base v T) (hle : base' ≤ base) : NsOwn w base' v T :=
  ⟨⟨h.own.1, h.own.2.imp id (fun ⟨g, cap, cur, e, hb, r⟩ => ⟨g, cap, cur, e, Nat.le_trans hle hb, r⟩)⟩, fun p hp => ⟨Nat.le_trans hle (h.each p hp).1, (h.each p hp).2⟩, h.apart⟩
theorem blk_grown {w w' : World} {k T : Nat} {xs : List Value} {row : Option Nat} (h : Blk w k T xs) (hg : w.grownBy w' row) (hne : row ≠ some k) : Blk w' k T xs :=
  h.turned (turned_grown (R := fun j => row = some j) hg (fun j e => e)) hne
/-- other blocks turn -/
theorem NsOwn.kept {w w' : World} {base : Nat} {v : Value} {T : List Tn} {row : Option Nat} (h : NsOwn w base v T) (hg : w.grownBy w' row) (hv : ∀ q, v.ownBlock = some q → row ≠ some q) (hp : ∀ p ∈ T, row ≠ some p.2) : NsOwn w' base v T :=
  ⟨World.ownsRow.kept h.own hg (by
    cases e : v.ownBlock with
    | none => exact .inl rfl
    | some q => exact .inr (fun e2 => hv q e e2.symm)), fun p hpT => ⟨(h.each p hpT).1, blk_grown (h.each p hpT).2 hg (hp p hpT)⟩, h.apart⟩
theorem NsOwn.later {w w' : World} {base : Nat} {v : Value} {T : List Tn} (h : NsOwn w base v T) (hb : Below w.heap.size w w') : NsOwn w' base v T :=
  h.kept (below_grownBy hb) (fun _ _ e => by cases e) (fun _ _ e => by cases e)
theorem NsOwn.row_cells {w : World} {base : Nat} {v : Value} {T : List Tn} (h : NsOwn w base v T) {q : Nat} (hq : v.ownBlock = some q) : ∃ cur, w.heap[q]? = some (.cells cur 123) := by
  obtain ⟨h1, ⟨rfl, h3⟩ | ⟨g, cap, cur, rfl, hb, hh, -⟩⟩ := h.own
  · cases hq
  · cases hq; exact ⟨cur, hh⟩
theorem info_ns : (Try.prog.info? 123).map (fun i => (i.zero, i.size, i.bytes)) = some (some (.slice none 0 0), 1, 24) := by kernel_rfl
theorem wpListIn_append_ns {F : Fence} {nF : Nat} (w : World) {ops : Array Oper} {rest : List Oper} {o : Oper} {a : Act} {Q : Exit → Act → World → Prop} (hg : o.guard = none) (s x : Operand)
    (ho : o.op = .call { callee := .builtin .append, args := #[s, x], argTypes := #[88, 88] }) (base : Nat) (v : Value) (T : List Tn) (hv : a.eval s = v) (hown : NsOwn w base v T)
    (k : Nat) (p : Tn) (hx : a.eval x = .slice (some ⟨k, 0, none⟩) 1 1) (hc : Blk w k 123 [.slice (some ⟨p.2, 0, none⟩) 2 2]) (hP : base ≤ p.2 ∧ Blk w p.2 3 [.int .i64 (p.1.1 : Int), .int .i64 (p.1.2 : Int)])
    (hfar : v.ownBlock ≠ some p.2) (hmax : (T.length + 1) * 24 ≤ 140737488355328) (hbase : base ≤ w.heap.size)
    (next : ∀ (v' : Value) (w' : World), NsOwn w' base v' (T ++ [p]) → w.grownBy w' v.ownBlock → (v'.ownBlock = v.ownBlock ∨ v'.ownBlock = some w.heap.size) → wpListIn F nF Try.prog ops Q rest (a.put o.dst v') w') : wpListIn F nF Try.prog ops Q (o :: rest) a w := by
  obtain ⟨i0, hi, hz0, hz1, hz2⟩ := info_parts info_ns
  refine wpListIn_append_own_at (w := w) hg s x 88 ho base 123 i0 (.slice none 0 0) 1 24 Try.underlying88 hi hz0 hz1 hz2 rfl (by decide) v T.length (nsV T) hv hown.own ⟨k, 0, none⟩ 1 1 [.slice (some ⟨p.2, 0, none⟩) 2 2] hx rfl ?_ ?_ (by unfold maxLen; omega) (by omega) hbase ?_
  · intro j u hj
    have hjl : j < 1 := by
      rcases Nat.lt_or_ge j 1 with h | h
      · exact h
      · rw [List.getElem?_eq_none (by simpa using h)] at hj; cases hj
    have e1 : (⟨k, 0, none⟩ : Addr).add j = ⟨k, j, none⟩ := by unfold Addr.add; split <;> simp_all
    rw [e1, hc.cell (by simp [maxLen]) j (by simpa using hjl)]; exact hj
  · intro u hu
    simp only [List.mem_cons, List.not_mem_nil, or_false] at hu
    subst hu
    rfl
  · intro v' w' k2 k3 _ k5
    have hap : ∀ p' ∈ T ++ [p], v.ownBlock ≠ some p'.2 := fun p' hp' => by
      rcases List.mem_append.1 hp' with h | h
      · exact hown.apart p' h
      · rw [List.mem_singleton.1 h]; exact hfar
    have heach : ∀ p' ∈ T ++ [p], base ≤ p'.2 ∧ Blk w p'.2 3 [.int .i64 (p'.1.1 : Int), .int .i64 (p'.1.2 : Int)] := fun p' hp' => by
      rcases List.mem_append.1 hp' with h | h
      · exact hown.each p' h
      · rw [List.mem_singleton.1 h]; exact hP
    refine next v' w' ⟨?_, fun p' hp' => ⟨(heach p' hp').1, blk_grown (heach p' hp').2 k3 (hap p' hp')⟩, fun p' hp' => ?_⟩ k3 k5
    · rw [List.length_append, nsV_snoc]; exact k2
    · rcases k5 with e | e
      · rw [e]; exact hap p' hp'
      · rw [e]; intro e2; have := (heach p' hp').2.lt; have := Option.some.inj e2; omega
end Go.Proofs.Ytmkacgdbmojomaa

