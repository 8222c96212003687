/- Numbers in a part of a block of the call's own. -/
import Derived.Test.YtjelbekjmfnenaaRd3
import Derived.Deep.Upon
namespace Go.Proofs.Ytjelbekjmfnenaa
open Go.RowKit Go.Shelf
set_option linter.unusedVariables false
set_option linter.unusedSimpArgs false
set_option maxRecDepth 4000

def NSl (w : World) (v : Value) (q : Option Nat) (l : List Int) : Prop :=
  (q = none ∧ v = .slice none 0 0 ∧ l = []) ∨
  ∃ b off cap cur, q = some b ∧ v = .slice (some ⟨b, off, none⟩) l.length cap ∧ Blk w b 2 cur ∧ off + cap ≤ cur.length ∧ l.length ≤ cap ∧ cap ≤ maxLen ∧ ∀ i (hi : i < l.length), cur[off + i]? = some (.int .i64 l[i])
theorem NSl.nil (w : World) : NSl w (.slice none 0 0) none [] := .inl ⟨rfl, rfl, rfl⟩
theorem NSl.same {w w' : World} {v : Value} {q : Option Nat} {l : List Int} (h : NSl w v q l) (hb : ∀ k, q = some k → w'.heap[k]? = w.heap[k]?) : NSl w' v q l := by
  rcases h with h | ⟨b, off, cap, cur, h1, h2, h3, h4⟩
  · exact .inl h
  · exact .inr ⟨b, off, cap, cur, h1, h2, by unfold Blk at *; rw [hb b h1]; exact h3, h4⟩
theorem NSl.lt {w : World} {v : Value} {q : Option Nat} {l : List Int} (h : NSl w v q l) (k : Nat) (hk : q = some k) : k < w.heap.size := by
  rcases h with ⟨h, -⟩ | ⟨b, off, cap, cur, h1, h2, h3, h4⟩
  · rw [h] at hk; cases hk
  · rw [h1] at hk; cases hk; exact h3.lt
theorem NSl.later {w w' : World} {v : Value} {q : Option Nat} {l : List Int} (h : NSl w v q l) (hb : Below w.heap.size w w') : NSl w' v q l := h.same (fun k hk => hb.block k (h.lt k hk))
theorem NSl.open {w : World} {v : Value} {q : Option Nat} {l : List Int} (h : NSl w v q l) : ∃ a c, v = .slice a l.length c ∧ l.length ≤ c ∧ c ≤ maxLen ∧ ∀ i (hi : i < l.length), ∃ b off, a = some ⟨b, off, none⟩ ∧ q = some b ∧ w.cell? ⟨b, off + i, none⟩ = some (.int .i64 l[i]) := by
  rcases h with ⟨rfl, rfl, rfl⟩ | ⟨b, off, cap, cur, h1, h2, h3, h4, h5, h6, h7⟩
  · exact ⟨none, 0, rfl, by simp, by simp, (fun i hi => by simp at hi)⟩
  · exact ⟨_, cap, h2, h5, h6, fun i hi => ⟨b, off, rfl, h1, by rw [blk_at h3]; exact h7 i hi⟩⟩
theorem NSl.ofOwn {w : World} {base : Nat} {v : Value} {l : List Int} (h : w.ownsRow base 2 1 v l.length (ncells l)) : NSl w v v.ownBlock l ∧ ∀ b, v.ownBlock = some b → base ≤ b := by
  have h0 := h
  refine ⟨?_, fun b hb => (World.ownsRow.lt h b hb).1⟩
  obtain ⟨h1, ⟨rfl, h3⟩ | ⟨g, cap, cur, rfl, hb, hh, hc, hm, hs, ht⟩⟩ := h
  · exact .inl ⟨rfl, rfl, List.eq_nil_of_length_eq_zero h3⟩
  · have hB : Blk w g 2 cur.toList := by unfold Blk; simpa using hh
    refine .inr ⟨g, 0, cap, cur.toList, rfl, rfl, hB, by simp; omega, hc, hm, fun i hi => ?_⟩
    have := World.ownsRow.cellAt h0 i (by omega)
    rw [blk_at hB] at this
    rw [Nat.zero_add, this]; exact ncells_at l i hi
/-- one number more -/
theorem NSl.append {w : World} {v : Value} {q : Option Nat} {l : List Int} (h : NSl w v q l) (k : Nat) (u : Int) (hB : Blk w k 2 [.int .i64 u]) (hmax : l.length ≤ 1000000) (ty : TypeId) :
    ∃ v' w' q', (Builtin.append_ #[33, 33] ty #[v, .slice (some ⟨k, 0, none⟩) 1 1]).run Try.prog w = .ok v' w' ∧ NSl w' v' q' (l ++ [u]) ∧ w.grownBy w' q ∧ ∀ b, q' = some b → q = some b ∨ w.heap.size ≤ b := by
  obtain ⟨i0, hi, hz0, hz1, hz2⟩ := info_parts info_n64
  have c0 := blk_at hB 0
  simp at c0
  have hnews : ∀ j y, [Value.int .i64 u][j]? = some y → w.cell? ((⟨k, 0, none⟩ : Addr).add j) = some y := fun j y hj => by
    match j, hj with
    | 0, hj => simp at hj; subst hj; simpa [Addr.add] using c0
  have hone : ∀ y ∈ [Value.int .i64 u], y.oneCell' = true := fun y hy => by simp at hy; subst hy; rfl
  rcases h with ⟨rfl, rfl, rfl⟩ | ⟨b, off, cap, cur, rfl, rfl, h3, h4, h5, h6, h7⟩
  · obtain ⟨v', w', hr, h2, h3, -, h5⟩ := run_append_own_at (P := Try.prog) w 0 33 ty 2 i0 (.int .i64 0) 1 8 Try.underlying33 hi hz0 hz1 hz2 rfl (by decide) (.slice none 0 0) 0 [] (World.ownsRow_nil _ _ _ _) ⟨k, 0, none⟩ 1 1 [.int .i64 u] rfl hnews hone (by simp [maxLen]) (by omega) (Nat.zero_le _)
    refine ⟨v', w', v'.ownBlock, hr, (NSl.ofOwn (l := [u]) (by simpa [ncells] using h2)).1, h3, fun b hb => ?_⟩
    rcases h5 with e | e
    · rw [e] at hb; cases hb
    · rw [e] at hb; cases hb; exact .inr (Nat.le_refl _)
  · by_cases hroom : l.length < cap
    · have hr := run_append_room_cells (P := Try.prog) w 33 ty 2 i0 Try.underlying33 hi b off l.length cap ⟨k, 0, none⟩ 1 1 [.int .i64 u] (by rw [hz1]; rfl) hnews hone (by omega)
        (fun j hj => by simp at hj; subst hj; rw [hz1, blk_at h3, List.getElem?_eq_getElem (by omega)]; rfl) (fun j hj => blk_frozen h3 _)
      rw [hz1, Nat.mul_one] at hr
      obtain ⟨B1, g1⟩ := Blk.setCells [.int .i64 u] (off + l.length) w cur h3 (by simp; omega)
      refine ⟨_, _, some b, hr, .inr ⟨b, off, cap, _, rfl, by simp, B1, ?_, by simp; omega, h6, ?_⟩, g1, fun c hc => .inl hc⟩
      · rw [length_splice _ _ _ (by simp; omega)]; exact h4
      · intro i hi'
        simp at hi'
        by_cases e : i = l.length
        · subst e
          have hsp : (splice cur (off + l.length) [Value.int .i64 u])[off + l.length]? = some (.int .i64 u) := by
            unfold splice
            rw [List.getElem?_append_right (by simp; omega)]
            simp
            rw [show off + l.length - min (off + l.length) cur.length = 0 by omega]
            rfl
          rw [hsp]
          simp
        · have hlt : i < l.length := by omega
          have hsp : (splice cur (off + l.length) [Value.int .i64 u])[off + i]? = cur[off + i]? := by
            unfold splice
            rw [List.getElem?_append_left (by simp; omega), List.getElem?_take, if_pos (by omega)]
          rw [hsp, h7 i hlt, List.getElem_append_left hlt]
    · have hcap : cap = l.length := by omega
      have holds : ∀ j y, (ncells l)[j]? = some y → w.cell? ((⟨b, off, none⟩ : Addr).add j) = some y := fun j y hj => by
        have hjl : j < l.length := by
          rcases Nat.lt_or_ge j l.length with h | h
          · exact h
          · rw [List.getElem?_eq_none (by simpa [ncells] using h)] at hj; cases hj
        rw [Addr.add_lit, blk_at h3, h7 j hjl, ← ncells_at l j hjl]; exact hj
      obtain ⟨v', w', hr, ho, hg⟩ := run_append_arg_grows (P := Try.prog) w 33 ty 2 i0 (.int .i64 0) 1 8 Try.underlying33 hi hz0 hz1 hz2 rfl (by decide) ⟨b, off, none⟩ l.length cap (ncells l) (by simp [ncells]) holds ⟨k, 0, none⟩ 1 1 [.int .i64 u] rfl hnews (by omega) (by unfold maxLen; omega) (by omega)
      have hN := NSl.ofOwn (l := l ++ [u]) (by rw [ncells_append, List.length_append]; exact ho)
      exact ⟨v', w', v'.ownBlock, hr, hN.1, grown_none hg _, fun c hc => .inr (hN.2 c hc)⟩
theorem NSl.tail {w : World} {v : Value} {q : Option Nat} {l : List Int} (h : NSl w v q l) (h0 : l ≠ []) : ∃ b off cap, v = .slice (some ⟨b, off, none⟩) l.length cap ∧ l.length ≤ cap ∧ NSl w (.slice (some ⟨b, off + 1, none⟩) (l.length - 1) (cap - 1)) q (l.drop 1) := by
  have hpos : 0 < l.length := List.length_pos_iff.2 h0
  rcases h with ⟨rfl, rfl, rfl⟩ | ⟨b, off, cap, cur, rfl, rfl, h3, h4, h5, h6, h7⟩
  · exact absurd rfl h0
  · refine ⟨b, off, cap, rfl, h5, .inr ⟨b, off + 1, cap - 1, cur, rfl, by simp, h3, by omega, by simp; omega, by omega, fun i hi => ?_⟩⟩
    simp at hi
    rw [show off + 1 + i = off + (i + 1) by omega, h7 (i + 1) (by omega)]
    simp
/-- an append whose run is known -/
theorem wpList_run_app {w w' : World} {v' : Value} {ops : Array Oper} {rest : List Oper} {o : Oper} {a : Act} {Q : Exit → Act → World → Prop} (hg : o.guard = none) (s x : Operand) (t1 t2 : TypeId)
    (ho : o.op = .call { callee := .builtin .append, args := #[s, x], argTypes := #[t1, t2] }) (vs vx : Value) (hs : a.eval s = vs) (hx : a.eval x = vx) (hr : (Builtin.append_ #[t1, t2] o.type #[vs, vx]).run Try.prog w = .ok v' w')
    (next : wpList Try.prog ops Q rest (a.put o.dst v') w') : wpList Try.prog ops Q (o :: rest) a w := by
  refine wpList_plain hg fun K hK => ?_
  unfold Oper.wp execOp
  simp only [ho, resolve, invoke, builtin, Sem.run_bind, Sem.run_pure, Result.andThen_ok, List.map_toArray, List.map_cons, List.map_nil, hs, hx, hr]
  exact hK _ _ next
end Go.Proofs.Ytjelbekjmfnenaa
