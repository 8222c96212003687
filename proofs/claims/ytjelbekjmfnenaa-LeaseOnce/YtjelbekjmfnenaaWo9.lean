/- A letter that is taken out of the row. -/
import Derived.Test.YtjelbekjmfnenaaWo8
import Derived.ArgAppend
namespace Go.Proofs.Ytjelbekjmfnenaa
open Go.RowKit
set_option linter.unusedVariables false
set_option maxRecDepth 4000

theorem blk_at {w : World} {g : Nat} {t : TypeId} {xs : List Value} (h : Blk w g t xs) (i : Nat) : w.cell? ⟨g, i, none⟩ = xs[i]? := by
  unfold Blk at h; simp [World.cell?, h]
theorem blk_frozen {w : World} {g : Nat} {t : TypeId} {xs : List Value} (h : Blk w g t xs) (i : Nat) : w.frozen? ⟨g, i, none⟩ = false := by
  unfold Blk at h; simp [World.frozen?, h]
theorem splice_cons {α : Type} (xs : List α) (o : Nat) (v : α) (r : List α) (h : o + 1 + r.length ≤ xs.length) : splice (xs.set o v) (o + 1) r = splice xs o (v :: r) := by
  unfold splice
  have e1 : (xs.set o v).take (o + 1) = xs.take o ++ [v] := by
    rw [List.take_succ_eq_append_getElem (by simp; omega), List.take_set_of_le (Nat.le_refl _)]
    simp
  have e2 : (xs.set o v).drop (o + 1 + r.length) = xs.drop (o + (v :: r).length) := by
    rw [List.drop_set, if_pos (by omega)]
    congr 1
    simp; omega
  rw [e1, e2]
  simp
theorem Blk.setCells {g : Nat} {t : TypeId} : ∀ (vs : List Value) (o : Nat) (w : World) (xs : List Value), Blk w g t xs → o + vs.length ≤ xs.length → Blk (w.setCells g o vs) g t (splice xs o vs) ∧ w.grownBy (w.setCells g o vs) (some g)
  | [], o, w, xs, h, hl => ⟨by simpa [World.setCells, splice] using h, ⟨rfl, rfl, rfl, Nat.le_refl _, fun _ _ _ => rfl⟩⟩
  | v :: r, o, w, xs, h, hl => by
    have hl' : o + 1 + r.length ≤ xs.length := by simp at hl; omega
    obtain ⟨h1, h2⟩ := Blk.setCells r (o + 1) (w.setCell ⟨g, o, none⟩ v) (xs.set o v) (h.set o v) (by rw [List.length_set]; exact hl')
    rw [splice_cons xs o v r hl'] at h1
    exact ⟨h1, grown_trans (grown_set w g o v) h2⟩

theorem zero_letter (w : World) : (zeroValue 141).run Try.prog w = .ok (.agg #[.int .i64 0, .int .i64 0, .slice none 0 0]) w := by
  obtain ⟨i0, hi, hz0, hz1, hz2⟩ := info_parts info_letter
  simp [zeroValue, typeInfo, hi, hz0]
/-- clear of one letter -/
theorem run_clear_letter (w : World) (ty : TypeId) (c g off : Nat) (cur : List Value) (hg : Blk w g 141 cur) (hfit : off + 3 ≤ cur.length) :
    ∃ w', (Builtin.clear_ #[92] ty #[.slice (some ⟨g, off, none⟩) 1 c]).run Try.prog w = .ok (.tuple #[]) w' ∧ Blk w' g 141 (splice cur off [.int .i64 0, .int .i64 0, .slice none 0 0]) ∧ w.grownBy w' (some g) := by
  have hst := run_storeCells_at Try.prog g off 141 [.int .i64 0, .int .i64 0, .slice none 0 0] 0 cur.toArray w hg (by simpa using hfit) (fun v hv => by simp at hv; rcases hv with rfl | rfl | rfl <;> rfl)
  refine ⟨w.setRow g (splice cur off [.int .i64 0, .int .i64 0, .slice none 0 0]).toArray, ?_, setRow_heap w g _ _ 141 _ hg, ⟨rfl, rfl, rfl, by simp [World.setRow], fun k hk hr => setRow_other w g k _ (by intro e; subst e; exact hr rfl)⟩⟩
  have hz : (Builtin.zeroCells (#[.int .i64 0, .int .i64 0, .slice none 0 0] : Array Value) 1).toList = [.int .i64 0, .int .i64 0, .slice none 0 0] := by kernel_rfl
  simp only [Builtin.clear_, run_underlying Try.underlying92, Sem.run_bind, Result.andThen_ok, zero_letter, List.getElem?_toArray, List.getElem?_cons_zero]
  simp only [Value.cells, hz, hst, Result.andThen_ok, Sem.run_pure, Nat.add_zero]
  simp [splice]

theorem step_run_app {ops : Array Oper} {o : Oper} {a : Act} {w w' : World} {v' : Value} {K : Act → World → Prop} {Q : Exit → Act → World → Prop} {E : Prop} (hg : o.guard = none) (s x : Operand) (t1 t2 : TypeId)
    (ho : o.op = .call { callee := .builtin .append, args := #[s, x], argTypes := #[t1, t2] }) (vs vx : Value) (hs : a.eval s = vs) (hx : a.eval x = vx) (hr : (Builtin.append_ #[t1, t2] o.type #[vs, vx]).run Try.prog w = .ok v' w') (next : K (a.put o.dst v') w') :
    if Region.wanted o (yielded ops a.tmps) = true then Oper.wp Try.prog o a w K Q else E := by
  have hw : Region.wanted o (yielded ops a.tmps) = true := by simp [Region.wanted, hg]
  rw [if_pos hw]
  unfold Oper.wp
  simp only [execOp, ho, resolve, invoke, builtin, Sem.run_bind, Sem.run_pure, Result.andThen_ok, List.map_toArray, List.map_cons, List.map_nil, hs, hx, hr]
  exact next

theorem cut_list (cur : List Value) (n k : Nat) (hk : k < n) (hl : n * 3 ≤ cur.length) :
    (splice (splice cur (k * 3) ((cur.take (n * 3)).drop ((k + 1) * 3))) ((n - 1) * 3) [.int .i64 0, .int .i64 0, .slice none 0 0]).take ((n - 1) * 3) = cur.take (k * 3) ++ (cur.take (n * 3)).drop ((k + 1) * 3) := by
  have e1 : ((cur.take (n * 3)).drop ((k + 1) * 3)).length = (n - 1 - k) * 3 := by rw [List.length_drop, List.length_take]; omega
  have e2 : (cur.take (k * 3)).length = k * 3 := by rw [List.length_take]; omega
  generalize hd : (cur.take (n * 3)).drop ((k + 1) * 3) = D at *
  have e3 : (splice cur (k * 3) D).length = cur.length := length_splice _ _ _ (by omega)
  unfold splice at *
  rw [List.take_append_of_le_length (by rw [List.length_take]; omega), List.take_take, Nat.min_self, ← List.append_assoc, List.take_append_of_le_length (by rw [List.length_append]; omega)]
  exact List.take_of_length_le (by rw [List.length_append]; omega)


end Go.Proofs.Ytjelbekjmfnenaa
