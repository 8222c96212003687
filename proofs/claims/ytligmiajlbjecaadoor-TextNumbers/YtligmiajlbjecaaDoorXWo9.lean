/- A letter that is taken out of the row. -/
import Derived.Test.YtligmiajlbjecaaDoorXWo8
import Derived.ArgAppend
namespace Go.Proofs.YtligmiajlbjecaaDoor
open Go.RowKit
set_option linter.unusedVariables false
set_option maxRecDepth 4000

theorem blk_at {w : World} {g : Nat} {t : TypeId} {xs : List Value} (h : Blk w g t xs) (i : Nat) : w.cell? ⟨g, i, none⟩ = xs[i]? := by
  unfold Blk at h; simp [World.cell?, h]
theorem blk_frozen {w : World} {g : Nat} {t : TypeId} {xs : List Value} (h : Blk w g t xs) (i : Nat) : w.frozen? ⟨g, i, none⟩ = false := by
  unfold Blk at h; simp [World.frozen?, h]
theorem splice_cons {α : Type} (xs : List α) (o : Nat) (v : α) (r : List α) (h : o + 1 + r.length ≤ xs.length) : splice (xs.set o v) (o + 1) r = splice xs o (v :: r) := by
  unfold splice
  have e1 : (xs.set o v).take (o + 1) = xs.take o ++ [v] := by
    rw [List.take_succ_eq_append_getElem (by simp; omega), List.take_set_of_le (Nat.le_refl _)]
    simp
  have e2 : (xs.set o v).drop (o + 1 + r.length) = xs.drop (o + (v :: r).length) := by
    rw [List.drop_set, if_pos (by omega)]
    congr 1
    simp; omega
  rw [e1, e2]
  simp
theorem Blk.setCells {g : Nat} {t : TypeId} : ∀ (vs : List Value) (o : Nat) (w : World) (xs : List Value), Blk w g t xs → o + vs.length ≤ xs.length → Blk (w.setCells g o vs) g t (splice xs o vs) ∧ w.grownBy (w.setCells g o vs) (some g)
  | [], o, w, xs, h, hl => ⟨by simpa [World.setCells, splice] using h, ⟨rfl, rfl, rfl, Nat.le_refl _, fun _ _ _ => rfl⟩⟩
  | v :: r, o, w, xs, h, hl => by
    have hl' : o + 1 + r.length ≤ xs.length := by simp at hl; omega
    obtain ⟨h1, h2⟩ := Blk.setCells r (o + 1) (w.setCell ⟨g, o, none⟩ v) (xs.set o v) (h.set o v) (by rw [List.length_set]; exact hl')
    rw [splice_cons xs o v r hl'] at h1
    exact ⟨h1, grown_trans (grown_set w g o v) h2⟩



theorem step_run_app {ops : Array Oper} {o : Oper} {a : Act} {w w' : World} {v' : Value} {K : Act → World → Prop} {Q : Exit → Act → World → Prop} {E : Prop} (hg : o.guard = none) (s x : Operand) (t1 t2 : TypeId)
    (ho : o.op = .call { callee := .builtin .append, args := #[s, x], argTypes := #[t1, t2] }) (vs vx : Value) (hs : a.eval s = vs) (hx : a.eval x = vx) (hr : (Builtin.append_ #[t1, t2] o.type #[vs, vx]).run Tryd.prog w = .ok v' w') (next : K (a.put o.dst v') w') :
    if Region.wanted o (yielded ops a.tmps) = true then Oper.wp Tryd.prog o a w K Q else E := by
  have hw : Region.wanted o (yielded ops a.tmps) = true := by simp [Region.wanted, hg]
  rw [if_pos hw]
  unfold Oper.wp
  simp only [execOp, ho, resolve, invoke, builtin, Sem.run_bind, Sem.run_pure, Result.andThen_ok, List.map_toArray, List.map_cons, List.map_nil, hs, hx, hr]
  exact next

theorem cut_list (cur : List Value) (n k : Nat) (hk : k < n) (hl : n * 3 ≤ cur.length) :
    (splice (splice cur (k * 3) ((cur.take (n * 3)).drop ((k + 1) * 3))) ((n - 1) * 3) [.int .i64 0, .int .i64 0, .slice none 0 0]).take ((n - 1) * 3) = cur.take (k * 3) ++ (cur.take (n * 3)).drop ((k + 1) * 3) := by
  have e1 : ((cur.take (n * 3)).drop ((k + 1) * 3)).length = (n - 1 - k) * 3 := by rw [List.length_drop, List.length_take]; omega
  have e2 : (cur.take (k * 3)).length = k * 3 := by rw [List.length_take]; omega
  generalize hd : (cur.take (n * 3)).drop ((k + 1) * 3) = D at *
  have e3 : (splice cur (k * 3) D).length = cur.length := length_splice _ _ _ (by omega)
  unfold splice at *
  rw [List.take_append_of_le_length (by rw [List.length_take]; omega), List.take_take, Nat.min_self, ← List.append_assoc, List.take_append_of_le_length (by rw [List.length_append]; omega)]
  exact List.take_of_length_le (by rw [List.length_append]; omega)


end Go.Proofs.YtligmiajlbjecaaDoor

