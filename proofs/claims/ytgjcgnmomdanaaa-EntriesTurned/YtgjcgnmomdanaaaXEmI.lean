/- What stands while the document reads a message: a block for it, the reader; and its entries. -/
import Derived.Test.YtgjcgnmomdanaaaXEmG
import Derived.Test.YtgjcgnmomdanaaaXEmH
namespace Go.Proofs.Ytgjcgnmomdanaaa
open Go.RowKit Go.Shelf
set_option linter.unusedVariables false
set_option maxRecDepth 20000

structure RMd (g q4 : Nat) (w W : World) (s : Rs) (cur : List Value) : Prop where
  t : Turned (fun k => k = g) w W
  rd : Rd W [q4] g 66 s.1 s.2
  m4 : Blk W q4 25 cur
  far : g < w.heap.size ∧ w.heap.size ≤ q4
theorem RMd.read {g q4 : Nat} {w W W' : World} {s s' : Rs} {cur : List Value} (h : RMd g q4 w W s cur) (hr : Rd W' [q4] g 66 s'.1 s'.2) (hg : W.grownBy W' (some g)) : RMd g q4 w W' s' cur :=
  ⟨h.t.trans (turned_grown hg (fun k e => .inl (by injection e with e; exact e.symm))), hr, blk_grownM h.m4 hg (fun e => by have := h.far; injection e with e; omega), h.far⟩
theorem RMd.put {g q4 : Nat} {w W : World} {s : Rs} {cur : List Value} (h : RMd g q4 w W s cur) (j : Nat) (v : Value) : RMd g q4 w (W.setCell ⟨q4, j, none⟩ v) s (cur.set j v) := by
  have hG := grown_set W q4 j v
  have := h.far
  exact ⟨h.t.trans (turned_grown hG (fun k e => .inr (by injection e with e; omega))), h.rd.keep hG (fun k hk => by injection hk with hk; subst hk; exact ⟨by omega, .inl (by simp)⟩), h.m4.set j v, h.far⟩
theorem RMd.later {g q4 : Nat} {w W W' : World} {s : Rs} {cur : List Value} (h : RMd g q4 w W s cur) (hb : Below W.heap.size W W') : RMd g q4 w W' s cur :=
  ⟨h.t.trans ((turned_below hb).mono (fun _ e => absurd e id)), h.rd.later hb, h.m4.laterB hb, h.far⟩
theorem RMd.entry {g q4 : Nat} {w W W' : World} {s s' : Rs} {cur : List Value} (h : RMd g q4 w W s cur) (hr : Rd W' [q4] g 66 s'.1 s'.2) (ht : Turned (fun k => k = g) W W') : RMd g q4 w W' s' cur := by
  have := h.far
  exact ⟨h.t.trans (ht.mono (fun _ e => .inl e)), hr, h.m4.turned ht (by omega), h.far⟩
theorem RMd.grown {g q4 : Nat} {w W W' : World} {s : Rs} {cur : List Value} {row : Option Nat} (h : RMd g q4 w W s cur) (hr : Rd W' [q4] g 66 s.1 s.2) (hg : W.grownBy W' row) (hn : ∀ k, row = some k → w.heap.size ≤ k ∧ k ≠ q4) : RMd g q4 w W' s cur :=
  ⟨h.t.trans (turned_grown hg (fun k e => .inr (hn k e).1)), hr, blk_grownM h.m4 hg (fun e => (hn _ e).2 rfl), h.far⟩
structure RLd (B g q4 : Nat) (w W : World) (s : Rs) (cur : List Value) (v : Value) (es : List Ent) : Prop where
  rm : RMd g q4 w W s cur
  rd : Rd W (v.ownBlock.toList ++ [q4]) g 66 s.1 s.2
  own : ∃ V vs, EsOwn W B v es V vs ∧ ∀ k ∈ V, B ≤ k
  lo : g < B ∧ q4 < B ∧ B ≤ W.heap.size
theorem RLd.app {B g q4 : Nat} {w W W' : World} {s : Rs} {cur : List Value} {v v' : Value} {es es' : List Ent} (h : RLd B g q4 w W s cur v es) (hg : W.grownBy W' v.ownBlock) (hown : ∃ V vs, EsOwn W' B v' es' V vs ∧ ∀ k ∈ V, B ≤ k) (hat : v'.ownBlock = v.ownBlock ∨ v'.ownBlock = some W.heap.size) : RLd B g q4 w W' s cur v' es' := by
  obtain ⟨V, vs, ho, -⟩ := h.own
  have hlt := World.ownsRow.lt ho.own
  obtain ⟨l1, l2, l4⟩ := h.lo
  obtain ⟨f1, f2⟩ := h.rm.far
  have hrow : ∀ k, v.ownBlock = some k → k ≠ g ∧ (k ∈ v.ownBlock.toList ++ [q4] ∨ W.heap.size ≤ k) := fun k hk => ⟨by have := (hlt k hk).1; omega, .inl (List.mem_append_left _ (mem_toList.2 hk))⟩
  have hr : Rd W' (v'.ownBlock.toList ++ [q4]) g 66 s.1 s.2 := by
    rcases hat with e | e
    · rw [e]; exact h.rd.keep hg hrow
    · rw [e]
      have h1 := (h.rd.more W.heap.size (Nat.le_refl _)).keep hg (fun k hk => ⟨(hrow k hk).1, .inl (List.mem_cons_of_mem _ ((hrow k hk).2.resolve_right (fun h2 => by have := (hlt k hk).2; omega)))⟩)
      exact h1.less (fun k hk => by
        rcases List.mem_append.1 hk with hk | hk
        · rw [List.mem_singleton.1 hk]; simp
        · exact List.mem_cons_of_mem _ (List.mem_append_right _ hk))
  exact ⟨h.rm.grown (hr.less (fun k hk => List.mem_append_right _ hk)) hg (fun k hk => ⟨by have := (hlt k hk).1; omega, by have := (hlt k hk).1; omega⟩), hr, hown, ⟨l1, l2, Nat.le_trans l4 hg.size⟩⟩
theorem RLd.put {B g q4 : Nat} {w W : World} {s : Rs} {cur : List Value} {v : Value} {es : List Ent} (h : RLd B g q4 w W s cur v es) (j : Nat) (u : Value) : RLd B g q4 w (W.setCell ⟨q4, j, none⟩ u) s (cur.set j u) v es := by
  obtain ⟨V, vs, ho, hV⟩ := h.own
  have hlt := World.ownsRow.lt ho.own
  obtain ⟨l1, l2, l4⟩ := h.lo
  obtain ⟨f1, f2⟩ := h.rm.far
  have hG := grown_set W q4 j u
  refine ⟨h.rm.put j u, h.rd.keep hG (fun k hk => ⟨by injection hk with hk; omega, .inl (by injection hk with hk; subst hk; simp)⟩), ⟨V, vs, ho.turned (turned_grown (R := fun k => k = q4) hG (fun k e => by injection e with e; exact e.symm)) (fun k hk e => by have := (hlt k hk).1; omega) (fun k hk e => by have := hV k hk; omega), hV⟩, ⟨l1, l2, Nat.le_trans l4 hG.size⟩⟩
theorem RLd.entry {B g q4 : Nat} {w W W' : World} {s s' : Rs} {cur : List Value} {v : Value} {es : List Ent} (h : RLd B g q4 w W s cur v es) (hr : Rd W' (v.ownBlock.toList ++ [q4]) g 66 s'.1 s'.2) (ht : Turned (fun k => k = g) W W') : RLd B g q4 w W' s' cur v es := by
  obtain ⟨V, vs, ho, hV⟩ := h.own
  have hlt := World.ownsRow.lt ho.own
  obtain ⟨l1, l2, l4⟩ := h.lo
  exact ⟨h.rm.entry (hr.less (fun k hk => List.mem_append_right _ hk)) ht, hr, ⟨V, vs, ho.turned ht (fun k hk e => by have := (hlt k hk).1; omega) (fun k hk e => by have := hV k hk; omega), hV⟩, ⟨l1, l2, Nat.le_trans l4 ht.size⟩⟩
theorem RLd.later {B g q4 : Nat} {w W W' : World} {s : Rs} {cur : List Value} {v : Value} {es : List Ent} (h : RLd B g q4 w W s cur v es) (hb : Below W.heap.size W W') : RLd B g q4 w W' s cur v es := by
  obtain ⟨V, vs, ho, hV⟩ := h.own
  exact ⟨h.rm.later hb, h.rd.later hb, ⟨V, vs, ho.later hb, hV⟩, ⟨h.lo.1, h.lo.2.1, Nat.le_trans h.lo.2.2 hb.size⟩⟩
theorem wpList_run_appM {w w' : World} {v' : Value} {ops : Array Oper} {rest : List Oper} {o : Oper} {a : Act} {Q : Exit → Act → World → Prop} (hg : o.guard = none) (s x : Operand) (t1 t2 : TypeId)
    (ho : o.op = .call { callee := .builtin .append, args := #[s, x], argTypes := #[t1, t2] }) (vs vx : Value) (hs : a.eval s = vs) (hx : a.eval x = vx) (hr : (Builtin.append_ #[t1, t2] o.type #[vs, vx]).run Try.prog w = .ok v' w')
    (next : wpList Try.prog ops Q rest (a.put o.dst v') w') : wpList Try.prog ops Q (o :: rest) a w := by
  refine wpList_plain hg fun K hK => ?_
  unfold Oper.wp execOp
  simp only [ho, resolve, invoke, builtin, Sem.run_bind, Sem.run_pure, Result.andThen_ok, List.map_toArray, List.map_cons, List.map_nil, hs, hx, hr]
  exact hK _ _ next
theorem rdNum_errM (L : List (BitVec 8)) {E : Int} (s : Int) (h : E ≠ 0) : rdNum L E s = ([], E, 0) := by unfold rdNum; rw [if_neg h]
theorem rdBytes_errM (L : List (BitVec 8)) {E : Int} (s : Int) (h : E ≠ 0) : rdBytes L E s = ([], E, []) := by unfold rdBytes; rw [if_neg h]
theorem rNext_err {s : Rs} (h : s.2 ≠ 0) : (rNext s).2 = s.2 := by
  have h1 : rkE s = ([], s.2, 0) := rdNum_errM _ _ h
  have h2 : rtE s = ([], s.2, 0) := by unfold rtE; rw [h1]; exact rdNum_errM _ _ h
  have h3 : rcE s = ([], s.2, []) := by unfold rcE; rw [h2]; exact rdBytes_errM _ _ h
  unfold rNext
  rw [h3]
theorem rents_err {s : Rs} {k : Nat} (h : (rents s k).2 ≠ 0) (j : Nat) : (rents s (k + j)).2 = (rents s k).2 := by
  induction j with
  | zero => rfl
  | succ j ih =>
    show (rNext (rents s (k + j))).2 = _
    rw [rNext_err (by rw [ih]; exact h), ih]
theorem umR_err {s : Rs} {k : Nat} (hk : k ≤ (rcntV s).toNat) (h : (rents (rcnt s) k).2 ≠ 0) : umR s = (rents (rcnt s) k).2 := by
  obtain ⟨j, hj⟩ : ∃ j, (rcntV s).toNat = k + j := ⟨(rcntV s).toNat - k, by omega⟩
  have h1 : (rme s).2 = (rents (rcnt s) k).2 := by unfold rme; rw [hj]; exact rents_err h j
  have h2 : rmb s = ([], (rents (rcnt s) k).2, []) := by unfold rmb; rw [rdBytes_errM _ _ (by rw [h1]; exact h), h1]
  have h3 : rmS s = ([], (rents (rcnt s) k).2) := by unfold rmS; rw [h2]
  have h4 : rdEnd (rmS s).1 (rmS s).2 = (rents (rcnt s) k).2 := by rw [h3]; exact if_neg h
  unfold umR
  rw [h4, if_neg h]
theorem rdEnd_zero (L : List (BitVec 8)) : rdEnd L 0 = 0 ∨ rdEnd L 0 = 11 := by unfold rdEnd; rw [if_pos rfl]; split <;> simp
end Go.Proofs.Ytgjcgnmomdanaaa

