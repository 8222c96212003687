/- Parts of the call's own: made, copied, appended; a log with entries more. -/
import Derived.Test.YtmcljbpemninlaaEn9
import Derived.Laws.MakeOwn
namespace Go.Proofs.Ytmcljbpemninlaa
open Go.RowKit
set_option linter.unusedVariables false

/-- parts of the call's own -/
def PsOwn (w : World) (base : Nat) (v : Value) (l : List Ent) : Prop := w.ownsRow base 131 1 v l.length (l.map pv)
theorem PsOwn.later {w w' : World} {base : Nat} {v : Value} {l : List Ent} (h : PsOwn w base v l) (hb : Below w.heap.size w w') : PsOwn w' base v l :=
  World.ownsRow.kept h (row := none) ⟨hb.os, hb.tape, hb.output, hb.size, fun k hk _ => hb.block k hk⟩ (by cases hv : v.ownBlock <;> simp)
theorem PsOwn.open {w : World} {base : Nat} {v : Value} {l : List Ent} (h : PsOwn w base v l) : ∃ a c, v = .slice a l.length c ∧ l.length ≤ c ∧ (c ≤ maxLen ∧ (a = none → c = 0)) ∧ PsAt w a l := by
  have h0 := h
  obtain ⟨h1, ⟨h2, h3⟩ | ⟨g, cap, cur, rfl, hb, hh, hc, hm, hs, ht⟩⟩ := h
  · exact ⟨none, 0, by rw [h2, h3], by omega, ⟨by unfold maxLen; omega, fun _ => rfl⟩, .inl (List.eq_nil_of_length_eq_zero h3)⟩
  · refine ⟨_, cap, rfl, hc, ⟨hm, fun h => by cases h⟩, .inr ⟨g, 0, rfl, fun i hi => ?_⟩⟩
    have := World.ownsRow.cellAt h0 i (by omega)
    rw [Nat.zero_add, this, List.getElem?_map, List.getElem?_eq_getElem hi]; rfl
theorem info_part : (Try.prog.info? 131).map (fun i => (i.zero, i.size, i.bytes)) = some (some .nilIface, 1, 16) := by kernel_rfl
theorem make_parts (n c : Nat) (hnc : n ≤ c) (hc : c ≤ 5000) (u : World) : (Instr.makeSlice 106 (.int .i64 n) (.int .i64 c)).run Try.prog u = .ok (.slice (some ⟨u.heap.size, 0, none⟩) n c) (u.alloc (.cells (madeCells #[.nilIface] c) 131)) := by
  obtain ⟨i0, hi, hz0, hz1, hz2⟩ := info_parts info_part
  have := run_make (P := Try.prog) u 106 131 i0 .nilIface Try.underlying106 hi hz0 .i64 .i64 n c (by omega) (by omega) (by rw [hz2]; omega) (by omega)
  rw [hz1] at this
  simpa [Value.cells] using this
theorem made_parts (u : World) (N : Nat) : Blk (u.alloc (.cells (madeCells #[.nilIface] N) 131)) u.heap.size 131 (List.replicate N .nilIface) := by
  have e : (madeCells #[Value.nilIface] N) = (List.replicate N Value.nilIface).toArray := by
    apply Array.ext
    · simp [madeCells]
    · intro i h1 h2; simp [madeCells, Nat.mod_one]
  rw [e]; exact Blk.new' u _ _
theorem copy_parts (u : World) (q n c : Nat) (a : Option Addr) (ac : Nat) (l : List Ent) (ty : TypeId) (hB : Blk u q 131 (List.replicate c .nilIface)) (hl : l.length = n) (hnc : n ≤ c) (hc : c ≤ 5000) (hp : PsAt u a l) (base : Nat) (hq : base ≤ q) :
    ∃ w', (Builtin.copy_ #[106, 106] ty #[.slice (some ⟨q, 0, none⟩) n c, .slice a n ac]).run Try.prog u = .ok (.int .i64 n) w' ∧ PsOwn w' base (.slice (some ⟨q, 0, none⟩) n c) l ∧ u.grownBy w' (some q) := by
  have hsz : (Try.prog.info? 131).map (·.size) = some 1 := by
    obtain ⟨i0, hi, hz0, hz1, hz2⟩ := info_parts info_part
    rw [hi]; simp [hz1]
  subst hl
  by_cases h0 : l = []
  · subst h0
    refine ⟨u, ?_, ⟨rfl, .inr ⟨q, c, (List.replicate c Value.nilIface).toArray, rfl, hq, hB, Nat.zero_le _, by unfold maxLen; omega, by simp, by simp⟩⟩, ⟨rfl, rfl, rfl, Nat.le_refl _, fun _ _ _ => rfl⟩⟩
    simpa [goInt] using run_copy_none (P := Try.prog) u 106 106 ty 131 (some ⟨q, 0, none⟩) a 0 c 0 ac Try.underlying106 hsz (by simp)
  · rcases hp with e | ⟨b, off, rfl, hcell⟩
    · exact absurd e h0
    have hrun := run_copy_row (P := Try.prog) u 106 106 ty 131 q 0 l.length c ⟨b, off, none⟩ l.length ac (List.replicate c Value.nilIface).toArray 131 (l.map pv) Try.underlying106 hsz hB (by simp) (fun j v hj => by
      rw [List.getElem?_map] at hj
      have hjl : j < l.length := by
        rcases Nat.lt_or_ge j l.length with h | h
        · exact h
        · rw [List.getElem?_eq_none h] at hj; cases hj
      rw [List.getElem?_eq_getElem hjl] at hj
      have e : (⟨b, off, none⟩ : Addr).add j = ⟨b, off + j, none⟩ := by unfold Addr.add; split <;> simp_all
      rw [e, hcell j hjl]; exact hj) (by simpa using hnc) (fun v hv => by obtain ⟨e, _, rfl⟩ := List.mem_map.1 hv; exact pv_one e)
    have hrun' : (Builtin.copy_ #[106, 106] ty #[.slice (some ⟨q, 0, none⟩) l.length c, .slice (some ⟨b, off, none⟩) l.length ac]).run Try.prog u = .ok (.int .i64 l.length) (u.setRow q (l.map pv ++ List.replicate (c - l.length) Value.nilIface).toArray) := by
      rw [hrun]; simp [goInt]
    refine ⟨_, hrun', ⟨by simp, .inr ⟨q, c, (l.map pv ++ List.replicate (c - l.length) Value.nilIface).toArray, rfl, hq, setRow_heap u q _ _ _ _ hB, hnc, by unfold maxLen; omega, by simp; omega, by simp⟩⟩, ⟨rfl, rfl, rfl, by simp [World.setRow], fun k hk hr => setRow_other u q k _ (by intro e; subst e; exact hr rfl)⟩⟩
theorem wpList_append_part (w : World) {ops : Array Oper} {rest : List Oper} {o : Oper} {a : Act} {Q : Exit → Act → World → Prop} (hg : o.guard = none) (s x : Operand)
    (ho : o.op = .call { callee := .builtin .append, args := #[s, x], argTypes := #[106, 106] }) (base : Nat) (v : Value) (l : List Ent) (hv : a.eval s = v) (hown : PsOwn w base v l)
    (k : Nat) (e : Ent) (hx : a.eval x = .slice (some ⟨k, 0, none⟩) 1 1) (hc : w.cell? ⟨k, 0, none⟩ = some (pv e)) (hmax : l.length ≤ 1000000) (hbase : base ≤ w.heap.size)
    (next : ∀ (v' : Value) (w' : World), PsOwn w' base v' (l ++ [e]) → w.grownBy w' v.ownBlock → wpList Try.prog ops Q rest (a.put o.dst v') w') : wpList Try.prog ops Q (o :: rest) a w := by
  obtain ⟨i0, hi, hz0, hz1, hz2⟩ := info_parts info_part
  refine wpList_append_own_at (w := w) hg s x 106 ho base 131 i0 .nilIface 1 16 Try.underlying106 hi hz0 hz1 hz2 rfl (by decide) v l.length (l.map pv) hv hown ⟨k, 0, none⟩ 1 1 [pv e] hx rfl ?_ ?_ (by unfold maxLen; omega) (by omega) hbase ?_
  · intro j y hj
    match j, hj with
    | 0, hj => simp at hj; subst hj; simpa [Addr.add] using hc
  · intro y hy
    rw [List.mem_singleton.1 hy]; exact pv_one e
  · intro v' w' h2 h3 _ h5
    refine next v' w' ?_ h3
    unfold PsOwn
    rw [List.length_append, List.map_append]; exact h2
theorem run_append_part (w : World) (base : Nat) (v : Value) (l : List Ent) (ty : TypeId) (hown : PsOwn w base v l) (k : Nat) (e : Ent) (hc : w.cell? ⟨k, 0, none⟩ = some (pv e)) (hmax : l.length ≤ 1000000) (hbase : base ≤ w.heap.size) :
    ∃ v' w', (Builtin.append_ #[106, 106] ty #[v, .slice (some ⟨k, 0, none⟩) 1 1]).run Try.prog w = .ok v' w' ∧ PsOwn w' base v' (l ++ [e]) ∧ w.grownBy w' v.ownBlock := by
  obtain ⟨i0, hi, hz0, hz1, hz2⟩ := info_parts info_part
  obtain ⟨v', w', r1, r2, r3, -⟩ := run_append_own_at (P := Try.prog) w base 106 ty 131 i0 .nilIface 1 16 Try.underlying106 hi hz0 hz1 hz2 rfl (by decide) v l.length (l.map pv) hown ⟨k, 0, none⟩ 1 1 [pv e] rfl (fun j y hj => by
    match j, hj with
    | 0, hj => simp at hj; subst hj; simpa [Addr.add] using hc) (fun y hy => by rw [List.mem_singleton.1 hy]; exact pv_one e) (by unfold maxLen; omega) (by omega) hbase
  refine ⟨v', w', r1, ?_, r3⟩
  unfold PsOwn
  rw [List.length_append, List.map_append]; exact r2

/-- can these come behind a term? -/
def goodB : Int → List Ent → Bool
  | _, [] => true
  | t, e :: r => canE e && decide (t ≤ e.2.1) && goodB e.2.1 r
/-- the term behind the last one -/
def lastT : Int → List Ent → Int
  | t, [] => t
  | _, e :: r => lastT e.2.1 r
theorem lastT_snoc (t : Int) (l : List Ent) (e : Ent) : lastT t (l ++ [e]) = e.2.1 := by
  induction l generalizing t with
  | nil => rfl
  | cons x l ih => exact ih _
theorem goodB_snoc (t : Int) (l : List Ent) (e : Ent) : goodB t (l ++ [e]) = (goodB t l && (canE e && decide (lastT t l ≤ e.2.1))) := by
  induction l generalizing t with
  | nil => simp [goodB, lastT]; rfl
  | cons x l ih => simp only [List.cons_append, goodB, lastT, ih, Bool.and_assoc]; rfl
theorem goodB_false {t : Int} {l : List Ent} {k : Nat} (hk : k < l.length) (hg : goodB t (l.take k) = true) (h : (canE l[k] && decide (lastT t (l.take k) ≤ l[k].2.1)) = false) : goodB t l = false := by
  have e : l = (l.take k ++ [l[k]]) ++ l.drop (k + 1) := by
    rw [← List.take_succ_eq_append_getElem hk, List.take_append_drop]
  have key : ∀ (p r : List Ent) (t : Int), goodB t p = false → goodB t (p ++ r) = false := by
    intro p r
    induction p with
    | nil => intro t h; cases h
    | cons x p ih =>
      intro t h
      simp only [goodB, List.cons_append, Bool.and_eq_false_iff] at h ⊢
      rcases h with h | h
      · exact .inl h
      · exact .inr (ih _ h)
  rw [e]
  refine key _ _ _ ?_
  rw [goodB_snoc, h, Bool.and_false]
theorem goodB_can {t : Int} {l : List Ent} (h : goodB t l = true) : ∀ e ∈ l, canE e = true := by
  induction l generalizing t with
  | nil => intro e he; cases he
  | cons x l ih =>
    simp only [goodB, Bool.and_eq_true] at h
    intro e he
    rcases List.mem_cons.1 he with rfl | he
    · exact h.1.1
    · exact ih h.2 e he
/-- a log with entries more -/
def Lm.with (m : Lm) (l : List Ent) : Lm := ⟨m.fl, m.ft, m.fm, m.l ++ l⟩
end Go.Proofs.Ytmcljbpemninlaa
