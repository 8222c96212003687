/- Parts of the call's own: made, copied, appended; a log with entries more. -/
import Derived.Test.YtgjcgnmomdanaaaXEn6
import Derived.Laws.MakeOwn
namespace Go.Proofs.Ytgjcgnmomdanaaa
open Go.RowKit
set_option linter.unusedVariables false

/-- parts of the call's own -/
def PsOwn (w : World) (base : Nat) (v : Value) (l : List Ent) : Prop := w.ownsRow base 132 1 v l.length (l.map pv)
theorem PsOwn.later {w w' : World} {base : Nat} {v : Value} {l : List Ent} (h : PsOwn w base v l) (hb : Below w.heap.size w w') : PsOwn w' base v l :=
  World.ownsRow.kept h (row := none) ⟨hb.os, hb.tape, hb.output, hb.size, fun k hk _ => hb.block k hk⟩ (by cases hv : v.ownBlock <;> simp)
theorem PsOwn.open {w : World} {base : Nat} {v : Value} {l : List Ent} (h : PsOwn w base v l) : ∃ a c, v = .slice a l.length c ∧ l.length ≤ c ∧ (c ≤ maxLen ∧ (a = none → c = 0)) ∧ PsAt w a l := by
  have h0 := h
  obtain ⟨h1, ⟨h2, h3⟩ | ⟨g, cap, cur, rfl, hb, hh, hc, hm, hs, ht⟩⟩ := h
  · exact ⟨none, 0, by rw [h2, h3], by omega, ⟨by unfold maxLen; omega, fun _ => rfl⟩, .inl (List.eq_nil_of_length_eq_zero h3)⟩
  · refine ⟨_, cap, rfl, hc, ⟨hm, fun h => by cases h⟩, .inr ⟨g, 0, rfl, fun i hi => ?_⟩⟩
    have := World.ownsRow.cellAt h0 i (by omega)
    rw [Nat.zero_add, this, List.getElem?_map, List.getElem?_eq_getElem hi]; rfl
theorem info_part : (Try.prog.info? 132).map (fun i => (i.zero, i.size, i.bytes)) = some (some .nilIface, 1, 16) := by kernel_rfl
theorem make_parts (n c : Nat) (hnc : n ≤ c) (hc : c ≤ 5000) (u : World) : (Instr.makeSlice 112 (.int .i64 n) (.int .i64 c)).run Try.prog u = .ok (.slice (some ⟨u.heap.size, 0, none⟩) n c) (u.alloc (.cells (madeCells #[.nilIface] c) 132)) := by
  obtain ⟨i0, hi, hz0, hz1, hz2⟩ := info_parts info_part
  have := run_make (P := Try.prog) u 112 132 i0 .nilIface Try.underlying112 hi hz0 .i64 .i64 n c (by omega) (by omega) (by rw [hz2]; omega) (by omega)
  rw [hz1] at this
  simpa [Value.cells] using this
theorem made_parts (u : World) (N : Nat) : Blk (u.alloc (.cells (madeCells #[.nilIface] N) 132)) u.heap.size 132 (List.replicate N .nilIface) := by
  have e : (madeCells #[Value.nilIface] N) = (List.replicate N Value.nilIface).toArray := by
    apply Array.ext
    · simp [madeCells]
    · intro i h1 h2; simp [madeCells, Nat.mod_one]
  rw [e]; exact Blk.new' u _ _
theorem copy_parts (u : World) (q n c : Nat) (a : Option Addr) (ac : Nat) (l : List Ent) (ty : TypeId) (hB : Blk u q 132 (List.replicate c .nilIface)) (hl : l.length = n) (hnc : n ≤ c) (hc : c ≤ 5000) (hp : PsAt u a l) (base : Nat) (hq : base ≤ q) :
    ∃ w', (Builtin.copy_ #[112, 112] ty #[.slice (some ⟨q, 0, none⟩) n c, .slice a n ac]).run Try.prog u = .ok (.int .i64 n) w' ∧ PsOwn w' base (.slice (some ⟨q, 0, none⟩) n c) l ∧ u.grownBy w' (some q) := by
  have hsz : (Try.prog.info? 132).map (·.size) = some 1 := by
    obtain ⟨i0, hi, hz0, hz1, hz2⟩ := info_parts info_part
    rw [hi]; simp [hz1]
  subst hl
  by_cases h0 : l = []
  · subst h0
    refine ⟨u, ?_, ⟨rfl, .inr ⟨q, c, (List.replicate c Value.nilIface).toArray, rfl, hq, hB, Nat.zero_le _, by unfold maxLen; omega, by simp, by simp⟩⟩, ⟨rfl, rfl, rfl, Nat.le_refl _, fun _ _ _ => rfl⟩⟩
    simpa [goInt] using run_copy_none (P := Try.prog) u 112 112 ty 132 (some ⟨q, 0, none⟩) a 0 c 0 ac Try.underlying112 hsz (by simp)
  · rcases hp with e | ⟨b, off, rfl, hcell⟩
    · exact absurd e h0
    have hrun := run_copy_row (P := Try.prog) u 112 112 ty 132 q 0 l.length c ⟨b, off, none⟩ l.length ac (List.replicate c Value.nilIface).toArray 132 (l.map pv) Try.underlying112 hsz hB (by simp) (fun j v hj => by
      rw [List.getElem?_map] at hj
      have hjl : j < l.length := by
        rcases Nat.lt_or_ge j l.length with h | h
        · exact h
        · rw [List.getElem?_eq_none h] at hj; cases hj
      rw [List.getElem?_eq_getElem hjl] at hj
      have e : (⟨b, off, none⟩ : Addr).add j = ⟨b, off + j, none⟩ := by unfold Addr.add; split <;> simp_all
      rw [e, hcell j hjl]; exact hj) (by simpa using hnc) (fun v hv => by obtain ⟨e, _, rfl⟩ := List.mem_map.1 hv; exact pv_one e)
    have hrun' : (Builtin.copy_ #[112, 112] ty #[.slice (some ⟨q, 0, none⟩) l.length c, .slice (some ⟨b, off, none⟩) l.length ac]).run Try.prog u = .ok (.int .i64 l.length) (u.setRow q (l.map pv ++ List.replicate (c - l.length) Value.nilIface).toArray) := by
      rw [hrun]; simp [goInt]
    refine ⟨_, hrun', ⟨by simp, .inr ⟨q, c, (l.map pv ++ List.replicate (c - l.length) Value.nilIface).toArray, rfl, hq, setRow_heap u q _ _ _ _ hB, hnc, by unfold maxLen; omega, by simp; omega, by simp⟩⟩, ⟨rfl, rfl, rfl, by simp [World.setRow], fun k hk hr => setRow_other u q k _ (by intro e; subst e; exact hr rfl)⟩⟩
theorem wpList_append_part (w : World) {ops : Array Oper} {rest : List Oper} {o : Oper} {a : Act} {Q : Exit → Act → World → Prop} (hg : o.guard = none) (s x : Operand)
    (ho : o.op = .call { callee := .builtin .append, args := #[s, x], argTypes := #[112, 112] }) (base : Nat) (v : Value) (l : List Ent) (hv : a.eval s = v) (hown : PsOwn w base v l)
    (k : Nat) (e : Ent) (hx : a.eval x = .slice (some ⟨k, 0, none⟩) 1 1) (hc : w.cell? ⟨k, 0, none⟩ = some (pv e)) (hmax : l.length ≤ 1000000) (hbase : base ≤ w.heap.size)
    (next : ∀ (v' : Value) (w' : World), PsOwn w' base v' (l ++ [e]) → w.grownBy w' v.ownBlock → wpList Try.prog ops Q rest (a.put o.dst v') w') : wpList Try.prog ops Q (o :: rest) a w := by
  obtain ⟨i0, hi, hz0, hz1, hz2⟩ := info_parts info_part
  refine wpList_append_own_at (w := w) hg s x 112 ho base 132 i0 .nilIface 1 16 Try.underlying112 hi hz0 hz1 hz2 rfl (by decide) v l.length (l.map pv) hv hown ⟨k, 0, none⟩ 1 1 [pv e] hx rfl ?_ ?_ (by unfold maxLen; omega) (by omega) hbase ?_
  · intro j y hj
    match j, hj with
    | 0, hj => simp at hj; subst hj; simpa [Addr.add] using hc
  · intro y hy
    rw [List.mem_singleton.1 hy]; exact pv_one e
  · intro v' w' h2 h3 _ h5
    refine next v' w' ?_ h3
    unfold PsOwn
    rw [List.length_append, List.map_append]; exact h2
theorem run_append_part (w : World) (base : Nat) (v : Value) (l : List Ent) (ty : TypeId) (hown : PsOwn w base v l) (k : Nat) (e : Ent) (hc : w.cell? ⟨k, 0, none⟩ = some (pv e)) (hmax : l.length ≤ 1000000) (hbase : base ≤ w.heap.size) :
    ∃ v' w', (Builtin.append_ #[112, 112] ty #[v, .slice (some ⟨k, 0, none⟩) 1 1]).run Try.prog w = .ok v' w' ∧ PsOwn w' base v' (l ++ [e]) ∧ w.grownBy w' v.ownBlock := by
  obtain ⟨i0, hi, hz0, hz1, hz2⟩ := info_parts info_part
  obtain ⟨v', w', r1, r2, r3, -⟩ := run_append_own_at (P := Try.prog) w base 112 ty 132 i0 .nilIface 1 16 Try.underlying112 hi hz0 hz1 hz2 rfl (by decide) v l.length (l.map pv) hown ⟨k, 0, none⟩ 1 1 [pv e] rfl (fun j y hj => by
    match j, hj with
    | 0, hj => simp at hj; subst hj; simpa [Addr.add] using hc) (fun y hy => by rw [List.mem_singleton.1 hy]; exact pv_one e) (by unfold maxLen; omega) (by omega) hbase
  refine ⟨v', w', r1, ?_, r3⟩
  unfold PsOwn
  rw [List.length_append, List.map_append]; exact r2

/-- can these come behind a term? -/
def goodB : Int → List Ent → Bool
  | _, [] => true
  | t, e :: r => canE e && decide (t ≤ e.2.1) && goodB e.2.1 r
/-- the term behind the last one -/
def lastT : Int → List Ent → Int
  | t, [] => t
  | _, e :: r => lastT e.2.1 r
theorem lastT_snoc (t : Int) (l : List Ent) (e : Ent) : lastT t (l ++ [e]) = e.2.1 := by
  induction l generalizing t with
  | nil => rfl
  | cons x l ih => exact ih _
theorem goodB_snoc (t : Int) (l : List Ent) (e : Ent) : goodB t (l ++ [e]) = (goodB t l && (canE e && decide (lastT t l ≤ e.2.1))) := by
  induction l generalizing t with
  | nil => simp [goodB, lastT]; rfl
  | cons x l ih => simp only [List.cons_append, goodB, lastT, ih, Bool.and_assoc]; rfl
theorem goodB_false {t : Int} {l : List Ent} {k : Nat} (hk : k < l.length) (hg : goodB t (l.take k) = true) (h : (canE l[k] && decide (lastT t (l.take k) ≤ l[k].2.1)) = false) : goodB t l = false := by
  have e : l = (l.take k ++ [l[k]]) ++ l.drop (k + 1) := by
    rw [← List.take_succ_eq_append_getElem hk, List.take_append_drop]
  have key : ∀ (p r : List Ent) (t : Int), goodB t p = false → goodB t (p ++ r) = false := by
    intro p r
    induction p with
    | nil => intro t h; cases h
    | cons x p ih =>
      intro t h
      simp only [goodB, List.cons_append, Bool.and_eq_false_iff] at h ⊢
      rcases h with h | h
      · exact .inl h
      · exact .inr (ih _ h)
  rw [e]
  refine key _ _ _ ?_
  rw [goodB_snoc, h, Bool.and_false]
theorem goodB_can {t : Int} {l : List Ent} (h : goodB t l = true) : ∀ e ∈ l, canE e = true := by
  induction l generalizing t with
  | nil => intro e he; cases he
  | cons x l ih =>
    simp only [goodB, Bool.and_eq_true] at h
    intro e he
    rcases List.mem_cons.1 he with rfl | he
    · exact h.1.1
    · exact ih h.2 e he
/-- a log with entries more -/
def Lm.with (m : Lm) (l : List Ent) : Lm := ⟨m.fl, m.ft, m.fm, m.l ++ l⟩
end Go.Proofs.Ytgjcgnmomdanaaa

/- A log with entries more. -/
namespace Go.Proofs.Ytgjcgnmomdanaaa
open Go.RowKit
set_option linter.unusedVariables false
set_option maxRecDepth 20000

theorem enWith_nil (a : Option Addr) (len cap : Nat) (w : World) :
    Calls Try.prog 65 #[.pointer none, .slice a len cap] w fun r w' => r = .returned (.tuple #[.pointer none, .int .i64 2]) ∧ w = w' := by
  go_enter Try.func65, Try.ntmps65
  go_wp2
  go_ret2
  exact ⟨rfl, rfl⟩
set_option maxHeartbeats 1000000 in
theorem enWith_full (g : Nat) (m : Lm) (a : Option Addr) (len cap : Nat) (w : World) (h : Lg w g m) (hw : m.Wf) (hlen : len ≤ 140737488355328) (hf : 4096 < m.l.length + len) :
    Calls Try.prog 65 #[.pointer (some ⟨g, 0, none⟩), .slice a len cap] w fun r w' => r = .returned (.tuple #[.pointer none, .int .i64 4]) ∧ w = w' := by
  obtain ⟨b, c, c0, c1, c2, c3, hc, hcm, hp⟩ := h.cells
  have hfu := hw.full
  have q : (4096 : Int) < (m.l.length : Int) + len := by omega
  clear h hw hp
  go_enter Try.func65, Try.ntmps65
  go_wp2
  go_ret2
  exact ⟨rfl, rfl⟩
theorem step_run_ap {ops : Array Oper} {o : Oper} {a : Act} {w w' : World} {v' : Value} {K : Act → World → Prop} {Q : Exit → Act → World → Prop} {E : Prop} (hg : o.guard = none) (s x : Operand) (t1 t2 : TypeId)
    (ho : o.op = .call { callee := .builtin .append, args := #[s, x], argTypes := #[t1, t2] }) (vs vx : Value) (hs : a.eval s = vs) (hx : a.eval x = vx) (hr : (Builtin.append_ #[t1, t2] o.type #[vs, vx]).run Try.prog w = .ok v' w') (next : K (a.put o.dst v') w') :
    if Region.wanted o (yielded ops a.tmps) = true then Oper.wp Try.prog o a w K Q else E := by
  have hw : Region.wanted o (yielded ops a.tmps) = true := by simp [Region.wanted, hg]
  rw [if_pos hw]
  unfold Oper.wp
  simp only [execOp, ho, resolve, invoke, builtin, Sem.run_bind, Sem.run_pure, Result.andThen_ok, List.map_toArray, List.map_cons, List.map_nil, hs, hx, hr]
  exact next
theorem step_val {P : Program} {ops : Array Oper} {o : Oper} {a : Act} {w w' : World} {v : Value} {K : Act → World → Prop} {Q : Exit → Act → World → Prop} {E : Prop} (hg : o.guard = none) (h : (execOp a.eval o).run P w = .ok (.value v) w') (next : K (a.put o.dst v) w') :
    if Region.wanted o (yielded ops a.tmps) = true then Oper.wp P o a w K Q else E := by
  have hw : Region.wanted o (yielded ops a.tmps) = true := by simp [Region.wanted, hg]
  rw [if_pos hw]
  unfold Oper.wp
  rw [h]
  exact next
theorem build_part (e : Ent) (a : Act) (o : Oper) (x : Operand) (ho : o.op = .buildSlice 112 1 #[(0, x)]) (hx : a.eval x = pv e) (w : World) : (execOp a.eval o).run Try.prog w = .ok (.value (.slice (some ⟨w.heap.size, 0, none⟩) 1 1)) (w.alloc (.cells #[pv e] 132)) := by
  rcases pv_forms e with ⟨k, h⟩ | ⟨k, s, h⟩
  · rw [h] at hx ⊢
    simp only [execOp, ho, List.map_toArray, List.map_cons, List.map_nil, hx]
    go_simp
  · rw [h] at hx ⊢
    simp only [execOp, ho, List.map_toArray, List.map_cons, List.map_nil, hx]
    go_simp
/-- what With answers where there is room -/
def WithR (w w' : World) (m : Lm) (l : List Ent) (r : Ending) : Prop :=
  (goodB m.tt l = false ∧ r = .returned (.tuple #[.pointer none, .int .i64 1])) ∨ (goodB m.tt l = true ∧ ∃ g', r = .returned (.tuple #[.pointer (some ⟨g', 0, none⟩), .int .i64 0]) ∧ w.heap.size ≤ g' ∧ Lg w' g' (m.with l))
set_option maxHeartbeats 2000000 in
theorem enWith_any (g : Nat) (m : Lm) (a : Option Addr) (len cap : Nat) (l : List Ent) (w : World) (h : Lg w g m) (hw : m.Wf) (hl : l.length = len) (hlc : len ≤ cap) (hf : m.l.length + len ≤ 4096) (hA : EArgs w a l) :
    Calls Try.prog 65 #[.pointer (some ⟨g, 0, none⟩), .slice a len cap] w fun r w' => WithR w w' m l r ∧ Below w.heap.size w w' := by
  subst hl
  have HT := enTop_any g m w h hw
  have HH : Hid _ := And.intro h (And.intro hw hA)
  obtain ⟨b, c, c0, c1, c2, c3, hc, hcm, hp⟩ := h.cells
  have q1 : ¬ (4096 : Int) < (m.l.length : Int) + l.length := by omega
  have HP : Hid (PsAt w b m.l) := hp
  clear h hw hp hA
  go_enter Try.func65, Try.ntmps65
  go_wp2_with fail
  refine HT.mono ?_
  rintro e w1 ⟨rfl, hb1⟩
  have hmk := fun u => make_parts m.l.length (m.l.length + l.length) (by omega) (by omega) u
  rw [Int.natCast_add] at hmk
  have d0 := cell_later hb1 c0
  have d1 := cell_later hb1 c1
  have d2 := cell_later hb1 c2
  have d3 := cell_later hb1 c3
  have HX : Hid (Below w.heap.size w w1 ∧ PsAt w1 b m.l) := And.intro hb1 (PsAt.later HP.out hb1)
  clear c0 c1 c2 c3 hb1 HT HP
  go_wp2_with fail
  go_region
  obtain ⟨hb1, hp1⟩ := HX.out
  have bA : Below w1.heap.size w1 (w1.alloc (.cells (madeCells #[.nilIface] (m.l.length + l.length)) 132)).drew := ((Below.refl _ _).alloc (Nat.le_refl _) _).drew
  have BA : Blk (w1.alloc (.cells (madeCells #[.nilIface] (m.l.length + l.length)) 132)).drew w1.heap.size 132 (List.replicate (m.l.length + l.length) .nilIface) := made_parts w1 _
  have sA : w1.heap.size ≤ (w1.alloc (.cells (madeCells #[.nilIface] (m.l.length + l.length)) 132)).drew.heap.size := bA.size
  have d0' := cell_later bA d0
  have d1' := cell_later bA d1
  have d2' := cell_later bA d2
  have d3' := cell_later bA d3
  have pA := PsAt.later hp1 bA
  have gl : g < w1.heap.size := Nat.lt_of_lt_of_le HH.out.1.lt hb1.size
  generalize (w1.alloc (.cells (madeCells #[.nilIface] (m.l.length + l.length)) 132)).drew = w2 at *
  obtain ⟨w3, hcp, ho3, hg3⟩ := copy_parts w2 w1.heap.size m.l.length (m.l.length + l.length) b c m.l 3 BA rfl (by omega) (by omega) pA w.heap.size hb1.size
  have b13 : Below w1.heap.size w1 w3 := bA.trans (grown_below hg3 _ (Nat.le_refl _) sA)
  have k0 := cell_later b13 d0
  have k1 := cell_later b13 d1
  have k2 := cell_later b13 d2
  have k3 := cell_later b13 d3
  have HS : Hid _ := And.intro ho3 (And.intro (below_then hb1 b13) hb1)
  clear ho3 hg3 b13 pA BA bA sA hp1 hb1 d0 d1 d2 d3 HX hmk
  go_wp2_with fail
  clear hcp d0' d1' d2' d3'
  go_loopw [7, 8, 49] (fun tv v iv wr => ∃ (k : Nat) (u : Value), u = v ∧ k ≤ l.length ∧ iv = .int .i64 k ∧ tv = .int .i64 (lastT m.tt (l.take k)) ∧ goodB m.tt (l.take k) = true ∧ PsOwn wr w.heap.size u (m.l ++ l.take k) ∧ Below w.heap.size w wr) (fun _ _ iv _ => l.length - (intOf iv).toNat)
  case atStart => exact ⟨0, _, rfl, Nat.zero_le _, rfl, rfl, rfl, by simpa using HS.out.1, HS.out.2.1⟩
  case round =>
    obtain ⟨k, v, rfl, hk, rfl, rfl, hgood, hown, hb⟩ := hrel
    by_cases hlt : k < l.length
    · have q2 : (k : Int) < (l.length : Int) := by omega
      obtain ⟨p, off, rfl, hE⟩ := (HH.out.2.2.later hb).at k hlt
      have hfalse := fun e => goodB_false hlt hgood e
      have htk := take_snoc l k hlt
      have hlast : lastT m.tt (l.take (k + 1)) = l[k].2.1 := by rw [htk, lastT_snoc]
      have hgs : goodB m.tt (l.take (k + 1)) = (canE l[k] && decide (lastT m.tt (l.take k) ≤ l[k].2.1)) := by rw [htk, goodB_snoc, hgood, Bool.true_and]
      have happ : m.l ++ l.take (k + 1) = (m.l ++ l.take k) ++ [l[k]] := by rw [htk, List.append_assoc]
      have hll : (m.l ++ l.take k).length ≤ 1000000 := by rw [List.length_append, List.length_take]; omega
      generalize l[k] = en at *
      obtain ⟨e0, e1, ⟨x, cx, e2, hr, hrc, hrn⟩, h64, ht64, hel⟩ := hE
      have bx := box3_below wr (.int .i64 en.1) (.int .i64 en.2.1) (.slice x en.2.2.length cx) 49
      obtain ⟨f0, f1, f2⟩ := box3_cells wr (.int .i64 en.1) (.int .i64 en.2.1) (.slice x en.2.2.length cx) 49
      have hrx := hr.later bx
      have HC := canBe9_any en.1 en.2.1 en.2.2 x cx _ hrx (by omega)
      have hen : (en.1, en.2.1, en.2.2) = en := rfl
      rw [hen] at HC
      generalize lastT m.tt (l.take k) = tt at *
      cases hcan : canE en with
      | false =>
        rw [hcan] at HC
        have H1 : Hid _ := And.intro (hfalse (by rw [hcan]; rfl)) (below_then hb bx)
        clear hown hb bx hfalse htk hlast hgs happ hll hr hrx hgood HS
        go_wp2_with (go_at_call 45; refine HC.mono ?_; rintro e w' ⟨rfl, hbc⟩)
        go_ret2
        exact ⟨.inl ⟨H1.out.1, rfl⟩, below_then H1.out.2 hbc⟩
      | true =>
        rw [hcan] at HC
        by_cases hlow : en.2.1 < tt
        · have H1 : Hid _ := And.intro (hfalse (by rw [hcan, decide_eq_false (p := tt ≤ en.2.1) (by omega)]; rfl)) (below_then hb bx)
          clear hown hb bx hfalse htk hlast hgs happ hll hr hrx hgood HS
          go_wp2_with fail
          refine HC.mono ?_
          rintro e w4 ⟨rfl, hbc⟩
          have f1' := cell_later hbc f1
          clear f0 f1 f2 HC
          go_wp2
          go_ret2
          exact ⟨.inl ⟨H1.out.1, rfl⟩, below_then H1.out.2 hbc⟩
        · have hgs' : goodB m.tt (l.take (k + 1)) = true := by rw [hgs, hcan, decide_eq_true (p := tt ≤ en.2.1) (by omega)]; rfl
          have H1 : Hid _ := And.intro hown (And.intro (below_then hb bx) (And.intro bx (And.intro hrx (And.intro hlast (And.intro hgs' (And.intro happ hll))))))
          clear hown hb bx hfalse htk hlast hgs happ hll hr hrx hgood HS hgs'
          go_wp2_with fail
          refine HC.mono ?_
          rintro e w4 ⟨rfl, hbc⟩
          have f0' := cell_later hbc f0
          have f1' := cell_later hbc f1
          have f2' := cell_later hbc f2
          clear f0 f1 f2 HC
          have H2 : Hid _ := hbc
          clear hbc
          go_wp2_with fail
          -- region 13
          refine wp_region_held_drew (S := fun W => W.cell? ⟨wr.heap.size, 0, none⟩ = some (.int .i64 en.1) ∧ W.cell? ⟨wr.heap.size, 1, none⟩ = some (.int .i64 en.2.1) ∧ W.cell? ⟨wr.heap.size, 2, none⟩ = some (.slice x en.2.2.length cx)) (by kernel_rfl) ⟨f0', f1', f2'⟩ (fun hS => ?_)
          refine any_take (i := 0) (v := ?_) rfl (by kernel_rfl) (by kernel_rfl) (by kernel_rfl) (by exact fun _ _ _ h => h) (by rfl) ?_ hS ?_
          rotate_left
          · ((intro w hSw; (try dsimp only at hSw); go_simp) <;> with_reducible rfl)
          (try simp only [Act.put, List.setIfInBounds_toArray, List.set_cons_zero, List.set_cons_succ])
          refine any_take (i := 1) (v := .agg #[.int .i64 en.1, .int .i64 en.2.1, .slice x en.2.2.length cx]) rfl (by kernel_rfl) (by kernel_rfl) (by kernel_rfl) (by exact fun _ _ _ h => h) (by rfl) ?_ hS ?_
          · intro W hSW; obtain ⟨cA, cB, cC⟩ := hSW; go_simp
          (try simp only [Act.put, List.setIfInBounds_toArray, List.set_cons_zero, List.set_cons_succ])
          refine any_take (i := 5) (v := ?_) rfl (by kernel_rfl) (by kernel_rfl) (by kernel_rfl) (by exact fun _ _ _ h => h) (by rfl) ?_ hS ?_
          rotate_left
          · ((intro w hSw; (try dsimp only at hSw); go_simp) <;> with_reducible rfl)
          (try simp only [Act.put, List.setIfInBounds_toArray, List.set_cons_zero, List.set_cons_succ])
          refine any_take (i := 6) (v := .int .i64 en.2.1) rfl (by kernel_rfl) (by kernel_rfl) (by kernel_rfl) (by exact fun _ _ _ h => h) (by rfl) ?_ hS ?_
          · intro W hSW; obtain ⟨cA, cB, cC⟩ := hSW; go_simp
          (try simp only [Act.put, List.setIfInBounds_toArray, List.set_cons_zero, List.set_cons_succ])
          obtain ⟨hown, hbx, bx, hrx, hlast, hgs', happ, hll⟩ := H1.out
          have bD : Below w4.heap.size w4 w4.drew := (Below.refl _ _).drew
          have hrD := (hrx.later H2.out).later bD
          refine any_one (i := 2) rfl (by kernel_rfl) (fun K hK => ?_)
          go_simp
          refine (Calls.mono (partOf_any en.1 en.2.1 en.2.2 x cx w4.drew hrD hcan)) ?_
          rintro e x1 ⟨rfl, hbR⟩
          have b41 := below_then (below_then H2.out bD) hbR
          have hown1 := (PsOwn.later (PsOwn.later hown bx) b41)
          have hb1 := below_then hbx b41
          have sz1 := hb1.size
          have szx := b41.size
          have szq : (wr.alloc (.cells #[.int .i64 en.1, .int .i64 en.2.1, .slice x en.2.2.length cx] 49)).heap.size = wr.heap.size + 1 := by simp
          rw [szq] at szx
          have hblk := (World.ownsRow.lt hown)
          have g0 := cell_later hbR f0'
          have g1 := cell_later hbR f1'
          have g2 := cell_later hbR f2'
          go_wp2_with fail
          refine hK.out _ _ ⟨g0, g1, g2⟩ ?_
          clear hK K hS
          have bS : Below x1.heap.size x1 (x1.alloc (.cells #[pv en] 132)) := (Below.refl _ _).alloc (Nat.le_refl _) _
          have hc1 : (x1.alloc (.cells #[pv en] 132)).cell? ⟨x1.heap.size, 0, none⟩ = some (pv en) := (show Blk _ _ _ [pv en] from Blk.new' x1 _ _).cell (by simp [maxLen]) 0 (by simp)
          have hownS := PsOwn.later hown1 bS
          have bS0 := below_then hb1 bS
          have g0' := cell_later bS g0
          have g1' := cell_later bS g1
          have g2' := cell_later bS g2
          refine any_on (i := 3) rfl (by kernel_rfl) (fun K hK => ?_)
          refine step_val rfl (build_part en _ _ (.tmp 64) rfl rfl x1) ?_
          refine hK.out _ _ ⟨g0', g1', g2'⟩ (fun hS => ?_)
          clear hK K
          (try simp only [Act.put, List.setIfInBounds_toArray, List.set_cons_zero, List.set_cons_succ])
          obtain ⟨v', w6, hrun, ho6, hg6⟩ := run_append_part _ w.heap.size v (m.l ++ l.take k) 112 hownS x1.heap.size en hc1 hll bS0.size
          have hne : v.ownBlock ≠ some wr.heap.size := fun e => Nat.lt_irrefl _ (hblk _ e).2
          have zS : wr.heap.size < (x1.alloc (.cells #[pv en] 132)).heap.size := by have := bS.size; omega
          have kk : ∀ i u, (x1.alloc (.cells #[pv en] 132)).cell? ⟨wr.heap.size, i, none⟩ = some u → w6.cell? ⟨wr.heap.size, i, none⟩ = some u := fun i u hu => (World.cell?_of_block (w := (x1.alloc (.cells #[pv en] 132))) (a := ⟨wr.heap.size, i, none⟩) (hg6.block _ zS (fun e => hne e.symm))).trans hu
          have HA : Hid _ := And.intro ho6 (bS0.grown hg6 bS0.size (fun q hq => (hblk q hq).1))
          refine any_on (i := 4) rfl (by kernel_rfl) (fun K hK => ?_)
          refine step_run_ap rfl _ _ _ _ rfl _ _ rfl rfl hrun ?_
          refine hK.out _ _ ⟨kk _ _ g0', kk _ _ g1', kk _ _ g2'⟩ (fun hS1 => ?_)
          clear hK K hS
          have hS := hS1
          clear hS1
          refine any_take (i := 7) (v := ?_) rfl (by kernel_rfl) (by kernel_rfl) (by kernel_rfl) (by exact fun _ _ _ h => h) (by rfl) ?_ hS ?_
          rotate_left
          · ((intro w hSw; (try dsimp only at hSw); go_simp) <;> with_reducible rfl)
          (try simp only [Act.put, List.setIfInBounds_toArray, List.set_cons_zero, List.set_cons_succ])
          refine any_take (i := 8) (v := ?_) rfl (by kernel_rfl) (by kernel_rfl) (by kernel_rfl) (by exact fun _ _ _ h => h) (by rfl) ?_ hS ?_
          rotate_left
          · ((intro w hSw; (try dsimp only at hSw); go_simp) <;> with_reducible rfl)
          (try simp only [Act.put, List.setIfInBounds_toArray, List.set_cons_zero, List.set_cons_succ])
          refine wpAnyH_done (by kernel_rfl) ?_ _
          have F : Hid _ := And.intro HA.out.1 (And.intro HA.out.2 (And.intro hlast (And.intro hgs' happ)))
          clear hown hbx bx hrx hlast hgs' happ hll bD hrD b41 hown1 hb1 sz1 szx szq hblk g0 g1 g2 bS hc1 hownS bS0 g0' g1' g2' hrun ho6 hg6 hne zS kk HA hbR hS H1 H2 f0' f1' f2'
          -- behind it
          go_wp2
          go_roundw
          case rel => exact ⟨k + 1, _, rfl, by omega, by go_num, by rw [F.out.2.2.1], F.out.2.2.2.1, by rw [F.out.2.2.2.2]; exact F.out.1, F.out.2.1⟩
          case measure => simp [intOf]; omega
    · obtain rfl : k = l.length := by omega
      rw [List.take_length] at hgood hown
      obtain ⟨b9, c9, n0, n1, n2, n3, -, -, -⟩ := (HH.out.1.later hb).cells
      obtain ⟨va, vc, rfl, hvc, hvm, hps⟩ := hown.open
      have eL : (m.l ++ l).length = (m.with l).l.length := rfl
      rw [eL] at hvc ⊢
      have eP : m.l ++ l = (m.with l).l := rfl
      rw [eP] at hps
      have BN : Blk (wr.alloc (.cells #[.int .i64 m.fl, .int .i64 m.ft, .int .i64 m.fm, .slice va (m.with l).l.length vc] 114)) wr.heap.size 114 [.int .i64 m.fl, .int .i64 m.ft, .int .i64 m.fm, .slice va (m.with l).l.length vc] := Blk.new' wr _ _
      have bN : Below wr.heap.size wr (wr.alloc (.cells #[.int .i64 m.fl, .int .i64 m.ft, .int .i64 m.fm, .slice va (m.with l).l.length vc] 114)) := (Below.refl _ _).alloc (Nat.le_refl _) _
      have hL : Lg (wr.alloc (.cells #[.int .i64 m.fl, .int .i64 m.ft, .int .i64 m.fm, .slice va (m.with l).l.length vc] 114)) wr.heap.size (m.with l) := ⟨va, vc, BN, hvc, hvm, PsAt.later hps bN⟩
      have F : Hid _ := And.intro hgood (And.intro hL (And.intro (below_then hb bN) hb.size))
      clear hgood BN bN hps hb hvc hown hvm n3 HS eL eP hL
      generalize (m.with l).l.length = L9 at *
      go_wp2
      go_ret2
      exact ⟨.inr ⟨F.out.1, wr.heap.size, rfl, F.out.2.2.2, F.out.2.1⟩, F.out.2.2.1⟩
end Go.Proofs.Ytgjcgnmomdanaaa
