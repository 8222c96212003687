/- pdu: a reader. -/
import Derived.Test.YthcdhpmkhegkpaaXPd5
namespace Go.Proofs.Ythcdhpmkhegkpaa
open Go.RowKit
set_option linter.unusedVariables false
set_option linter.unusedSimpArgs false
set_option maxRecDepth 4000

theorem wpList_runApp {w w' : World} {v' : Value} {ops : Array Oper} {rest : List Oper} {o : Oper} {a : Act} {Q : Exit → Act → World → Prop} (hg : o.guard = none) (s x : Operand) (t1 t2 : TypeId)
    (ho : o.op = .call { callee := .builtin .append, args := #[s, x], argTypes := #[t1, t2] }) (vs vx : Value) (hs : a.eval s = vs) (hx : a.eval x = vx) (hr : (Builtin.append_ #[t1, t2] o.type #[vs, vx]).run Try.prog w = .ok v' w')
    (next : wpList Try.prog ops Q rest (a.put o.dst v') w') : wpList Try.prog ops Q (o :: rest) a w := by
  refine wpList_plain hg fun K hK => ?_
  unfold Oper.wp execOp
  simp only [ho, resolve, invoke, builtin, Sem.run_bind, Sem.run_pure, Result.andThen_ok, List.map_toArray, List.map_cons, List.map_nil, hs, hx, hr]
  exact hK _ _ next
/-- what was agreed on can be -/
def okO (mo : Int) : Bool := decide (48 ≤ mo ∧ mo ≤ 65536)
/-- a reader at block g; its bytes l lie in block q -/
def RdS (w : World) (g : Nat) (q : Option Nat) (hs ds : Bool) (mo : Int) (l : List (BitVec 8)) (dead : Bool) : Prop :=
  ∃ v, Blk w g 86 [.bool hs, .bool ds, .int .i64 mo, v, .bool dead] ∧ BSl w v q l ∧ q ≠ some g
/-- what a call of a reader may do to the world -/
structure RSt (w w' : World) (g : Nat) (q q' : Option Nat) : Prop where
  tn : Turned (fun k => k = g ∨ q = some k) w w'
  nw : ∀ b, q' = some b → q = some b ∨ w.heap.size ≤ b
theorem RdS.lt {w : World} {g : Nat} {q : Option Nat} {hs ds : Bool} {mo : Int} {l : List (BitVec 8)} {dead : Bool} (h : RdS w g q hs ds mo l dead) : g < w.heap.size ∧ ∀ k, q = some k → k < w.heap.size := by
  obtain ⟨v, h1, h2, -⟩ := h
  exact ⟨h1.lt, h2.lt⟩
theorem RdS.later {w w' : World} {g : Nat} {q : Option Nat} {hs ds : Bool} {mo : Int} {l : List (BitVec 8)} {dead : Bool} (h : RdS w g q hs ds mo l dead) (hb : Below w.heap.size w w') : RdS w' g q hs ds mo l dead := by
  obtain ⟨v, h1, h2, h3⟩ := h
  exact ⟨v, h1.laterB hb, h2.later hb, h3⟩
theorem RSt.same (w : World) (g : Nat) (q : Option Nat) : RSt w w g q q := ⟨⟨rfl, rfl, rfl, Nat.le_refl _, fun _ _ _ => rfl⟩, fun b h => .inl h⟩
theorem turned_later {w w' : World} {R : Nat → Prop} (hb : Below w.heap.size w w') : Turned R w w' := turned_grown (row := none) ⟨hb.os, hb.tape, hb.output, hb.size, fun k hk _ => hb.block k hk⟩ (fun k hk => by cases hk)
theorem RSt.trans {a b c : World} {g : Nat} {q q' q'' : Option Nat} (h : RSt a b g q q') (k : RSt b c g q' q'') : RSt a c g q q'' :=
  ⟨h.tn.trans (k.tn.mono (fun j hj => by
    rcases hj with e | e
    · exact .inl (.inl e)
    · rcases h.nw j e with e' | e'
      · exact .inl (.inr e')
      · exact .inr e')), fun b hb => by
    rcases k.nw b hb with e | e
    · exact h.nw b e
    · exact .inr (Nat.le_trans h.tn.size e)⟩
theorem RSt.then {a b c : World} {g : Nat} {q q' : Option Nat} (h : RSt a b g q q') (k : Below b.heap.size b c) : RSt a c g q q' := ⟨h.tn.trans ((turned_later k).mono (fun j hj => hj)), h.nw⟩
theorem RSt.first {a b c : World} {g : Nat} {q q' : Option Nat} (k : Below a.heap.size a b) (h : RSt b c g q q') : RSt a c g q q' := ⟨(turned_later k).trans (h.tn.mono (fun j hj => .inl hj)), fun b hb => by
    rcases h.nw b hb with e | e
    · exact .inl e
    · exact .inr (Nat.le_trans k.size e)⟩
theorem RSt.below {a b : World} {g : Nat} {q q' : Option Nat} (h : RSt a b g q q') (B : Nat) (hB : B ≤ a.heap.size) (hg : B ≤ g) (hq : ∀ k, q = some k → B ≤ k) : Below B a b ∧ ∀ k, q' = some k → B ≤ k :=
  ⟨h.tn.below B hB (fun k hk => by rcases hk with e | e; exact e ▸ hg; exact hq k e), fun k hk => by rcases h.nw k hk with e | e; exact hq k e; omega⟩
set_option maxHeartbeats 1000000 in
theorem pcanBe_any (hs ds : Bool) (mo : Int) (w : World) :
    Calls Try.prog 31 #[.agg #[.bool hs, .bool ds, .int .i64 mo]] w fun e w' => e = .returned (.bool (okO mo)) ∧ Below w.heap.size w w' := by
  have b0 : Below w.heap.size w (w.alloc (.cells #[.bool hs, .bool ds, .int .i64 mo] 35)) := (Below.refl _ _).alloc (Nat.le_refl _) _
  have o2 := blk_at (Blk.new' w 35 [.bool hs, .bool ds, .int .i64 mo]) 2
  simp only [List.getElem?_cons_zero, List.getElem?_cons_succ] at o2
  have F : Hid _ := b0
  clear b0
  by_cases h1 : 48 ≤ mo
  · by_cases h2 : mo ≤ 65536
    · have hE : Hid _ := show okO mo = true from decide_eq_true ⟨h1, h2⟩
      go_enter Try.func31, Try.ntmps31
      go_wp2
      go_ret
      exact ⟨by rw [hE.out]; rfl, F.out⟩
    · have hE : Hid _ := show okO mo = false from decide_eq_false (by omega)
      go_enter Try.func31, Try.ntmps31
      go_wp2
      go_ret
      exact ⟨by rw [hE.out]; rfl, F.out⟩
  · have hE : Hid _ := show okO mo = false from decide_eq_false (by omega)
    go_enter Try.func31, Try.ntmps31
    go_wp2
    go_ret
    exact ⟨by rw [hE.out]; rfl, F.out⟩
set_option maxHeartbeats 1000000 in
theorem pdie_any (g : Nat) (q : Option Nat) (hs ds : Bool) (mo : Int) (l : List (BitVec 8)) (dead : Bool) (w : World) (h : RdS w g q hs ds mo l dead) :
    Calls Try.prog 42 #[.pointer (some ⟨g, 0, none⟩)] w fun e w' => e = .returned (.tuple #[]) ∧ RdS w' g none hs ds mo [] true ∧ RSt w w' g q none := by
  obtain ⟨v, hB, -, hq⟩ := h
  have c3 := blk_at hB 3
  have c4 := blk_at hB 4
  simp only [List.getElem?_cons_zero, List.getElem?_cons_succ] at c3 c4
  have f3 := blk_frozen hB 3
  have f4 := blk_frozen hB 4
  have B2 := (hB.set 3 (.slice none 0 0)).set 4 (.bool true)
  simp only [List.set_cons_zero, List.set_cons_succ] at B2
  have T2 := (turned_set w g 3 (.slice none 0 0)).trans ((turned_set (w.setCell ⟨g, 3, none⟩ (.slice none 0 0)) g 4 (.bool true)).mono (fun k e => .inl e))
  have H : Hid _ := And.intro B2 T2
  clear B2 T2 hB
  go_enter Try.func42, Try.ntmps42
  go_wp2
  go_returns
  refine ⟨rfl, ⟨_, H.out.1, BSl.nil _, (by intro e; cases e)⟩, ⟨H.out.2.mono (fun k e => .inl e), fun b hb => by cases hb⟩⟩
set_option maxHeartbeats 1000000 in
theorem pNew_no (hs ds : Bool) (mo : Int) (w : World) (h : okO mo = false) :
    Calls Try.prog 19 #[.agg #[.bool hs, .bool ds, .int .i64 mo]] w fun e w' => e = .returned (.tuple #[.pointer none, .int .i64 1]) ∧ Below w.heap.size w w' := by
  have b0 : Below w.heap.size w (w.alloc (.cells #[.bool hs, .bool ds, .int .i64 mo] 35)) := (Below.refl _ _).alloc (Nat.le_refl _) _
  have lo := load_all size_op agg_op (Blk.new' w 35 [.bool hs, .bool ds, .int .i64 mo])
  have HC : Hid _ := pcanBe_any hs ds mo (w.alloc (.cells #[.bool hs, .bool ds, .int .i64 mo] 35))
  rw [h] at HC
  have F : Hid _ := b0
  clear b0
  go_enter Try.func19, Try.ntmps19
  go_wp2_with (refine wpList_value rfl (exec_load rfl rfl lo) ?_)
  refine (Calls.mono HC.out) ?_
  rintro e w1 ⟨rfl, b1⟩
  have F1 : Hid _ := below_then F.out b1
  clear b1 HC F lo
  go_wp2
  go_ret2
  exact ⟨rfl, F1.out⟩
set_option maxHeartbeats 1000000 in
theorem pNew_yes (hs ds : Bool) (mo : Int) (w : World) (h : okO mo = true) :
    Calls Try.prog 19 #[.agg #[.bool hs, .bool ds, .int .i64 mo]] w fun e w' => ∃ g, e = .returned (.tuple #[.pointer (some ⟨g, 0, none⟩), .int .i64 0]) ∧ w.heap.size ≤ g ∧ RdS w' g none hs ds mo [] false ∧ Below w.heap.size w w' := by
  have b0 : Below w.heap.size w (w.alloc (.cells #[.bool hs, .bool ds, .int .i64 mo] 35)) := (Below.refl _ _).alloc (Nat.le_refl _) _
  have B0 := Blk.new' w 35 [.bool hs, .bool ds, .int .i64 mo]
  have lo := load_all size_op agg_op B0
  have HC : Hid _ := pcanBe_any hs ds mo (w.alloc (.cells #[.bool hs, .bool ds, .int .i64 mo] 35))
  rw [h] at HC
  have F : Hid _ := And.intro b0 B0
  clear b0 B0
  go_enter Try.func19, Try.ntmps19
  go_wp2_with (refine wpList_value rfl (exec_load rfl rfl lo) ?_)
  refine (Calls.mono HC.out) ?_
  rintro e w1 ⟨rfl, b1⟩
  have B1 := F.out.2.laterB b1
  have lo := load_all size_op agg_op B1
  have F1 : Hid _ := below_then F.out.1 b1
  clear b1 HC F B1
  have HB : Hid (Blk (w1.alloc (.cells #[.bool hs, .bool ds, .int .i64 mo, .slice none 0 0, .bool false] 86)) w1.heap.size 86 [.bool hs, .bool ds, .int .i64 mo, .slice none 0 0, .bool false] ∧ Below w1.heap.size w1 (w1.alloc (.cells #[.bool hs, .bool ds, .int .i64 mo, .slice none 0 0, .bool false] 86))) := ⟨Blk.new' w1 _ _, (Below.refl _ _).alloc (Nat.le_refl _) _⟩
  go_wp2_with (refine wpList_value rfl (exec_load rfl rfl lo) ?_)
  go_ret2
  exact ⟨_, rfl, F1.out.size, ⟨_, HB.out.1, BSl.nil _, by intro e; cases e⟩, below_then F1.out HB.out.2⟩
set_option maxHeartbeats 1000000 in
theorem pLeft_any (g : Nat) (q : Option Nat) (hs ds : Bool) (mo : Int) (l : List (BitVec 8)) (dead : Bool) (w : World) (h : RdS w g q hs ds mo l dead) :
    Calls Try.prog 28 #[.pointer (some ⟨g, 0, none⟩)] w fun e w' => e = .returned (.int .i64 (l.length : Int)) ∧ w' = w := by
  obtain ⟨v, hB, hv, -⟩ := h
  obtain ⟨a, c, rfl, -⟩ := hv.open
  have c3 := blk_at hB 3
  have c4 := blk_at hB 4
  simp only [List.getElem?_cons_zero, List.getElem?_cons_succ] at c3 c4
  clear hB hv
  go_enter Try.func28, Try.ntmps28
  go_wp2
  go_ret
  exact ⟨by first | rfl | simp, rfl⟩
set_option maxHeartbeats 1000000 in
theorem pDead_any (g : Nat) (q : Option Nat) (hs ds : Bool) (mo : Int) (l : List (BitVec 8)) (dead : Bool) (w : World) (h : RdS w g q hs ds mo l dead) :
    Calls Try.prog 29 #[.pointer (some ⟨g, 0, none⟩)] w fun e w' => e = .returned (.bool dead) ∧ w' = w := by
  obtain ⟨v, hB, hv, -⟩ := h
  obtain ⟨a, c, rfl, -⟩ := hv.open
  have c3 := blk_at hB 3
  have c4 := blk_at hB 4
  simp only [List.getElem?_cons_zero, List.getElem?_cons_succ] at c3 c4
  clear hB hv
  go_enter Try.func29, Try.ntmps29
  go_wp2
  go_ret
  exact ⟨by first | rfl | simp, rfl⟩
set_option maxHeartbeats 1000000 in
theorem pLeft_nil (w : World) :
    Calls Try.prog 28 #[.pointer none] w fun e w' => e = .returned (.int .i64 0) ∧ w' = w := by
  go_enter Try.func28, Try.ntmps28
  go_wp2
  go_ret
  exact ⟨by first | rfl | simp, rfl⟩
set_option maxHeartbeats 1000000 in
theorem pDead_nil (w : World) :
    Calls Try.prog 29 #[.pointer none] w fun e w' => e = .returned (.bool false) ∧ w' = w := by
  go_enter Try.func29, Try.ntmps29
  go_wp2
  go_ret
  exact ⟨by first | rfl | simp, rfl⟩
set_option maxHeartbeats 1000000 in
theorem pFeed_nil (v : Value) (w : World) :
    Calls Try.prog 22 #[.pointer none, v] w fun e w' => e = .returned (.int .i64 2) ∧ w' = w := by
  go_enter Try.func22, Try.ntmps22
  go_wp2
  go_ret
  exact ⟨by first | rfl | simp, rfl⟩
set_option maxHeartbeats 1000000 in
theorem pFeed_dead (g : Nat) (q : Option Nat) (hs ds : Bool) (mo : Int) (l : List (BitVec 8)) (w : World) (v : Value) (h : RdS w g q hs ds mo l true) :
    Calls Try.prog 22 #[.pointer (some ⟨g, 0, none⟩), v] w fun e w' => e = .returned (.int .i64 21) ∧ w' = w := by
  obtain ⟨v', hB, hv, -⟩ := h
  have c4 := blk_at hB 4
  simp only [List.getElem?_cons_zero, List.getElem?_cons_succ] at c4
  clear hB hv
  go_enter Try.func22, Try.ntmps22
  go_wp2
  go_ret
  exact ⟨by first | rfl | simp, rfl⟩
set_option maxHeartbeats 1000000 in
theorem pFeed_full (g : Nat) (q : Option Nat) (hs ds : Bool) (mo : Int) (l : List (BitVec 8)) (w : World) (ab : Option Addr) (m c : Nat) (lb : List (BitVec 8)) (h : RdS w g q hs ds mo l false) (hl : l.length ≤ 131072) (hlb : lb.length = m) (hr : Row w ab lb) (hnil : ab = none → c = 0) (hmc : m ≤ c) (hmm : m ≤ 140737488355328) (ho : 131072 < l.length + m) :
    Calls Try.prog 22 #[.pointer (some ⟨g, 0, none⟩), .slice ab m c] w fun e w' => e = .returned (.int .i64 4) ∧ RdS w' g none hs ds mo [] true ∧ RSt w w' g q none := by
  have HH : Hid _ := And.intro h trivial
  obtain ⟨v, hB, hv, hq⟩ := h
  obtain ⟨va, vc, rfl, -⟩ := hv.open
  have c3 := blk_at hB 3
  have c4 := blk_at hB 4
  simp only [List.getElem?_cons_zero, List.getElem?_cons_succ] at c3 c4
  have f3 := blk_frozen hB 3
  have HD : Hid _ := pdie_any g q hs ds mo l false w HH.out.1
  have u1 : (131072 : Int) < (l.length : Int) + (m : Int) := by omega
  have u2 : IntKind.i64.wrap ((l.length : Int) + (m : Int)) = (l.length : Int) + (m : Int) := by rw [IntKind.wrap_i64]; omega
  clear hB hv hq HH hr
  go_enter Try.func22, Try.ntmps22
  go_wp2_with fail
  refine (Calls.mono HD.out) ?_
  rintro e w1 ⟨rfl, R1, S1⟩
  have G : Hid _ := And.intro R1 S1
  clear HD R1 S1
  go_wp2
  go_ret
  exact ⟨by first | rfl | simp, G.out.1, G.out.2⟩
set_option maxHeartbeats 1000000 in
theorem pFeed_yes (g : Nat) (q : Option Nat) (hs ds : Bool) (mo : Int) (l : List (BitVec 8)) (w : World) (ab : Option Addr) (m c : Nat) (lb : List (BitVec 8)) (h : RdS w g q hs ds mo l false) (hl : l.length ≤ 131072) (hlb : lb.length = m) (hr : Row w ab lb) (hnil : ab = none → c = 0) (hmc : m ≤ c) (hmm : m ≤ 140737488355328) (ho : l.length + m ≤ 131072) :
    Calls Try.prog 22 #[.pointer (some ⟨g, 0, none⟩), .slice ab m c] w fun e w' => e = .returned (.int .i64 0) ∧ ∃ q', RdS w' g q' hs ds mo (l ++ lb) false ∧ RSt w w' g q q' := by
  have HH : Hid _ := And.intro h trivial
  obtain ⟨v, hB, hv, hq⟩ := h
  obtain ⟨va, vc, rfl, -⟩ := hv.open
  have c3 := blk_at hB 3
  have c4 := blk_at hB 4
  simp only [List.getElem?_cons_zero, List.getElem?_cons_succ] at c3 c4
  have f3 := blk_frozen hB 3
  obtain ⟨v', w1, q', hrun, hv1, hg1, hn1⟩ := hv.append ab m c lb hlb hr hnil hmc (by omega) 25
  obtain ⟨a9, c9, hv9, -⟩ := hv1.open
  subst hv9
  generalize hn9 : (l ++ lb).length = n9 at *
  have u1 : ¬ (131072 : Int) < (l.length : Int) + (m : Int) := by omega
  have u2 : IntKind.i64.wrap ((l.length : Int) + (m : Int)) = (l.length : Int) + (m : Int) := by rw [IntKind.wrap_i64]; omega
  have B1 := hB.grown hg1 (fun e => hq e.symm)
  have hgl := hB.lt
  have c3' := blk_at B1 3
  simp only [List.getElem?_cons_zero, List.getElem?_cons_succ] at c3'
  have f3' := blk_frozen B1 3
  have B2 := B1.set 3 (.slice a9 n9 c9)
  simp only [List.set_cons_zero, List.set_cons_succ] at B2
  have hq' : q' ≠ some g := by
    intro e
    rcases hn1 g e with e' | e'
    · exact hq e'
    · omega
  have V2 : BSl (w1.setCell ⟨g, 3, none⟩ (.slice a9 n9 c9)) (.slice a9 n9 c9) q' (l ++ lb) := hv1.same (fun k hk => (turned_set w1 g 3 (.slice a9 n9 c9)).block k (hv1.lt k hk) (fun e => hq' (by rw [hk, e])))
  have T2 : Turned (fun k => k = g ∨ q = some k) w (w1.setCell ⟨g, 3, none⟩ (.slice a9 n9 c9)) := (turned_grown hg1 (fun k hk => .inr hk)).trans ((turned_set w1 g 3 (.slice a9 n9 c9)).mono (fun k e => .inl (.inl e)))
  have G : Hid _ := And.intro B2 (And.intro V2 (And.intro T2 (And.intro hq' hn1)))
  clear hB hv hq HH hr B1 B2 V2 T2 hq' hn1 hg1 hv1 hn9
  go_enter Try.func22, Try.ntmps22
  go_wp2_with (refine wpList_runApp rfl _ _ _ _ rfl _ _ rfl rfl hrun ?_)
  go_ret
  exact ⟨by first | rfl | simp, q', ⟨_, G.out.1, G.out.2.1, G.out.2.2.2.1⟩, ⟨G.out.2.2.1, G.out.2.2.2.2⟩⟩
end Go.Proofs.Ythcdhpmkhegkpaa

