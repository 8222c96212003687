/- pdu: Next. -/
import Derived.Test.YtfcaaljehhibgaaXPd5
import Derived.Deep.CutRange
import Derived.Test.YtfcaaljehhibgaaXDraw
namespace Go.Proofs.Ytfcaaljehhibgaa
open Go.RowKit
set_option linter.unusedVariables false
set_option linter.unusedSimpArgs false
set_option maxRecDepth 4000

/-- a part of a block as a value -/
theorem load_pre {T T' : TypeId} {xs ys : List Value} (hs : (Try.prog.info? T).map (·.size) = some xs.length) (ha : ∀ w, (isAgg T).run Try.prog w = .ok true w) {w : World} {g : Nat} (hB : Blk w g T' (xs ++ ys)) :
    (Instr.loadAt T (.pointer (some ⟨g, 0, none⟩))).run Try.prog w = .ok (.agg xs.toArray) w := by
  have h2 : (loadCells ⟨g, 0, none⟩ xs.length).run Try.prog w = .ok xs.toArray w := run_loadCells_list (P := Try.prog) w ⟨g, 0, none⟩ xs (fun j v hj => by
    have hadd : (⟨g, 0, none⟩ : Addr).add j = ⟨g, 0 + j, none⟩ := by unfold Addr.add; split <;> simp_all
    have hjl : j < xs.length := by
      rcases Nat.lt_or_ge j xs.length with h | h
      · exact h
      · rw [List.getElem?_eq_none h] at hj; cases hj
    rw [hadd, Nat.zero_add, blk_at hB j, List.getElem?_append_left hjl, hj])
  obtain ⟨i, hi, hz⟩ := Option.map_eq_some_iff.1 hs
  simp [Instr.loadAt, Instr.sureAddr, loadVar, Sem.run_bind, ha w, sizeOf, typeInfo, hi, hz, h2]
theorem RdS.turned {w w' : World} {g : Nat} {q : Option Nat} {hs ds : Bool} {mo : Int} {l : List (BitVec 8)} {dead : Bool} {R : Nat → Prop} (h : RdS w g q hs ds mo l dead) (t : Turned R w w') (hg : ¬ R g) (hn : ∀ k, q = some k → ¬ R k) : RdS w' g q hs ds mo l dead := by
  obtain ⟨v, h1, h2, h3⟩ := h
  exact ⟨v, h1.turned t hg, h2.same (fun k hk => t.block k (h2.lt k hk) (hn k hk)), h3⟩
theorem RSt.ofBelow {a b : World} {g : Nat} {q : Option Nat} (k : Below a.heap.size a b) : RSt a b g q q := ⟨turned_later k, fun b h => .inl h⟩
/-- a store into a block that was new behind w -/
theorem RSt.fin {w wc wd w9 : World} {g : Nat} {q q' : Option Nat} (S : RSt wc wd g q q') {R : Nat → Prop} (t : Turned R wd w9) (hb : Below w.heap.size w wc) (hR : ∀ k, R k → w.heap.size ≤ k) : RSt w w9 g q q' :=
  have h := RSt.first hb S
  ⟨h.tn.trans (t.mono (fun k hk => .inr (hR k hk))), h.nw⟩
def zP : List Value := [.int .i64 0, .bool false, .int .i64 0, .int .i64 0, .int .i64 0, .int .u64 0, .int .u32 0, .int .u32 0, .int .u32 0, .int .u32 0, .int .u32 0, .int .u32 0, .int .u32 0, .int .u32 0, .slice none 0 0]
theorem zP_one : ∀ u ∈ zP, u.oneCell' = true := by
  intro u hu
  unfold zP at hu
  simp at hu
  rcases hu with rfl | rfl | rfl | rfl | rfl | rfl <;> rfl
set_option maxHeartbeats 4000000 in
theorem pNext_nil (w : World) :
    Calls Try.prog 14 #[.pointer none] w fun e w' => e = .returned (.tuple #[.agg #[.int .i64 0, .bool false, .int .i64 0, .int .i64 0, .int .i64 0, .int .u64 0, .int .u32 0, .int .u32 0, .int .u32 0, .int .u32 0, .int .u32 0, .int .u32 0, .int .u32 0, .int .u32 0, .slice none 0 0], .int .i64 2, .bool true]) ∧ Below w.heap.size w w' := by
  have b0 : Below w.heap.size w (w.alloc (.cells #[.int .i64 0, .bool false, .int .i64 0, .int .i64 0, .int .i64 0, .int .u64 0, .int .u32 0, .int .u32 0, .int .u32 0, .int .u32 0, .int .u32 0, .int .u32 0, .int .u32 0, .int .u32 0, .slice none 0 0] 47)) := (Below.refl _ _).alloc (Nat.le_refl _) _
  have N0 : Blk (w.alloc (.cells #[.int .i64 0, .bool false, .int .i64 0, .int .i64 0, .int .i64 0, .int .u64 0, .int .u32 0, .int .u32 0, .int .u32 0, .int .u32 0, .int .u32 0, .int .u32 0, .int .u32 0, .int .u32 0, .slice none 0 0] 47)) w.heap.size 47 zP := Blk.new' w 47 [.int .i64 0, .bool false, .int .i64 0, .int .i64 0, .int .i64 0, .int .u64 0, .int .u32 0, .int .u32 0, .int .u32 0, .int .u32 0, .int .u32 0, .int .u32 0, .int .u32 0, .int .u32 0, .slice none 0 0]
  have X : Hid _ := And.intro b0 N0
  clear b0 N0
  go_enter Try.func14, Try.ntmps14
  obtain ⟨w9, hw9⟩ : ∃ w9, w9 = World.setCells (w.alloc (.cells #[.int .i64 0, .bool false, .int .i64 0, .int .i64 0, .int .i64 0, .int .u64 0, .int .u32 0, .int .u32 0, .int .u32 0, .int .u32 0, .int .u32 0, .int .u32 0, .int .u32 0, .int .u32 0, .slice none 0 0] 47)) w.heap.size 0 zP := ⟨_, rfl⟩
  have st := store_all (T := 47) (vs := zP) size_pd (X.out.2) rfl zP_one
  obtain ⟨B9, g9⟩ := Blk.whole (vs := zP) (X.out.2) rfl
  rw [← hw9] at st B9 g9
  clear hw9
  have T9 := turned_grown (R := fun k => k = w.heap.size) g9 (fun k hk => by cases hk; rfl)
  have F9 : Hid _ := And.intro B9 T9
  unfold zP at st
  clear B9 g9 T9
  go_wp2_with (refine wpList_skip rfl (exec_store rfl rfl rfl st) ?_)
  clear st
  have y0 := blk_at F9.out.1 0
  have y1 := blk_at F9.out.1 1
  have y2 := blk_at F9.out.1 2
  have y3 := blk_at F9.out.1 3
  have y4 := blk_at F9.out.1 4
  have y5 := blk_at F9.out.1 5
  have y6 := blk_at F9.out.1 6
  have y7 := blk_at F9.out.1 7
  have y8 := blk_at F9.out.1 8
  have y9 := blk_at F9.out.1 9
  have y10 := blk_at F9.out.1 10
  have y11 := blk_at F9.out.1 11
  have y12 := blk_at F9.out.1 12
  have y13 := blk_at F9.out.1 13
  have y14 := blk_at F9.out.1 14
  unfold zP at y0 y1 y2 y3 y4 y5 y6 y7 y8 y9 y10 y11 y12 y13 y14
  simp only [List.getElem?_cons_zero, List.getElem?_cons_succ] at y0 y1 y2 y3 y4 y5 y6 y7 y8 y9 y10 y11 y12 y13 y14
  refine bodyPost_ret (v := .tuple #[.agg #[.int .i64 0, .bool false, .int .i64 0, .int .i64 0, .int .i64 0, .int .u64 0, .int .u32 0, .int .u32 0, .int .u32 0, .int .u32 0, .int .u32 0, .int .u32 0, .int .u32 0, .int .u32 0, .slice none 0 0], .int .i64 (2), .bool true]) (by simp [results, Try.results14, go_sem, y0, y1, y2, y3, y4, y5, y6, y7, y8, y9, y10, y11, y12, y13, y14]) rfl ?_
  exact ⟨rfl, X.out.1.trans (F9.out.2.below _ X.out.1.size (fun k e => by omega))⟩
set_option maxHeartbeats 4000000 in
theorem pNext_dead (g : Nat) (q : Option Nat) (hs ds : Bool) (mo : Int) (l : List (BitVec 8)) (w : World) (h : RdS w g q hs ds mo l true) :
    Calls Try.prog 14 #[.pointer (some ⟨g, 0, none⟩)] w fun e w' => e = .returned (.tuple #[.agg #[.int .i64 0, .bool false, .int .i64 0, .int .i64 0, .int .i64 0, .int .u64 0, .int .u32 0, .int .u32 0, .int .u32 0, .int .u32 0, .int .u32 0, .int .u32 0, .int .u32 0, .int .u32 0, .slice none 0 0], .int .i64 21, .bool true]) ∧ Below w.heap.size w w' := by
  obtain ⟨v', hB, hv, -⟩ := h
  have b0 : Below w.heap.size w (w.alloc (.cells #[.int .i64 0, .bool false, .int .i64 0, .int .i64 0, .int .i64 0, .int .u64 0, .int .u32 0, .int .u32 0, .int .u32 0, .int .u32 0, .int .u32 0, .int .u32 0, .int .u32 0, .int .u32 0, .slice none 0 0] 47)) := (Below.refl _ _).alloc (Nat.le_refl _) _
  have N0 : Blk (w.alloc (.cells #[.int .i64 0, .bool false, .int .i64 0, .int .i64 0, .int .i64 0, .int .u64 0, .int .u32 0, .int .u32 0, .int .u32 0, .int .u32 0, .int .u32 0, .int .u32 0, .int .u32 0, .int .u32 0, .slice none 0 0] 47)) w.heap.size 47 zP := Blk.new' w 47 [.int .i64 0, .bool false, .int .i64 0, .int .i64 0, .int .i64 0, .int .u64 0, .int .u32 0, .int .u32 0, .int .u32 0, .int .u32 0, .int .u32 0, .int .u32 0, .int .u32 0, .int .u32 0, .slice none 0 0]
  have X : Hid _ := And.intro b0 N0
  clear b0 N0
  have c4 := blk_at (hB.laterB X.out.1) 4
  simp only [List.getElem?_cons_zero, List.getElem?_cons_succ] at c4
  clear hB hv
  go_enter Try.func14, Try.ntmps14
  obtain ⟨w9, hw9⟩ : ∃ w9, w9 = World.setCells (w.alloc (.cells #[.int .i64 0, .bool false, .int .i64 0, .int .i64 0, .int .i64 0, .int .u64 0, .int .u32 0, .int .u32 0, .int .u32 0, .int .u32 0, .int .u32 0, .int .u32 0, .int .u32 0, .int .u32 0, .slice none 0 0] 47)) w.heap.size 0 zP := ⟨_, rfl⟩
  have st := store_all (T := 47) (vs := zP) size_pd (X.out.2) rfl zP_one
  obtain ⟨B9, g9⟩ := Blk.whole (vs := zP) (X.out.2) rfl
  rw [← hw9] at st B9 g9
  clear hw9
  have T9 := turned_grown (R := fun k => k = w.heap.size) g9 (fun k hk => by cases hk; rfl)
  have F9 : Hid _ := And.intro B9 T9
  unfold zP at st
  clear B9 g9 T9
  go_wp2_with (refine wpList_skip rfl (exec_store rfl rfl rfl st) ?_)
  clear st
  have y0 := blk_at F9.out.1 0
  have y1 := blk_at F9.out.1 1
  have y2 := blk_at F9.out.1 2
  have y3 := blk_at F9.out.1 3
  have y4 := blk_at F9.out.1 4
  have y5 := blk_at F9.out.1 5
  have y6 := blk_at F9.out.1 6
  have y7 := blk_at F9.out.1 7
  have y8 := blk_at F9.out.1 8
  have y9 := blk_at F9.out.1 9
  have y10 := blk_at F9.out.1 10
  have y11 := blk_at F9.out.1 11
  have y12 := blk_at F9.out.1 12
  have y13 := blk_at F9.out.1 13
  have y14 := blk_at F9.out.1 14
  unfold zP at y0 y1 y2 y3 y4 y5 y6 y7 y8 y9 y10 y11 y12 y13 y14
  simp only [List.getElem?_cons_zero, List.getElem?_cons_succ] at y0 y1 y2 y3 y4 y5 y6 y7 y8 y9 y10 y11 y12 y13 y14
  refine bodyPost_ret (v := .tuple #[.agg #[.int .i64 0, .bool false, .int .i64 0, .int .i64 0, .int .i64 0, .int .u64 0, .int .u32 0, .int .u32 0, .int .u32 0, .int .u32 0, .int .u32 0, .int .u32 0, .int .u32 0, .int .u32 0, .slice none 0 0], .int .i64 (21), .bool true]) (by simp [results, Try.results14, go_sem, y0, y1, y2, y3, y4, y5, y6, y7, y8, y9, y10, y11, y12, y13, y14]) rfl ?_
  exact ⟨rfl, X.out.1.trans (F9.out.2.below _ X.out.1.size (fun k e => by omega))⟩
theorem any_2 {P : Program} {Q : Exit → Act → World → Prop} {md : Region.Mode} {S : World → Prop} {L : List Oper} {i j : Nat} {oi oj : Oper} {ri rj : List Oper} (hi : L.drop i = oi :: ri) (hj : L.drop j = oj :: rj) {fuel : Nat} {listed : Array Bool} {a : Act} {w : World} (hr : Region.ready md L.toArray listed = [i, j])
    (h1 : ∀ K' : Act → World → Prop, Shut (∀ a w, S w → (S w → wpAnyH P md L.toArray Q S fuel (listed.setIfInBounds i true) a w) → K' a w) → if Region.wanted oi (yielded L.toArray a.tmps) = true then Oper.wp P oi a w K' Q else K' (a.put oi.dst undef) w)
    (h2 : ∀ K' : Act → World → Prop, Shut (∀ a w, S w → (S w → wpAnyH P md L.toArray Q S fuel (listed.setIfInBounds j true) a w) → K' a w) → if Region.wanted oj (yielded L.toArray a.tmps) = true then Oper.wp P oj a w K' Q else K' (a.put oj.dst undef) w) :
    wpAnyH P md L.toArray Q S (fuel + 1) listed a w :=
  wpAnyH_ready hr (by simp) (AllReadyH.cons (drop_at hi) h1 (AllReadyH.cons (drop_at hj) h2 AllReadyH.nil))
/-- a store, as a step of a statement whose order is drawn -/
theorem step_skip {P : Program} {o : Oper} {a : Act} {w w' : World} {K : Act → World → Prop} {Q : Exit → Act → World → Prop} {E : Prop} {b : Bool} (hb : b = true) (h : (execOp a.eval o).run P w = .ok .skip w') (next : K (a.put o.dst undef) w') : if b = true then Oper.wp P o a w K Q else E := by
  rw [if_pos hb]
  unfold Oper.wp
  rw [h]
  exact next
theorem one4 (a0 a1 a2 a3 : Option Addr) (n0 c0 n1 c1 n2 c2 n3 c3 : Nat) : ∀ u ∈ [Value.slice a0 n0 c0, .slice a1 n1 c1, .slice a2 n2 c2, .slice a3 n3 c3], u.oneCell' = true := by
  intro u hu
  simp at hu
  rcases hu with rfl | rfl | rfl | rfl <;> rfl
/-- what lies in memory while a letter is told -/
structure NxB (w x : World) (g : Nat) (q : Option Nat) (hs ds : Bool) (mo : Int) (l : List (BitVec 8)) (va a0 a1 a2 a3 : Option Addr) (n0 c0 n1 c1 n2 c2 n3 c3 b pb : Nat) (z : Value) (d : List (BitVec 8)) : Prop where
  be : Below w.heap.size w x
  rs : RdS x g q hs ds mo l false
  bz : Blk x w.heap.size 47 zP
  lb : Blk x b 69 [.slice a0 n0 c0, .slice a1 n1 c1, .slice a2 n2 c2, .slice a3 n3 c3]
  wk : WkW x va hs ds l a0 a1 a2 a3 n0 c0 n1 c1 n2 c2 n3 c3
  pp : Blk x pb 47 (pdV (lH l) z)
  ow : Own x w.heap.size z d
  zn : ∀ k, z.ownBlock = some k → k ≠ pb
  l1 : w.heap.size < b
  l2 : w.heap.size < pb
  l3 : b ≠ pb
  zw : ∀ k, z.ownBlock = some k → w.heap.size < k
theorem NxB.later {w x x' : World} {g : Nat} {q : Option Nat} {hs ds : Bool} {mo : Int} {l : List (BitVec 8)} {va a0 a1 a2 a3 : Option Addr} {n0 c0 n1 c1 n2 c2 n3 c3 b pb : Nat} {z : Value} {d : List (BitVec 8)} (h : NxB w x g q hs ds mo l va a0 a1 a2 a3 n0 c0 n1 c1 n2 c2 n3 c3 b pb z d) (k : Below x.heap.size x x') : NxB w x' g q hs ds mo l va a0 a1 a2 a3 n0 c0 n1 c1 n2 c2 n3 c3 b pb z d :=
  ⟨below_then h.be k, h.rs.later k, h.bz.laterB k, h.lb.laterB k, h.wk.later k, h.pp.laterB k, h.ow.later k, h.zn, h.l1, h.l2, h.l3, h.zw⟩
theorem NxB.put {w x : World} {g : Nat} {q : Option Nat} {hs ds : Bool} {mo : Int} {l : List (BitVec 8)} {va a0 a1 a2 a3 : Option Addr} {n0 c0 n1 c1 n2 c2 n3 c3 b pb : Nat} {z : Value} {d : List (BitVec 8)} (h : NxB w x g q hs ds mo l va a0 a1 a2 a3 n0 c0 n1 c1 n2 c2 n3 c3 b pb z d)
    (hg : g < w.heap.size) (hq : ∀ k, q = some k → k < w.heap.size) (hva : ∀ y, va = some y → y.block < w.heap.size) (z' : Value) (d' : List (BitVec 8)) (ho : Own x w.heap.size z' d') (h1 : ∀ k, z'.ownBlock = some k → k ≠ pb ∧ w.heap.size < k) : NxB w (x.setCell ⟨pb, 14, none⟩ z') g q hs ds mo l va a0 a1 a2 a3 n0 c0 n1 c1 n2 c2 n3 c3 b pb z' d' := by
  have t := turned_set x pb 14 z'
  have e1 := h.l1
  have e2 := h.l2
  have e3 := h.l3
  have e4 := h.be.size
  exact ⟨h.be.trans (t.below _ h.be.size (fun k e => by omega)), h.rs.turned t (by omega) (fun k hk => by have := hq k hk; omega), h.bz.turned t (by omega), h.lb.turned t (by omega), h.wk.same t (fun y hy => by have := hva y hy; exact ⟨by omega, by omega⟩), h.pp.set 14 z', ho.same (fun k hk => t.block k (World.ownsRow.lt ho k hk).2 (h1 k hk).1), fun k hk => (h1 k hk).1, h.l1, h.l2, h.l3, fun k hk => (h1 k hk).2⟩
theorem BSl.cut' {w : World} {a : Option Addr} {n c : Nat} {q : Option Nat} {l : List (BitVec 8)} (h : BSl w (.slice a n c) q l) (k : Nat) (hk : k ≤ l.length) : ∃ y, (∀ W : World, (Instr.sliceAt 34 (.slice a n c) (some (.int .i64 (k : Int))) none none).run Try.prog W = .ok (.slice y (n - k) (c - k)) W) ∧ BSl w (.slice y (n - k) (c - k)) q (l.drop k) := by
  obtain ⟨a', c', he, h1, h2, h3, h4, h5⟩ := h.open
  cases he
  have hrun : ∀ W : World, (Instr.sliceAt 34 (.slice a l.length c) (some (.int .i64 (k : Int))) none none).run Try.prog W = .ok (sliced a k l.length c 1) W := fun W => by
    rw [run_sliceAt_slice W _ _ _ _ _ elem_u8s, run_slice_l W _ _ _ _ elem_u8s .i64 (k : Int) (by omega) (by omega), sz_u8]
    rfl
  unfold sliced at hrun
  refine ⟨_, hrun, ?_⟩
  rcases h with ⟨rfl, hv, rfl⟩ | ⟨b, off, cap, cur, rfl, hv, k3, k4, k5, k6, k7⟩
  · cases hv
    have : k = 0 := by simpa using hk
    subst this
    exact .inl ⟨rfl, by simp, by simp⟩
  · cases hv
    have e : (⟨b, off, none⟩ : Addr).add k = ⟨b, off + k, none⟩ := by unfold Addr.add; split <;> simp_all
    by_cases hck : c = k
    · rw [if_pos hck]
      exact .inr ⟨b, off, c - k, cur, rfl, by rw [List.length_drop], k3, by omega, by rw [List.length_drop]; omega, by omega, fun i hi => by rw [List.length_drop] at hi; omega⟩
    · rw [if_neg hck]
      refine .inr ⟨b, off + k, c - k, cur, rfl, by rw [List.length_drop]; simp [e], k3, by omega, by rw [List.length_drop]; omega, by omega, fun i hi => ?_⟩
      rw [List.length_drop] at hi
      rw [Nat.add_assoc, k7 (k + i) (by omega)]
      unfold bt
      simp [List.getD]
/-- the reader's bytes let go of the letter -/
theorem NxB.cut {w x : World} {g : Nat} {q : Option Nat} {hs ds : Bool} {mo : Int} {l : List (BitVec 8)} {va a0 a1 a2 a3 : Option Addr} {n0 c0 n1 c1 n2 c2 n3 c3 b pb : Nat} {z : Value} {d : List (BitVec 8)} (h : NxB w x g q hs ds mo l va a0 a1 a2 a3 n0 c0 n1 c1 n2 c2 n3 c3 b pb z d)
    (hg : g < w.heap.size) (v' : Value) (l' : List (BitVec 8)) (hv : BSl x v' q l') : RdS (x.setCell ⟨g, 3, none⟩ v') g q hs ds mo l' false ∧ Blk (x.setCell ⟨g, 3, none⟩ v') w.heap.size 47 zP ∧ Blk (x.setCell ⟨g, 3, none⟩ v') pb 47 (pdV (lH l) z) ∧ Own (x.setCell ⟨g, 3, none⟩ v') w.heap.size z d ∧ Turned (fun k => k = g ∨ q = some k) w (x.setCell ⟨g, 3, none⟩ v') := by
  have t := turned_set x g 3 v'
  have e2 := h.l2
  obtain ⟨v, h1, -, h3⟩ := h.rs
  have B2 := h1.set 3 v'
  simp only [List.set_cons_zero, List.set_cons_succ] at B2
  exact ⟨⟨v', B2, hv.same (fun k hk => t.block k (hv.lt k hk) (fun e => h3 (by rw [hk, e]))), h3⟩, h.bz.turned t (by omega), h.pp.turned t (by omega), h.ow.same (fun k hk => t.block k (World.ownsRow.lt h.ow k hk).2 (by have := (World.ownsRow.lt h.ow k hk).1; omega)),
    (turned_later h.be).trans (t.mono (fun k e => .inl (.inl e)))⟩
theorem pdV_len (h : List (BitVec 8)) (z : Value) : (pdV h z).length = 15 := rfl
theorem pdV_one (h : List (BitVec 8)) (z : Value) (hz : z.oneCell' = true) : ∀ u ∈ pdV h z, u.oneCell' = true := by
  intro u hu
  unfold pdV at hu
  simp only [List.mem_cons, List.mem_nil_iff, or_false] at hu
  rcases hu with rfl | rfl | rfl | rfl | rfl | rfl | rfl | rfl | rfl | rfl | rfl | rfl | rfl | rfl | rfl <;> first | rfl | exact hz
theorem pdV_set (h : List (BitVec 8)) (z z' : Value) : (pdV h z).set 14 z' = pdV h z' := rfl
/-- what Next does -/
structure NxW (w w' : World) (g : Nat) (q : Option Nat) (hs ds : Bool) (mo : Int) (l : List (BitVec 8)) (e : Ending) : Prop where
  wait : (wkM hs ds mo l).2 = false → (wkM hs ds mo l).1 = 0 → e = .returned (.tuple #[.agg #[.int .i64 0, .bool false, .int .i64 0, .int .i64 0, .int .i64 0, .int .u64 0, .int .u32 0, .int .u32 0, .int .u32 0, .int .u32 0, .int .u32 0, .int .u32 0, .int .u32 0, .int .u32 0, .slice none 0 0], .int .i64 0, .bool false]) ∧ RdS w' g q hs ds mo l false ∧ RSt w w' g q q
  die : (wkM hs ds mo l).2 = false → ¬ (wkM hs ds mo l).1 = 0 → e = .returned (.tuple #[.agg #[.int .i64 0, .bool false, .int .i64 0, .int .i64 0, .int .i64 0, .int .u64 0, .int .u32 0, .int .u32 0, .int .u32 0, .int .u32 0, .int .u32 0, .int .u32 0, .int .u32 0, .int .u32 0, .slice none 0 0], .int .i64 (wkM hs ds mo l).1, .bool true]) ∧ RdS w' g none hs ds mo [] true ∧ RSt w w' g q none
  tell : (wkM hs ds mo l).2 = true → ∃ z q', e = .returned (.tuple #[.agg (pdV (lH l) z).toArray, .int .i64 (wkM hs ds mo l).1, .bool true]) ∧ Own w' w.heap.size z (if (wkM hs ds mo l).1 = 0 then (lB hs l).take (cnt (lH l)) else []) ∧ (∀ k, z.ownBlock = some k → k ≠ g ∧ q' ≠ some k) ∧ RdS w' g q' hs ds mo (l.drop (hN hs + bodyN (cnt (lH l)) + dN ds l)) false ∧ RSt w w' g q q'
set_option maxHeartbeats 4000000 in
theorem pNext_any (g : Nat) (q : Option Nat) (hs ds : Bool) (mo : Int) (l : List (BitVec 8)) (w : World) (h : RdS w g q hs ds mo l false) (hl : l.length ≤ 131072) :
    Calls Try.prog 14 #[.pointer (some ⟨g, 0, none⟩)] w fun e w' => NxW w w' g q hs ds mo l e := by
  have HH : Hid _ := And.intro h trivial
  obtain ⟨v, hB, hv, hq⟩ := h
  obtain ⟨va, vc, hvv, hvl, hvm, hvr, hvn, hvb⟩ := hv.open
  subst hvv
  have b0 : Below w.heap.size w (w.alloc (.cells #[.int .i64 0, .bool false, .int .i64 0, .int .i64 0, .int .i64 0, .int .u64 0, .int .u32 0, .int .u32 0, .int .u32 0, .int .u32 0, .int .u32 0, .int .u32 0, .int .u32 0, .int .u32 0, .slice none 0 0] 47)) := (Below.refl _ _).alloc (Nat.le_refl _) _
  have N0 : Blk (w.alloc (.cells #[.int .i64 0, .bool false, .int .i64 0, .int .i64 0, .int .i64 0, .int .u64 0, .int .u32 0, .int .u32 0, .int .u32 0, .int .u32 0, .int .u32 0, .int .u32 0, .int .u32 0, .int .u32 0, .slice none 0 0] 47)) w.heap.size 47 zP := Blk.new' w 47 [.int .i64 0, .bool false, .int .i64 0, .int .i64 0, .int .i64 0, .int .u64 0, .int .u32 0, .int .u32 0, .int .u32 0, .int .u32 0, .int .u32 0, .int .u32 0, .int .u32 0, .int .u32 0, .slice none 0 0]
  have X : Hid _ := And.intro b0 N0
  clear b0 N0
  have B1 := hB.laterB X.out.1
  have c4 := blk_at B1 4
  simp only [List.getElem?_cons_zero, List.getElem?_cons_succ] at c4
  have HWK : Hid (∀ W, Below ((w.alloc (.cells #[.int .i64 0, .bool false, .int .i64 0, .int .i64 0, .int .i64 0, .int .u64 0, .int .u32 0, .int .u32 0, .int .u32 0, .int .u32 0, .int .u32 0, .int .u32 0, .int .u32 0, .int .u32 0, .slice none 0 0] 47))).heap.size ((w.alloc (.cells #[.int .i64 0, .bool false, .int .i64 0, .int .i64 0, .int .i64 0, .int .u64 0, .int .u32 0, .int .u32 0, .int .u32 0, .int .u32 0, .int .u32 0, .int .u32 0, .int .u32 0, .int .u32 0, .slice none 0 0] 47))) W → _) := fun W hb => walk_any hs ds mo va l.length vc l W rfl (by omega) hvl hvn ((hvr.later X.out.1).later hb)
  have HWB : Hid _ := And.intro trivial B1
  have HG3 : Hid _ := And.intro hB trivial
  have HVA : Hid (∀ x, va = some x → x.block < w.heap.size) := fun x hx => hv.lt _ (hvb x hx).1
  clear B1 hB hv hvr hvb
  go_enter Try.func14, Try.ntmps14
  go_wp2_with fail
  clear c4
  generalize hw1 : (w.alloc (.cells #[.int .i64 0, .bool false, .int .i64 0, .int .i64 0, .int .i64 0, .int .u64 0, .int .u32 0, .int .u32 0, .int .u32 0, .int .u32 0, .int .u32 0, .int .u32 0, .int .u32 0, .int .u32 0, .slice none 0 0] 47)) = w1 at *
  have HW1 : Hid _ := hw1
  clear hw1
  go_cut [5, 6, 7] from 17 to 65 (fun pv ev bv wx => ∃ b a0 a1 a2 a3 n0 c0 n1 c1 n2 c2 n3 c3, pv = .pointer (some ⟨b, 0, none⟩) ∧ ev = .int .i64 (wkM hs ds mo l).1 ∧ bv = .bool (wkM hs ds mo l).2 ∧ w1.heap.size ≤ b ∧ Blk wx b 69 [.slice a0 n0 c0, .slice a1 n1 c1, .slice a2 n2 c2, .slice a3 n3 c3] ∧ Below w1.heap.size w1 wx ∧ ((wkM hs ds mo l).2 = true → WkW wx va hs ds l a0 a1 a2 a3 n0 c0 n1 c1 n2 c2 n3 c3))
  case first =>
    refine wp_region_held_drew (S := fun W => Below w1.heap.size w1 W) (by kernel_rfl) (Below.refl _ _).drew (fun hS => ?_)
    have B0 : Below w1.heap.size w1 w1.drew := (Below.refl _ _).drew
    refine any_take (i := 0) (v := ?_) rfl (by kernel_rfl) (by kernel_rfl) (by kernel_rfl) (by exact fun _ _ _ h => h) (by rfl) ?_ hS ?_
    rotate_left
    · ((intro w hSw; (try dsimp only at hSw); go_simp) <;> with_reducible rfl)
    (try simp only [Act.put, List.setIfInBounds_toArray, List.set_cons_zero, List.set_cons_succ])
    refine any_take (i := 1) (v := ?_) rfl (by kernel_rfl) (by kernel_rfl) (by kernel_rfl) (by exact fun _ _ _ h => h) (by rfl) ?_ hS ?_
    rotate_left
    · ((intro w hSw; (try dsimp only at hSw); go_simp) <;> with_reducible rfl)
    (try simp only [Act.put, List.setIfInBounds_toArray, List.set_cons_zero, List.set_cons_succ])
    refine any_take (i := 2) (v := ?_) rfl (by kernel_rfl) (by kernel_rfl) (by kernel_rfl) (by exact fun _ _ _ h => h) (by rfl) ?_ hS ?_
    rotate_left
    · ((intro w hSw; (try dsimp only at hSw); go_simp) <;> with_reducible rfl)
    (try simp only [Act.put, List.setIfInBounds_toArray, List.set_cons_zero, List.set_cons_succ])
    refine any_take (i := 3) (v := .agg #[.bool hs, .bool ds, .int .i64 mo]) rfl (by kernel_rfl) (by kernel_rfl) (by kernel_rfl) (by exact fun _ _ _ h => h) (by rfl) ?_ hS ?_
    · intro W hSW; exact exec_load rfl rfl (load_pre (xs := [.bool hs, .bool ds, .int .i64 mo]) size_op agg_op (HWB.out.2.laterB hSW))
    (try simp only [Act.put, List.setIfInBounds_toArray, List.set_cons_zero, List.set_cons_succ])
    refine any_take (i := 4) (v := ?_) rfl (by kernel_rfl) (by kernel_rfl) (by kernel_rfl) (by exact fun _ _ _ h => h) (by rfl) ?_ hS ?_
    rotate_left
    · ((intro w hSw; (try dsimp only at hSw); go_simp) <;> with_reducible rfl)
    (try simp only [Act.put, List.setIfInBounds_toArray, List.set_cons_zero, List.set_cons_succ])
    refine any_take (i := 5) (v := ?_) rfl (by kernel_rfl) (by kernel_rfl) (by kernel_rfl) (by exact fun _ _ _ h => h) (by rfl) ?_ hS ?_
    rotate_left
    · ((intro w hSw; (try dsimp only at hSw); go_simp) <;> with_reducible rfl)
    (try simp only [Act.put, List.setIfInBounds_toArray, List.set_cons_zero, List.set_cons_succ])
    refine any_take (i := 6) (v := ?_) rfl (by kernel_rfl) (by kernel_rfl) (by kernel_rfl) (by exact fun _ _ _ h => h) (by rfl) ?_ hS ?_
    rotate_left
    · ((intro w hSw; (try dsimp only at hSw); go_simp) <;> with_reducible rfl)
    (try simp only [Act.put, List.setIfInBounds_toArray, List.set_cons_zero, List.set_cons_succ])
    refine any_take (i := 7) (v := .slice va l.length vc) rfl (by kernel_rfl) (by kernel_rfl) (by kernel_rfl) (by exact fun _ _ _ h => h) (by rfl) ?_ hS ?_
    · intro W hSW; exact exec_load rfl rfl (load_1 agg_u8s (by rw [blk_at (HWB.out.2.laterB hSW) 3]; rfl))
    (try simp only [Act.put, List.setIfInBounds_toArray, List.set_cons_zero, List.set_cons_succ])
    clear B0
    generalize w1.drew = W0 at *
    refine any_2 (i := 8) (j := 13) rfl rfl (by kernel_rfl) (fun K hK => ?_) (fun K hK => ?_)
    · go_simp
      refine (Calls.mono (HWK.out _ hS)) ?_
      rintro e x1 ⟨b1, a0, a1, a2, a3, n0, c0, n1, c1, n2, c2, n3, c3, rfl, hwh⟩
      have S1 := below_then hS b1
      have hw2 : (wkM hs ds mo l).2 = true → WkW x1 va hs ds l a0 a1 a2 a3 n0 c0 n1 c1 n2 c2 n3 c3 := fun e => (hwh e).later b1
      go_wp2_with fail
      refine hK.out _ _ S1 (fun hS => ?_)
      clear b1 S1 hwh
      clear hK K
      refine any_take (i := 9) (v := ?_) rfl (by kernel_rfl) (by kernel_rfl) (by kernel_rfl) (by exact fun _ _ _ h => h) (by rfl) ?_ hS ?_
      rotate_left
      · ((intro w hSw; (try dsimp only at hSw); go_simp) <;> with_reducible rfl)
      (try simp only [Act.put, List.setIfInBounds_toArray, List.set_cons_zero, List.set_cons_succ])
      refine any_take (i := 10) (v := ?_) rfl (by kernel_rfl) (by kernel_rfl) (by kernel_rfl) (by exact fun _ _ _ h => h) (by rfl) ?_ hS ?_
      rotate_left
      · ((intro w hSw; (try dsimp only at hSw); go_simp) <;> with_reducible rfl)
      (try simp only [Act.put, List.setIfInBounds_toArray, List.set_cons_zero, List.set_cons_succ])
      refine any_take (i := 11) (v := ?_) rfl (by kernel_rfl) (by kernel_rfl) (by kernel_rfl) (by exact fun _ _ _ h => h) (by rfl) ?_ hS ?_
      rotate_left
      · ((intro w hSw; (try dsimp only at hSw); go_simp) <;> with_reducible rfl)
      (try simp only [Act.put, List.setIfInBounds_toArray, List.set_cons_zero, List.set_cons_succ])
      refine any_take (i := 12) (v := ?_) rfl (by kernel_rfl) (by kernel_rfl) (by kernel_rfl) (by exact fun _ _ _ h => h) (by rfl) ?_ hS ?_
      rotate_left
      · ((intro w hSw; (try dsimp only at hSw); go_simp) <;> with_reducible rfl)
      (try simp only [Act.put, List.setIfInBounds_toArray, List.set_cons_zero, List.set_cons_succ])
      have hw3 : Hid _ := hw2
      clear hw2
      refine any_on (i := 13) rfl (by kernel_rfl) (fun K hK => ?_)
      go_simp
      have ba : Below x1.heap.size x1 (x1.alloc (.cells #[.slice none 0 0, .slice none 0 0, .slice none 0 0, .slice none 0 0] 69)) := (Below.refl _ _).alloc (Nat.le_refl _) _
      have PB := Blk.new' x1 69 [.slice none 0 0, .slice none 0 0, .slice none 0 0, .slice none 0 0]
      have hbs : w1.heap.size ≤ x1.heap.size := hS.size
      refine hK.out _ _ (below_then hS ba) (fun hS => ?_)
      clear hK K
      obtain ⟨b, hb⟩ : ∃ b, x1.heap.size = b := ⟨_, rfl⟩
      rw [hb] at PB hbs ⊢
      clear ba hb
      have hw2 := fun e => (hw3.out e).later ((Below.refl x1.heap.size x1).alloc (Nat.le_refl _) (.cells #[.slice none 0 0, .slice none 0 0, .slice none 0 0, .slice none 0 0] 69))
      clear hw3
      generalize x1.alloc (.cells #[.slice none 0 0, .slice none 0 0, .slice none 0 0, .slice none 0 0] 69) = x3 at *
      have st := store_all (T := 69) (vs := [.slice a0 n0 c0, .slice a1 n1 c1, .slice a2 n2 c2, .slice a3 n3 c3]) size_lt PB rfl (one4 _ _ _ _ _ _ _ _ _ _ _ _)
      obtain ⟨B9, g9⟩ := PB.whole (vs := [.slice a0 n0 c0, .slice a1 n1 c1, .slice a2 n2 c2, .slice a3 n3 c3]) rfl
      have S9 : Below w1.heap.size w1 (World.setCells x3 b 0 [.slice a0 n0 c0, .slice a1 n1 c1, .slice a2 n2 c2, .slice a3 n3 c3]) := hS.trans ((turned_grown (R := fun k => k = b) g9 (fun k hk => by cases hk; rfl)).below _ hS.size (fun k e => by omega))
      have hwh : (wkM hs ds mo l).2 = true → WkW (World.setCells x3 b 0 [.slice a0 n0 c0, .slice a1 n1 c1, .slice a2 n2 c2, .slice a3 n3 c3]) va hs ds l a0 a1 a2 a3 n0 c0 n1 c1 n2 c2 n3 c3 := fun e => (hw2 e).same ((turned_grown (R := fun k => k = b) g9 (fun k hk => by cases hk; rfl))) (fun x hx => by have e1 := HVA.out x hx; have e2 := X.out.1.size; have e3 := hS.size; exact ⟨by omega, by omega⟩)
      have G : Hid _ := And.intro B9 (And.intro S9 (And.intro hbs hwh))
      refine any_on (i := 14) rfl (by kernel_rfl) (fun K hK => ?_)
      refine step_skip (by rfl) (exec_store rfl rfl rfl st) ?_
      generalize World.setCells x3 b 0 _ = x4 at *
      refine hK.out _ _ S9 (fun hS => ?_)
      clear hK K S9 B9 g9 st PB hwh
      (try simp only [Act.put, List.setIfInBounds_toArray, List.set_cons_zero, List.set_cons_succ])
      refine any_take (i := 15) (v := ?_) rfl (by kernel_rfl) (by kernel_rfl) (by kernel_rfl) (by exact fun _ _ _ h => h) (by rfl) ?_ hS ?_
      rotate_left
      · ((intro w hSw; (try dsimp only at hSw); go_simp) <;> with_reducible rfl)
      (try simp only [Act.put, List.setIfInBounds_toArray, List.set_cons_zero, List.set_cons_succ])
      refine any_take (i := 16) (v := ?_) rfl (by kernel_rfl) (by kernel_rfl) (by kernel_rfl) (by exact fun _ _ _ h => h) (by rfl) ?_ hS ?_
      rotate_left
      · ((intro w hSw; (try dsimp only at hSw); go_simp) <;> with_reducible rfl)
      (try simp only [Act.put, List.setIfInBounds_toArray, List.set_cons_zero, List.set_cons_succ])
      refine wpAnyH_done (by kernel_rfl) ?_ _
      clear hS hbs
      go_wp2
      go_meet
      exact ⟨b, a0, a1, a2, a3, n0, c0, n1, c1, n2, c2, n3, c3, rfl, rfl, rfl, G.out.2.2.1, G.out.1, G.out.2.1, G.out.2.2.2⟩
    · go_simp
      have ba : Below W0.heap.size W0 (W0.alloc (.cells #[.slice none 0 0, .slice none 0 0, .slice none 0 0, .slice none 0 0] 69)) := (Below.refl _ _).alloc (Nat.le_refl _) _
      have PB := Blk.new' W0 69 [.slice none 0 0, .slice none 0 0, .slice none 0 0, .slice none 0 0]
      have hbs : w1.heap.size ≤ W0.heap.size := hS.size
      refine hK.out _ _ (below_then hS ba) (fun hS => ?_)
      clear hK K
      obtain ⟨b, hb⟩ : ∃ b, W0.heap.size = b := ⟨_, rfl⟩
      rw [hb] at PB hbs ⊢
      clear ba hb
      generalize W0.alloc (.cells #[.slice none 0 0, .slice none 0 0, .slice none 0 0, .slice none 0 0] 69) = x3 at *
      refine any_on (i := 8) rfl (by kernel_rfl) (fun K hK => ?_)
      go_simp
      refine (Calls.mono (HWK.out _ hS)) ?_
      rintro e x1 ⟨b1, a0, a1, a2, a3, n0, c0, n1, c1, n2, c2, n3, c3, rfl, hwh⟩
      have S1 := below_then hS b1
      have PB2 := PB.laterB b1
      have hw2 : (wkM hs ds mo l).2 = true → WkW x1 va hs ds l a0 a1 a2 a3 n0 c0 n1 c1 n2 c2 n3 c3 := fun e => (hwh e).later b1
      go_wp2_with fail
      refine hK.out _ _ S1 (fun hS => ?_)
      clear b1 S1 PB hwh
      have PB := PB2
      clear PB2
      clear hK K
      refine any_take (i := 9) (v := ?_) rfl (by kernel_rfl) (by kernel_rfl) (by kernel_rfl) (by exact fun _ _ _ h => h) (by rfl) ?_ hS ?_
      rotate_left
      · ((intro w hSw; (try dsimp only at hSw); go_simp) <;> with_reducible rfl)
      (try simp only [Act.put, List.setIfInBounds_toArray, List.set_cons_zero, List.set_cons_succ])
      refine any_take (i := 10) (v := ?_) rfl (by kernel_rfl) (by kernel_rfl) (by kernel_rfl) (by exact fun _ _ _ h => h) (by rfl) ?_ hS ?_
      rotate_left
      · ((intro w hSw; (try dsimp only at hSw); go_simp) <;> with_reducible rfl)
      (try simp only [Act.put, List.setIfInBounds_toArray, List.set_cons_zero, List.set_cons_succ])
      refine any_take (i := 11) (v := ?_) rfl (by kernel_rfl) (by kernel_rfl) (by kernel_rfl) (by exact fun _ _ _ h => h) (by rfl) ?_ hS ?_
      rotate_left
      · ((intro w hSw; (try dsimp only at hSw); go_simp) <;> with_reducible rfl)
      (try simp only [Act.put, List.setIfInBounds_toArray, List.set_cons_zero, List.set_cons_succ])
      refine any_take (i := 12) (v := ?_) rfl (by kernel_rfl) (by kernel_rfl) (by kernel_rfl) (by exact fun _ _ _ h => h) (by rfl) ?_ hS ?_
      rotate_left
      · ((intro w hSw; (try dsimp only at hSw); go_simp) <;> with_reducible rfl)
      (try simp only [Act.put, List.setIfInBounds_toArray, List.set_cons_zero, List.set_cons_succ])
      have st := store_all (T := 69) (vs := [.slice a0 n0 c0, .slice a1 n1 c1, .slice a2 n2 c2, .slice a3 n3 c3]) size_lt PB rfl (one4 _ _ _ _ _ _ _ _ _ _ _ _)
      obtain ⟨B9, g9⟩ := PB.whole (vs := [.slice a0 n0 c0, .slice a1 n1 c1, .slice a2 n2 c2, .slice a3 n3 c3]) rfl
      have S9 : Below w1.heap.size w1 (World.setCells x1 b 0 [.slice a0 n0 c0, .slice a1 n1 c1, .slice a2 n2 c2, .slice a3 n3 c3]) := hS.trans ((turned_grown (R := fun k => k = b) g9 (fun k hk => by cases hk; rfl)).below _ hS.size (fun k e => by omega))
      have hwh : (wkM hs ds mo l).2 = true → WkW (World.setCells x1 b 0 [.slice a0 n0 c0, .slice a1 n1 c1, .slice a2 n2 c2, .slice a3 n3 c3]) va hs ds l a0 a1 a2 a3 n0 c0 n1 c1 n2 c2 n3 c3 := fun e => (hw2 e).same ((turned_grown (R := fun k => k = b) g9 (fun k hk => by cases hk; rfl))) (fun x hx => by have e1 := HVA.out x hx; have e2 := X.out.1.size; have e3 := hS.size; exact ⟨by omega, by omega⟩)
      have G : Hid _ := And.intro B9 (And.intro S9 (And.intro hbs hwh))
      refine any_on (i := 14) rfl (by kernel_rfl) (fun K hK => ?_)
      refine step_skip (by rfl) (exec_store rfl rfl rfl st) ?_
      generalize World.setCells x1 b 0 _ = x4 at *
      refine hK.out _ _ S9 (fun hS => ?_)
      clear hK K S9 B9 g9 st PB hwh
      (try simp only [Act.put, List.setIfInBounds_toArray, List.set_cons_zero, List.set_cons_succ])
      refine any_take (i := 15) (v := ?_) rfl (by kernel_rfl) (by kernel_rfl) (by kernel_rfl) (by exact fun _ _ _ h => h) (by rfl) ?_ hS ?_
      rotate_left
      · ((intro w hSw; (try dsimp only at hSw); go_simp) <;> with_reducible rfl)
      (try simp only [Act.put, List.setIfInBounds_toArray, List.set_cons_zero, List.set_cons_succ])
      refine any_take (i := 16) (v := ?_) rfl (by kernel_rfl) (by kernel_rfl) (by kernel_rfl) (by exact fun _ _ _ h => h) (by rfl) ?_ hS ?_
      rotate_left
      · ((intro w hSw; (try dsimp only at hSw); go_simp) <;> with_reducible rfl)
      (try simp only [Act.put, List.setIfInBounds_toArray, List.set_cons_zero, List.set_cons_succ])
      refine wpAnyH_done (by kernel_rfl) ?_ _
      clear hS hbs
      go_wp2
      go_meet
      exact ⟨b, a0, a1, a2, a3, n0, c0, n1, c1, n2, c2, n3, c3, rfl, rfl, rfl, G.out.2.2.1, G.out.1, G.out.2.1, G.out.2.2.2⟩
  case rest =>
  obtain ⟨b, a0, a1, a2, a3, n0, c0, n1, c1, n2, c2, n3, c3, rfl, rfl, rfl, hb, LB, bw, hwh⟩ := hcut
  have R1 : RdS wc g q hs ds mo l false := (HH.out.1.later X.out.1).later bw
  have Y : Hid _ := And.intro (X.out.2.laterB bw) (And.intro R1 (And.intro (below_then X.out.1 bw) (And.intro LB hwh)))
  have HLT : Hid _ := HH.out.1.lt
  have hww : w.heap.size < w1.heap.size := (X.out.2).lt
  clear X HWK HWB R1 LB bw hwh
  rcases hM : wkM hs ds mo l with ⟨E, B⟩
  simp only [hM] at Y ⊢
  have HM : Hid _ := hM
  clear hM
  cases B
  · by_cases hE : E = 0
    · subst hE
      obtain ⟨w9, hw9⟩ : ∃ w9, w9 = World.setCells wc w.heap.size 0 zP := ⟨_, rfl⟩
      have st := store_all (T := 47) (vs := zP) size_pd (Y.out.1) rfl zP_one
      obtain ⟨B9, g9⟩ := Blk.whole (vs := zP) (Y.out.1) rfl
      rw [← hw9] at st B9 g9
      clear hw9
      have T9 := turned_grown (R := fun k => k = w.heap.size) g9 (fun k hk => by cases hk; rfl)
      have F9 : Hid _ := And.intro B9 T9
      unfold zP at st
      clear B9 g9 T9
      go_wp2_with (refine wpList_skip rfl (exec_store rfl rfl rfl st) ?_)
      clear st
      have y0 := blk_at F9.out.1 0
      have y1 := blk_at F9.out.1 1
      have y2 := blk_at F9.out.1 2
      have y3 := blk_at F9.out.1 3
      have y4 := blk_at F9.out.1 4
      have y5 := blk_at F9.out.1 5
      have y6 := blk_at F9.out.1 6
      have y7 := blk_at F9.out.1 7
      have y8 := blk_at F9.out.1 8
      have y9 := blk_at F9.out.1 9
      have y10 := blk_at F9.out.1 10
      have y11 := blk_at F9.out.1 11
      have y12 := blk_at F9.out.1 12
      have y13 := blk_at F9.out.1 13
      have y14 := blk_at F9.out.1 14
      unfold zP at y0 y1 y2 y3 y4 y5 y6 y7 y8 y9 y10 y11 y12 y13 y14
      simp only [List.getElem?_cons_zero, List.getElem?_cons_succ] at y0 y1 y2 y3 y4 y5 y6 y7 y8 y9 y10 y11 y12 y13 y14
      refine bodyPost_ret (v := .tuple #[.agg #[.int .i64 0, .bool false, .int .i64 0, .int .i64 0, .int .i64 0, .int .u64 0, .int .u32 0, .int .u32 0, .int .u32 0, .int .u32 0, .int .u32 0, .int .u32 0, .int .u32 0, .int .u32 0, .slice none 0 0], .int .i64 (0), .bool false]) (by simp [results, Try.results14, go_sem, y0, y1, y2, y3, y4, y5, y6, y7, y8, y9, y10, y11, y12, y13, y14]) rfl ?_
      refine ⟨fun _ _ => ⟨rfl, Y.out.2.1.turned F9.out.2 (by have := HLT.out.1; omega) (fun k hk => by have := HLT.out.2 k hk; omega), RSt.ofBelow (Y.out.2.2.1.trans (F9.out.2.below _ Y.out.2.2.1.size (fun k e => by omega)))⟩, fun _ e2 => ?_, fun e1 => ?_⟩
      · rw [HM.out] at e2; exact absurd rfl e2
      · rw [HM.out] at e1; cases e1
    · have HD : Hid _ := pdie_any g q hs ds mo l false wc Y.out.2.1
      have hE' : Hid _ := hE
      go_wp2_with fail
      refine (Calls.mono HD.out) ?_
      rintro e wd ⟨rfl, R2, S2⟩
      have NB : Blk wd w.heap.size 47 zP := Y.out.1.turned S2.tn (by intro e; rcases e with e | e; have := HLT.out.1; omega; have := HLT.out.2 _ e; omega)
      have G : Hid _ := And.intro R2 (And.intro NB S2)
      clear HD R2 S2 NB
      obtain ⟨w9, hw9⟩ : ∃ w9, w9 = World.setCells wd w.heap.size 0 zP := ⟨_, rfl⟩
      have st := store_all (T := 47) (vs := zP) size_pd (G.out.2.1) rfl zP_one
      obtain ⟨B9, g9⟩ := Blk.whole (vs := zP) (G.out.2.1) rfl
      rw [← hw9] at st B9 g9
      clear hw9
      have T9 := turned_grown (R := fun k => k = w.heap.size) g9 (fun k hk => by cases hk; rfl)
      have F9 : Hid _ := And.intro B9 T9
      unfold zP at st
      clear B9 g9 T9
      go_wp2_with (refine wpList_skip rfl (exec_store rfl rfl rfl st) ?_)
      clear st
      have y0 := blk_at F9.out.1 0
      have y1 := blk_at F9.out.1 1
      have y2 := blk_at F9.out.1 2
      have y3 := blk_at F9.out.1 3
      have y4 := blk_at F9.out.1 4
      have y5 := blk_at F9.out.1 5
      have y6 := blk_at F9.out.1 6
      have y7 := blk_at F9.out.1 7
      have y8 := blk_at F9.out.1 8
      have y9 := blk_at F9.out.1 9
      have y10 := blk_at F9.out.1 10
      have y11 := blk_at F9.out.1 11
      have y12 := blk_at F9.out.1 12
      have y13 := blk_at F9.out.1 13
      have y14 := blk_at F9.out.1 14
      unfold zP at y0 y1 y2 y3 y4 y5 y6 y7 y8 y9 y10 y11 y12 y13 y14
      simp only [List.getElem?_cons_zero, List.getElem?_cons_succ] at y0 y1 y2 y3 y4 y5 y6 y7 y8 y9 y10 y11 y12 y13 y14
      refine bodyPost_ret (v := .tuple #[.agg #[.int .i64 0, .bool false, .int .i64 0, .int .i64 0, .int .i64 0, .int .u64 0, .int .u32 0, .int .u32 0, .int .u32 0, .int .u32 0, .int .u32 0, .int .u32 0, .int .u32 0, .int .u32 0, .slice none 0 0], .int .i64 (E), .bool true]) (by simp [results, Try.results14, go_sem, y0, y1, y2, y3, y4, y5, y6, y7, y8, y9, y10, y11, y12, y13, y14]) rfl ?_
      refine ⟨fun _ e2 => ?_, fun _ _ => ?_, fun e1 => ?_⟩
      · rw [HM.out] at e2; exact absurd e2 hE
      · rw [HM.out]; exact ⟨rfl, G.out.1.turned F9.out.2 (by have := HLT.out.1; omega) (fun k hk => by cases hk), G.out.2.2.fin F9.out.2 Y.out.2.2.1 (fun k e => by omega)⟩
      · rw [HM.out] at e1; cases e1
  · have Wk := Y.out.2.2.2.2 rfl
    obtain ⟨rfl, hall, rfl, rfl, rfl, wh, wb⟩ := Wk
    have ld := load_all size_lt agg_lt Y.out.2.2.2.1
    have HP : Hid _ := ppdu_any a0 a1 a2 a3 c0 (dgN hs) c1 (bodyN (cnt (lH l))) c2 (dN ds l) c3 (lH l) wc wh.len wh.cap wh.nil wh.row
    have HWk : Hid (WkW wc va hs ds l a0 a1 a2 a3 48 c0 (dgN hs) c1 (bodyN (cnt (lH l))) c2 (dN ds l) c3) := ⟨rfl, hall, rfl, rfl, rfl, wh, wb⟩
    clear hall wh wb
    have hlen := pdV_len (lH l) (.slice none 0 0)
    have hone := pdV_one (lH l) (.slice none 0 0) rfl
    have HPV : Hid (∀ x : List Value, x = pdV (lH l) (.slice none 0 0) → x = pdV (lH l) (.slice none 0 0)) := fun x h => h
    obtain ⟨PV, hPV⟩ : ∃ PV, PV = pdV (lH l) (.slice none 0 0) := ⟨_, rfl⟩
    rw [← hPV] at HP hlen hone
    have HPE : Hid _ := hPV
    clear hPV HPV
    go_wp2_with (refine wpList_value rfl (exec_load rfl rfl ld) ?_)
    clear ld
    refine (Calls.mono HP.out) ?_
    rintro e wd ⟨rfl, bd⟩
    have NB := Blk.new' wd 47 [.int .i64 0, .bool false, .int .i64 0, .int .i64 0, .int .i64 0, .int .u64 0, .int .u32 0, .int .u32 0, .int .u32 0, .int .u32 0, .int .u32 0, .int .u32 0, .int .u32 0, .int .u32 0, .slice none 0 0]
    have ba : Below wd.heap.size wd (wd.alloc (.cells #[.int .i64 0, .bool false, .int .i64 0, .int .i64 0, .int .i64 0, .int .u64 0, .int .u32 0, .int .u32 0, .int .u32 0, .int .u32 0, .int .u32 0, .int .u32 0, .int .u32 0, .int .u32 0, .slice none 0 0] 47)) := (Below.refl _ _).alloc (Nat.le_refl _) _
    have st := store_all (T := 47) (vs := PV) (by rw [hlen]; exact size_pd) NB (by rw [hlen]; rfl) hone
    obtain ⟨B9, g9⟩ := NB.whole (vs := PV) (by rw [hlen]; rfl)
    have T9 := turned_grown (R := fun k => k = wd.heap.size) g9 (fun k hk => by cases hk; rfl)
    have hbb : b < wc.heap.size := Y.out.2.2.2.1.lt
    have hds := bd.size
    have hg9 := HLT.out.1
    have hzz := Y.out.1.lt
    have Bq := (turned_later (R := fun k => k = wd.heap.size) ba).trans (T9.mono (fun k e => .inl e))
    have b9 := (Below.refl wd.heap.size wd).trans (Bq.below wd.heap.size (Nat.le_refl _) (fun k e => by omega))
    have bcd := below_then bd b9
    have N1 : NxB w ((wd.alloc (.cells #[.int .i64 0, .bool false, .int .i64 0, .int .i64 0, .int .i64 0, .int .u64 0, .int .u32 0, .int .u32 0, .int .u32 0, .int .u32 0, .int .u32 0, .int .u32 0, .int .u32 0, .int .u32 0, .slice none 0 0] 47)).setCells wd.heap.size 0 PV) g q hs ds mo l va a0 a1 a2 a3 48 c0 (dgN hs) c1 (bodyN (cnt (lH l))) c2 (dN ds l) c3 b wd.heap.size (.slice none 0 0) [] := ⟨below_then Y.out.2.2.1 bcd, Y.out.2.1.later bcd, Y.out.1.laterB bcd, Y.out.2.2.2.1.laterB bcd, HWk.out.later bcd, by rw [← HPE.out]; exact B9, Own.nil _ _, fun k hk => (by cases hk), by omega, by omega, by omega, fun k hk => (by cases hk)⟩
    have M : Hid _ := N1
    clear N1 NB B9 g9 T9 Bq b9 bcd ba bd HP HWk hone hlen
    obtain ⟨we, hwe⟩ : ∃ we, we = (wd.alloc (.cells #[.int .i64 0, .bool false, .int .i64 0, .int .i64 0, .int .i64 0, .int .u64 0, .int .u32 0, .int .u32 0, .int .u32 0, .int .u32 0, .int .u32 0, .int .u32 0, .int .u32 0, .int .u32 0, .slice none 0 0] 47)).setCells wd.heap.size 0 PV := ⟨_, rfl⟩
    rw [← hwe] at st M
    clear hwe
    by_cases hE : E = 0
    · subst hE
      go_wp2_with (refine wpList_skip rfl (exec_store rfl rfl rfl st) ?_)
      clear st
      generalize wd.heap.size = pb at *
      refine e_begin (S := fun W => NxB w W g q hs ds mo l va a0 a1 a2 a3 48 c0 (dgN hs) c1 (bodyN (cnt (lH l))) c2 (dN ds l) c3 b pb (.slice none 0 0) []) 7 (by kernel_rfl) (M.out.later (Below.refl _ _).drew) (fun hS => ?_)
      refine e_take (i := 0) (v := ?_) [1, 4, 5, 7] rfl (by kernel_rfl) (by kernel_rfl) (by kernel_rfl) (by kernel_rfl) (by exact fun _ _ _ h => h) (by rfl) ?_ hS ?_
      rotate_left
      · ((intro w hSw; (try dsimp only at hSw); go_simp) <;> with_reducible rfl)
      (try simp only [Act.put, List.setIfInBounds_toArray, List.set_cons_zero, List.set_cons_succ])
      refine e_take (i := 1) (v := .slice a2 (bodyN (cnt (lH l))) c2) [4, 5, 7] rfl (by kernel_rfl) (by kernel_rfl) (by kernel_rfl) (by kernel_rfl) (by exact fun _ _ _ h => h) (by rfl) ?_ hS ?_
      · intro W hSW; exact exec_load rfl rfl (load_1 agg_u8s (by rw [blk_at hSW.lb 2]; rfl))
      (try simp only [Act.put, List.setIfInBounds_toArray, List.set_cons_zero, List.set_cons_succ])
      refine e_take (i := 2) (v := .agg #[.slice a0 48 c0, .slice a1 (dgN hs) c1, .slice a2 (bodyN (cnt (lH l))) c2, .slice a3 (dN ds l) c3]) [3, 4, 5, 7] rfl (by kernel_rfl) (by kernel_rfl) (by kernel_rfl) (by kernel_rfl) (by exact fun _ _ _ h => h) (by rfl) ?_ hS ?_
      · intro W hSW; exact exec_load rfl rfl (load_all size_lt agg_lt hSW.lb)
      (try simp only [Act.put, List.setIfInBounds_toArray, List.set_cons_zero, List.set_cons_succ])
      refine e_one (i := 3) rfl (by kernel_rfl) (fun K hK => ?_)
      go_simp
      refine (Calls.mono (pcount_any a0 a1 a2 a3 c0 (dgN hs) c1 (bodyN (cnt (lH l))) c2 (dN ds l) c3 (lH l) _ hS.wk.h.len hS.wk.h.row)) ?_
      rintro e x1 ⟨rfl, b1⟩
      have S1 := hS.later b1
      clear hS b1
      go_wp2_with fail
      refine hK.out _ _ (S1) (fun hS => ?_)
      clear hK K
      obtain ⟨y, hy, hyr, hyn, -⟩ := slice_upto hS.wk.b.row hS.wk.b.len hS.wk.b.cap (cnt (lH l)) ((pad_body _ (cnt_lt (lH l))).2.1) hS.wk.b.nil
      have HY : Hid _ := hy
      clear hy
      refine e_take (i := 4) (v := .slice y (cnt (lH l)) c2) [5, 7] rfl (by kernel_rfl) (by kernel_rfl) (by kernel_rfl) (by kernel_rfl) (by exact fun _ _ _ h => h) (by rfl) ?_ hS ?_
      · intro W hSW; exact exec_slice rfl rfl (HY.out W)
      (try simp only [Act.put, List.setIfInBounds_toArray, List.set_cons_zero, List.set_cons_succ])
      have hdl : ((lB hs l).take (cnt (lH l))).length = cnt (lH l) := by rw [List.length_take, hS.wk.b.len]; have := (pad_body _ (cnt_lt (lH l))).2.1; omega
      refine e_one (i := 5) rfl (by kernel_rfl) (fun K hK => ?_)
      go_simp
      refine (Calls.mono (Clone_any y (cnt (lH l)) c2 ((lB hs l).take (cnt (lH l))) _ hdl (by have := hS.wk.b.cap; have := (pad_body _ (cnt_lt (lH l))).2.1; omega) (by have := cnt_lt (lH l); omega) hyr hyn)) ?_
      rintro e x2 ⟨zv, rfl, oz, b2⟩
      have S2 := hS.later b2
      have hpx : pb < x1.heap.size := hS.pp.lt
      have hzx := hS.be.size
      have OZ : Hid _ := And.intro (oz.lower hzx) (fun k hk => (show k ≠ pb ∧ w.heap.size < k from by have := (World.ownsRow.lt oz k hk).1; have := hS.l2; exact ⟨by omega, by omega⟩))
      clear hS b2 hyr hyn HY hpx hzx oz hdl
      go_wp2_with fail
      refine hK.out _ _ (S2) (fun hS => ?_)
      clear hK K
      obtain ⟨za, zc, hzv, -⟩ := OZ.out.1.open
      subst hzv
      generalize hdn : ((lB hs l).take (cnt (lH l))).length = dn at *
      have P := hS.put HLT.out.1 HLT.out.2 HVA.out (.slice za dn zc) _ OZ.out.1 OZ.out.2
      have c14 := blk_at hS.pp 14
      have f14 := blk_frozen hS.pp 14
      rw [show (pdV (lH l) (.slice none 0 0))[14]? = some (.slice none 0 0) from rfl] at c14
      have MP : Hid _ := P
      clear P hdn
      refine e_take (i := 6) (v := ?_) [7] rfl (by kernel_rfl) (by kernel_rfl) (by kernel_rfl) (by kernel_rfl) (by exact fun _ _ _ h => h) (by rfl) ?_ hS ?_
      rotate_left
      · ((intro w hSw; (try dsimp only at hSw); go_simp) <;> with_reducible rfl)
      (try simp only [Act.put, List.setIfInBounds_toArray, List.set_cons_zero, List.set_cons_succ])
      clear hS
      refine e_last (z := 7) rfl (by kernel_rfl) (fun K hK => ?_)
      go_simp
      refine hK.out _ _ ?_
      clear hK K
      refine e_done (by kernel_rfl) ?_ _
      clear c14 f14 OZ
      generalize x2.setCell _ _ = x3 at *
      go_wp2_with fail
      have HC3 : Hid (∀ W, NxB w W g q hs ds mo l va a0 a1 a2 a3 48 c0 (dgN hs) c1 (bodyN (cnt (lH l))) c2 (dN ds l) c3 b pb (.slice za dn zc) ((lB hs l).take (cnt (lH l))) → W.cell? ⟨g, 3, none⟩ = some (.slice va l.length vc)) := fun W h => by rw [blk_at (HG3.out.1.laterB h.be) 3]; rfl
      refine e_begin (S := fun W => NxB w W g q hs ds mo l va a0 a1 a2 a3 48 c0 (dgN hs) c1 (bodyN (cnt (lH l))) c2 (dN ds l) c3 b pb (.slice za dn zc) ((lB hs l).take (cnt (lH l)))) 10 (by kernel_rfl) (MP.out.later (Below.refl _ _).drew) (fun hS => ?_)
      refine e_take (i := 0) (v := ?_) [8, 9, 10] rfl (by kernel_rfl) (by kernel_rfl) (by kernel_rfl) (by kernel_rfl) (by exact fun _ _ _ h => h) (by rfl) ?_ hS ?_
      rotate_left
      · ((intro w hSw; (try dsimp only at hSw); go_simp) <;> with_reducible rfl)
      (try simp only [Act.put, List.setIfInBounds_toArray, List.set_cons_zero, List.set_cons_succ])
      refine e_take (i := 1) (v := ?_) [2, 3, 4, 7, 10] rfl (by kernel_rfl) (by kernel_rfl) (by kernel_rfl) (by kernel_rfl) (by exact fun _ _ _ h => h) (by rfl) ?_ hS ?_
      rotate_left
      · ((intro w hSw; (try dsimp only at hSw); go_simp) <;> with_reducible rfl)
      (try simp only [Act.put, List.setIfInBounds_toArray, List.set_cons_zero, List.set_cons_succ])
      refine e_take (i := 2) (v := ?_) [3, 4, 7, 10] rfl (by kernel_rfl) (by kernel_rfl) (by kernel_rfl) (by kernel_rfl) (by exact fun _ _ _ h => h) (by rfl) ?_ hS ?_
      rotate_left
      · ((intro w hSw; (try dsimp only at hSw); go_simp) <;> with_reducible rfl)
      (try simp only [Act.put, List.setIfInBounds_toArray, List.set_cons_zero, List.set_cons_succ])
      refine e_take (i := 3) (v := ?_) [4, 7, 10] rfl (by kernel_rfl) (by kernel_rfl) (by kernel_rfl) (by kernel_rfl) (by exact fun _ _ _ h => h) (by rfl) ?_ hS ?_
      rotate_left
      · ((intro w hSw; (try dsimp only at hSw); go_simp) <;> with_reducible rfl)
      (try simp only [Act.put, List.setIfInBounds_toArray, List.set_cons_zero, List.set_cons_succ])
      refine e_take (i := 4) (v := .slice va l.length vc) [7, 10] rfl (by kernel_rfl) (by kernel_rfl) (by kernel_rfl) (by kernel_rfl) (by exact fun _ _ _ h => h) (by rfl) ?_ hS ?_
      · intro W hSW; exact exec_load rfl rfl (load_1 agg_u8s (HC3.out W hSW))
      (try simp only [Act.put, List.setIfInBounds_toArray, List.set_cons_zero, List.set_cons_succ])
      refine e_take (i := 5) (v := .agg #[.slice a0 48 c0, .slice a1 (dgN hs) c1, .slice a2 (bodyN (cnt (lH l))) c2, .slice a3 (dN ds l) c3]) [6, 7, 10] rfl (by kernel_rfl) (by kernel_rfl) (by kernel_rfl) (by kernel_rfl) (by exact fun _ _ _ h => h) (by rfl) ?_ hS ?_
      · intro W hSW; exact exec_load rfl rfl (load_all size_lt agg_lt hSW.lb)
      (try simp only [Act.put, List.setIfInBounds_toArray, List.set_cons_zero, List.set_cons_succ])
      have hall := hS.wk.all
      have htot : Hid _ := And.intro hall hl
      refine e_one (i := 6) rfl (by kernel_rfl) (fun K hK => ?_)
      go_simp
      refine (Calls.mono (pbytes_any a0 a1 a2 a3 48 c0 (dgN hs) c1 (bodyN (cnt (lH l))) c2 (dN ds l) c3 _ (by unfold hN at hall; omega))) ?_
      rintro e x4 ⟨rfl, b4⟩
      have S4 := hS.later b4
      clear hS b4
      go_wp2_with fail
      refine hK.out _ _ (S4) (fun hS => ?_)
      clear hK K
      obtain ⟨v9, hb9, hv9, hq9⟩ := hS.rs
      have e9 : v9 = .slice va l.length vc := by have e1 := blk_at hb9 3; have e2 := HC3.out _ hS; rw [e1] at e2; simpa using e2
      subst e9
      obtain ⟨y, hy, hyv⟩ := hv9.cut' (48 + dgN hs + bodyN (cnt (lH l)) + dN ds l) (by unfold hN at hall; omega)
      have HY : Hid _ := hy
      clear hy
      refine e_take (i := 7) (v := .slice y (l.length - (48 + dgN hs + bodyN (cnt (lH l)) + dN ds l)) (vc - (48 + dgN hs + bodyN (cnt (lH l)) + dN ds l))) [10] rfl (by kernel_rfl) (by kernel_rfl) (by kernel_rfl) (by kernel_rfl) (by exact fun _ _ _ h => h) (by rfl) ?_ hS ?_
      · intro W hSW; exact exec_slice rfl rfl (HY.out W)
      (try simp only [Act.put, List.setIfInBounds_toArray, List.set_cons_zero, List.set_cons_succ])
      refine e_take (i := 8) (v := ?_) [9, 10] rfl (by kernel_rfl) (by kernel_rfl) (by kernel_rfl) (by kernel_rfl) (by exact fun _ _ _ h => h) (by rfl) ?_ hS ?_
      rotate_left
      · ((intro w hSw; (try dsimp only at hSw); go_simp) <;> with_reducible rfl)
      (try simp only [Act.put, List.setIfInBounds_toArray, List.set_cons_zero, List.set_cons_succ])
      refine e_take (i := 9) (v := ?_) [10] rfl (by kernel_rfl) (by kernel_rfl) (by kernel_rfl) (by kernel_rfl) (by exact fun _ _ _ h => h) (by rfl) ?_ hS ?_
      rotate_left
      · ((intro w hSw; (try dsimp only at hSw); go_simp) <;> with_reducible rfl)
      (try simp only [Act.put, List.setIfInBounds_toArray, List.set_cons_zero, List.set_cons_succ])
      have Q := hS.cut HLT.out.1 _ _ hyv
      have c3 := blk_at hb9 3
      have f3 := blk_frozen hb9 3
      simp only [List.getElem?_cons_zero, List.getElem?_cons_succ] at c3
      have G : Hid _ := Q
      clear Q hb9 hv9 hyv HY HC3 hall
      clear hS
      refine e_last (z := 10) rfl (by kernel_rfl) (fun K hK => ?_)
      go_simp
      refine hK.out _ _ ?_
      clear hK K
      refine e_done (by kernel_rfl) ?_ _
      clear c3 f3
      generalize x4.setCell _ _ = x5 at *
      have ld := load_all (xs := pdV (lH l) (.slice za dn zc)) (by rw [pdV_len]; exact size_pd) agg_pd G.out.2.2.1
      obtain ⟨w9, hw9⟩ : ∃ w9, w9 = World.setCells x5 w.heap.size 0 (pdV (lH l) (.slice za dn zc)) := ⟨_, rfl⟩
      have st := store_all (T := 47) (vs := pdV (lH l) (.slice za dn zc)) (by rw [pdV_len]; exact size_pd) G.out.2.1 rfl (pdV_one _ _ rfl)
      obtain ⟨B9, g9⟩ := G.out.2.1.whole (vs := pdV (lH l) (.slice za dn zc)) rfl
      rw [← hw9] at st B9 g9
      clear hw9
      have T9 := turned_grown (R := fun k => k = w.heap.size) g9 (fun k hk => by cases hk; rfl)
      have F9 : Hid _ := And.intro B9 T9
      clear B9 g9 T9
      have hlen := pdV_len (lH l) ((.slice za dn zc))
      obtain ⟨PZ, hPZ⟩ : ∃ PZ, PZ = pdV (lH l) ((.slice za dn zc)) := ⟨_, rfl⟩
      rw [← hPZ] at ld st hlen
      have HPZ : Hid _ := hPZ
      clear hPZ
      go_wp2_with (first | (refine wpList_value rfl (exec_load rfl rfl ld) ?_) | (refine wpList_skip rfl (exec_store rfl rfl rfl st) ?_))
      clear ld st
      have y0 := blk_at F9.out.1 0
      have y1 := blk_at F9.out.1 1
      have y2 := blk_at F9.out.1 2
      have y3 := blk_at F9.out.1 3
      have y4 := blk_at F9.out.1 4
      have y5 := blk_at F9.out.1 5
      have y6 := blk_at F9.out.1 6
      have y7 := blk_at F9.out.1 7
      have y8 := blk_at F9.out.1 8
      have y9 := blk_at F9.out.1 9
      have y10 := blk_at F9.out.1 10
      have y11 := blk_at F9.out.1 11
      have y12 := blk_at F9.out.1 12
      have y13 := blk_at F9.out.1 13
      have y14 := blk_at F9.out.1 14
      have E15 : Hid (pdV (lH l) ((.slice za dn zc)) = _) := rfl
      unfold pdV at y0 y1 y2 y3 y4 y5 y6 y7 y8 y9 y10 y11 y12 y13 y14
      simp only [List.getElem?_cons_zero, List.getElem?_cons_succ] at y0 y1 y2 y3 y4 y5 y6 y7 y8 y9 y10 y11 y12 y13 y14
      refine bodyPost_ret (v := .tuple #[.agg #[.int .i64 (pOp (lH l)), .bool (pNow (lH l)), .int .i64 (nb (lH l) 1 1), .int .i64 (nb (lH l) 2 1), .int .i64 (nb (lH l) 3 1), .int .u64 (nb (lH l) 8 8), .int .u32 (nb (lH l) 16 4), .int .u32 (nb (lH l) 20 4), .int .u32 (nb (lH l) 24 4), .int .u32 (nb (lH l) 28 4), .int .u32 (nb (lH l) 32 4), .int .u32 (nb (lH l) 36 4), .int .u32 (nb (lH l) 40 4), .int .u32 (nb (lH l) 44 4), (.slice za dn zc)], .int .i64 (0), .bool true]) (by simp [results, Try.results14, go_sem, y0, y1, y2, y3, y4, y5, y6, y7, y8, y9, y10, y11, y12, y13, y14]) rfl ?_
      refine ⟨fun e1 => ?_, fun e1 => ?_, fun _ => ?_⟩
      · rw [HM.out] at e1; cases e1
      · rw [HM.out] at e1; cases e1
      · refine ⟨(.slice za dn zc), q, ?_, ?_, ?_, ?_, ?_⟩
        · rw [HM.out]; rfl
        · rw [HM.out]; dsimp only; rw [if_pos rfl]; exact G.out.2.2.2.1.same (fun k hk => F9.out.2.block k (World.ownsRow.lt G.out.2.2.2.1 k hk).2 (by have := MP.out.zw k hk; omega))
        · intro k hk; have e1 := MP.out.zw k hk; have e2 := HLT.out.1; exact ⟨by omega, fun e => by have := HLT.out.2 k e; omega⟩
        · rw [show hN hs + bodyN (cnt (lH l)) + dN ds l = 48 + dgN hs + bodyN (cnt (lH l)) + dN ds l from rfl]; exact G.out.1.turned F9.out.2 (by have := HLT.out.1; omega) (fun k hk => by have := HLT.out.2 k hk; omega)
        · exact ⟨G.out.2.2.2.2.trans (F9.out.2.mono (fun k e => .inr (by omega))), fun b hb => .inl hb⟩
    · have MP : Hid _ := M.out
      go_wp2_with (refine wpList_skip rfl (exec_store rfl rfl rfl st) ?_)
      clear st
      generalize wd.heap.size = pb at *
      have HC3 : Hid (∀ W, NxB w W g q hs ds mo l va a0 a1 a2 a3 48 c0 (dgN hs) c1 (bodyN (cnt (lH l))) c2 (dN ds l) c3 b pb (.slice none 0 0) ([] : List (BitVec 8)) → W.cell? ⟨g, 3, none⟩ = some (.slice va l.length vc)) := fun W h => by rw [blk_at (HG3.out.1.laterB h.be) 3]; rfl
      refine e_begin (S := fun W => NxB w W g q hs ds mo l va a0 a1 a2 a3 48 c0 (dgN hs) c1 (bodyN (cnt (lH l))) c2 (dN ds l) c3 b pb (.slice none 0 0) ([] : List (BitVec 8))) 10 (by kernel_rfl) (MP.out.later (Below.refl _ _).drew) (fun hS => ?_)
      refine e_take (i := 0) (v := ?_) [8, 9, 10] rfl (by kernel_rfl) (by kernel_rfl) (by kernel_rfl) (by kernel_rfl) (by exact fun _ _ _ h => h) (by rfl) ?_ hS ?_
      rotate_left
      · ((intro w hSw; (try dsimp only at hSw); go_simp) <;> with_reducible rfl)
      (try simp only [Act.put, List.setIfInBounds_toArray, List.set_cons_zero, List.set_cons_succ])
      refine e_take (i := 1) (v := ?_) [2, 3, 4, 7, 10] rfl (by kernel_rfl) (by kernel_rfl) (by kernel_rfl) (by kernel_rfl) (by exact fun _ _ _ h => h) (by rfl) ?_ hS ?_
      rotate_left
      · ((intro w hSw; (try dsimp only at hSw); go_simp) <;> with_reducible rfl)
      (try simp only [Act.put, List.setIfInBounds_toArray, List.set_cons_zero, List.set_cons_succ])
      refine e_take (i := 2) (v := ?_) [3, 4, 7, 10] rfl (by kernel_rfl) (by kernel_rfl) (by kernel_rfl) (by kernel_rfl) (by exact fun _ _ _ h => h) (by rfl) ?_ hS ?_
      rotate_left
      · ((intro w hSw; (try dsimp only at hSw); go_simp) <;> with_reducible rfl)
      (try simp only [Act.put, List.setIfInBounds_toArray, List.set_cons_zero, List.set_cons_succ])
      refine e_take (i := 3) (v := ?_) [4, 7, 10] rfl (by kernel_rfl) (by kernel_rfl) (by kernel_rfl) (by kernel_rfl) (by exact fun _ _ _ h => h) (by rfl) ?_ hS ?_
      rotate_left
      · ((intro w hSw; (try dsimp only at hSw); go_simp) <;> with_reducible rfl)
      (try simp only [Act.put, List.setIfInBounds_toArray, List.set_cons_zero, List.set_cons_succ])
      refine e_take (i := 4) (v := .slice va l.length vc) [7, 10] rfl (by kernel_rfl) (by kernel_rfl) (by kernel_rfl) (by kernel_rfl) (by exact fun _ _ _ h => h) (by rfl) ?_ hS ?_
      · intro W hSW; exact exec_load rfl rfl (load_1 agg_u8s (HC3.out W hSW))
      (try simp only [Act.put, List.setIfInBounds_toArray, List.set_cons_zero, List.set_cons_succ])
      refine e_take (i := 5) (v := .agg #[.slice a0 48 c0, .slice a1 (dgN hs) c1, .slice a2 (bodyN (cnt (lH l))) c2, .slice a3 (dN ds l) c3]) [6, 7, 10] rfl (by kernel_rfl) (by kernel_rfl) (by kernel_rfl) (by kernel_rfl) (by exact fun _ _ _ h => h) (by rfl) ?_ hS ?_
      · intro W hSW; exact exec_load rfl rfl (load_all size_lt agg_lt hSW.lb)
      (try simp only [Act.put, List.setIfInBounds_toArray, List.set_cons_zero, List.set_cons_succ])
      have hall := hS.wk.all
      have htot : Hid _ := And.intro hall hl
      refine e_one (i := 6) rfl (by kernel_rfl) (fun K hK => ?_)
      go_simp
      refine (Calls.mono (pbytes_any a0 a1 a2 a3 48 c0 (dgN hs) c1 (bodyN (cnt (lH l))) c2 (dN ds l) c3 _ (by unfold hN at hall; omega))) ?_
      rintro e x4 ⟨rfl, b4⟩
      have S4 := hS.later b4
      clear hS b4
      go_wp2_with fail
      refine hK.out _ _ (S4) (fun hS => ?_)
      clear hK K
      obtain ⟨v9, hb9, hv9, hq9⟩ := hS.rs
      have e9 : v9 = .slice va l.length vc := by have e1 := blk_at hb9 3; have e2 := HC3.out _ hS; rw [e1] at e2; simpa using e2
      subst e9
      obtain ⟨y, hy, hyv⟩ := hv9.cut' (48 + dgN hs + bodyN (cnt (lH l)) + dN ds l) (by unfold hN at hall; omega)
      have HY : Hid _ := hy
      clear hy
      refine e_take (i := 7) (v := .slice y (l.length - (48 + dgN hs + bodyN (cnt (lH l)) + dN ds l)) (vc - (48 + dgN hs + bodyN (cnt (lH l)) + dN ds l))) [10] rfl (by kernel_rfl) (by kernel_rfl) (by kernel_rfl) (by kernel_rfl) (by exact fun _ _ _ h => h) (by rfl) ?_ hS ?_
      · intro W hSW; exact exec_slice rfl rfl (HY.out W)
      (try simp only [Act.put, List.setIfInBounds_toArray, List.set_cons_zero, List.set_cons_succ])
      refine e_take (i := 8) (v := ?_) [9, 10] rfl (by kernel_rfl) (by kernel_rfl) (by kernel_rfl) (by kernel_rfl) (by exact fun _ _ _ h => h) (by rfl) ?_ hS ?_
      rotate_left
      · ((intro w hSw; (try dsimp only at hSw); go_simp) <;> with_reducible rfl)
      (try simp only [Act.put, List.setIfInBounds_toArray, List.set_cons_zero, List.set_cons_succ])
      refine e_take (i := 9) (v := ?_) [10] rfl (by kernel_rfl) (by kernel_rfl) (by kernel_rfl) (by kernel_rfl) (by exact fun _ _ _ h => h) (by rfl) ?_ hS ?_
      rotate_left
      · ((intro w hSw; (try dsimp only at hSw); go_simp) <;> with_reducible rfl)
      (try simp only [Act.put, List.setIfInBounds_toArray, List.set_cons_zero, List.set_cons_succ])
      have Q := hS.cut HLT.out.1 _ _ hyv
      have c3 := blk_at hb9 3
      have f3 := blk_frozen hb9 3
      simp only [List.getElem?_cons_zero, List.getElem?_cons_succ] at c3
      have G : Hid _ := Q
      clear Q hb9 hv9 hyv HY HC3 hall
      clear hS
      refine e_last (z := 10) rfl (by kernel_rfl) (fun K hK => ?_)
      go_simp
      refine hK.out _ _ ?_
      clear hK K
      refine e_done (by kernel_rfl) ?_ _
      clear c3 f3
      generalize x4.setCell _ _ = x5 at *
      have ld := load_all (xs := pdV (lH l) (.slice none 0 0)) (by rw [pdV_len]; exact size_pd) agg_pd G.out.2.2.1
      obtain ⟨w9, hw9⟩ : ∃ w9, w9 = World.setCells x5 w.heap.size 0 (pdV (lH l) (.slice none 0 0)) := ⟨_, rfl⟩
      have st := store_all (T := 47) (vs := pdV (lH l) (.slice none 0 0)) (by rw [pdV_len]; exact size_pd) G.out.2.1 rfl (pdV_one _ _ rfl)
      obtain ⟨B9, g9⟩ := G.out.2.1.whole (vs := pdV (lH l) (.slice none 0 0)) rfl
      rw [← hw9] at st B9 g9
      clear hw9
      have T9 := turned_grown (R := fun k => k = w.heap.size) g9 (fun k hk => by cases hk; rfl)
      have F9 : Hid _ := And.intro B9 T9
      clear B9 g9 T9
      have hlen := pdV_len (lH l) ((.slice none 0 0))
      obtain ⟨PZ, hPZ⟩ : ∃ PZ, PZ = pdV (lH l) ((.slice none 0 0)) := ⟨_, rfl⟩
      rw [← hPZ] at ld st hlen
      have HPZ : Hid _ := hPZ
      clear hPZ
      go_wp2_with (first | (refine wpList_value rfl (exec_load rfl rfl ld) ?_) | (refine wpList_skip rfl (exec_store rfl rfl rfl st) ?_))
      clear ld st
      have y0 := blk_at F9.out.1 0
      have y1 := blk_at F9.out.1 1
      have y2 := blk_at F9.out.1 2
      have y3 := blk_at F9.out.1 3
      have y4 := blk_at F9.out.1 4
      have y5 := blk_at F9.out.1 5
      have y6 := blk_at F9.out.1 6
      have y7 := blk_at F9.out.1 7
      have y8 := blk_at F9.out.1 8
      have y9 := blk_at F9.out.1 9
      have y10 := blk_at F9.out.1 10
      have y11 := blk_at F9.out.1 11
      have y12 := blk_at F9.out.1 12
      have y13 := blk_at F9.out.1 13
      have y14 := blk_at F9.out.1 14
      have E15 : Hid (pdV (lH l) ((.slice none 0 0)) = _) := rfl
      unfold pdV at y0 y1 y2 y3 y4 y5 y6 y7 y8 y9 y10 y11 y12 y13 y14
      simp only [List.getElem?_cons_zero, List.getElem?_cons_succ] at y0 y1 y2 y3 y4 y5 y6 y7 y8 y9 y10 y11 y12 y13 y14
      refine bodyPost_ret (v := .tuple #[.agg #[.int .i64 (pOp (lH l)), .bool (pNow (lH l)), .int .i64 (nb (lH l) 1 1), .int .i64 (nb (lH l) 2 1), .int .i64 (nb (lH l) 3 1), .int .u64 (nb (lH l) 8 8), .int .u32 (nb (lH l) 16 4), .int .u32 (nb (lH l) 20 4), .int .u32 (nb (lH l) 24 4), .int .u32 (nb (lH l) 28 4), .int .u32 (nb (lH l) 32 4), .int .u32 (nb (lH l) 36 4), .int .u32 (nb (lH l) 40 4), .int .u32 (nb (lH l) 44 4), (.slice none 0 0)], .int .i64 (E), .bool true]) (by simp [results, Try.results14, go_sem, y0, y1, y2, y3, y4, y5, y6, y7, y8, y9, y10, y11, y12, y13, y14]) rfl ?_
      refine ⟨fun e1 => ?_, fun e1 => ?_, fun _ => ?_⟩
      · rw [HM.out] at e1; cases e1
      · rw [HM.out] at e1; cases e1
      · refine ⟨(.slice none 0 0), q, ?_, ?_, ?_, ?_, ?_⟩
        · rw [HM.out]; rfl
        · rw [HM.out]; dsimp only; rw [if_neg hE]; exact G.out.2.2.2.1.same (fun k hk => F9.out.2.block k (World.ownsRow.lt G.out.2.2.2.1 k hk).2 (by have := MP.out.zw k hk; omega))
        · intro k hk; have e1 := MP.out.zw k hk; have e2 := HLT.out.1; exact ⟨by omega, fun e => by have := HLT.out.2 k e; omega⟩
        · rw [show hN hs + bodyN (cnt (lH l)) + dN ds l = 48 + dgN hs + bodyN (cnt (lH l)) + dN ds l from rfl]; exact G.out.1.turned F9.out.2 (by have := HLT.out.1; omega) (fun k hk => by have := HLT.out.2 k hk; omega)
        · exact ⟨G.out.2.2.2.2.trans (F9.out.2.mono (fun k e => .inr (by omega))), fun b hb => .inl hb⟩
end Go.Proofs.Ytfcaaljehhibgaa

