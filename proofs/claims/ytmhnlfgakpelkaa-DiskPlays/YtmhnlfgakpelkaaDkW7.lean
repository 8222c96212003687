/- A write that is done. -/
import Derived.Test.YtmhnlfgakpelkaaDkW6
namespace Go.Proofs.Ytmhnlfgakpelkaa
open Go.RowKit
set_option linter.unusedVariables false

theorem info_group : (Try.prog.info? 68).map (fun i => (i.zero, i.size, i.bytes)) = some (some (.agg #[.int .i64 0, .slice none 0 0]), 2, 32) := by kernel_rfl
/-- append of one group, as a step of a statement whose order is drawn -/
theorem step_append_group {ops : Array Oper} {o : Oper} {a : Act} {w : World} {K : Act → World → Prop} {Q : Exit → Act → World → Prop} {E : Prop} (hg : o.guard = none) (s x : Operand)
    (ho : o.op = .call { callee := .builtin .append, args := #[s, x], argTypes := #[63, 63] }) (v : Value) (n : Nat) (vs : List Value) (hs : a.eval s = v) (hown : w.ownsRow 0 68 2 v n vs)
    (k : Nat) (u0 u1 : Value) (hx : a.eval x = .slice (some ⟨k, 0, none⟩) 1 1) (hc0 : w.cell? ⟨k, 0, none⟩ = some u0) (hc1 : w.cell? ⟨k, 1, none⟩ = some u1) (h0 : u0.oneCell' = true) (h1 : u1.oneCell' = true) (hmax : n ≤ 1000000)
    (next : ∀ (v' : Value) (w' : World), w'.ownsRow 0 68 2 v' (n + 1) (vs ++ [u0, u1]) → w.grownBy w' v.ownBlock → (v'.ownBlock = v.ownBlock ∨ v'.ownBlock = some w.heap.size) → K (a.put o.dst v') w') :
    if Region.wanted o (yielded ops a.tmps) = true then Oper.wp Try.prog o a w K Q else E := by
  have hw : Region.wanted o (yielded ops a.tmps) = true := by simp [Region.wanted, hg]
  rw [if_pos hw]
  obtain ⟨i0, hi, hz0, hz1, hz2⟩ := info_parts info_group
  obtain ⟨v', w', hr, h2, h3, h4, h5⟩ := run_append_own_at (P := Try.prog) w 0 63 o.type 68 i0 (.agg #[.int .i64 0, .slice none 0 0]) 2 32 Try.underlying63 hi hz0 hz1 hz2 rfl (by decide) v n vs hown ⟨k, 0, none⟩ 1 1 [u0, u1] rfl
    (fun j u hj => by
      match j, hj with
      | 0, hj => simp at hj; subst hj; simpa [Addr.add] using hc0
      | 1, hj => simp at hj; subst hj; simpa [Addr.add] using hc1)
    (fun u hu => by simp at hu; rcases hu with rfl | rfl; exact h0; exact h1) (by unfold maxLen; omega) (by omega) (Nat.zero_le _)
  unfold Oper.wp
  simp only [execOp, ho, resolve, invoke, builtin, Sem.run_bind, Sem.run_pure, Result.andThen_ok, List.map_toArray, List.map_cons, List.map_nil, hs, hx, hr]
  exact next v' w' h2 h3 h5

theorem layOver_now (at' : Nat) (ab : Option Addr) (bcap : Nat) (lb : List (BitVec 8)) (base g cap n : Nat) (im : List (BitVec 8)) (w : World) (hn : im.length = n) (hO : Own w base (.slice (some ⟨g, 0, none⟩) n cap) im) (hm : n ≤ 140737488355328)
    (hf : Fits n (at', lb)) (hr : Row w ab lb) :
    Calls Try.prog 41 #[.agg #[.int .i64 at', .slice ab lb.length bcap], .slice (some ⟨g, 0, none⟩) n cap] w fun e w' => e = .returned (.tuple #[]) ∧ Own w' base (.slice (some ⟨g, 0, none⟩) n cap) (layG im (at', lb)) ∧ w.grownBy w' (some g) := by
  subst hn; exact layOver_own at' ab bcap lb base g cap im w hO hm hf hr

theorem own_form {w : World} {base size n : Nat} {e : TypeId} {v : Value} {xs : List Value} (h : w.ownsRow base e size v n xs) : ∃ a c, v = .slice a n c := by
  obtain ⟨_, ⟨h1, h2⟩ | ⟨g, cap, cur, h1, _⟩⟩ := h
  · exact ⟨_, _, h2 ▸ h1⟩
  · exact ⟨_, _, h1⟩
/-- what a write has done to memory, up to its last store -/
structure Wrote (w w2 w3 w4 w5 : World) (g : Nat) (p : Pl) (d : Dm) (x k1 cb cs cm : Nat) (gv gv' : Value) (vs : List Value) (lb : List (BitVec 8)) : Prop where
  ok : (dk g p d).Ok w
  wf : d.Wf
  fit : Fits d.safe.length (x, lb)
  at' : DkAt w g p.s p.m p.V cs cm gv vs d
  q : gv.ownBlock = p.q
  nd : (g :: p.s :: p.m :: p.q.toList).Nodup
  b2 : Below w.heap.size w w2
  k : w.heap.size ≤ k1
  k' : k1 < w2.heap.size
  row : Row w2 (some ⟨k1, 0, none⟩) lb
  le : lb.length ≤ cb
  g3 : w2.grownBy w3 (some p.m)
  now : Own w3 0 (.slice (some ⟨p.m, 0, none⟩) d.safe.length cm) (layG (nowOf d.safe d.gs) (x, lb))
  b4 : Below w3.heap.size w3 w4
  own : w5.ownsRow 0 68 2 gv' (d.gs.length + 1) (vs ++ [.int .i64 x, .slice (some ⟨k1, 0, none⟩) lb.length cb])
  g5 : w4.grownBy w5 gv.ownBlock
  or : gv'.ownBlock = gv.ownBlock ∨ gv'.ownBlock = some w4.heap.size
section
variable {w w2 w3 w4 w5 : World} {g : Nat} {p : Pl} {d : Dm} {x k1 cb cs cm : Nat} {gv gv' : Value} {vs : List Value} {lb : List (BitVec 8)}
theorem Wrote.same (W : Wrote w w2 w3 w4 w5 g p d x k1 cb cs cm gv gv' vs lb) (k : Nat) (hk : k < w2.heap.size) (h1 : k ≠ p.m) (h2 : p.q ≠ some k) : w5.heap[k]? = w2.heap[k]? := by
  have s3 := W.g3.size
  have s4 := W.b4.size
  rw [W.g5.block k (by omega) (by rw [W.q]; exact fun e => h2 e.symm), W.b4.block k (by omega), W.g3.block k hk (by simpa using h1)]
theorem Wrote.old (W : Wrote w w2 w3 w4 w5 g p d x k1 cb cs cm gv gv' vs lb) (k : Nat) (hk : k < w.heap.size) (h1 : k ≠ p.m) (h2 : p.q ≠ some k) : w5.heap[k]? = w.heap[k]? := by
  rw [W.same k (Nat.lt_of_lt_of_le hk W.b2.size) h1 h2, W.b2.block k hk]
theorem Wrote.ne (W : Wrote w w2 w3 w4 w5 g p d x k1 cb cs cm gv gv' vs lb) : g ≠ p.s ∧ g ≠ p.m ∧ p.s ≠ p.m ∧ p.q ≠ some g ∧ p.q ≠ some p.s ∧ p.q ≠ some p.m := by
  have nd := W.nd
  simp only [List.nodup_cons, List.mem_cons, Option.mem_toList, not_or] at nd
  exact ⟨nd.1.1, nd.1.2.1, nd.2.1.1, fun e => nd.1.2.2 e, fun e => nd.2.1.2 e, fun e => nd.2.2.1 e⟩
theorem Wrote.blk (W : Wrote w w2 w3 w4 w5 g p d x k1 cb cs cm gv gv' vs lb) : Blk w5 g 65 [.slice (some ⟨p.s, 0, none⟩) d.safe.length cs, .slice (some ⟨p.m, 0, none⟩) d.safe.length cm, gv, .bool d.bad, .bool d.gone] := by
  have hB := W.at'.blk
  have hl := hB.lt
  unfold Blk at *
  rw [W.old g hl W.ne.2.1 W.ne.2.2.2.1]
  exact hB
theorem Wrote.cell (W : Wrote w w2 w3 w4 w5 g p d x k1 cb cs cm gv gv' vs lb) : w5.cell? ⟨g, 2, none⟩ = some gv ∧ w5.frozen? ⟨g, 2, none⟩ = false :=
  ⟨W.blk.cell (by simp [maxLen]) 2 (by simp), W.blk.frozen (by simp [maxLen]) 2⟩
theorem Wrote.step (W : Wrote w w2 w3 w4 w5 g p d x k1 cb cs cm gv gv' vs lb) : Step w (w5.setCell ⟨g, 2, none⟩ gv') (dk g p d) (dk g ⟨p.s, p.m, gv'.ownBlock, k1 :: p.V⟩ { d with gs := d.gs ++ [(x, lb)] }) := by
  obtain ⟨n1, n2, n3, n4, n5, n6⟩ := W.ne
  have hlt := W.ok.lt
  have hap := W.ok.apart
  have lg : g < w.heap.size := hlt g (.inl (by simp [dk]))
  have ls : p.s < w.heap.size := hlt p.s (.inl (by simp [dk]))
  have lm : p.m < w.heap.size := hlt p.m (.inl (by simp [dk]))
  have lq : ∀ k, p.q = some k → k < w.heap.size := fun k e => hlt k (.inl (by simp [dk, e]))
  have s2 := W.b2.size
  have s3 := W.g3.size
  have s4 := W.b4.size
  have s5 := W.g5.size
  have hset : ∀ k, k ≠ g → (w5.setCell ⟨g, 2, none⟩ gv').heap[k]? = w5.heap[k]? := fun k hk => Below.heap_setCell _ _ _ _ hk
  have hsz : (w5.setCell ⟨g, 2, none⟩ gv').heap.size = w5.heap.size := by simp [World.setCell]
  have hgv : ∀ k, gv'.ownBlock = some k → p.q = some k ∨ k = w4.heap.size := by
    intro k hk
    rcases W.or with e | e
    · rw [W.q] at e; rw [e] at hk; exact .inl hk
    · rw [e] at hk; exact .inr (by simpa using hk.symm)
  have lq' := World.ownsRow.lt W.own
  refine ⟨⟨?_, ?_, ?_, by omega, ?_⟩, dk_ok ⟨?_, cs, cm, gv', vs ++ [.int .i64 x, .slice (some ⟨k1, 0, none⟩) lb.length cb], rfl, ?_, ?_, ?_, ?_, ?_⟩ ?_ ?_, ?_, ?_⟩
  · exact (W.g5.os.trans W.b4.os).trans (W.g3.os.trans W.b2.os)
  · exact (W.g5.tape.trans W.b4.tape).trans (W.g3.tape.trans W.b2.tape)
  · exact (W.g5.output.trans W.b4.output).trans (W.g3.output.trans W.b2.output)
  · intro k hk hn
    simp only [dk, List.mem_cons, Option.mem_toList, not_or] at hn
    rw [hset k hn.1, W.old k hk hn.2.2.1 (fun e => hn.2.2.2 e)]
  · simp only [List.nodup_cons, List.mem_cons, Option.mem_toList, not_or]
    refine ⟨⟨n1, n2, fun e => ?_⟩, ⟨n3, fun e => ?_⟩, fun e => ?_, ?_⟩
    · rcases hgv _ e with e' | e'; exact n4 e'; omega
    · rcases hgv _ e with e' | e'; exact n5 e'; omega
    · rcases hgv _ e with e' | e'; exact n6 e'; omega
    · cases gv'.ownBlock <;> simp
  · have := W.blk.set 2 gv'
    simpa using this
  · exact W.at'.safe.same (fun k hk => by cases hk; rw [hset _ (Ne.symm n1), W.old _ ls n3 n5])
  · show Own _ 0 _ (nowOf d.safe (d.gs ++ [(x, lb)]))
    rw [nowOf_snoc]
    refine W.now.same (fun k hk => ?_)
    cases hk
    rw [hset _ (Ne.symm n2), W.g5.block _ (by omega) (by rw [W.q]; exact fun e => n6 e.symm), W.b4.block _ (by omega)]
  · show World.ownsRow _ 0 _ 2 _ (d.gs ++ [(x, lb)]).length _
    rw [List.length_append, List.length_singleton]
    refine ownsRow_same W.own (fun k hk => hset k ?_)
    rcases hgv k hk with e | e
    · intro e'; subst e'; exact n4 e
    · omega
  · refine GsAt.snoc ((W.at'.each.same (fun k hk => ?_)).mono (fun k hk => List.mem_cons_of_mem _ hk)) (x, lb) _ cb W.le (W.row.same (fun y hy => ?_)) (fun y hy => by cases hy; simp)
    · have hkl := hlt k (.inr hk)
      have c1 : k ≠ g := fun e => hap g (by simp [dk]) (e ▸ hk)
      have c2 : k ≠ p.m := fun e => hap p.m (by simp [dk]) (e ▸ hk)
      have c3 : p.q ≠ some k := fun e => hap k (by simp [dk, e]) hk
      rw [hset k c1, W.old k hkl c2 c3]
    · cases hy
      have hk := W.k
      show (w5.setCell _ _).heap[k1]? = w2.heap[k1]?
      rw [hset k1 (by omega), W.same k1 W.k' (by omega) (fun e => by have := lq k1 e; omega)]
  · intro k hk
    rw [hsz]
    simp only [List.mem_cons, Option.mem_toList] at hk
    have := W.k'
    rcases hk with (rfl | rfl | rfl | hk) | (rfl | hk)
    · omega
    · omega
    · omega
    · exact (lq' k hk).2
    · omega
    · have := hlt k (.inr hk); omega
  · intro k hk hv
    simp only [List.mem_cons, Option.mem_toList] at hk hv
    have hk1 := W.k
    have hk1' := W.k'
    rcases hv with rfl | hv
    · rcases hk with rfl | rfl | rfl | hk
      · omega
      · omega
      · omega
      · rcases hgv _ hk with e | e
        · have := lq _ e; omega
        · omega
    · rcases hk with rfl | rfl | rfl | hk
      · exact hap _ (by simp [dk]) hv
      · exact hap _ (by simp [dk]) hv
      · exact hap _ (by simp [dk]) hv
      · rcases hgv _ hk with e | e
        · exact hap k (by simp [dk, e]) hv
        · have := hlt k (.inr hv); omega
  · intro k hk
    simp only [dk, List.mem_cons, Option.mem_toList] at hk ⊢
    rcases hk with rfl | rfl | rfl | hk
    · exact .inl (.inl rfl)
    · exact .inl (.inr (.inl rfl))
    · exact .inl (.inr (.inr (.inl rfl)))
    · rcases hgv _ hk with e | e
      · exact .inl (.inr (.inr (.inr e)))
      · exact .inr (by omega)
  · intro k hk
    simp only [dk, List.mem_cons] at hk ⊢
    rcases hk with rfl | hk
    · exact .inr (.inr W.k)
    · exact .inr (.inl hk)
end

set_option maxRecDepth 4000 in
set_option maxHeartbeats 1000000 in
theorem Write_ok (g : Nat) (p : Pl) (d : Dm) (x : Nat) (ab : Option Addr) (cap : Nat) (lb : List (BitVec 8)) (w : World) (h : (dk g p d).Ok w) (hw : d.Wf) (hd : d.gone = false) (hr : Row w ab lb) (hle : lb.length ≤ cap) (hn : ab = none → cap = 0) (h1 : 1 ≤ lb.length) (h2 : x + secs lb.length ≤ d.n) (hgs : d.gs.length ≤ 1000000) :
    Calls Try.prog 19 #[.pointer (some ⟨g, 0, none⟩), .int .i64 x, .slice ab lb.length cap] w fun e w' => ∃ p', e = .returned (.int .i64 0) ∧ Step w w' (dk g p d) (dk g p' { d with gs := d.gs ++ [(x, lb)] }) := by
  obtain ⟨c3, c4, f2, -, -⟩ := dk_cells h.holds
  rw [hd] at c4
  obtain ⟨e1, e2, e3⟩ := hw.len
  have hs1 := secs_pos lb.length h1
  have hsl := secs_le lb.length
  have hlb : lb.length ≤ 1048576 := by generalize secs lb.length = s at *; omega
  have hh := has_any g p d x (secs lb.length : Nat) w h hw (by omega) (by omega)
  rw [show hasB d.n x (secs lb.length : Nat) = true from decide_eq_true (by omega)] at hh
  have HH : Hid _ := hh
  obtain ⟨nd, cs, cm, gv, vs, hq, hD⟩ := h.holds
  have c1 := hD.blk.cell (by simp [maxLen]) 1 (by simp)
  have c2 := hD.blk.cell (by simp [maxLen]) 2 (by simp)
  simp only [List.getElem?_cons_succ, List.getElem?_cons_zero] at c1 c2
  have K : Hid _ := And.intro h (And.intro hw (And.intro hD (And.intro nd hq)))
  have hgl := hD.blk.lt
  have hfit : Fits d.safe.length (x, lb) := ⟨h1, by rw [e1]; exact Nat.mul_le_mul_right _ h2⟩
  have hl6 : d.safe.length ≤ 1048576 := by omega
  clear h hw hD nd hq hh e1 hd
  go_enter Try.func19, Try.ntmps19
  go_wp2_with (first
    | (go_at_call 31; refine (sectorsOf_any lb.length _ (by omega)).mono ?_; rintro e w' ⟨rfl, rfl⟩)
    | (go_at_call 40; refine (Calls.mono HH.out) ?_; rintro e w' ⟨rfl, rfl⟩))
  refine (Clone_any ab lb.length cap lb w rfl hle (by omega) hr hn).mono ?_
  rintro e w1 ⟨v1, rfl, ho1, hb1⟩
  obtain ⟨k1, cb, rfl, hk1, hk2⟩ := ho1.some h1
  go_wp2_with fail
  obtain ⟨h, hw, hD, nd, hq⟩ := K.out
  have hgg : w.heap.size ≤ w1.heap.size := hb1.size
  have b2 : Below w1.heap.size w1 (w1.alloc (.cells #[.int .i64 x, .slice (some ⟨k1, 0, none⟩) lb.length cb] 68)) := (Below.refl _ _).alloc (Nat.le_refl _) _
  have hb2 := (below_then hb1 b2).drew
  have S2 := box_cells w1 (.int .i64 x) (.slice (some ⟨k1, 0, none⟩) lb.length cb) 68
  have hz2 : w1.heap.size < (w1.alloc (.cells #[.int .i64 x, .slice (some ⟨k1, 0, none⟩) lb.length cb] 68)).drew.heap.size := by simp
  have ho2 := ho1.later b2
  obtain ⟨a1, _, hv1, hle1, hm1, hr1, -, -⟩ := ho2.open
  simp only [Value.slice.injEq] at hv1
  obtain ⟨rfl, -, rfl⟩ := hv1
  generalize w1.alloc (.cells #[.int .i64 x, .slice (some ⟨k1, 0, none⟩) lb.length cb] 68) = w2 at *
  generalize hgn : w1.heap.size = gg at *
  have hok2 : (dk g p d).Ok w2.drew := h.later hb2
  have S0 : w2.drew.cell? ⟨gg, 0, none⟩ = some (.int .i64 x) ∧ w2.drew.cell? ⟨gg, 1, none⟩ = some (.slice (some ⟨k1, 0, none⟩) lb.length cb) ∧ w2.drew.cell? ⟨g, 1, none⟩ = some (.slice (some ⟨p.m, 0, none⟩) d.safe.length cm) ∧ w2.drew.cell? ⟨g, 2, none⟩ = some gv :=
    ⟨S2.1, S2.2, cell_later hb2 c1, cell_later hb2 c2⟩
  have hml := h.lt p.m (.inl (by simp [dk]))
  have n1 : some gg ≠ some p.m := by simp; omega
  have n2 : some g ≠ some p.m := by intro e; cases e; simp at nd
  have hr2 : Row w2.drew (some ⟨k1, 0, none⟩) lb := hr1
  have HL : Hid _ := layOver_now x (some ⟨k1, 0, none⟩) cb lb 0 p.m cm d.safe.length (nowOf d.safe d.gs) w2.drew hw.now (Own.later hD.now hb2) (by omega) hfit hr2
  have hk2' : k1 < w2.drew.heap.size := by omega
  have HW : Hid _ := fun (w3 : World) (g3 : w2.drew.grownBy w3 (some p.m)) (now : Own w3 0 (.slice (some ⟨p.m, 0, none⟩) d.safe.length cm) (layG (nowOf d.safe d.gs) (x, lb))) (w4 : World) (b4 : Below w3.heap.size w3 w4) (w5 : World) (gv' : Value) (own) (g5) (or) =>
    (⟨h, hw, hfit, hD, hq, nd, hb2, hk1, hk2', hr2, hle1, g3, now, b4, own, g5, or⟩ : Wrote w w2.drew w3 w4 w5 g p d x k1 cb cs cm gv gv' vs lb)
  have HG : Hid _ := fun (w3 : World) (g3 : w2.drew.grownBy w3 (some p.m)) => (ownsRow_same hD.groups (fun k hk => by
      have hkl := h.lt k (.inl (by rw [hq] at hk; simp [dk, hk]))
      rw [g3.block k (Nat.lt_of_lt_of_le hkl hb2.size) (by intro e; cases e; rw [hq] at hk; simp [hk] at nd), hb2.block k hkl]) : w3.ownsRow 0 68 2 gv d.gs.length vs)
  clear K h hw hD nd hq c1 c2 S2 hr1 hr2 ho1 ho2 b2 hr HH hok2
  go_region_held_law (fun W => W.cell? ⟨gg, 0, none⟩ = some (.int .i64 x) ∧ W.cell? ⟨gg, 1, none⟩ = some (.slice (some ⟨k1, 0, none⟩) lb.length cb) ∧ W.cell? ⟨g, 1, none⟩ = some (.slice (some ⟨p.m, 0, none⟩) d.safe.length cm) ∧ W.cell? ⟨g, 2, none⟩ = some gv) (first | exact S0 | assumption)
    (first
      | (go_at_call 41; refine (Calls.mono HL.out) ?_; rintro e w3 ⟨rfl, hO3, hg3⟩; have S3 : w3.cell? ⟨gg, 0, none⟩ = some (.int .i64 x) ∧ w3.cell? ⟨gg, 1, none⟩ = some (.slice (some ⟨k1, 0, none⟩) lb.length cb) ∧ w3.cell? ⟨g, 1, none⟩ = some (.slice (some ⟨p.m, 0, none⟩) d.safe.length cm) ∧ w3.cell? ⟨g, 2, none⟩ = some gv := ⟨cell_keep S0.1 hg3 n1, cell_keep S0.2.1 hg3 n1, cell_keep S0.2.2.1 hg3 n2, cell_keep S0.2.2.2 hg3 n2⟩))
  have HW3 : Hid _ := HW.out w3 hg3 hO3
  have G3 : w3.ownsRow 0 68 2 gv d.gs.length vs := HG.out w3 hg3
  obtain ⟨t0, t1, -, t2⟩ := S3
  have hG4 : Hid _ := And.intro (World.ownsRow.alloc (show w3.drew.ownsRow 0 68 2 gv d.gs.length vs from G3) (.cells #[.int .i64 x, .slice (some ⟨k1, 0, none⟩) lb.length cb] 68)) (And.intro (box_cells w3.drew (.int .i64 x) (.slice (some ⟨k1, 0, none⟩) lb.length cb) 68) (show Below w3.heap.size w3 (w3.drew.alloc (.cells #[.int .i64 x, .slice (some ⟨k1, 0, none⟩) lb.length cb] 68)) from ((Below.refl _ _).drew).alloc (Nat.le_refl _) _))
  have t3 : (w3.alloc (.cells #[.int .i64 x, .slice (some ⟨k1, 0, none⟩) lb.length cb] 68)).cell? ⟨g, 2, none⟩ = some gv := cell_later ((Below.refl _ _).alloc (Nat.le_refl _) _) t2
  clear hO3 hg3 HW HG HL S0 G3
  go_wp2_with fail
  go_region_law (refine step_append_group rfl (.tmp 35) (.tmp 37) rfl gv d.gs.length vs (by simp [Act.eval]) hG4.out.1 w3.heap.size (.int .i64 x) (.slice (some ⟨k1, 0, none⟩) lb.length cb) (by simp [Act.eval]) hG4.out.2.1.1 hG4.out.2.1.2 rfl rfl hgs ?_; intro gv' w5 hown hg5 hor; obtain ⟨a', c', rfl⟩ := own_form hown; have W := HW3.out _ hG4.out.2.2 w5 _ hown hg5 hor; obtain ⟨cc, cf⟩ := W.cell; have HS : Hid _ := W.step; clear W hown hg5 hor)
  all_goals
    go_wp2
    go_ret
    exact ⟨_, rfl, HS.out⟩
end Go.Proofs.Ytmhnlfgakpelkaa
