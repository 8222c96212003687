/- The document's letters that are sent, come, are lost. -/
import Derived.Test.YtjfodmdijajfbaaWoR2
import Derived.Maps.AppendAt
namespace Go.Proofs.Ytjfodmdijajfbaa
open Go.RowKit
set_option linter.unusedVariables false
set_option maxRecDepth 4000

theorem info_rletter : (Try.prog.info? 51).map (fun i => (i.zero, i.size, i.bytes)) = some (some (.agg #[.int .i64 0, .int .i64 0, .slice none 0 0]), 3, 40) := by kernel_rfl
/-- other letters in the place of the world's -/
theorem rw_swap {g : Nat} {p : Wp} {m m' : Wm} {w w3 : World} {fv : Value} {vs : List Value} (h : (rw8 g p m).Ok w) (hq : fv.ownBlock = p.q) (hD : RwAt w g p.c p.V fv vs m) (hb : Below w.heap.size w w3) (v : Value) (xs : List Value) (V' : List Nat)
    (own : w3.ownsRow w.heap.size 51 3 v m'.fl.length xs) (each : LsAt V' w3 m'.fl xs) (hV : ∀ k ∈ V', k ∈ p.V ∨ w.heap.size ≤ k) (hVl : ∀ k ∈ V', k < w3.heap.size) (hVn : ∀ k ∈ V', v.ownBlock ≠ some k)
    (h1 : m'.ck = m.ck) (h2 : m'.rho = m.rho) (h3 : m'.cut = m.cut) (h4 : m'.tk = m.tk) (h5 : m'.lo = m.lo) (h6 : m'.cl = m.cl) :
    Step w (w3.setCell ⟨g, 2, none⟩ v) (rw8 g p m) (rw8 g ⟨p.c, v.ownBlock, V'⟩ m') := by
  obtain ⟨n1, n2, n3⟩ := wo_ne h.holds.1
  have lg : g < w.heap.size := h.lt g (.inl (by simp [rw8]))
  have lc : p.c < w.heap.size := h.lt p.c (.inl (by simp [rw8]))
  have hz := hb.size
  have hs : ∀ k, k ≠ g → (w3.setCell ⟨g, 2, none⟩ v).heap[k]? = w3.heap[k]? := fun k hk => Below.heap_setCell _ _ _ _ hk
  have hsz : (w3.setCell ⟨g, 2, none⟩ v).heap.size = w3.heap.size := by simp [World.setCell]
  have hlo := World.ownsRow.lt own
  have hB := (hD.blk.laterB hb).set 2 v
  simp only [List.set_cons_succ, List.set_cons_zero] at hB
  have hVg : ∀ k ∈ V', k ≠ g := fun k hk e => by
    subst e
    rcases hV k hk with e | e
    · exact h.apart k (by simp [rw8]) e
    · omega
  refine ⟨⟨hb.os, hb.tape, hb.output, by omega, fun k hk hn => ?_⟩, rw_ok ⟨?_, v, xs, rfl, ?_, ?_, ?_, ?_⟩ ?_ ?_, ?_, ?_⟩
  · simp only [rw8, List.mem_cons, not_or] at hn
    rw [hs k hn.1, hb.block k hk]
  · simp only [List.nodup_cons, List.mem_cons, Option.mem_toList, not_or]
    refine ⟨⟨n1, fun e => by have := (hlo g e).1; omega⟩, fun e => by have := (hlo p.c e).1; omega, ?_⟩
    cases v.ownBlock <;> simp
  · rw [h1, h2, h3, h4, h5, h6]; exact hB
  · rw [h1]; have := hD.clocks.laterB hb; unfold Blk at *; rw [hs _ (Ne.symm n1)]; exact this
  · exact (⟨own.1, own.2.imp id (fun ⟨a, b, c, d, _, e⟩ => ⟨a, b, c, d, Nat.zero_le _, by rw [hs a (fun e' => by have := (hlo a (by rw [d]; rfl)).1; omega)]; exact e.1, e.2⟩)⟩)
  · exact each.same (fun k hk => hs k (hVg k hk))
  · intro k hk
    rw [hsz]
    simp only [List.mem_cons, Option.mem_toList] at hk
    rcases hk with (rfl | rfl | hk) | hk
    · omega
    · omega
    · exact (hlo k hk).2
    · exact hVl k hk
  · intro k hk hv
    simp only [List.mem_cons, Option.mem_toList] at hk
    rcases hk with rfl | rfl | hk
    · exact hVg k hv rfl
    · rcases hV _ hv with e | e
      · exact h.apart p.c (by simp [rw8]) e
      · omega
    · exact hVn k hv hk
  · intro k hk
    simp only [rw8, List.mem_cons, Option.mem_toList] at hk ⊢
    rcases hk with rfl | rfl | hk
    · exact .inl (.inl rfl)
    · exact .inl (.inr (.inl rfl))
    · exact .inr (hlo k hk).1
  · intro k hk
    rcases hV k hk with e | e
    · exact .inr (.inl e)
    · exact .inr (.inr e)

set_option maxHeartbeats 2000000 in
theorem rwgone_any (g : Nat) (p : Wp) (m : Wm) (k : Nat) (w : World) (h : (rw8 g p m).Ok w) (hw : m.Wf) (hk : k < m.fl.length) :
    Calls Try.prog 94 #[.pointer (some ⟨g, 0, none⟩), .int .i64 k] w fun e w' => ∃ q', e = .returned (.tuple #[]) ∧ Step w w' (rw8 g p m) (rw8 g ⟨p.c, q', p.V⟩ (m.del k)) := by
  obtain ⟨hnd, fv, vs, hq, hD⟩ := h.holds
  obtain ⟨-, -, c2, -⟩ := rw_cells hD
  have f2 := hD.blk.frozen (by simp [maxLen]) 2
  have hfu := hw.full
  have hvl := hD.each.length
  obtain ⟨qb, qc, a, cap, rfl, hqc, -⟩ := rw_letter hD k hk
  have hcell : ∀ i, i < m.fl.length * 3 → w.cell? ⟨qb, i, none⟩ = vs[i]? := fun i hi => World.ownsRow.cellAt hD.letters i hi
  have hone := hD.each.each
  obtain ⟨i0, hi, hz0, hz1, hz2⟩ := info_parts info_rletter
  have q1 : (k : Int) ≤ (m.fl.length : Int) := by omega
  have q2 : (k : Int) + 1 ≤ (m.fl.length : Int) := by omega
  have q3 : (m.fl.length : Int) ≤ (qc : Int) := by omega
  have q4 : (m.fl.length : Int) ≤ 10000 := by omega
  have q5 : (k : Int) ≤ (qc : Int) := by omega
  have q6 : (k : Int) + 1 ≤ (qc : Int) := by omega
  have HK : Hid _ := And.intro h (And.intro hq hD)
  have HC : Hid _ := And.intro hcell (And.intro hone hvl)
  have hkn : k ≤ 10000 := by omega
  have hgl : g < w.heap.size := h.lt g (.inl (by simp [rw8]))
  clear h hq hD hnd hcell hone hvl hw
  by_cases hqk : qc = k + 1
  · obtain hnk : m.fl.length = k + 1 := by omega
    rw [hnk, hqk] at c2
    go_enter Try.func94, Try.ntmps94
    go_wp2_with (at_builtin; refine wpList_append_own_at (w := w) rfl _ _ 98 rfl w.heap.size 51 i0 (.agg #[.int .i64 0, .int .i64 0, .slice none 0 0]) 3 40 Try.underlying98 hi hz0 hz1 hz2 rfl (by decide) (.slice none 0 0) 0 [] rfl (World.ownsRow_nil _ _ _ _) ⟨qb, 0, none⟩ k (k + 1) (vs.take (k * 3)) rfl (by rw [List.length_take, HC.out.2.2]; omega) ?_ ?_ (by unfold maxLen; omega) (by omega) (Nat.le_refl _) ?_)
    · intro j u hj
      have hjl : j < k * 3 := by
        rcases Nat.lt_or_ge j (k * 3) with h | h
        · exact h
        · rw [List.getElem?_eq_none (by rw [List.length_take]; omega)] at hj; cases hj
      rw [Addr.add_lit, Nat.zero_add, HC.out.1 j (by omega), ← hj, List.getElem?_take, if_pos hjl]
    · exact fun u hu => HC.out.2.1 u (List.mem_of_mem_take hu)
    · intro v1 w1 ho1 hg1 _ _
      have b1 : Below w.heap.size w w1 := (Below.refl _ _).grown hg1 (Nat.le_refl _) (by simp [Value.ownBlock])
      obtain ⟨va, vc, rfl⟩ := wo_form ho1
      have c2' := cell_later b1 c2
      have K1 : Hid _ := And.intro ho1 b1
      clear ho1 hg1 b1 c2
      go_wp2_with (at_builtin; refine wpList_append_own_at (w := w1) rfl _ _ 98 rfl w.heap.size 51 i0 (.agg #[.int .i64 0, .int .i64 0, .slice none 0 0]) 3 40 Try.underlying98 hi hz0 hz1 hz2 rfl (by decide) (.slice va k vc) k (vs.take (k * 3)) rfl K1.out.1 ⟨qb, 0, none⟩ 0 0 [] rfl rfl ?_ ?_ (by unfold maxLen; omega) (by omega) K1.out.2.size ?_)
      · intro j u hj; simp at hj
      · intro u hu; cases hu
      · intro v2 w2 ho2 hg2 _ _
        obtain ⟨h, hq, hD⟩ := HK.out
        have b2 : Below w.heap.size w w2 := K1.out.2.grown hg2 K1.out.2.size (fun j hj => (World.ownsRow.lt K1.out.1 j hj).1)
        have hel : (m.del k).fl.length = k := by simp only [Wm.del, List.length_append, List.length_take, List.length_drop]; omega
        have hdn : vs.drop ((k + 1) * 3) = [] := List.drop_eq_nil_of_le (by rw [HC.out.2.2]; omega)
        rw [← hel] at ho2
        obtain ⟨v2a, v2c, rfl⟩ := wo_form ho2
        have c2'' := cell_later b2 (rw_cells hD).2.2.1
        have f2'' := (hD.blk.laterB b2).frozen (by simp [maxLen]) 2
        have hS := rw_swap (m' := m.del k) h hq hD b2 (.slice v2a (m.del k).fl.length v2c) (vs.take (k * 3) ++ vs.drop ((k + 1) * 3)) p.V (by rw [hdn, List.append_nil]; rw [hel] at ho2 ⊢; exact ho2)
          (LsAt.append ((hD.each.take k).same (fun j hj => b2.block j (h.lt j (.inr hj)))) ((hD.each.drop (k + 1)).same (fun j hj => b2.block j (h.lt j (.inr hj))))) (fun j hj => .inl hj) (fun j hj => by have := h.lt j (.inr hj); have := b2.size; omega)
          (fun j hj e => by have := (World.ownsRow.lt ho2 j e).1; have := h.lt j (.inr hj); omega) rfl rfl rfl rfl rfl rfl
        have HS : Hid _ := hS
        generalize (m.del k).fl.length = nn at *
        clear hS h hq hD b2 ho2 hg2 hel K1 HK HC c2' hz0 hz1 hz2 hi
        go_wp2
        go_end0
        exact ⟨_, rfl, HS.out⟩
  · go_enter Try.func94, Try.ntmps94
    go_wp2_with (at_builtin; refine wpList_append_own_at (w := w) rfl _ _ 98 rfl w.heap.size 51 i0 (.agg #[.int .i64 0, .int .i64 0, .slice none 0 0]) 3 40 Try.underlying98 hi hz0 hz1 hz2 rfl (by decide) (.slice none 0 0) 0 [] rfl (World.ownsRow_nil _ _ _ _) ⟨qb, 0, none⟩ k qc (vs.take (k * 3)) rfl (by rw [List.length_take, HC.out.2.2]; omega) ?_ ?_ (by unfold maxLen; omega) (by omega) (Nat.le_refl _) ?_)
    · intro j u hj
      have hjl : j < k * 3 := by
        rcases Nat.lt_or_ge j (k * 3) with h | h
        · exact h
        · rw [List.getElem?_eq_none (by rw [List.length_take]; omega)] at hj; cases hj
      rw [Addr.add_lit, Nat.zero_add, HC.out.1 j (by omega), ← hj, List.getElem?_take, if_pos hjl]
    · exact fun u hu => HC.out.2.1 u (List.mem_of_mem_take hu)
    · intro v1 w1 ho1 hg1 _ _
      have b1 : Below w.heap.size w w1 := (Below.refl _ _).grown hg1 (Nat.le_refl _) (by simp [Value.ownBlock])
      obtain ⟨va, vc, rfl⟩ := wo_form ho1
      have c2' := cell_later b1 c2
      have K1 : Hid _ := And.intro ho1 b1
      clear ho1 hg1 b1 c2
      go_wp2_with (at_builtin; refine wpList_append_own_at (w := w1) rfl _ _ 98 rfl w.heap.size 51 i0 (.agg #[.int .i64 0, .int .i64 0, .slice none 0 0]) 3 40 Try.underlying98 hi hz0 hz1 hz2 rfl (by decide) (.slice va k vc) k (vs.take (k * 3)) rfl K1.out.1 ⟨qb, (k + 1) * 3, none⟩ (m.fl.length - (k + 1)) (qc - (k + 1)) (vs.drop ((k + 1) * 3)) rfl (by rw [List.length_drop, HC.out.2.2]; omega) ?_ ?_ (by unfold maxLen; omega) (by omega) K1.out.2.size ?_)
      · intro j u hj
        have hjl : (k + 1) * 3 + j < m.fl.length * 3 := by
          have h2 := HC.out.2.2
          rcases Nat.lt_or_ge j (vs.length - (k + 1) * 3) with h | h
          · omega
          · rw [List.getElem?_eq_none (by rw [List.length_drop]; exact h)] at hj; cases hj
        rw [Addr.add_lit]
        exact cell_later K1.out.2 ((HC.out.1 _ hjl).trans (by rw [← hj, List.getElem?_drop]))
      · exact fun u hu => HC.out.2.1 u (List.mem_of_mem_drop hu)
      · intro v2 w2 ho2 hg2 _ _
        obtain ⟨h, hq, hD⟩ := HK.out
        have b2 : Below w.heap.size w w2 := K1.out.2.grown hg2 K1.out.2.size (fun j hj => (World.ownsRow.lt K1.out.1 j hj).1)
        have hel : (m.del k).fl.length = k + (m.fl.length - (k + 1)) := by simp only [Wm.del, List.length_append, List.length_take, List.length_drop]; omega
        rw [← hel] at ho2
        obtain ⟨v2a, v2c, rfl⟩ := wo_form ho2
        have c2'' := cell_later b2 (rw_cells hD).2.2.1
        have f2'' := (hD.blk.laterB b2).frozen (by simp [maxLen]) 2
        have hS := rw_swap (m' := m.del k) h hq hD b2 (.slice v2a (m.del k).fl.length v2c) (vs.take (k * 3) ++ vs.drop ((k + 1) * 3)) p.V ho2
          (LsAt.append ((hD.each.take k).same (fun j hj => b2.block j (h.lt j (.inr hj)))) ((hD.each.drop (k + 1)).same (fun j hj => b2.block j (h.lt j (.inr hj))))) (fun j hj => .inl hj) (fun j hj => by have := h.lt j (.inr hj); have := b2.size; omega)
          (fun j hj e => by have := (World.ownsRow.lt ho2 j e).1; have := h.lt j (.inr hj); omega) rfl rfl rfl rfl rfl rfl
        have HS : Hid _ := hS
        generalize (m.del k).fl.length = nn at *
        clear hS h hq hD b2 ho2 hg2 hel K1 HK HC c2' hz0 hz1 hz2 hi
        go_wp2
        go_end0
        exact ⟨_, rfl, HS.out⟩
/-- append of one letter, as a step of a statement whose order is drawn -/
theorem step_append_rletter {ops : Array Oper} {o : Oper} {a : Act} {w : World} {K : Act → World → Prop} {Q : Exit → Act → World → Prop} {E : Prop} (hg : o.guard = none) (s x : Operand)
    (ho : o.op = .call { callee := .builtin .append, args := #[s, x], argTypes := #[98, 98] }) (v : Value) (n : Nat) (vs : List Value) (hs : a.eval s = v) (hown : w.ownsRow 0 51 3 v n vs)
    (k : Nat) (u0 u1 u2 : Value) (hx : a.eval x = .slice (some ⟨k, 0, none⟩) 1 1) (hB : Blk w k 51 [u0, u1, u2]) (h0 : u0.oneCell' = true) (h1 : u1.oneCell' = true) (h2 : u2.oneCell' = true) (hmax : n ≤ 1000000)
    (next : ∀ (v' : Value) (w' : World), w'.ownsRow 0 51 3 v' (n + 1) (vs ++ [u0, u1, u2]) → w.grownBy w' v.ownBlock → (v'.ownBlock = v.ownBlock ∨ v'.ownBlock = some w.heap.size) → K (a.put o.dst v') w') :
    if Region.wanted o (yielded ops a.tmps) = true then Oper.wp Try.prog o a w K Q else E := by
  have hw : Region.wanted o (yielded ops a.tmps) = true := by simp [Region.wanted, hg]
  rw [if_pos hw]
  obtain ⟨i0, hi, hz0, hz1, hz2⟩ := info_parts info_rletter
  obtain ⟨⟨c0, c1, c2⟩, -⟩ := wblk3 hB
  obtain ⟨v', w', hr, h2, h3, h4, h5⟩ := run_append_own_at (P := Try.prog) w 0 98 o.type 51 i0 (.agg #[.int .i64 0, .int .i64 0, .slice none 0 0]) 3 40 Try.underlying98 hi hz0 hz1 hz2 rfl (by decide) v n vs hown ⟨k, 0, none⟩ 1 1 [u0, u1, u2] rfl
    (fun j u hj => by
      match j, hj with
      | 0, hj => simp at hj; subst hj; simpa [Addr.add] using c0
      | 1, hj => simp at hj; subst hj; simpa [Addr.add] using c1
      | 2, hj => simp at hj; subst hj; simpa [Addr.add] using c2)
    (fun u hu => by simp at hu; rcases hu with rfl | rfl | rfl; exact h0; exact h1; exact h2) (by unfold maxLen; omega) (by omega) (Nat.zero_le _)
  unfold Oper.wp
  simp only [execOp, ho, resolve, invoke, builtin, Sem.run_bind, Sem.run_pure, Result.andThen_ok, List.map_toArray, List.map_cons, List.map_nil, hs, hx, hr]
  exact next v' w' h2 h3 h5

/-- what an append to the letters has done to memory, ahead of its store -/
structure RPosted (w w2 w5 : World) (g : Nat) (p : Wp) (m : Wm) (fv fv' : Value) (vs us : List Value) (l : Lt) (ks : List Nat) : Prop where
  ok : (rw8 g p m).Ok w
  q : fv.ownBlock = p.q
  at' : RwAt w g p.c p.V fv vs m
  b2 : Below w.heap.size w w2
  own : w5.ownsRow 0 51 3 fv' (m.fl.length + 1) (vs ++ us)
  g5 : w2.grownBy w5 fv.ownBlock
  or : fv'.ownBlock = fv.ownBlock ∨ fv'.ownBlock = some w2.heap.size
  one : LsAt ks w [l] us
  far : ∀ k ∈ ks, k < w.heap.size ∧ k ∉ (rw8 g p m).W
section
variable {w w2 w5 : World} {g : Nat} {p : Wp} {m : Wm} {fv fv' : Value} {vs us : List Value} {l : Lt} {ks : List Nat}
theorem RPosted.old (W : RPosted w w2 w5 g p m fv fv' vs us l ks) (k : Nat) (hk : k < w.heap.size) (h2 : p.q ≠ some k) : w5.heap[k]? = w.heap[k]? := by
  have s2 := W.b2.size
  rw [W.g5.block k (by omega) (by rw [W.q]; exact fun e => h2 e.symm), W.b2.block k hk]
theorem RPosted.blk (W : RPosted w w2 w5 g p m fv fv' vs us l ks) : Blk w5 g 100 [.int .i64 (m.ck.length : Nat), .int .i64 m.rho, fv, .int .i64 m.cut, .slice (some ⟨p.c, 0, none⟩) m.ck.length m.ck.length, .int .i64 m.tk, .int .i64 m.lo, .bool m.cl] := by
  have hB := W.at'.blk
  have hl := hB.lt
  unfold Blk at *
  rw [W.old g hl (wo_ne W.ok.holds.1).2.1]
  exact hB
theorem RPosted.cell (W : RPosted w w2 w5 g p m fv fv' vs us l ks) : w5.cell? ⟨g, 2, none⟩ = some fv ∧ w5.frozen? ⟨g, 2, none⟩ = false :=
  ⟨W.blk.cell (by simp [maxLen]) 2 (by simp), W.blk.frozen (by simp [maxLen]) 2⟩
theorem RPosted.done (W : RPosted w w2 w5 g p m fv fv' vs us l ks) : Turned (· ∈ (rw8 g p m).W) w (w5.setCell ⟨g, 2, none⟩ fv') ∧ (rw8 g ⟨p.c, fv'.ownBlock, ks ++ p.V⟩ { m with fl := m.fl ++ [l] }).Ok (w5.setCell ⟨g, 2, none⟩ fv') ∧
    ∀ k ∈ (rw8 g ⟨p.c, fv'.ownBlock, ks ++ p.V⟩ { m with fl := m.fl ++ [l] }).W, k ∈ (rw8 g p m).W ∨ w.heap.size ≤ k := by
  obtain ⟨n1, n2, n3⟩ := wo_ne W.ok.holds.1
  have hlt := W.ok.lt
  have hap := W.ok.apart
  have lg : g < w.heap.size := hlt g (.inl (by simp [rw8]))
  have lc : p.c < w.heap.size := hlt p.c (.inl (by simp [rw8]))
  have lq : ∀ k, p.q = some k → k < w.heap.size := fun k e => hlt k (.inl (by simp [rw8, e]))
  have s2 := W.b2.size
  have s5 := W.g5.size
  have hset : ∀ k, k ≠ g → (w5.setCell ⟨g, 2, none⟩ fv').heap[k]? = w5.heap[k]? := fun k hk => Below.heap_setCell _ _ _ _ hk
  have hsz : (w5.setCell ⟨g, 2, none⟩ fv').heap.size = w5.heap.size := by simp [World.setCell]
  have hgv : ∀ k, fv'.ownBlock = some k → p.q = some k ∨ k = w2.heap.size := by
    intro k hk
    rcases W.or with e | e
    · rw [W.q] at e; rw [e] at hk; exact .inl hk
    · rw [e] at hk; exact .inr (by simpa using hk.symm)
  have lq' := World.ownsRow.lt W.own
  have hV : ∀ k ∈ ks ++ p.V, k < w.heap.size ∧ k ∉ (rw8 g p m).W := by
    intro k hk
    rcases List.mem_append.1 hk with hk | hk
    · exact W.far k hk
    · exact ⟨hlt k (.inr hk), fun e => hap k e hk⟩
  have hVs : ∀ k ∈ ks ++ p.V, (w5.setCell ⟨g, 2, none⟩ fv').heap[k]? = w.heap[k]? := by
    intro k hk
    obtain ⟨h1, h2⟩ := hV k hk
    simp only [rw8, List.mem_cons, Option.mem_toList, not_or] at h2
    rw [hset k h2.1, W.old k h1 h2.2.2]
  refine ⟨⟨W.g5.os.trans W.b2.os, W.g5.tape.trans W.b2.tape, W.g5.output.trans W.b2.output, by omega, ?_⟩, rw_ok ⟨?_, fv', vs ++ us, rfl, ?_, ?_, ?_, ?_⟩ ?_ ?_, ?_⟩
  · intro k hk hn
    simp only [rw8, List.mem_cons, Option.mem_toList, not_or] at hn
    rw [hset k hn.1, W.old k hk hn.2.2]
  · simp only [List.nodup_cons, List.mem_cons, Option.mem_toList, not_or]
    refine ⟨⟨n1, fun e => ?_⟩, fun e => ?_, ?_⟩
    · rcases hgv _ e with e' | e'; exact n2 e'; omega
    · rcases hgv _ e with e' | e'; exact n3 e'; omega
    · cases fv'.ownBlock <;> simp
  · have := W.blk.set 2 fv'
    simpa using this
  · have hc := W.at'.clocks
    unfold Blk at *
    rw [hset _ (Ne.symm n1), W.old _ lc n3]; exact hc
  · show World.ownsRow _ 0 _ 3 _ (m.fl ++ [l]).length _
    rw [List.length_append, List.length_singleton]
    refine ownsRow_same W.own (fun k hk => hset k ?_)
    rcases hgv k hk with e | e
    · intro e'; subst e'; exact n2 e
    · omega
  · exact LsAt.append ((W.at'.each.mono (fun k hk => List.mem_append_right ks hk)).same hVs) ((W.one.mono (fun k hk => List.mem_append_left p.V hk)).same hVs)
  · intro k hk
    rw [hsz]
    simp only [List.mem_cons, Option.mem_toList] at hk
    rcases hk with (rfl | rfl | hk) | hk
    · omega
    · omega
    · exact (lq' k hk).2
    · have := (hV k hk).1; omega
  · intro k hk hv
    obtain ⟨h1, h2⟩ := hV k hv
    simp only [rw8, List.mem_cons, Option.mem_toList, not_or] at hk h2
    rcases hk with rfl | rfl | hk
    · exact h2.1 rfl
    · exact h2.2.1 rfl
    · rcases hgv _ hk with e | e
      · exact h2.2.2 e
      · omega
  · intro k hk
    simp only [rw8, List.mem_cons, Option.mem_toList] at hk ⊢
    rcases hk with rfl | rfl | hk
    · exact .inl (.inl rfl)
    · exact .inl (.inr (.inl rfl))
    · rcases hgv _ hk with e | e
      · exact .inl (.inr (.inr e))
      · exact .inr (by omega)
end


theorem rwSend_closed (g : Nat) (p : Wp) (m : Wm) (x y : Int) (v : Value) (w : World) (h : (rw8 g p m).Ok w) (hc : m.cl = true) :
    Calls Try.prog 52 #[.pointer (some ⟨g, 0, none⟩), .int .i64 x, .int .i64 y, v] w fun e w' => e = .returned (.int .i64 5) ∧ w = w' := by
  obtain ⟨hn, fv, vs, hq, hD⟩ := h.holds
  obtain ⟨-, -, -, -, -, -, -, c7⟩ := rw_cells hD
  rw [hc] at c7
  clear hD h hc
  go_enter Try.func52, Try.ntmps52
  go_wp2
  go_ret
  exact ⟨rfl, rfl⟩
set_option maxHeartbeats 1000000 in
theorem rwSend_none (g : Nat) (p : Wp) (m : Wm) (x y : Int) (v : Value) (w : World) (h : (rw8 g p m).Ok w) (hw : m.Wf) (hx : I64 x) (hy : I64 y) (hc : m.cl = false) (hh : ¬ (hasW m.ck.length x = true ∧ hasW m.ck.length y = true)) :
    Calls Try.prog 52 #[.pointer (some ⟨g, 0, none⟩), .int .i64 x, .int .i64 y, v] w fun e w' => e = .returned (.int .i64 1) ∧ w = w' := by
  have HH : Hid _ := fun (i : Int) (hi : I64 i) => rwin_any g p m i w h hw hi
  obtain ⟨hn, fv, vs, hq, hD⟩ := h.holds
  obtain ⟨-, -, -, -, -, -, -, c7⟩ := rw_cells hD
  rw [hc] at c7
  clear hD h hc hw
  by_cases ca : hasW m.ck.length x = true
  · have cb : hasW m.ck.length y = false := by cases e : hasW m.ck.length y; rfl; exact absurd ⟨ca, e⟩ hh
    clear hh
    go_enter Try.func52, Try.ntmps52
    go_wp2_with (go_at_call 93; refine (Calls.mono (HH.out _ (by assumption))) ?_; rintro e w' ⟨rfl, rfl⟩)
    go_ret
    exact ⟨rfl, rfl⟩
  · have hf : hasW m.ck.length x = false := by simpa using ca
    clear hh ca
    go_enter Try.func52, Try.ntmps52
    go_wp2_with (go_at_call 93; refine (Calls.mono (HH.out _ (by assumption))) ?_; rintro e w' ⟨rfl, rfl⟩)
    go_ret
    exact ⟨rfl, rfl⟩
set_option maxHeartbeats 1000000 in
theorem rwSend_long (g : Nat) (p : Wp) (m : Wm) (x y : Int) (a : Option Addr) (len cap : Nat) (w : World) (h : (rw8 g p m).Ok w) (hw : m.Wf) (hx : I64 x) (hy : I64 y) (hc : m.cl = false) (ca : hasW m.ck.length x = true) (cb : hasW m.ck.length y = true) (hl : 65536 < len) :
    Calls Try.prog 52 #[.pointer (some ⟨g, 0, none⟩), .int .i64 x, .int .i64 y, .slice a len cap] w fun e w' => e = .returned (.int .i64 3) ∧ w = w' := by
  have HH : Hid _ := fun (i : Int) (hi : I64 i) => rwin_any g p m i w h hw hi
  obtain ⟨hn, fv, vs, hq, hD⟩ := h.holds
  obtain ⟨-, -, -, -, -, -, -, c7⟩ := rw_cells hD
  rw [hc] at c7
  have hd : decide ((65536 : Int) < (len : Int)) = true := decide_eq_true (by omega)
  clear hD h hc hw hl
  go_enter Try.func52, Try.ntmps52
  go_wp2_with (go_at_call 93; refine (Calls.mono (HH.out _ (by assumption))) ?_; rintro e w' ⟨rfl, rfl⟩)
  go_ret
  exact ⟨rfl, rfl⟩
set_option maxHeartbeats 1000000 in
theorem rwSend_full (g : Nat) (p : Wp) (m : Wm) (x y : Int) (a : Option Addr) (len cap : Nat) (w : World) (h : (rw8 g p m).Ok w) (hw : m.Wf) (hx : I64 x) (hy : I64 y) (hc : m.cl = false) (ca : hasW m.ck.length x = true) (cb : hasW m.ck.length y = true) (hl : ¬ 65536 < len) (hf : m.fl.length = 10000) :
    Calls Try.prog 52 #[.pointer (some ⟨g, 0, none⟩), .int .i64 x, .int .i64 y, .slice a len cap] w fun e w' => e = .returned (.int .i64 4) ∧ w = w' := by
  have HH : Hid _ := fun (i : Int) (hi : I64 i) => rwin_any g p m i w h hw hi
  obtain ⟨hn, fv, vs, hq, hD⟩ := h.holds
  obtain ⟨-, -, c2, -, -, -, -, c7⟩ := rw_cells hD
  obtain ⟨fa, fc, rfl⟩ := wo_form hD.letters
  rw [hf] at c2
  rw [hc] at c7
  have hd : decide ((65536 : Int) < (len : Int)) = false := decide_eq_false (by omega)
  clear hD h hc hw hl hf hq
  go_enter Try.func52, Try.ntmps52
  go_wp2_with (go_at_call 93; refine (Calls.mono (HH.out _ (by assumption))) ?_; rintro e w' ⟨rfl, rfl⟩)
  go_ret
  exact ⟨rfl, rfl⟩
set_option maxRecDepth 200000 in
set_option maxHeartbeats 2000000 in
theorem rwSend_ok (g : Nat) (p : Wp) (m : Wm) (x y : Nat) (a : Option Addr) (cap : Nat) (l : List (BitVec 8)) (w : World) (h : (rw8 g p m).Ok w) (hw : m.Wf) (hx : I64 x) (hy : I64 y) (hc : m.cl = false) (ca : hasW m.ck.length x = true) (cb : hasW m.ck.length y = true) (hl : ¬ 65536 < l.length) (hf : m.fl.length < 10000)
    (hle : l.length ≤ cap) (hr : Row w a l) (hn : a = none → cap = 0) :
    Calls Try.prog 52 #[.pointer (some ⟨g, 0, none⟩), .int .i64 x, .int .i64 y, .slice a l.length cap] w fun e w' => ∃ p', e = .returned (.int .i64 0) ∧ Step w w' (rw8 g p m) (rw8 g p' { m with fl := m.fl ++ [(x, y, l)] }) := by
  have HH : Hid _ := fun (i : Int) (hi : I64 i) => rwin_any g p m i w h hw hi
  obtain ⟨hnd, fv, vs, hq, hD⟩ := h.holds
  obtain ⟨-, -, c2, -, -, -, -, c7⟩ := rw_cells hD
  obtain ⟨fa, fc, rfl⟩ := wo_form hD.letters
  rw [hc] at c7
  have hd : decide ((65536 : Int) < (l.length : Int)) = false := decide_eq_false (by omega)
  have hd2 : decide ((10000 : Int) ≤ (m.fl.length : Int)) = false := decide_eq_false (by omega)
  have b0 : Below w.heap.size w (w.alloc (.cells #[.int .i64 x, .int .i64 y, .slice none 0 0] 51)) := (Below.refl _ _).alloc (Nat.le_refl _) _
  have M0 := Blk.new' w 51 [.int .i64 x, .int .i64 y, .slice none 0 0]
  have z0 : (w.alloc (.cells #[.int .i64 x, .int .i64 y, .slice none 0 0] 51)).heap.size = w.heap.size + 1 := by simp
  have hr0 := hr.later b0
  have HK : Hid _ := And.intro h (And.intro hq (And.intro hD (And.intro b0 (And.intro M0 z0))))
  have hmx : m.fl.length ≤ 1000000 := by omega
  have hlb : l.length ≤ 65536 := by omega
  clear h hw hnd hD hq hc hl hf b0 M0 hr z0
  generalize hll : l.length = len at *
  have HLn : Hid _ := hll
  clear hll
  go_enter Try.func52, Try.ntmps52
  go_wp2_with (first
    | (go_at_call 93; refine (Calls.mono (HH.out _ (by assumption))) ?_; rintro e w' ⟨rfl, rfl⟩)
    | (at_builtin; refine wpList_append_bytes _ rfl _ _ rfl (w.heap.size + 1) (.slice none 0 0) [] rfl (Own.nil _ _) a len cap l rfl HLn.out hr0 hn hle (by simp; omega) (by simp) ?_))
  generalize w.alloc (.cells #[.int .i64 x, .int .i64 y, .slice none 0 0] 51) = w0 at *
  intro v1 w1 ho1 hg1
  obtain ⟨h, hq, hD, b0, M0, z0⟩ := HK.out
  have bg : Below w0.heap.size w0 w1 := (Below.refl _ _).grown hg1 (Nat.le_refl _) (by simp [Value.ownBlock])
  have M1 := M0.laterB bg
  obtain ⟨va, vc, rfl, hle1, hm1, hr1, hn1, hgg1⟩ := ho1.open
  have hlo1 := World.ownsRow.lt ho1
  have M2 := M1.set 2 (.slice va l.length vc)
  simp only [List.set_cons_succ, List.set_cons_zero] at M2
  have s1 := bg.size
  have b2 : Below w.heap.size w (w1.setCell ⟨w.heap.size, 2, none⟩ (.slice va l.length vc)) := (below_then b0 bg).trans (grown_below (grown_set w1 w.heap.size 2 _) _ (Nat.le_refl _) (by omega))
  have z2 : (w1.setCell ⟨w.heap.size, 2, none⟩ (.slice va l.length vc)).heap.size = w1.heap.size := by simp [World.setCell]
  obtain ⟨⟨k0, k1, k2⟩, fz0, fz1, fz2⟩ := wblk3 M1
  obtain ⟨⟨j0, j1, j2⟩, -⟩ := wblk3 M2
  have cl2 := cell_later b2 c2
  have hrF : Row (w1.setCell ⟨w.heap.size, 2, none⟩ (.slice va l.length vc)) va l := hr1.same (fun z hz => Below.heap_setCell _ _ _ _ (by obtain ⟨gz, rfl, hgz⟩ := hgg1 z hz; show gz ≠ w.heap.size; omega))
  have hone : LsAt ((va.map (·.block)).toList) (w1.setCell ⟨w.heap.size, 2, none⟩ (.slice va l.length vc)) [((x, y, l) : Lt)] [.int .i64 x, .int .i64 y, .slice va l.length vc] := LsAt.one (x, y, l) va vc hle1 hrF hn1 (fun z hz => by subst hz; simp)
  have h2 := h.later b2
  obtain ⟨hnd2, fv2, vs2, hq2, hD2⟩ := h2.holds
  have hfar' : ∀ k ∈ (va.map (·.block)).toList, k < (w1.setCell ⟨w.heap.size, 2, none⟩ (.slice va l.length vc)).heap.size ∧ k ∉ (rw8 g p m).W := by
    intro k hk
    simp at hk
    obtain ⟨z, hz, rfl⟩ := hk
    obtain ⟨gz, rfl, hgz⟩ := hgg1 z hz
    subst hz
    refine ⟨by rw [z2]; exact (hlo1 gz rfl).2, fun e => ?_⟩
    have := h.lt gz (.inl e)
    omega
  have cl2' := (rw_cells hD2).2.2.1
  rw [cl2] at cl2'
  obtain rfl : fv2 = .slice fa m.fl.length fc := by simpa using cl2'.symm
  have HP : Hid _ := And.intro h2 (And.intro hq2 (And.intro hD2 (And.intro hone hfar')))
  have HJ : Hid _ := And.intro h (And.intro b2 (And.intro z2 (And.intro s1 (And.intro z0 hgg1))))
  rw [HLn.out] at *
  clear h hq hD b0 M0 M1 M2 bg ho1 hg1 hr1 hrF hone hfar' h2 hnd2 hq2 hD2 hle1 hm1 hn1 hlo1 b2 hgg1 HK hr0 cl2' c2 c7
  go_wp2_with fail
  generalize hwz : w1.setCell ⟨w.heap.size, 2, none⟩ (.slice va len vc) = wz at *
  have b1 : Below wz.heap.size wz (wz.drew.alloc (.cells #[.int .i64 x, .int .i64 y, .slice va len vc] 51)) := ((Below.refl _ _).drew).alloc (Nat.le_refl _) _
  have hG4 : Hid _ := And.intro (ownsRow_same HP.out.2.2.1.letters (fun k hk => b1.block k (World.ownsRow.lt HP.out.2.2.1.letters k hk).2)) (And.intro (Blk.new' wz.drew 51 [.int .i64 x, .int .i64 y, .slice va len vc]) b1)
  have t3 : (wz.alloc (.cells #[.int .i64 x, .int .i64 y, .slice va len vc] 51)).cell? ⟨g, 2, none⟩ = some (.slice fa m.fl.length fc) := cell_later ((Below.refl _ _).alloc (Nat.le_refl _) _) cl2
  clear b1 hwz
  go_region_law (refine step_append_rletter rfl (.tmp 49) (.tmp 51) rfl (.slice fa m.fl.length fc) m.fl.length vs2 (by simp [Act.eval]) hG4.out.1 wz.heap.size (.int .i64 x) (.int .i64 y) (.slice va len vc) (by simp [Act.eval]) hG4.out.2.1 rfl rfl rfl hmx ?_; intro gv' w5 hown hg5 hor; obtain ⟨a', c', rfl⟩ := wo_form hown; have W : RPosted wz _ w5 g p m _ _ vs2 _ (x, y, l) _ := ⟨HP.out.1, HP.out.2.1, HP.out.2.2.1, hG4.out.2.2, hown, hg5, hor, HP.out.2.2.2.1, HP.out.2.2.2.2⟩; obtain ⟨cc, cf⟩ := W.cell; have HS : Hid _ := W.done; clear W hown hg5 hor)
  all_goals
    go_wp2
    go_ret
    obtain ⟨h, b2, z2, s1, z0, hgg1⟩ := HJ.out
    refine ⟨_, rfl, ((turned_below b2).mono (fun _ h => h.elim)).trans (HS.out.1.mono (fun k hk => .inl hk)), HS.out.2.1, fun k hk => ?_, fun k hk => ?_⟩
    · rcases HS.out.2.2 k hk with e | e
      · exact .inl e
      · exact .inr (by omega)
    · simp only [rw8, List.mem_append, Option.mem_toList, Option.map_eq_some_iff] at hk
      rcases hk with ⟨z, hz, rfl⟩ | hk
      · obtain ⟨gz, rfl, hgz⟩ := hgg1 z hz
        exact .inr (.inr (by show w.heap.size ≤ gz; omega))
      · exact .inr (.inl hk)
end Go.Proofs.Ytjfodmdijajfbaa
