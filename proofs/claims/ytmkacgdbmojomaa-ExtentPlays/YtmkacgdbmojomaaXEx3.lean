/- The runs of blocks that are there. -/
import Derived.Test.YtmkacgdbmojomaaXEx2
import Derived.Maps.AppendAt
namespace Go.Proofs.Ytmkacgdbmojomaa
open Go.RowKit Go.MapKept Go.ChangeMaps
set_option linter.unusedVariables false
set_option maxRecDepth 4000

def bump : List (Nat × Nat) → List (Nat × Nat)
  | [] => []
  | [r] => [(r.1, r.2 + 1)]
  | r :: s :: l => r :: bump (s :: l)
theorem bump_snoc (A : List (Nat × Nat)) (f c : Nat) : bump (A ++ [(f, c)]) = A ++ [(f, c + 1)] := by
  induction A with
  | nil => rfl
  | cons r A ih =>
    cases A with
    | nil => rfl
    | cons s A => show r :: bump (s :: A ++ [(f, c)]) = _; rw [ih]; rfl
/-- the runs of the first k blocks -/
def rnN (m : Im) : Nat → List (Nat × Nat)
  | 0 => []
  | k + 1 => if m.has (k : Int) then (if m.has ((k : Int) - 1) then bump (rnN m k) else rnN m k ++ [(k, 1)]) else rnN m k
theorem rnN_succ (m : Im) (k : Nat) : rnN m (k + 1) = if m.has (k : Int) then (if m.has ((k : Int) - 1) then bump (rnN m k) else rnN m k ++ [(k, 1)]) else rnN m k := rfl
theorem has_neg (m : Im) (i : Int) (h : i < 0) : m.has i = false := by unfold Im.has; rw [if_neg (by omega)]
theorem rn_last (m : Im) (k : Nat) (h : m.has ((k : Int) - 1) = true) : ∃ A f c, rnN m k = A ++ [(f, c)] ∧ f + c = k ∧ 1 ≤ c := by
  induction k with
  | zero => rw [has_neg m _ (by omega)] at h; cases h
  | succ k ih =>
    have h' : m.has (k : Int) = true := by rw [← h]; congr 1; omega
    unfold rnN
    rw [if_pos h']
    split
    · rename_i hp
      obtain ⟨A, f, c, e, e1, e2⟩ := ih hp
      rw [e, bump_snoc]
      exact ⟨A, f, c + 1, rfl, by omega, by omega⟩
    · exact ⟨_, k, 1, rfl, rfl, Nat.le_refl _⟩
theorem rn_len (m : Im) (k : Nat) : (rnN m k).length ≤ k := by
  induction k with
  | zero => exact Nat.le_refl _
  | succ k ih =>
    unfold rnN
    split
    · split
      · rename_i hp
        obtain ⟨A, f, c, e, _⟩ := rn_last m k hp
        rw [e] at ih ⊢
        rw [bump_snoc]
        simp at ih ⊢; omega
      · simp; omega
    · omega
theorem rn_bound (m : Im) (k : Nat) : ∀ r ∈ rnN m k, r.1 + r.2 ≤ k ∧ 1 ≤ r.2 := by
  induction k with
  | zero => intro r hr; cases hr
  | succ k ih =>
    unfold rnN
    split
    · split
      · rename_i hp
        obtain ⟨A, f, c, e, e1, e2⟩ := rn_last m k hp
        rw [e] at ih ⊢
        rw [bump_snoc]
        intro r hr
        rcases List.mem_append.1 hr with hr | hr
        · have := ih r (List.mem_append.2 (.inl hr)); omega
        · rw [List.mem_singleton.1 hr]; simp; omega
      · intro r hr
        rcases List.mem_append.1 hr with hr | hr
        · have := ih r hr; omega
        · rw [List.mem_singleton.1 hr]; simp
    · intro r hr; have := ih r hr; omega
/-- the blocks of runs -/
def expand (l : List (Nat × Nat)) : List Nat := l.flatMap (fun r => List.range' r.1 r.2)
theorem expand_snoc (A : List (Nat × Nat)) (f c : Nat) : expand (A ++ [(f, c)]) = expand A ++ List.range' f c := by unfold expand; rw [List.flatMap_append]; simp
theorem expand_rn (m : Im) (k : Nat) : expand (rnN m k) = (List.range k).filter (fun i : Nat => m.has (i : Int)) := by
  induction k with
  | zero => rfl
  | succ k ih =>
    rw [List.range_succ, List.filter_append, ← ih, rnN_succ]
    split
    · rename_i hk
      split
      · rename_i hp
        obtain ⟨A, f, c, e, e1, e2⟩ := rn_last m k hp
        rw [e, bump_snoc, expand_snoc, expand_snoc, List.range'_concat]
        simp [hk, e1]
      · rw [expand_snoc]; simp [hk]
    · rename_i hk
      simp [hk]
def rvals (l : List (Nat × Nat)) : List Value := l.flatMap (fun r => [.int .i64 r.1, .int .i64 r.2])
theorem rvals_snoc (l : List (Nat × Nat)) (r : Nat × Nat) : rvals (l ++ [r]) = rvals l ++ [.int .i64 r.1, .int .i64 r.2] := by unfold rvals; rw [List.flatMap_append]; simp
theorem rvals_length (l : List (Nat × Nat)) : (rvals l).length = l.length * 2 := by
  induction l with
  | nil => rfl
  | cons h l ih => unfold rvals at *; rw [List.flatMap_cons, List.length_append, ih, List.length_cons]; simp; omega
theorem rvals_at (l : List (Nat × Nat)) (i : Nat) (hi : i < l.length) : (rvals l)[i * 2]? = some (.int .i64 l[i].1) ∧ (rvals l)[i * 2 + 1]? = some (.int .i64 l[i].2) := by
  induction l generalizing i with
  | nil => simp at hi
  | cons h l ih =>
    unfold rvals at *
    rw [List.flatMap_cons]
    cases i with
    | zero => simp
    | succ i =>
      have := ih i (by simpa using hi)
      rw [List.getElem?_append_right (by simp; omega), List.getElem?_append_right (by simp; omega)]
      have e1 : (i + 1) * 2 - [Value.int .i64 (h.1 : Int), Value.int .i64 (h.2 : Int)].length = i * 2 := by simp; omega
      have e2 : (i + 1) * 2 + 1 - [Value.int .i64 (h.1 : Int), Value.int .i64 (h.2 : Int)].length = i * 2 + 1 := by simp; omega
      rw [e1, e2, this.1, this.2]
      simp
/-- a slice of runs of the call's own -/
def RsOwn (w : World) (base : Nat) (v : Value) (l : List (Nat × Nat)) : Prop := w.ownsRow base 112 2 v l.length (rvals l)
theorem RsOwn.later {w w' : World} {base : Nat} {v : Value} {l : List (Nat × Nat)} (h : RsOwn w base v l) (hb : Below w.heap.size w w') : RsOwn w' base v l :=
  World.ownsRow.kept h (row := none) ⟨hb.os, hb.tape, hb.output, hb.size, fun k hk _ => hb.block k hk⟩ (by cases hv : v.ownBlock <;> simp)
theorem RsOwn.nil (w : World) (base : Nat) : RsOwn w base (.slice none 0 0) [] := World.ownsRow_nil _ _ _ _
theorem RsOwn.open {w : World} {base : Nat} {v : Value} {l : List (Nat × Nat)} (h : RsOwn w base v l) : ∃ a cap, v = .slice a l.length cap ∧ l.length ≤ cap ∧ (l = [] ∨ ∃ g, a = some ⟨g, 0, none⟩ ∧ base ≤ g ∧ g < w.heap.size ∧ ∃ cur, w.heap[g]? = some (.cells cur 112) ∧ cap * 2 = cur.size ∧ cap ≤ maxLen ∧ cur.toList.take (l.length * 2) = rvals l) := by
  have hlt := World.ownsRow.lt h
  obtain ⟨h1, ⟨h2, h3⟩ | ⟨g, cap, cur, rfl, hb, hh, hc, hm, hs, ht⟩⟩ := h
  · obtain rfl : l = [] := List.eq_nil_of_length_eq_zero h3
    exact ⟨none, 0, h2, Nat.le_refl _, .inl rfl⟩
  · exact ⟨_, cap, rfl, hc, .inr ⟨g, rfl, hb, (hlt g rfl).2, cur, hh, hs.symm, hm, ht⟩⟩
theorem runs_cell {w : World} {g : Nat} {l : List (Nat × Nat)} {cur : Array Value} (hh : w.heap[g]? = some (.cells cur 112)) (ht : cur.toList.take (l.length * 2) = rvals l) (i : Nat) (hi : i < l.length) :
    w.cell? ⟨g, i * 2, none⟩ = some (.int .i64 l[i].1) ∧ w.cell? ⟨g, i * 2 + 1, none⟩ = some (.int .i64 l[i].2) := by
  have h := rvals_at l i hi
  rw [← ht, List.getElem?_take, List.getElem?_take, if_pos (by omega), if_pos (by omega)] at h
  rw [cell_of_row w g _ cur _ _ hh, cell_of_row w g _ cur _ _ hh]
  simpa using h
theorem RsOwn.bump {w : World} {base g n cap : Nat} {A : List (Nat × Nat)} {f c : Nat} (h : RsOwn w base (.slice (some ⟨g, 0, none⟩) n cap) (A ++ [(f, c)])) : n = A.length + 1 ∧ n ≤ cap ∧ w.cell? ⟨g, A.length * 2 + 1, none⟩ = some (.int .i64 c) ∧ w.frozen? ⟨g, A.length * 2 + 1, none⟩ = false ∧
    RsOwn (w.setCell ⟨g, A.length * 2 + 1, none⟩ (.int .i64 (c + 1 : Nat))) base (.slice (some ⟨g, 0, none⟩) n cap) (A ++ [(f, c + 1)]) := by
  obtain ⟨h1, ⟨h2, h3⟩ | ⟨g', cap', cur, hv, hb, hh, hc, hm, hs, ht⟩⟩ := h
  · cases h2
  · simp only [Value.slice.injEq, Option.some.injEq, Addr.mk.injEq, and_true] at hv
    obtain ⟨rfl, rfl, rfl⟩ := hv
    have hc1 := (runs_cell (l := A ++ [(f, c)]) hh ht A.length (by simp)).2
    have e1 : (A ++ [(f, c)])[A.length]'(by simp) = (f, c) := by simp
    rw [e1] at hc1
    refine ⟨by simp, hc, hc1, by simp [World.frozen?, hh], ?_, .inr ⟨g, cap, cur.setIfInBounds (A.length * 2 + 1) (.int .i64 (c + 1 : Nat)), by simp, hb, ?_, by simpa using hc, hm, by simpa using hs, ?_⟩⟩
    · rw [rvals_length]
    · rw [setCell_eq_setRow w g _ cur _ _ _ hh]
      exact setRow_heap w g cur _ _ _ hh
    · rw [Array.toList_setIfInBounds]
      have e2 : (A ++ [(f, c + 1)]).length = (A ++ [(f, c)]).length := by simp
      have e3 : A.length * 2 + 1 - A.length * 2 = 1 := by omega
      rw [e2, List.take_set, ht, rvals_snoc, rvals_snoc, List.set_append, rvals_length, if_neg (by omega), e3]
      simp
theorem info_run : (Try.prog.info? 112).map (fun i => (i.zero, i.size, i.bytes)) = some (some (.agg #[.int .i64 0, .int .i64 0]), 2, 16) := by kernel_rfl
theorem wpList_append_run (w : World) {ops : Array Oper} {rest : List Oper} {o : Oper} {a : Act} {Q : Exit → Act → World → Prop} (hg : o.guard = none) (s x : Operand)
    (ho : o.op = .call { callee := .builtin .append, args := #[s, x], argTypes := #[109, 109] }) (base : Nat) (v : Value) (l : List (Nat × Nat)) (hv : a.eval s = v) (hown : RsOwn w base v l)
    (k : Nat) (r : Nat × Nat) (hx : a.eval x = .slice (some ⟨k, 0, none⟩) 1 1) (hB : Blk w k 112 [.int .i64 r.1, .int .i64 r.2]) (hmax : l.length ≤ 1000000) (hbase : base ≤ w.heap.size)
    (next : ∀ (v' : Value) (w' : World), RsOwn w' base v' (l ++ [r]) → w.grownBy w' v.ownBlock → (v'.ownBlock = v.ownBlock ∨ v'.ownBlock = some w.heap.size) → wpList Try.prog ops Q rest (a.put o.dst v') w') : wpList Try.prog ops Q (o :: rest) a w := by
  obtain ⟨i0, hi, hz0, hz1, hz2⟩ := info_parts info_run
  have c0 := hB.cell (by simp [maxLen]) 0 (by simp)
  have c1 := hB.cell (by simp [maxLen]) 1 (by simp)
  simp only [List.getElem?_cons_succ, List.getElem?_cons_zero] at c0 c1
  refine wpList_append_own_at (w := w) hg s x 109 ho base 112 i0 (.agg #[.int .i64 0, .int .i64 0]) 2 16 Try.underlying109 hi hz0 hz1 hz2 rfl (by decide) v l.length (rvals l) hv hown ⟨k, 0, none⟩ 1 1 [.int .i64 r.1, .int .i64 r.2] hx rfl ?_ ?_ (by unfold maxLen; omega) (by omega) hbase ?_
  · intro j u hj
    match j, hj with
    | 0, hj => simp at hj; subst hj; simpa [Addr.add] using c0
    | 1, hj => simp at hj; subst hj; simpa [Addr.add] using c1
  · intro u hu
    simp at hu
    rcases hu with rfl | rfl <;> rfl
  · intro v' w' h2 h3 _ h5
    exact next v' w' (by unfold RsOwn; rw [rvals_snoc, List.length_append, List.length_singleton]; exact h2) h3 h5

set_option maxHeartbeats 2000000 in
theorem runs_any (g b : Nat) (m : Im) (w : World) (h : (im g b m).Ok w) (hw : m.Wf) :
    Calls Try.prog 65 #[.pointer (some ⟨g, 0, none⟩)] w fun e w' => ∃ v, e = .returned v ∧ RsOwn w' w.heap.size v (rnN m m.n) ∧ Below w.heap.size w w' := by
  have hm := hw.most
  have HSz := imSize_any g b m w h
  have HH : Hid _ := And.intro h hw
  have hN : (m.n : Int) ≤ 256 := by omega
  clear h hw
  go_enter Try.func65, Try.ntmps65
  go_wp2_with (go_at_call 46; refine HSz.mono ?_; rintro e w' ⟨rfl, rfl⟩)
  clear HSz
  go_loopw [3, 7] (fun v i wr => ∃ k : Nat, k ≤ m.n ∧ i = .int .i64 k ∧ RsOwn wr w.heap.size v (rnN m k) ∧ Below w.heap.size w wr) (fun _ i _ => m.n - (intOf i).toNat)
  case atStart => exact ⟨0, Nat.zero_le _, rfl, RsOwn.nil _ _, Below.refl _ _⟩
  case round =>
    obtain ⟨k, hk, rfl, ho, hb⟩ := hrel
    by_cases hlt : k < m.n
    · have q1 : (k : Int) < (m.n : Int) := by omega
      have HA : Hid _ := imHas_any g b m k wr (HH.out.1.later hb) HH.out.2 (by unfold I64; omega)
      have hrl := rn_len m k
      have H0 : Hid _ := And.intro ho hb
      clear ho hb
      cases hh : m.has (k : Int) with
      | false =>
        rw [hh] at HA
        have e1 : rnN m (k + 1) = rnN m k := by conv => lhs; unfold rnN
                                                rw [hh]; rfl
        go_wp2_with (go_at_call 17; refine (Calls.mono HA.out) ?_; rintro e x1 ⟨rfl, bx⟩)
        have F : Hid _ := And.intro (show RsOwn _ w.heap.size _ (rnN m (k + 1)) from (by rw [e1]; exact H0.out.1.later bx)) (H0.out.2.trans (bx.mono H0.out.2.size))
        clear bx HA H0
        go_wp2_with fail
        exact ⟨⟨k + 1, by omega, by go_num, F.out.1, F.out.2⟩, by simp [intOf]; omega⟩
      | true =>
        rw [hh] at HA
        go_wp2_with fail
        refine (Calls.mono HA.out) ?_
        rintro e x1 ⟨rfl, bx⟩
        have HC : Hid _ := imHas_any g b m ((k : Int) - 1) x1 ((HH.out.1.later H0.out.2).later bx) HH.out.2 (by unfold I64; omega)
        have H1 : Hid _ := And.intro (H0.out.1.later bx) (H0.out.2.trans (bx.mono H0.out.2.size))
        clear HA H0 bx
        cases hp : m.has ((k : Int) - 1) with
        | false =>
          rw [hp] at HC
          have e1 : rnN m (k + 1) = rnN m k ++ [(k, 1)] := by conv => lhs; unfold rnN
                                                              rw [hh, hp]; rfl
          go_wp2_with fail
          refine (Calls.mono HC.out) ?_
          rintro e x2 ⟨rfl, bx⟩
          have B3 : Blk (x2.alloc (.cells #[.int .i64 k, .int .i64 1] 112)) x2.heap.size 112 [.int .i64 k, .int .i64 1] := Blk.new' x2 _ _
          have b3 : Below x2.heap.size x2 (x2.alloc (.cells #[.int .i64 k, .int .i64 1] 112)) := (Below.refl _ _).alloc (Nat.le_refl _) _
          have H3 : Hid _ := And.intro ((H1.out.1.later bx).later b3) (And.intro (below_then (H1.out.2.trans (bx.mono H1.out.2.size)) (b3.mono (Nat.le_refl _))) B3)
          clear B3 b3 bx H1 HC
          go_wp2_with (at_builtin; refine wpList_append_run _ rfl _ _ rfl w.heap.size u3 (rnN m k) rfl H3.out.1 x2.heap.size (k, 1) rfl H3.out.2.2 (by omega) H3.out.2.1.size ?_)
          intro v' w' hown hgr hor
          have hl3 := World.ownsRow.lt H3.out.1
          have F : Hid _ := And.intro (show RsOwn w' w.heap.size v' (rnN m (k + 1)) from (by rw [e1]; exact hown)) (H3.out.2.1.grown hgr H3.out.2.1.size (fun j hj => (hl3 j hj).1))
          clear hown hgr hor hl3 H3
          go_wp2_with fail
          exact ⟨⟨k + 1, by omega, by go_num, F.out.1, F.out.2⟩, by simp [intOf]; omega⟩
        | true =>
          rw [hp] at HC
          obtain ⟨A, f, c, ea, eb, ec⟩ := rn_last m k hp
          have e1 : rnN m (k + 1) = A ++ [(f, c + 1)] := by conv => lhs; unfold rnN
                                                            rw [hh, hp, ea, if_pos rfl, if_pos rfl, bump_snoc]
          go_wp2_with fail
          refine (Calls.mono HC.out) ?_
          rintro e x2 ⟨rfl, bx⟩
          have ho2 := H1.out.1.later bx
          have hb2 := H1.out.2.trans (bx.mono H1.out.2.size)
          rw [ea] at ho2
          obtain ⟨av, cap, rfl, hcap, hA | ⟨gv, rfl, hbg, hgl, -⟩⟩ := ho2.open
          · simp at hA
          obtain ⟨hn, hle, hcell, hfro, hnew⟩ := ho2.bump
          have q5 : A.length ≤ 256 := by rw [ea] at hrl; simp at hrl; omega
          rw [hn] at hle hnew ⊢
          have F : Hid _ := And.intro (show RsOwn _ w.heap.size _ (rnN m (k + 1)) from (by rw [e1]; exact hnew)) (hb2.grown (grown_set x2 gv (A.length * 2 + 1) (.int .i64 (c + 1 : Nat))) hb2.size (fun j hj => by cases hj; exact hbg))
          clear ho2 hb2 bx hnew H1 HC hn ea e1
          have hc256 : (c : Int) ≤ 256 := by omega
          go_wp2
          exact ⟨⟨k + 1, by omega, by go_num, F.out.1, F.out.2⟩, by simp [intOf]; omega⟩
    · obtain rfl : k = m.n := by omega
      have F : Hid _ := And.intro ho hb
      clear ho hb
      go_wp2
      go_ret
      exact ⟨_, rfl, F.out.1, F.out.2⟩
end Go.Proofs.Ytmkacgdbmojomaa

