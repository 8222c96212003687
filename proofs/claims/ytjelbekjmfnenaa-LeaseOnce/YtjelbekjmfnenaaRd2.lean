/- Reads that are taken out of the queue. -/
import Derived.Test.YtjelbekjmfnenaaRd1
import Derived.Maps.AppendAt
namespace Go.Proofs.Ytjelbekjmfnenaa
open Go.RowKit Go.Shelf
set_option linter.unusedVariables false
set_option linter.unusedSimpArgs false
set_option maxRecDepth 4000

theorem wpList_append_pair (LT E : TypeId) (hU : Try.prog.underlying LT = some (.slice E)) (hI : (Try.prog.info? E).map (fun i => (i.zero, i.size, i.bytes)) = some (some (.agg #[.int .i64 0, .int .i64 0]), 2, 16)) (w : World)
    {ops : Array Oper} {rest : List Oper} {o : Oper} {a : Act} {Q : Exit → Act → World → Prop} (hg : o.guard = none) (s x : Operand)
    (ho : o.op = .call { callee := .builtin .append, args := #[s, x], argTypes := #[LT, LT] }) (v : Value) (l : List (Int × Int)) (hs : a.eval s = v) (hown : PrOwn E w v l)
    (k : Nat) (u0 u1 : Int) (hx : a.eval x = .slice (some ⟨k, 0, none⟩) 1 1) (hB : Blk w k E [.int .i64 u0, .int .i64 u1]) (hmax : l.length ≤ 1000000)
    (next : ∀ (v' : Value) (w' : World), PrOwn E w' v' (l ++ [(u0, u1)]) → w.grownBy w' v.ownBlock → (v'.ownBlock = v.ownBlock ∨ v'.ownBlock = some w.heap.size) → wpList Try.prog ops Q rest (a.put o.dst v') w') : wpList Try.prog ops Q (o :: rest) a w := by
  obtain ⟨i0, hi, hz0, hz1, hz2⟩ := info_parts hI
  have c0 := blk_at hB 0
  have c1 := blk_at hB 1
  simp at c0 c1
  refine wpList_append_own_at (w := w) hg s x LT ho 0 E i0 (.agg #[.int .i64 0, .int .i64 0]) 2 16 hU hi hz0 hz1 hz2 rfl (by decide) v l.length (pcells l) hs hown ⟨k, 0, none⟩ 1 1 [.int .i64 u0, .int .i64 u1] hx rfl
    (fun j u hj => by
      match j, hj with
      | 0, hj => simp at hj; subst hj; simpa [Addr.add] using c0
      | 1, hj => simp at hj; subst hj; simpa [Addr.add] using c1)
    (fun u hu => by simp at hu; rcases hu with rfl | rfl <;> rfl) (by unfold maxLen; omega) (by omega) (Nat.zero_le _) ?_
  intro v' w' h2 h3 _ h5
  refine next v' w' ?_ h3 h5
  unfold PrOwn
  rw [List.length_append, pcells_append]
  exact h2
/-- two rows of pairs that the call makes -/
structure TkI (E : TypeId) (w wr : World) (vt vl : Value) (lt ll : List (Int × Int)) : Prop where
  t : PrOwn E wr vt lt
  l : PrOwn E wr vl ll
  tn : ∀ b, vt.ownBlock = some b → w.heap.size ≤ b
  ln : ∀ b, vl.ownBlock = some b → w.heap.size ≤ b
  ap : ∀ b, vt.ownBlock = some b → vl.ownBlock ≠ some b
  below : Below w.heap.size w wr
section
variable {E : TypeId} {w wr w' : World} {vt vl v' : Value} {lt ll l' : List (Int × Int)}
theorem TkI.later (h : TkI E w wr vt vl lt ll) (hb : Below wr.heap.size wr w') : TkI E w w' vt vl lt ll := ⟨h.t.later hb, h.l.later hb, h.tn, h.ln, h.ap, below_then h.below hb⟩
theorem TkI.putT (h : TkI E w wr vt vl lt ll) (ho : PrOwn E w' v' l') (hg : wr.grownBy w' vt.ownBlock) (hor : v'.ownBlock = vt.ownBlock ∨ v'.ownBlock = some wr.heap.size) : TkI E w w' v' vl l' ll := by
  have hz := h.below.size
  refine ⟨ho, h.l.same (fun k hk => hg.block k (h.l.lt k hk) (fun e => h.ap k e.symm hk)), ?_, h.ln, ?_, h.below.grown hg hz (fun k e => h.tn k e)⟩
  · intro b hb
    rcases hor with e | e
    · exact h.tn b (by rw [← e]; exact hb)
    · rw [e] at hb; cases hb; exact hz
  · intro b hb hl
    rcases hor with e | e
    · exact h.ap b (by rw [← e]; exact hb) hl
    · rw [e] at hb; cases hb; have := h.l.lt _ hl; omega
theorem TkI.putL (h : TkI E w wr vt vl lt ll) (ho : PrOwn E w' v' l') (hg : wr.grownBy w' vl.ownBlock) (hor : v'.ownBlock = vl.ownBlock ∨ v'.ownBlock = some wr.heap.size) : TkI E w w' vt v' lt l' := by
  have hz := h.below.size
  refine ⟨h.t.same (fun k hk => hg.block k (h.t.lt k hk) (fun e => h.ap k hk e.symm)), ho, h.tn, ?_, ?_, h.below.grown hg hz (fun k e => h.ln k e)⟩
  · intro b hb
    rcases hor with e | e
    · exact h.ln b (by rw [← e]; exact hb)
    · rw [e] at hb; cases hb; exact hz
  · intro b hb hl
    rcases hor with e | e
    · exact h.ap b hb (by rw [← e]; exact hl)
    · rw [e] at hl; cases hl; have := h.t.lt _ hb; omega
end
def upto (r : Int) (l : List (Int × Int)) : List (Int × Int) := l.filter (fun x => decide (x.2 ≤ r))
def above (r : Int) (l : List (Int × Int)) : List (Int × Int) := l.filter (fun x => !decide (x.2 ≤ r))
set_option maxHeartbeats 2000000 in
theorem rdqtake_any (g : Nat) (q : Option Nat) (l : List (Int × Int)) (rb : Nat) (r : Int) (w : World) (h : (rdOb g q l).Ok w) (hl : l.length ≤ 1000) (hB : Blk w rb 2 [.int .i64 r]) :
    Calls Try.prog 54 #[.pointer (some ⟨g, 0, none⟩), .func (.func 55) #[] #[.pointer (some ⟨rb, 0, none⟩)]] w fun e w' => ∃ v q', e = .returned v ∧ PrOwn 84 w' v (upto r l) ∧ (∀ b, v.ownBlock = some b → w.heap.size ≤ b ∧ q' ≠ some b) ∧ Step w w' (rdOb g q l) (rdOb g q' (above r l)) := by
  obtain ⟨hn, v, hq, hG, ho⟩ := id h.holds
  have c0 := blk_at hG 0
  simp at c0
  obtain ⟨va, vc, hv, hvc, hcs⟩ := ho.open
  have HA : Hid _ := And.intro hcs (And.intro hB (And.intro h (And.intro hq (And.intro hG hv))))
  rw [hv] at c0
  clear ho hcs hB h hG hq
  obtain ⟨i0, hi, hz0, hz1, hz2⟩ := info_parts info_read
  go_enter Try.func54, Try.ntmps54
  go_wp2_with fail
  go_loopw [5, 6, 14] (fun tv lv iv wr => ∃ (k : Nat), iv = .int .i64 k ∧ k ≤ l.length ∧ TkI 84 w wr tv lv (upto r (l.take k)) (above r (l.take k))) (fun _ _ iv _ => l.length - (intOf iv).toNat)
  case atStart => exact ⟨0, rfl, by omega, PrOwn.nil _ _, PrOwn.nil _ _, (fun b hb => by cases hb), (fun b hb => by cases hb), (fun b hb => by cases hb), Below.refl _ _⟩
  case round =>
    obtain ⟨k, rfl, hk, hI⟩ := hrel
    obtain ⟨ta, tc, htv, -, -⟩ := hI.t.open
    obtain ⟨fa, fc, hfv, -, -⟩ := hI.l.open
    by_cases hlt : k < l.length
    · obtain ⟨b, rfl, -, k1, k2⟩ := HA.out.1 k hlt
      have k1' := cell_later hI.below k1
      have k2' := cell_later hI.below k2
      have q1 : (k : Int) < l.length := by omega
      have hup : upto r (l.take (k + 1)) = upto r (l.take k) ++ upto r [l[k]] := by unfold upto; rw [List.take_succ_eq_append_getElem hlt, List.filter_append]
      have hab : above r (l.take (k + 1)) = above r (l.take k) ++ above r [l[k]] := by unfold above; rw [List.take_succ_eq_append_getElem hlt, List.filter_append]
      have hul : (upto r (l.take k)).length ≤ 1000000 := by have := List.length_filter_le (fun x : Int × Int => decide (x.2 ≤ r)) (l.take k); unfold upto; simp at this ⊢; omega
      have hal : (above r (l.take k)).length ≤ 1000000 := by have := List.length_filter_le (fun x : Int × Int => !decide (x.2 ≤ r)) (l.take k); unfold above; simp at this ⊢; omega
      generalize l[k] = x at *
      obtain ⟨x0, x1⟩ := x
      dsimp only at k1 k2 k1' k2'
      have bn : Below wr.heap.size wr (wr.alloc (.cells #[.int .i64 x0, .int .i64 x1] 84)) := (Below.refl _ _).alloc (Nat.le_refl _) _
      have N := Blk.new' wr 84 [.int .i64 x0, .int .i64 x1]
      have n0 := blk_at N 0
      have n1 := blk_at N 1
      simp only [List.getElem?_cons_zero, List.getElem?_cons_succ] at n0 n1
      have H1 : Hid _ := take1_any x0 x1 r rb (wr.alloc (.cells #[.int .i64 x0, .int .i64 x1] 84)) (by have := ((HA.out.2.1.laterB hI.below).laterB bn).cell (by simp [maxLen]) 0 (by simp); simpa using this)
      have HG : Hid _ := And.intro (hI.later bn) (And.intro N (And.intro hup (And.intro hab (And.intro hul hal))))
      clear hI k1 k2 bn N hup hab hul hal
      rw [htv, hfv]
      by_cases hx : x1 ≤ r
      · rw [decide_eq_true hx] at H1
        go_wp2_with fail
        generalize wr.alloc (.cells #[.int .i64 x0, .int .i64 x1] 84) = w1 at *
        refine (Calls.mono H1.out) ?_
        rintro e w2 ⟨rfl, b2⟩
        have y0 := cell_later b2 n0
        have y1 := cell_later b2 n1
        have bn : Below w2.heap.size w2 (w2.alloc (.cells #[.int .i64 x0, .int .i64 x1] 84)) := (Below.refl _ _).alloc (Nat.le_refl _) _
        have HN : Hid _ := And.intro ((HG.out.1.later b2).later bn) (And.intro (Blk.new' w2 84 [.int .i64 x0, .int .i64 x1]) HG.out.2.2)
        clear b2 bn HG H1 n0 n1
        go_wp2_with (at_builtin; refine wpList_append_pair 77 84 Try.underlying77 info_read _ rfl _ _ rfl _ (upto r (l.take k)) rfl (by rw [← htv]; exact HN.out.1.t) w2.heap.size x0 x1 rfl HN.out.2.1 HN.out.2.2.2.2.1 ?_)
        intro v' w5 ho5 hg5 hor5
        have R := HN.out.1.putT ho5 (by rw [htv]; exact hg5) (by rw [htv, World.size_alloc]; exact hor5)
        obtain ⟨a', c', hv', -, -⟩ := ho5.open
        have HR : Hid _ := And.intro R (And.intro HN.out.2.2.1 HN.out.2.2.2.1)
        clear R ho5 hg5 hor5 HN
        rw [hv']
        go_wp2
        go_roundw
        case rel =>
          refine ⟨k + 1, by go_num, by omega, ?_⟩
          rw [HR.out.2.1, HR.out.2.2, ← hv', ← hfv]
          have e1 : upto r [(x0, x1)] = [(x0, x1)] := by simp [upto, hx]
          have e2 : above r [(x0, x1)] = [] := by simp [above, hx]
          rw [e1, e2, List.append_nil]
          exact HR.out.1
        case measure => simp [intOf]; omega
      · rw [decide_eq_false hx] at H1
        go_wp2_with fail
        generalize wr.alloc (.cells #[.int .i64 x0, .int .i64 x1] 84) = w1 at *
        refine (Calls.mono H1.out) ?_
        rintro e w2 ⟨rfl, b2⟩
        have y0 := cell_later b2 n0
        have y1 := cell_later b2 n1
        have bn : Below w2.heap.size w2 (w2.alloc (.cells #[.int .i64 x0, .int .i64 x1] 84)) := (Below.refl _ _).alloc (Nat.le_refl _) _
        have HN : Hid _ := And.intro ((HG.out.1.later b2).later bn) (And.intro (Blk.new' w2 84 [.int .i64 x0, .int .i64 x1]) HG.out.2.2)
        clear b2 bn HG H1 n0 n1
        go_wp2_with (at_builtin; refine wpList_append_pair 77 84 Try.underlying77 info_read _ rfl _ _ rfl _ (above r (l.take k)) rfl (by rw [← hfv]; exact HN.out.1.l) w2.heap.size x0 x1 rfl HN.out.2.1 HN.out.2.2.2.2.2 ?_)
        intro v' w5 ho5 hg5 hor5
        have R := HN.out.1.putL ho5 (by rw [hfv]; exact hg5) (by rw [hfv, World.size_alloc]; exact hor5)
        obtain ⟨a', c', hv', -, -⟩ := ho5.open
        have HR : Hid _ := And.intro R (And.intro HN.out.2.2.1 HN.out.2.2.2.1)
        clear R ho5 hg5 hor5 HN
        rw [hv']
        go_wp2
        go_roundw
        case rel =>
          refine ⟨k + 1, by go_num, by omega, ?_⟩
          rw [HR.out.2.1, HR.out.2.2, ← hv', ← htv]
          have e1 : upto r [(x0, x1)] = [] := by simp [upto]; omega
          have e2 : above r [(x0, x1)] = [(x0, x1)] := by simp [above]; omega
          rw [e1, e2, List.append_nil]
          exact HR.out.1
        case measure => simp [intOf]; omega
    · obtain rfl : k = l.length := by omega
      rw [List.take_length] at hI htv hfv
      obtain ⟨h, hq, hG, hv⟩ := HA.out.2.2
      have hlq : ∀ b, v.ownBlock = some b → b < w.heap.size := fun b hb => h.lt b (.inl (by rw [hq] at hb; simp [rdOb, qu, hb]))
      have P : Put2 81 84 g q [] l w wr v u6 (above r l) := ⟨h, hq, hG, (turned_below hI.below).mono (fun _ h => h.elim), hI.l, fun b hb => .inr (hI.ln b hb)⟩
      obtain ⟨cc, cf⟩ := P.cell
      simp only [List.length_nil] at cc cf
      have hset : ∀ b, u5.ownBlock = some b → b ≠ g := fun b hb e => by have := hI.tn b hb; have := hG.lt; omega
      have HF : Hid _ := And.intro P.done (And.intro (hI.t.same (w' := wr.setCell ⟨g, 0, none⟩ u6) (fun b hb => Below.heap_setCell _ _ _ _ (hset b hb))) (fun b hb => (⟨hI.tn b hb, hI.ap b hb⟩ : w.heap.size ≤ b ∧ u6.ownBlock ≠ some b)))
      clear P hI h hG hset hlq
      have HV : Hid _ := And.intro htv hfv
      rw [hfv] at HF
      rw [htv, hfv]
      rw [hv] at cc
      clear hq
      go_wp2
      go_ret
      refine ⟨_, _, rfl, ?_, ?_, HF.out.1⟩
      · rw [← htv]; exact HF.out.2.1
      · rw [← htv]; exact HF.out.2.2
end Go.Proofs.Ytjelbekjmfnenaa
