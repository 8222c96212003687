/- Lists of numbers of the call's own; reads that are told. -/
import Derived.Test.YtjelbekjmfnenaaRd2
namespace Go.Proofs.Ytjelbekjmfnenaa
open Go.RowKit Go.Shelf
set_option linter.unusedVariables false
set_option linter.unusedSimpArgs false
set_option maxRecDepth 4000

def ncells (l : List Int) : List Value := l.map fun c => .int .i64 c
theorem ncells_append (a b : List Int) : ncells (a ++ b) = ncells a ++ ncells b := List.map_append
theorem ncells_at (l : List Int) (i : Nat) (h : i < l.length) : (ncells l)[i]? = some (.int .i64 l[i]) := by unfold ncells; rw [List.getElem?_map, List.getElem?_eq_getElem h]; rfl
/-- numbers of the call's own -/
def NOwn (w : World) (v : Value) (l : List Int) : Prop := w.ownsRow 0 2 1 v l.length (ncells l)
theorem NOwn.nil (w : World) : NOwn w (.slice none 0 0) [] := World.ownsRow_nil w 0 _ 1
theorem NOwn.same {w w' : World} {v : Value} {l : List Int} (h : NOwn w v l) (hb : ∀ k, v.ownBlock = some k → w'.heap[k]? = w.heap[k]?) : NOwn w' v l := ownsRow_same h hb
theorem NOwn.lt {w : World} {v : Value} {l : List Int} (h : NOwn w v l) (k : Nat) (hk : v.ownBlock = some k) : k < w.heap.size := (World.ownsRow.lt h k hk).2
theorem NOwn.later {w w' : World} {v : Value} {l : List Int} (h : NOwn w v l) (hb : Below w.heap.size w w') : NOwn w' v l := h.same (fun k hk => hb.block k (h.lt k hk))
theorem NOwn.open {w : World} {v : Value} {l : List Int} (h : NOwn w v l) : ∃ a c, v = .slice a l.length c ∧ l.length ≤ c ∧ (∀ i (hi : i < l.length), ∃ b, a = some ⟨b, 0, none⟩ ∧ v.ownBlock = some b ∧ w.cell? ⟨b, i, none⟩ = some (.int .i64 l[i])) ∧ c ≤ maxLen := by
  have h0 := h
  obtain ⟨h1, ⟨h2, h3⟩ | ⟨g, cap, cur, rfl, hb, hh, hc, hm, hs, ht⟩⟩ := h
  · exact ⟨none, 0, by rw [h2, h3], by omega, (fun i hi => by omega), by simp⟩
  · refine ⟨_, cap, rfl, hc, fun i hi => ⟨g, rfl, rfl, ?_⟩, hm⟩
    rw [World.ownsRow.cellAt h0 _ (by omega)]; exact ncells_at l i hi
theorem info_n64 : (Try.prog.info? 2).map (fun i => (i.zero, i.size, i.bytes)) = some (some (.int .i64 0), 1, 8) := by kernel_rfl
theorem wpList_append_num (w : World) {ops : Array Oper} {rest : List Oper} {o : Oper} {a : Act} {Q : Exit → Act → World → Prop} (hg : o.guard = none) (s x : Operand)
    (ho : o.op = .call { callee := .builtin .append, args := #[s, x], argTypes := #[33, 33] }) (v : Value) (l : List Int) (hs : a.eval s = v) (hown : NOwn w v l)
    (k : Nat) (u : Int) (hx : a.eval x = .slice (some ⟨k, 0, none⟩) 1 1) (hB : Blk w k 2 [.int .i64 u]) (hmax : l.length ≤ 1000000)
    (next : ∀ (v' : Value) (w' : World), NOwn w' v' (l ++ [u]) → w.grownBy w' v.ownBlock → (v'.ownBlock = v.ownBlock ∨ v'.ownBlock = some w.heap.size) → wpList Try.prog ops Q rest (a.put o.dst v') w') : wpList Try.prog ops Q (o :: rest) a w := by
  obtain ⟨i0, hi, hz0, hz1, hz2⟩ := info_parts info_n64
  have c0 := blk_at hB 0
  simp at c0
  refine wpList_append_own_at (w := w) hg s x 33 ho 0 2 i0 (.int .i64 0) 1 8 Try.underlying33 hi hz0 hz1 hz2 rfl (by decide) v l.length (ncells l) hs hown ⟨k, 0, none⟩ 1 1 [.int .i64 u] hx rfl
    (fun j y hj => by
      match j, hj with
      | 0, hj => simp at hj; subst hj; simpa [Addr.add] using c0)
    (fun y hy => by simp at hy; subst hy; rfl) (by unfold maxLen; omega) (by omega) (Nat.zero_le _) ?_
  intro v' w' h2 h3 _ h5
  refine next v' w' ?_ h3 h5
  unfold NOwn
  rw [List.length_append, ncells_append]
  exact h2
/-- a list of numbers, as an object -/
def nuOb (v : Value) (l : List Int) : Ob := ⟨v.ownBlock.toList, [], fun w => NOwn w v l⟩
theorem nuOb_ok {w : World} {v : Value} {l : List Int} (h : NOwn w v l) : (nuOb v l).Ok w :=
  ⟨h, (fun k hk => by rcases hk with hk | hk; exact h.lt k (by simpa [nuOb] using hk); cases hk), (fun k _ hv => by cases hv), fun w1 w2 hs h => NOwn.same h (fun k hk => hs k (.inl (by simp [nuOb, hk])))⟩
/-- a list of the call's own that grows, while nothing else turns -/
structure NuI (w wr : World) (v : Value) (l : List Int) : Prop where
  own : NOwn wr v l
  new : ∀ b, v.ownBlock = some b → w.heap.size ≤ b
  below : Below w.heap.size w wr
theorem NuI.later {w wr w' : World} {v : Value} {l : List Int} (h : NuI w wr v l) (hb : Below wr.heap.size wr w') : NuI w w' v l := ⟨h.own.later hb, h.new, below_then h.below hb⟩
theorem NuI.put {w wr w' : World} {v v' : Value} {l l' : List Int} (h : NuI w wr v l) (ho : NOwn w' v' l') (hg : wr.grownBy w' v.ownBlock) (hor : v'.ownBlock = v.ownBlock ∨ v'.ownBlock = some wr.heap.size) : NuI w w' v' l' :=
  ⟨ho, fun b hb => by
    rcases hor with e | e
    · exact h.new b (by rw [← e]; exact hb)
    · rw [e] at hb; cases hb; exact h.below.size, h.below.grown hg h.below.size (fun k e => h.new k e)⟩
theorem rdtake_nil (r : Int) (w : World) : Calls Try.prog 46 #[.pointer none, .int .i64 r] w fun e w' => e = .returned (.slice none 0 0) ∧ Below w.heap.size w w' := by
  have b1 : Below w.heap.size w (w.alloc (.cells #[.int .i64 r] 2)) := (Below.refl _ _).alloc (Nat.le_refl _) _
  have F : Hid _ := b1
  clear b1
  go_enter Try.func46, Try.ntmps46
  go_wp2
  go_ret
  exact ⟨rfl, F.out⟩
set_option maxHeartbeats 2000000 in
theorem rdtake_any (g : Nat) (q : Option Nat) (l : List (Int × Int)) (r : Int) (w : World) (h : (rdOb g q l).Ok w) (hl : l.length ≤ 1000) :
    Calls Try.prog 46 #[.pointer (some ⟨g, 0, none⟩), .int .i64 r] w fun e w' => ∃ v q', e = .returned v ∧ NOwn w' v ((upto r l).map (·.1)) ∧ (∀ b, v.ownBlock = some b → w.heap.size ≤ b ∧ q' ≠ some b) ∧ Step w w' (rdOb g q l) (rdOb g q' (above r l)) := by
  have b1 : Below w.heap.size w (w.alloc (.cells #[.int .i64 r] 2)) := (Below.refl _ _).alloc (Nat.le_refl _) _
  have B1 := Blk.new' w 2 [.int .i64 r]
  have HT : Hid _ := rdqtake_any g q l w.heap.size r _ (h.later b1) hl B1
  have HB : Hid _ := And.intro b1 h
  have hul : (upto r l).length ≤ 1000 := by have := List.length_filter_le (fun x : Int × Int => decide (x.2 ≤ r)) l; unfold upto; omega
  clear b1 B1 h
  go_enter Try.func46, Try.ntmps46
  go_wp2_with fail
  generalize w.alloc (.cells #[.int .i64 r] 2) = w1 at *
  refine (Calls.mono HT.out) ?_
  rintro e w2 ⟨v, q', rfl, ho, hfar, st⟩
  obtain ⟨va, vc, hv, hvc, hcs⟩ := ho.open
  generalize hK : upto r l = K at *
  have HO : Hid _ := And.intro hcs (And.intro hfar (And.intro st (And.intro ho hK)))
  clear hcs hfar st HT ho hK
  rw [hv]
  go_wp2_with fail
  go_loopw [5, 16] (fun tv iv wr => ∃ (k : Nat), iv = .int .i64 k ∧ k ≤ K.length ∧ NuI w2 wr tv ((K.take k).map (·.1))) (fun _ iv _ => K.length - (intOf iv).toNat)
  case atStart => exact ⟨0, rfl, by omega, NOwn.nil _, (fun b hb => by cases hb), Below.refl _ _⟩
  case round =>
    obtain ⟨k, rfl, hk, hI⟩ := hrel
    obtain ⟨ta, tc, htv, -, -, -⟩ := hI.own.open
    by_cases hlt : k < K.length
    · obtain ⟨b, rfl, -, k1, k2⟩ := HO.out.1 k hlt
      have k1' := cell_later hI.below k1
      have k2' := cell_later hI.below k2
      have q1 : (k : Int) < K.length := by omega
      have hup : (K.take (k + 1)).map (·.1) = (K.take k).map (·.1) ++ [K[k].1] := by rw [List.take_succ_eq_append_getElem hlt, List.map_append]; rfl
      have hul2 : ((K.take k).map (·.1)).length ≤ 1000000 := by simp; omega
      generalize K[k] = x at *
      obtain ⟨x0, x1⟩ := x
      dsimp only at k1 k2 k1' k2' hup
      generalize (K.take k).map (·.1) = Kt at *
      have bn : Below wr.heap.size wr (wr.alloc (.cells #[.int .i64 x0, .int .i64 x1] 84)) := (Below.refl _ _).alloc (Nat.le_refl _) _
      have N := Blk.new' wr 84 [.int .i64 x0, .int .i64 x1]
      have n0 := blk_at N 0
      simp only [List.getElem?_cons_zero, List.getElem?_cons_succ] at n0
      have bn2 : Below (wr.alloc (.cells #[.int .i64 x0, .int .i64 x1] 84)).heap.size (wr.alloc (.cells #[.int .i64 x0, .int .i64 x1] 84)) ((wr.alloc (.cells #[.int .i64 x0, .int .i64 x1] 84)).alloc (.cells #[.int .i64 x0] 2)) := (Below.refl _ _).alloc (Nat.le_refl _) _
      have HN : Hid _ := And.intro ((hI.later bn).later bn2) (And.intro (Blk.new' (wr.alloc (.cells #[.int .i64 x0, .int .i64 x1] 84)) 2 [.int .i64 x0]) (And.intro hul2 hup))
      clear hI k1 k2 bn N bn2 hul2 hup
      rw [htv]
      go_wp2_with (at_builtin; refine wpList_append_num _ rfl _ _ rfl _ Kt rfl (by rw [← htv]; exact HN.out.1.own) (wr.heap.size + 1) x0 rfl (by have := HN.out.2.1; rw [World.size_alloc] at this; exact this) HN.out.2.2.1 ?_)
      intro v' w5 ho5 hg5 hor5
      have R := HN.out.1.put ho5 (by rw [htv]; exact hg5) (by rw [htv, World.size_alloc, World.size_alloc]; simpa using hor5)
      obtain ⟨a', c', hv', -, -, -⟩ := ho5.open
      have HR : Hid _ := And.intro R HN.out.2.2.2
      clear R ho5 hg5 hor5 HN
      rw [hv']
      go_wp2
      go_roundw
      case rel => exact ⟨k + 1, by go_num, by omega, by rw [HR.out.2, ← hv']; exact HR.out.1⟩
      case measure => simp [intOf]; omega
    · obtain rfl : k = K.length := by omega
      rw [List.take_length] at hI htv
      obtain ⟨hcs, hfar, st, ho, hK⟩ := HO.out
      have hst : Step w wr (rdOb g q l) (rdOb g q' (above r l)) := ((Step.quiet HB.out.2 HB.out.1).trans st).trans (Step.quiet st.ok hI.below)
      have HF : Hid _ := And.intro hI.own (And.intro hst (fun b hb => (⟨Nat.le_trans HB.out.1.size (Nat.le_trans st.turned.size (hI.new b hb)), fun e => by have := st.ok.lt b (.inl (by simp [rdOb, qu, e])); have := hI.new b hb; omega⟩ : w.heap.size ≤ b ∧ q' ≠ some b)))
      clear hI hcs hfar st ho hst
      rw [htv]
      go_wp2
      go_ret
      refine ⟨_, q', rfl, ?_, ?_, HF.out.2.1⟩
      · rw [← htv, hK]; exact HF.out.1
      · rw [← htv]; exact HF.out.2.2
end Go.Proofs.Ytjelbekjmfnenaa
