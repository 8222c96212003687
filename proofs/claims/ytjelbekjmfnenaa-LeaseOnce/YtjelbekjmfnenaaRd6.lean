/- The document's reads. -/
import Derived.Test.YtjelbekjmfnenaaRd5
namespace Go.Proofs.Ytjelbekjmfnenaa
open Go.RowKit Go.Shelf
set_option linter.unusedVariables false
set_option linter.unusedSimpArgs false
set_option maxRecDepth 4000

def rqOb (g : Nat) (q : Option Nat) (l : List (Int × Int)) : Ob := qu 47 88 g q [] l
theorem info_wait : (Try.prog.info? 88).map (fun i => (i.zero, i.size, i.bytes)) = some (some (.agg #[.int .i64 0, .int .i64 0]), 2, 16) := by kernel_rfl
set_option maxHeartbeats 2000000 in
theorem rqAsk_any (g : Nat) (q : Option Nat) (l : List (Int × Int)) (a b : Int) (w : World) (h : (rqOb g q l).Ok w) (hl : l.length ≤ 100) :
    Calls Try.prog 21 #[.pointer (some ⟨g, 0, none⟩), .int .i64 a, .int .i64 b] w fun e w' => ∃ q', e = .returned (.int .i64 (askE l a b)) ∧ Step w w' (rqOb g q l) (rqOb g q' (askTo l a b)) := by
  by_cases h0 : b < 0
  · have e1 : askE l a b = 1 := if_pos h0
    have e2 : askTo l a b = l := by unfold askTo; rw [e1]; rfl
    rw [e1, e2]
    have F : Hid _ := Step.refl h
    clear e1 e2 h
    go_enter Try.func21, Try.ntmps21
    go_wp2
    go_ret
    first | exact ⟨_, rfl, F.out⟩ | exact ⟨rfl, _, F.out⟩
  · obtain ⟨hn, v, hq, hG, ho⟩ := id h.holds
    have c0 := blk_at hG 0
    simp at c0
    obtain ⟨va, vc, hv, hvc, hcs⟩ := ho.open
    have HV : Hid _ := hv
    have HC : Hid _ := And.intro hcs (And.intro h (And.intro hq (And.intro hG ho)))
    rw [hv] at c0
    clear hcs h hq hG ho
    go_enter Try.func21, Try.ntmps21
    go_wp2_with fail
    go_loopw [7] (fun iv wr => ∃ (k : Nat), iv = .int .i64 k ∧ k ≤ l.length ∧ (∀ x ∈ l.take k, ¬ x.1 = a) ∧ w = wr) (fun iv _ => l.length - (intOf iv).toNat)
    case atStart => exact ⟨0, rfl, by omega, by simp, rfl⟩
    case round =>
      obtain ⟨k, rfl, hk, hno, rfl⟩ := hrel
      by_cases hlt : k < l.length
      · obtain ⟨b1, rfl, -, k1, -⟩ := HC.out.1 k hlt
        have q1 : (k : Int) < l.length := by omega
        have hsn : l.take (k + 1) = l.take k ++ [l[k]] := List.take_succ_eq_append_getElem hlt
        have hm : l[k] ∈ l := List.getElem_mem _
        generalize l[k] = x at *
        have G : Hid _ := And.intro hno (And.intro hsn hm)
        clear hno hsn hm
        by_cases hx : x.1 = a
        · have HE : Hid _ := (by unfold askE; rw [if_neg (show ¬ b < 0 by omega), if_pos (show hasId l a = true from List.any_eq_true.2 ⟨x, G.out.2.2, by simpa using hx⟩)] : askE l a b = 5)
          have HT : Hid _ := (by unfold askTo; rw [HE.out]; rfl : askTo l a b = l)
          have F : Hid _ := Step.refl HC.out.2.1
          rw [hx] at k1
          clear hx G
          go_wp2
          go_ret
          rw [HE.out, HT.out]
          first | exact ⟨_, rfl, F.out⟩ | exact ⟨rfl, _, F.out⟩
        · have F2 : Hid (∀ y ∈ l.take (k + 1), ¬ y.1 = a) := by
            rw [G.out.2.1]
            intro y hy
            rcases List.mem_append.1 hy with hy | hy
            · exact G.out.1 y hy
            · rw [List.mem_singleton.1 hy]; exact hx
          clear G
          go_wp2
          go_roundw
          case rel => exact ⟨k + 1, by go_num, by omega, F2.out, by first | rfl | trivial⟩
          case measure => simp [intOf]; omega
      · obtain rfl : k = l.length := by omega
        have hna : ¬ hasId l a = true := fun e => by
          obtain ⟨x, hx, hxa⟩ := List.any_eq_true.1 e
          exact hno x (by simpa using hx) (by simpa using hxa)
        by_cases hf : 100 ≤ l.length
        · have HE : Hid _ := (by unfold askE; rw [if_neg (show ¬ b < 0 by omega), if_neg hna, if_pos hf] : askE l a b = 4)
          have HT : Hid _ := (by unfold askTo; rw [HE.out]; rfl : askTo l a b = l)
          have F : Hid _ := Step.refl HC.out.2.1
          have q1 : (100 : Int) ≤ l.length := by omega
          clear hno hna
          go_wp2
          go_ret
          rw [HE.out, HT.out]
          first | exact ⟨_, rfl, F.out⟩ | exact ⟨rfl, _, F.out⟩
        · have HE : Hid _ := (by unfold askE; rw [if_neg (show ¬ b < 0 by omega), if_neg hna, if_neg hf] : askE l a b = 0)
          have HT : Hid _ := (by unfold askTo; rw [if_pos HE.out] : askTo l a b = l ++ [(a, b)])
          have q1 : ¬ (100 : Int) ≤ l.length := by omega
          have bn : Below w.heap.size w (w.alloc (.cells #[.int .i64 a, .int .i64 b] 88)) := (Below.refl _ _).alloc (Nat.le_refl _) _
          have HN : Hid _ := And.intro (HC.out.2.2.2.2.later bn) (And.intro (Blk.new' w 88 [.int .i64 a, .int .i64 b]) bn)
          clear hno hna bn
          go_wp2_with (at_builtin; refine wpList_append_pair 45 88 Try.underlying45 info_wait _ rfl _ _ rfl _ l rfl (by rw [← HV.out]; exact HN.out.1) w.heap.size a b rfl HN.out.2.1 (by omega) ?_)
          intro v' w5 ho5 hg5 hor5
          rw [← HV.out] at hg5 hor5
          obtain ⟨hcs, h, hq, hG, ho⟩ := HC.out
          have P : Put2 47 88 g q [] l w w5 v v' (l ++ [(a, b)]) := by
            refine ⟨h, hq, hG, ((turned_below HN.out.2.2).mono (fun _ h => h.elim)).trans (turned_grown hg5 (fun k e => .inl (by rw [← hq]; exact e))), ho5, fun k hk => ?_⟩
            rcases hor5 with e | e
            · exact .inl (by rw [← hq, ← e]; exact hk)
            · rw [e] at hk; cases hk; exact .inr (by omega)
          obtain ⟨cc, cf⟩ := P.cell
          simp only [List.length_nil] at cc cf
          have F : Hid _ := P.done
          obtain ⟨a', c', hv', -, -⟩ := ho5.open
          rw [List.length_append, List.length_singleton] at hv'
          rw [HV.out] at cc
          subst hv'
          clear P ho5 hg5 hor5 hcs h hq hG ho HN
          go_wp2
          go_ret
          rw [HE.out, HT.out]
          first | exact ⟨_, rfl, F.out⟩ | exact ⟨rfl, _, F.out⟩
/-- numbers and pairs that the call makes -/
structure RfI (E : TypeId) (w wr : World) (vn vl : Value) (ln : List Int) (ll : List (Int × Int)) : Prop where
  n : NOwn wr vn ln
  l : PrOwn E wr vl ll
  nn : ∀ b, vn.ownBlock = some b → w.heap.size ≤ b
  lnew : ∀ b, vl.ownBlock = some b → w.heap.size ≤ b
  ap : ∀ b, vn.ownBlock = some b → vl.ownBlock ≠ some b
  below : Below w.heap.size w wr
section
variable {E : TypeId} {w wr w' : World} {vn vl v' : Value} {ln ln' : List Int} {ll ll' : List (Int × Int)}
theorem RfI.later (h : RfI E w wr vn vl ln ll) (hb : Below wr.heap.size wr w') : RfI E w w' vn vl ln ll := ⟨h.n.later hb, h.l.later hb, h.nn, h.lnew, h.ap, below_then h.below hb⟩
theorem RfI.putN (h : RfI E w wr vn vl ln ll) (ho : NOwn w' v' ln') (hg : wr.grownBy w' vn.ownBlock) (hor : v'.ownBlock = vn.ownBlock ∨ v'.ownBlock = some wr.heap.size) : RfI E w w' v' vl ln' ll := by
  have hz := h.below.size
  refine ⟨ho, h.l.same (fun k hk => hg.block k (h.l.lt k hk) (fun e => h.ap k e.symm hk)), ?_, h.lnew, ?_, h.below.grown hg hz (fun k e => h.nn k e)⟩
  · intro b hb
    rcases hor with e | e
    · exact h.nn b (by rw [← e]; exact hb)
    · rw [e] at hb; cases hb; exact hz
  · intro b hb hl
    rcases hor with e | e
    · exact h.ap b (by rw [← e]; exact hb) hl
    · rw [e] at hb; cases hb; have := h.l.lt _ hl; omega
theorem RfI.putL (h : RfI E w wr vn vl ln ll) (ho : PrOwn E w' v' ll') (hg : wr.grownBy w' vl.ownBlock) (hor : v'.ownBlock = vl.ownBlock ∨ v'.ownBlock = some wr.heap.size) : RfI E w w' vn v' ln ll' := by
  have hz := h.below.size
  refine ⟨h.n.same (fun k hk => hg.block k (h.n.lt k hk) (fun e => h.ap k hk e.symm)), ho, h.nn, ?_, ?_, h.below.grown hg hz (fun k e => h.lnew k e)⟩
  · intro b hb
    rcases hor with e | e
    · exact h.lnew b (by rw [← e]; exact hb)
    · rw [e] at hb; cases hb; exact hz
  · intro b hb hl
    rcases hor with e | e
    · exact h.ap b hb (by rw [← e]; exact hl)
    · rw [e] at hl; cases hl; have := h.n.lt _ hb; omega
end
set_option maxHeartbeats 2000000 in
theorem rqReady_any (g : Nat) (q : Option Nat) (l : List (Int × Int)) (r : Int) (w : World) (h : (rqOb g q l).Ok w) (hl : l.length ≤ 1000) :
    Calls Try.prog 24 #[.pointer (some ⟨g, 0, none⟩), .int .i64 r] w fun e w' => ∃ v q', e = .returned v ∧ NOwn w' v ((upto r l).map (·.1)) ∧ (∀ b, v.ownBlock = some b → w.heap.size ≤ b ∧ q' ≠ some b) ∧ Step w w' (rqOb g q l) (rqOb g q' (above r l)) := by
  obtain ⟨hn, v, hq, hG, ho⟩ := id h.holds
  have c0 := blk_at hG 0
  simp at c0
  obtain ⟨va, vc, hv, hvc, hcs⟩ := ho.open
  have HA : Hid _ := And.intro hcs (And.intro h (And.intro hq (And.intro hG hv)))
  rw [hv] at c0
  clear ho hcs h hG hq
  go_enter Try.func24, Try.ntmps24
  go_wp2_with fail
  go_loopw [5, 6, 7] (fun tv lv iv wr => ∃ (k : Nat), iv = .int .i64 k ∧ k ≤ l.length ∧ RfI 88 w wr tv lv ((upto r (l.take k)).map (·.1)) (above r (l.take k))) (fun _ _ iv _ => l.length - (intOf iv).toNat)
  case atStart => exact ⟨0, rfl, by omega, NOwn.nil _, PrOwn.nil _ _, (fun b hb => by cases hb), (fun b hb => by cases hb), (fun b hb => by cases hb), Below.refl _ _⟩
  case round =>
    obtain ⟨k, rfl, hk, hI⟩ := hrel
    obtain ⟨ta, tc, htv, -, -, -⟩ := hI.n.open
    obtain ⟨fa, fc, hfv, -, -⟩ := hI.l.open
    have c0' := cell_later hI.below c0
    by_cases hlt : k < l.length
    · obtain ⟨b, rfl, -, k1, k2⟩ := HA.out.1 k hlt
      have k1' := cell_later hI.below k1
      have k2' := cell_later hI.below k2
      have q1 : (k : Int) < l.length := by omega
      have hup : (upto r (l.take (k + 1))).map (·.1) = (upto r (l.take k)).map (·.1) ++ (upto r [l[k]]).map (·.1) := by unfold upto; rw [List.take_succ_eq_append_getElem hlt, List.filter_append, List.map_append]
      have hab : above r (l.take (k + 1)) = above r (l.take k) ++ above r [l[k]] := by unfold above; rw [List.take_succ_eq_append_getElem hlt, List.filter_append]
      have hul : ((upto r (l.take k)).map (·.1)).length ≤ 1000000 := by have := List.length_filter_le (fun x : Int × Int => decide (x.2 ≤ r)) (l.take k); unfold upto; simp at this ⊢; omega
      have hal : (above r (l.take k)).length ≤ 1000000 := by have := List.length_filter_le (fun x : Int × Int => !decide (x.2 ≤ r)) (l.take k); unfold above; simp at this ⊢; omega
      generalize l[k] = x at *
      obtain ⟨x0, x1⟩ := x
      dsimp only at k1 k2 k1' k2'
      generalize (upto r (l.take k)).map (·.1) = Ut at *
      generalize above r (l.take k) = At at *
      by_cases hx : x1 ≤ r
      · have bn : Below wr.heap.size wr (wr.alloc (.cells #[.int .i64 x0] 2)) := (Below.refl _ _).alloc (Nat.le_refl _) _
        have HN : Hid _ := And.intro (hI.later bn) (And.intro (Blk.new' wr 2 [.int .i64 x0]) (And.intro hup (And.intro hab (And.intro hul hal))))
        clear hI k1 k2 bn hup hab hul hal
        rw [htv, hfv]
        go_wp2_with (at_builtin; refine wpList_append_num _ rfl _ _ rfl _ Ut rfl (by rw [← htv]; exact HN.out.1.n) wr.heap.size x0 rfl HN.out.2.1 HN.out.2.2.2.2.1 ?_)
        intro v' w5 ho5 hg5 hor5
        have R := HN.out.1.putN ho5 (by rw [htv]; exact hg5) (by rw [htv, World.size_alloc]; exact hor5)
        obtain ⟨a', c', hv', -, -, -⟩ := ho5.open
        have HR : Hid _ := And.intro R (And.intro HN.out.2.2.1 HN.out.2.2.2.1)
        clear R ho5 hg5 hor5 HN
        rw [hv']
        go_wp2
        go_roundw
        case rel =>
          refine ⟨k + 1, by go_num, by omega, ?_⟩
          rw [HR.out.2.1, HR.out.2.2, ← hv', ← hfv]
          have e1 : (upto r [(x0, x1)]).map (·.1) = [x0] := by simp [upto, hx]
          have e2 : above r [(x0, x1)] = [] := by simp [above, hx]
          rw [e1, e2, List.append_nil]
          exact HR.out.1
        case measure => simp [intOf]; omega
      · have bn : Below wr.heap.size wr (wr.alloc (.cells #[.int .i64 x0, .int .i64 x1] 88)) := (Below.refl _ _).alloc (Nat.le_refl _) _
        have HN : Hid _ := And.intro (hI.later bn) (And.intro (Blk.new' wr 88 [.int .i64 x0, .int .i64 x1]) (And.intro hup (And.intro hab (And.intro hul hal))))
        clear hI k1 k2 bn hup hab hul hal
        rw [htv, hfv]
        go_wp2_with (at_builtin; refine wpList_append_pair 45 88 Try.underlying45 info_wait _ rfl _ _ rfl _ At rfl (by rw [← hfv]; exact HN.out.1.l) wr.heap.size x0 x1 rfl HN.out.2.1 HN.out.2.2.2.2.2 ?_)
        intro v' w5 ho5 hg5 hor5
        have R := HN.out.1.putL ho5 (by rw [hfv]; exact hg5) (by rw [hfv, World.size_alloc]; exact hor5)
        obtain ⟨a', c', hv', -, -⟩ := ho5.open
        have HR : Hid _ := And.intro R (And.intro HN.out.2.2.1 HN.out.2.2.2.1)
        clear R ho5 hg5 hor5 HN
        rw [hv']
        go_wp2
        go_roundw
        case rel =>
          refine ⟨k + 1, by go_num, by omega, ?_⟩
          rw [HR.out.2.1, HR.out.2.2, ← hv', ← htv]
          have e1 : (upto r [(x0, x1)]).map (·.1) = [] := by simp [upto]; omega
          have e2 : above r [(x0, x1)] = [(x0, x1)] := by simp [above]; omega
          rw [e1, e2, List.append_nil]
          exact HR.out.1
        case measure => simp [intOf]; omega
    · obtain rfl : k = l.length := by omega
      rw [List.take_length] at hI htv hfv
      obtain ⟨h, hq, hG, hv⟩ := HA.out.2
      have P : Put2 47 88 g q [] l w wr v u6 (above r l) := ⟨h, hq, hG, (turned_below hI.below).mono (fun _ h => h.elim), hI.l, fun b hb => .inr (hI.lnew b hb)⟩
      obtain ⟨cc, cf⟩ := P.cell
      simp only [List.length_nil] at cc cf
      have hset : ∀ b, u5.ownBlock = some b → b ≠ g := fun b hb e => by have := hI.nn b hb; have := hG.lt; omega
      have HF : Hid _ := And.intro P.done (And.intro (hI.n.same (w' := wr.setCell ⟨g, 0, none⟩ u6) (fun b hb => Below.heap_setCell _ _ _ _ (hset b hb))) (fun b hb => (⟨hI.nn b hb, hI.ap b hb⟩ : w.heap.size ≤ b ∧ u6.ownBlock ≠ some b)))
      clear P hI h hG hset
      generalize hU : ((upto r l).map (·.1)) = U at *
      rw [hfv] at HF
      rw [htv, hfv]
      rw [hv] at cc
      clear hq
      go_wp2
      go_ret
      rw [hU]
      refine ⟨_, _, rfl, ?_, ?_, HF.out.1⟩
      · rw [← htv]; exact HF.out.2.1
      · rw [← htv]; exact HF.out.2.2
set_option maxHeartbeats 2000000 in
theorem rqDrop_any (g : Nat) (q : Option Nat) (l : List (Int × Int)) (w : World) (h : (rqOb g q l).Ok w) (hl : l.length ≤ 1000) :
    Calls Try.prog 26 #[.pointer (some ⟨g, 0, none⟩)] w fun e w' => ∃ v q', e = .returned v ∧ NOwn w' v (l.map (·.1)) ∧ (∀ b, v.ownBlock = some b → w.heap.size ≤ b ∧ q' ≠ some b) ∧ Step w w' (rqOb g q l) (rqOb g q' []) := by
  obtain ⟨hn, v, hq, hG, ho⟩ := id h.holds
  have c0 := blk_at hG 0
  simp at c0
  obtain ⟨va, vc, hv, hvc, hcs⟩ := ho.open
  have HA : Hid _ := And.intro hcs (And.intro h (And.intro hq (And.intro hG hv)))
  rw [hv] at c0
  clear ho hcs h hG hq
  go_enter Try.func26, Try.ntmps26
  go_wp2_with fail
  go_loopw [3, 4] (fun tv iv wr => ∃ (k : Nat), iv = .int .i64 k ∧ k ≤ l.length ∧ NuI w wr tv ((l.take k).map (·.1))) (fun _ iv _ => l.length - (intOf iv).toNat)
  case atStart => exact ⟨0, rfl, by omega, NOwn.nil _, (fun b hb => by cases hb), Below.refl _ _⟩
  case round =>
    obtain ⟨k, rfl, hk, hI⟩ := hrel
    obtain ⟨ta, tc, htv, -, -, -⟩ := hI.own.open
    have c0' := cell_later hI.below c0
    by_cases hlt : k < l.length
    · obtain ⟨b, rfl, -, k1, -⟩ := HA.out.1 k hlt
      have k1' := cell_later hI.below k1
      have q1 : (k : Int) < l.length := by omega
      have hup : (l.take (k + 1)).map (·.1) = (l.take k).map (·.1) ++ [l[k].1] := by rw [List.take_succ_eq_append_getElem hlt, List.map_append]; rfl
      have hul : ((l.take k).map (·.1)).length ≤ 1000000 := by simp; omega
      generalize l[k].1 = x0 at *
      generalize (l.take k).map (·.1) = Ut at *
      have bn : Below wr.heap.size wr (wr.alloc (.cells #[.int .i64 x0] 2)) := (Below.refl _ _).alloc (Nat.le_refl _) _
      have HN : Hid _ := And.intro (hI.later bn) (And.intro (Blk.new' wr 2 [.int .i64 x0]) (And.intro hup hul))
      clear hI k1 bn hup hul
      rw [htv]
      go_wp2_with (at_builtin; refine wpList_append_num _ rfl _ _ rfl _ Ut rfl (by rw [← htv]; exact HN.out.1.own) wr.heap.size x0 rfl HN.out.2.1 HN.out.2.2.2 ?_)
      intro v' w5 ho5 hg5 hor5
      have R := HN.out.1.put ho5 (by rw [htv]; exact hg5) (by rw [htv, World.size_alloc]; exact hor5)
      obtain ⟨a', c', hv', -, -, -⟩ := ho5.open
      have HR : Hid _ := And.intro R HN.out.2.2.1
      clear R ho5 hg5 hor5 HN
      rw [hv']
      go_wp2
      go_roundw
      case rel => exact ⟨k + 1, by go_num, by omega, by rw [HR.out.2, ← hv']; exact HR.out.1⟩
      case measure => simp [intOf]; omega
    · obtain rfl : k = l.length := by omega
      rw [List.take_length] at hI htv
      obtain ⟨h, hq, hG, hv⟩ := HA.out.2
      have P : Put2 47 88 g q [] l w wr v (.slice none 0 0) [] := ⟨h, hq, hG, (turned_below hI.below).mono (fun _ h => h.elim), PrOwn.nil _ _, (fun b hb => by cases hb)⟩
      obtain ⟨cc, cf⟩ := P.cell
      simp only [List.length_nil] at cc cf
      have hset : ∀ b, u3.ownBlock = some b → b ≠ g := fun b hb e => by have := hI.new b hb; have := hG.lt; omega
      have HF : Hid _ := And.intro P.done (And.intro (hI.own.same (w' := wr.setCell ⟨g, 0, none⟩ (.slice none 0 0)) (fun b hb => Below.heap_setCell _ _ _ _ (hset b hb))) (fun b hb => (⟨hI.new b hb, by simp⟩ : w.heap.size ≤ b ∧ (none : Option Nat) ≠ some b)))
      clear P hI h hG hset
      generalize hU : (l.map (·.1)) = U at *
      rw [htv]
      rw [hv] at cc
      clear hq
      go_wp2
      go_ret
      rw [hU]
      refine ⟨_, _, rfl, ?_, ?_, HF.out.1⟩
      · rw [← htv]; exact HF.out.2.1
      · rw [← htv]; exact HF.out.2.2
end Go.Proofs.Ytjelbekjmfnenaa
