/- The document's lease: a round is sent. -/
import Derived.Test.YtjelbekjmfnenaaLr1
namespace Go.Proofs.Ytjelbekjmfnenaa
open Go.RowKit Go.Shelf
set_option linter.unusedVariables false
set_option linter.unusedSimpArgs false
set_option maxRecDepth 4000

def rl2 (g : Nat) (q p : Option Nat) (n r : Int) (L M : List Int) : Ob :=
  ⟨g :: (q.toList ++ p.toList), [], fun w => (q ≠ some g ∧ p ≠ some g ∧ ∀ b, q = some b → p ≠ some b) ∧ ∃ v u, Blk w g 35 [.int .i64 n, .int .i64 r, v, u] ∧ NSl w v q L ∧ NSl w u p M⟩
theorem rl2_eq (g : Nat) (q p : Option Nat) (n r : Int) (l : List (Int × Int)) : rlOb g q p n r l = rl2 g q p n r (l.map (·.1)) (l.map (·.2)) := rfl
section
variable {g : Nat} {q p q' : Option Nat} {n r : Int} {L M L' : List Int} {w w5 : World} {v u v' : Value}
theorem rl2_stable (g : Nat) (q p : Option Nat) (n r : Int) (L M : List Int) (w1 w2 : World) (hb : ∀ k, k ∈ (rl2 g q p n r L M).W ∨ k ∈ (rl2 g q p n r L M).V → w2.heap[k]? = w1.heap[k]?) (h : (rl2 g q p n r L M).P w1) : (rl2 g q p n r L M).P w2 := by
  obtain ⟨hn, v, u, h1, h2, h3⟩ := h
  refine ⟨hn, v, u, ?_, h2.same (fun k hk => hb k (.inl (by simp [rl2, hk]))), h3.same (fun k hk => hb k (.inl (by simp [rl2, hk])))⟩
  unfold Blk at *; rw [hb g (.inl (by simp [rl2]))]; exact h1
/-- the rounds anew -/
theorem rl2_put1 (h : (rl2 g q p n r L M).Ok w) (hB : Blk w g 35 [.int .i64 n, .int .i64 r, v, u]) (hu : NSl w u p M) (ht : Turned (fun k => q = some k) w w5) (ho : NSl w5 v' q' L') (hor : ∀ b, q' = some b → q = some b ∨ w.heap.size ≤ b) :
    (w5.cell? ⟨g, 2, none⟩ = some v ∧ w5.frozen? ⟨g, 2, none⟩ = false) ∧ Blk (w5.setCell ⟨g, 2, none⟩ v') g 35 [.int .i64 n, .int .i64 r, v', u] ∧ NSl (w5.setCell ⟨g, 2, none⟩ v') v' q' L' ∧ NSl (w5.setCell ⟨g, 2, none⟩ v') u p M ∧ Step w (w5.setCell ⟨g, 2, none⟩ v') (rl2 g q p n r L M) (rl2 g q' p n r L' M) := by
  obtain ⟨⟨hn1, hn2, hn3⟩, -⟩ := h.holds
  have B5 := hB.turned ht hn1
  have lg := hB.lt
  have z5 := ht.size
  have hset : ∀ k, k ≠ g → (w5.setCell ⟨g, 2, none⟩ v').heap[k]? = w5.heap[k]? := fun k hk => Below.heap_setCell _ _ _ _ hk
  have hsz : (w5.setCell ⟨g, 2, none⟩ v').heap.size = w5.heap.size := by simp [World.setCell]
  have hne : ∀ k, q' = some k → k ≠ g := by
    intro k hk e
    subst e
    rcases hor k hk with e | e
    · exact hn1 e
    · omega
  have hpl : ∀ b, p = some b → b < w.heap.size := fun b hb => hu.lt b hb
  have hpn : ∀ b, q' = some b → p ≠ some b := fun b hb hp => by
    rcases hor b hb with e | e
    · exact hn3 b e hp
    · have := hpl b hp; omega
  have B6 := B5.set 2 v'
  simp only [List.set_cons_zero, List.set_cons_succ] at B6
  have ho6 := ho.same (w' := w5.setCell ⟨g, 2, none⟩ v') (fun k hk => hset k (hne k hk))
  have hu6 : NSl (w5.setCell ⟨g, 2, none⟩ v') u p M := hu.same (fun k hk => by rw [hset k (fun e => hn2 (by rw [← e]; exact hk)), ht.block k (hpl k hk) (fun e => hn3 k e hk)])
  refine ⟨⟨by rw [blk_at B5]; rfl, blk_frozen B5 _⟩, B6, ho6, hu6, step_of ⟨ht.os, ht.tape, ht.output, by omega, ?_⟩ ⟨⟨fun e => hne g e rfl, hn2, hpn⟩, v', u, B6, ho6, hu6⟩ (rl2_stable g _ p n r L' M) ?_ (fun k hk => by cases hk) (fun k _ hv => by cases hv)⟩
  · intro k hk hn'
    simp only [rl2, List.mem_cons, List.mem_append, Option.mem_toList, not_or] at hn'
    rw [hset k hn'.1, ht.block k hk hn'.2.1]
  · intro k hk
    simp only [rl2, List.mem_cons, List.mem_append, Option.mem_toList] at hk ⊢
    rw [hsz]
    rcases hk with rfl | hk | hk
    · exact ⟨.inl (.inl rfl), by omega⟩
    · refine ⟨?_, ho.lt k hk⟩
      rcases hor k hk with e | e
      · exact .inl (.inr (.inl e))
      · exact .inr e
    · exact ⟨.inl (.inr (.inr hk)), by have := hpl k hk; omega⟩
/-- the times anew -/
theorem rl2_put2 {p' : Option Nat} {M' : List Int} {u' : Value} (h : (rl2 g q p n r L M).Ok w) (hB : Blk w g 35 [.int .i64 n, .int .i64 r, v, u]) (hv : NSl w v q L) (ht : Turned (fun k => p = some k) w w5) (ho : NSl w5 u' p' M') (hor : ∀ b, p' = some b → p = some b ∨ w.heap.size ≤ b) :
    (w5.cell? ⟨g, 3, none⟩ = some u ∧ w5.frozen? ⟨g, 3, none⟩ = false) ∧ Blk (w5.setCell ⟨g, 3, none⟩ u') g 35 [.int .i64 n, .int .i64 r, v, u'] ∧ NSl (w5.setCell ⟨g, 3, none⟩ u') v q L ∧ NSl (w5.setCell ⟨g, 3, none⟩ u') u' p' M' ∧ Step w (w5.setCell ⟨g, 3, none⟩ u') (rl2 g q p n r L M) (rl2 g q p' n r L M') := by
  obtain ⟨⟨hn1, hn2, hn3⟩, -⟩ := h.holds
  have B5 := hB.turned ht hn2
  have lg := hB.lt
  have z5 := ht.size
  have hset : ∀ k, k ≠ g → (w5.setCell ⟨g, 3, none⟩ u').heap[k]? = w5.heap[k]? := fun k hk => Below.heap_setCell _ _ _ _ hk
  have hsz : (w5.setCell ⟨g, 3, none⟩ u').heap.size = w5.heap.size := by simp [World.setCell]
  have hne : ∀ k, p' = some k → k ≠ g := by
    intro k hk e
    subst e
    rcases hor k hk with e | e
    · exact hn2 e
    · omega
  have hql : ∀ b, q = some b → b < w.heap.size := fun b hb => hv.lt b hb
  have hpn : ∀ b, q = some b → p' ≠ some b := fun b hb hp => by
    rcases hor b hp with e | e
    · exact hn3 b hb e
    · have := hql b hb; omega
  have B6 := B5.set 3 u'
  simp only [List.set_cons_zero, List.set_cons_succ] at B6
  have ho6 := ho.same (w' := w5.setCell ⟨g, 3, none⟩ u') (fun k hk => hset k (hne k hk))
  have hv6 : NSl (w5.setCell ⟨g, 3, none⟩ u') v q L := hv.same (fun k hk => by rw [hset k (fun e => hn1 (by rw [← e]; exact hk)), ht.block k (hql k hk) (fun e => hn3 k hk e)])
  refine ⟨⟨by rw [blk_at B5]; rfl, blk_frozen B5 _⟩, B6, hv6, ho6, step_of ⟨ht.os, ht.tape, ht.output, by omega, ?_⟩ ⟨⟨hn1, fun e => hne g e rfl, hpn⟩, v, u', B6, hv6, ho6⟩ (rl2_stable g q _ n r L M') ?_ (fun k hk => by cases hk) (fun k _ hv => by cases hv)⟩
  · intro k hk hn'
    simp only [rl2, List.mem_cons, List.mem_append, Option.mem_toList, not_or] at hn'
    rw [hset k hn'.1, ht.block k hk hn'.2.2]
  · intro k hk
    simp only [rl2, List.mem_cons, List.mem_append, Option.mem_toList] at hk ⊢
    rw [hsz]
    rcases hk with rfl | hk | hk
    · exact ⟨.inl (.inl rfl), by omega⟩
    · exact ⟨.inl (.inr (.inl hk)), by have := hql k hk; omega⟩
    · refine ⟨?_, ho.lt k hk⟩
      rcases hor k hk with e | e
      · exact .inl (.inr (.inr e))
      · exact .inr e
end
theorem turned_refl (R : Nat → Prop) (w : World) : Turned R w w := ⟨rfl, rfl, rfl, Nat.le_refl _, fun _ _ _ => rfl⟩
theorem sent_last {s : Int} {l : List (Int × Int)} (h : LsWf s l) (hne : l ≠ []) (hpos : l.length - 1 < l.length) : lastOf l 1152921504606846976 = l[l.length - 1] ∧ ¬ lastOf l 1152921504606846976 = (0, 0) := by
  have e := lastOf_all (r := 1152921504606846976) (fun x hx => (h.each x hx).2.1) hne
  rw [List.getLast_eq_getElem] at e
  refine ⟨e, fun e0 => ?_⟩
  rw [e0] at e
  have := h.each _ (List.getElem_mem hpos)
  rw [← e] at this
  simp at this
set_option maxHeartbeats 4000000 in
theorem rlSent_any (g : Nat) (q p : Option Nat) (n r : Int) (l : List (Int × Int)) (a b : Int) (w : World) (h : (rlOb g q p n r l).Ok w) (hw : LsWf (n - 2 * r) l) :
    Calls Try.prog 13 #[.pointer (some ⟨g, 0, none⟩), .int .i64 a, .int .i64 b] w fun e w' => ∃ q' p', e = .returned (.int .i64 (sentE l a b)) ∧ Step w w' (rlOb g q p n r l) (rlOb g q' p' n r (sentTo l a b)) := by
  by_cases hb : sentBad a b
  · have e1 : sentE l a b = 1 := if_pos hb
    have e2 : sentTo l a b = l := by unfold sentTo; rw [e1]; rfl
    rw [e1, e2]
    have F : Hid _ := Step.refl h
    clear h hw e1 e2
    have hc : a < 1 ∨ (¬ a < 1 ∧ a > 1152921504606846976) ∨ (¬ a < 1 ∧ ¬ a > 1152921504606846976 ∧ b < 0) ∨ (¬ a < 1 ∧ ¬ a > 1152921504606846976 ∧ ¬ b < 0 ∧ b > 1099511627776) := by unfold sentBad at hb; omega
    clear hb
    rcases hc with h1 | ⟨h1, h2⟩ | ⟨h1, h2, h3⟩ | ⟨h1, h2, h3, h4⟩
    all_goals
      go_enter Try.func13, Try.ntmps13
      go_wp2
      go_ret
      first | exact ⟨_, _, rfl, F.out⟩ | exact ⟨rfl, _, _, F.out⟩
  · have hnb : ¬ a < 1 ∧ ¬ a > 1152921504606846976 ∧ ¬ b < 0 ∧ ¬ b > 1099511627776 := by unfold sentBad at hb; omega
    obtain ⟨n1, n2, n3, n4⟩ := hnb
    obtain ⟨⟨hn1, hn2, hn3⟩, v, u, hG, hv, hu⟩ := id h.holds
    have c2 := blk_at hG 2
    have c3 := blk_at hG 3
    simp at c2 c3
    obtain ⟨va, vc, hva, hvc, hvm, hcs⟩ := hv.open
    obtain ⟨ua, uc, hua, huc, hum, hds⟩ := hu.open
    have HV : Hid _ := And.intro hva hua
    rw [List.length_map] at hva hvc hua huc
    simp only [List.length_map, List.getElem_map] at hcs hds
    have HE : Hid _ := hb
    have HO : Hid _ := And.intro h (And.intro hG (And.intro hv (And.intro hu hw)))
    have hfull := hw.full
    rw [hva] at c2
    rw [hua] at c3
    by_cases hr : l ≠ [] ∧ (a ≤ (lastOf l 1152921504606846976).1 ∨ b < (lastOf l 1152921504606846976).2)
    · have hpos : 0 < l.length := List.length_pos_iff.2 hr.1
      obtain ⟨hla, hnz⟩ := sent_last hw hr.1 (by omega)
      have e1 : sentE l a b = 5 := by unfold sentE; rw [if_neg hb, if_pos ⟨hnz, hr.2⟩]
      have e2 : sentTo l a b = l := by unfold sentTo; rw [e1]; rfl
      rw [e1, e2]
      obtain ⟨b1, o1, rfl, -, k1⟩ := hcs (l.length - 1) (by omega)
      obtain ⟨b2, o2, rfl, -, k2⟩ := hds (l.length - 1) (by omega)
      have hor := hr.2
      rw [hla] at hor
      have F : Hid _ := Step.refl h
      obtain ⟨m, hm⟩ : ∃ m, l.length = m + 1 := ⟨l.length - 1, by omega⟩
      have hidx : l.length - 1 = m := by omega
      simp only [hidx] at k1 k2 hor
      rw [hm] at c2 c3
      have hmb : m ≤ 100 := by omega
      generalize l[m].1 = x0 at *
      generalize l[m].2 = x1 at *
      clear hcs hds h hG hv hu hw hva hua hr hla hnz e1 e2 HO HE hb HV hidx hpos hm
      by_cases h1 : a ≤ x0
      · clear hor
        go_enter Try.func13, Try.ntmps13
        go_wp2
        go_ret
        first | exact ⟨_, _, rfl, F.out⟩ | exact ⟨rfl, _, _, F.out⟩
      · have h2 : b < x1 := by omega
        clear hor
        go_enter Try.func13, Try.ntmps13
        go_wp2
        go_ret
        first | exact ⟨_, _, rfl, F.out⟩ | exact ⟨rfl, _, _, F.out⟩
    · have e1 : sentE l a b = 0 := by
        unfold sentE
        rw [if_neg hb, if_neg (fun e => hr ⟨fun e0 => e.1 (by rw [e0]; rfl), e.2⟩)]
      have HE1 : Hid _ := e1
      have HT : Hid _ := (by unfold sentTo; rw [e1, if_pos rfl] : sentTo l a b = if 100 < l.length + 1 then (l ++ [(a, b)]).drop 1 else l ++ [(a, b)])
      have bn : Below w.heap.size w (w.alloc (.cells #[.int .i64 a] 2)) := (Below.refl _ _).alloc (Nat.le_refl _) _
      obtain ⟨v', w5, q', hr1, ho5, hg5, hor5⟩ := NSl.append (hv.later bn) w.heap.size a (Blk.new' w 2 [.int .i64 a]) (by simp; omega) 33
      have ht5 : Turned (fun k => q = some k) w w5 := ((turned_below bn).mono (fun _ h => h.elim)).trans (turned_grown hg5 (fun k e => .inl e))
      obtain ⟨⟨d2, f2⟩, B6, hv6, hu6, st6⟩ := rl2_put1 (h : (rl2 g q p n r (l.map (·.1)) (l.map (·.2))).Ok w) hG hu ht5 ho5 (fun b hb => by rcases hor5 b hb with e | e; exact .inl e; exact .inr (Nat.le_trans bn.size e))
      have z6 : (w5.setCell ⟨g, 2, none⟩ v').heap.size = w5.heap.size := by simp [World.setCell]
      have bn6 : Below (w5.setCell ⟨g, 2, none⟩ v').heap.size (w5.setCell ⟨g, 2, none⟩ v') ((w5.setCell ⟨g, 2, none⟩ v').alloc (.cells #[.int .i64 b] 2)) := (Below.refl _ _).alloc (Nat.le_refl _) _
      obtain ⟨u', w8, p', hr2, ho8, hg8, hor8⟩ := NSl.append (hu6.later bn6) (w5.setCell ⟨g, 2, none⟩ v').heap.size b (Blk.new' (w5.setCell ⟨g, 2, none⟩ v') 2 [.int .i64 b]) (by simp; omega) 33
      have ht8 : Turned (fun k => p = some k) (w5.setCell ⟨g, 2, none⟩ v') w8 := ((turned_below bn6).mono (fun _ h => h.elim)).trans (turned_grown hg8 (fun k e => .inl e))
      obtain ⟨⟨d3, f3⟩, B9, hv9, hu9, st9⟩ := rl2_put2 st6.ok B6 hv6 ht8 ho8 (fun b hb => by rcases hor8 b hb with e | e; exact .inl e; exact .inr (Nat.le_trans bn6.size e))
      rw [z6] at hr2
      have c63 := blk_at B6 3
      simp at c63
      have hF : Hid _ := And.intro st6 (And.intro st9 (And.intro B9 (And.intro hv9 hu9)))
      have hcase : l.length = 0 ∨ ∃ m : Nat, l.length = m + 1 ∧ ∃ x0 x1 b1 o1 b2 o2, va = some ⟨b1, o1, none⟩ ∧ ua = some ⟨b2, o2, none⟩ ∧ w.cell? ⟨b1, o1 + m, none⟩ = some (.int .i64 x0) ∧ w.cell? ⟨b2, o2 + m, none⟩ = some (.int .i64 x1) ∧ ¬ a ≤ x0 ∧ ¬ b < x1 := by
        by_cases hl0 : l.length = 0
        · exact .inl hl0
        · have hne : l ≠ [] := fun e => hl0 (by rw [e]; rfl)
          obtain ⟨hla, -⟩ := sent_last hw hne (by omega)
          obtain ⟨b1, o1, h1, -, k1⟩ := hcs (l.length - 1) (by omega)
          obtain ⟨b2, o2, h2, -, k2⟩ := hds (l.length - 1) (by omega)
          refine .inr ⟨l.length - 1, by omega, l[l.length - 1].1, l[l.length - 1].2, b1, o1, b2, o2, h1, h2, k1, k2, fun e => hr ⟨hne, .inl (by rw [hla]; exact e)⟩, fun e => hr ⟨hne, .inr (by rw [hla]; exact e)⟩⟩
      obtain ⟨va', vc', hv', hvc', -, -⟩ := hv9.open
      obtain ⟨ua', uc', hu', huc', -, -⟩ := hu9.open
      rw [List.length_append, List.length_map, List.length_singleton] at hv' hu' hvc' huc'
      rw [hva] at d2 hr1
      rw [hua] at c63 hr2 d3
      by_cases hc : 100 < l.length + 1
      · have HT2 : Hid _ := (by rw [HT.out, if_pos hc] : sentTo l a b = (l ++ [(a, b)]).drop 1)
        obtain ⟨vb, vo, vk, hvv, hvk, hvt⟩ := NSl.tail hv9 (by simp)
        rw [hv'] at hvv
        rw [List.length_append, List.length_map, List.length_singleton] at hvv hvk
        rw [List.length_append, List.length_map, List.length_singleton, Nat.add_sub_cancel] at hvt
        obtain ⟨⟨d4, f4⟩, B10, hv10, hu10, st10⟩ := rl2_put1 st9.ok B9 hu9 (turned_refl _ _) hvt (fun b hb => .inl hb)
        obtain ⟨ub, uo, uk, huu, huk, hut⟩ := NSl.tail hu10 (by simp)
        rw [hu'] at huu
        rw [List.length_append, List.length_map, List.length_singleton] at huu huk
        rw [List.length_append, List.length_map, List.length_singleton, Nat.add_sub_cancel] at hut
        obtain ⟨⟨d5, f5⟩, B11, hv11, hu11, st11⟩ := rl2_put2 st10.ok B10 hv10 (turned_refl _ _) hut (fun b hb => .inl hb)
        have HF : Hid _ := (st6.trans st9).trans (st10.trans st11)
        have eL : ((l ++ [(a, b)]).drop 1).map (·.1) = (l.map (·.1) ++ [a]).drop 1 := by rw [List.map_drop, List.map_append]; rfl
        have eM : ((l ++ [(a, b)]).drop 1).map (·.2) = (l.map (·.2) ++ [b]).drop 1 := by rw [List.map_drop, List.map_append]; rfl
        have HEQ : Hid _ := And.intro eL eM
        cases hvv
        cases huu
        have c92 := d4
        have c93 := blk_at B10 3
        simp at c93
        rw [hu'] at c93 d5
        have qc : (100 : Int) ≤ l.length := by omega
        have qv1 : 101 ≤ vc' := by omega
        have qu1 : 101 ≤ uc' := by omega
        subst hv'
        subst hu'
        clear hcs hds hG hv hu hw hr e1 HO HE hb bn hg5 hor5 ht5 B6 hv6 hu6 st6 bn6 hg8 hor8 ht8 B9 hv9 hu9 st9 ho5 ho8 h hvt hut B10 hv10 hu10 st10 B11 hv11 hu11 st11 eL eM hF HT hc hvk huk
        rcases hcase with h0 | ⟨m, hm, x0, x1, b1, o1, b2, o2, rfl, rfl, k1, k2, g1, g2⟩
        · omega
        · have HM : Hid _ := hm
          have hmb : m ≤ 1000 := by omega
          have hmc : (100 : Int) ≤ (m : Int) + 1 := by omega
          rw [hm] at c2 c3 d2 hr1 hr2 c63 d3 c92 c93 d5 f4 f5
          clear qc hfull hva hua d4
          go_enter Try.func13, Try.ntmps13
          go_wp2_with (at_builtin; first | (refine wpList_run_app rfl _ _ _ _ rfl _ _ rfl rfl hr1 ?_; clear hr1) | (refine wpList_run_app rfl _ _ _ _ rfl _ _ rfl rfl hr2 ?_; clear hr2))
          go_wp2
          go_ret
          rw [HE1.out, HT2.out]
          have F := HF.out
          rw [← HEQ.out.1, ← HEQ.out.2, HM.out] at F
          refine ⟨rfl, q', p', ?_⟩
          rw [rl2_eq, rl2_eq]
          exact F
      · have HT2 : Hid _ := (by rw [HT.out, if_neg hc] : sentTo l a b = l ++ [(a, b)])
        have HF : Hid _ := st6.trans st9
        have eL : (l ++ [(a, b)]).map (·.1) = l.map (·.1) ++ [a] := by rw [List.map_append]; rfl
        have eM : (l ++ [(a, b)]).map (·.2) = l.map (·.2) ++ [b] := by rw [List.map_append]; rfl
        have HEQ : Hid _ := And.intro eL eM
        have qc : ¬ (100 : Int) ≤ l.length := by omega
        subst hv'
        subst hu'
        clear hcs hds hG hv hu hw hr e1 HO HE hb bn hg5 hor5 ht5 B6 hv6 hu6 st6 bn6 hg8 hor8 ht8 B9 hv9 hu9 st9 ho5 ho8 h eL eM hF HT
        rcases hcase with h0 | ⟨m, hm, x0, x1, b1, o1, b2, o2, rfl, rfl, k1, k2, g1, g2⟩
        · have HM : Hid _ := h0
          rw [h0] at c2 c3 d2 hr1 hr2 c63 d3
          clear qc hfull hva hua hc
          go_enter Try.func13, Try.ntmps13
          go_wp2_with (at_builtin; first | (refine wpList_run_app rfl _ _ _ _ rfl _ _ rfl rfl hr1 ?_; clear hr1) | (refine wpList_run_app rfl _ _ _ _ rfl _ _ rfl rfl hr2 ?_; clear hr2))
          go_wp2
          go_ret
          rw [HE1.out, HT2.out]
          have F := HF.out
          rw [← HEQ.out.1, ← HEQ.out.2, HM.out] at F
          refine ⟨rfl, q', p', ?_⟩
          rw [rl2_eq, rl2_eq]
          exact F
        · have HM : Hid _ := hm
          have hmb : m ≤ 1000 := by omega
          have hmc : ¬ (100 : Int) ≤ (m : Int) + 1 := by omega
          rw [hm] at c2 c3 d2 hr1 hr2 c63 d3
          clear qc hfull hva hua hc
          go_enter Try.func13, Try.ntmps13
          go_wp2_with (at_builtin; first | (refine wpList_run_app rfl _ _ _ _ rfl _ _ rfl rfl hr1 ?_; clear hr1) | (refine wpList_run_app rfl _ _ _ _ rfl _ _ rfl rfl hr2 ?_; clear hr2))
          go_wp2
          go_ret
          rw [HE1.out, HT2.out]
          have F := HF.out
          rw [← HEQ.out.1, ← HEQ.out.2, HM.out] at F
          refine ⟨rfl, q', p', ?_⟩
          rw [rl2_eq, rl2_eq]
          exact F
end Go.Proofs.Ytjelbekjmfnenaa
