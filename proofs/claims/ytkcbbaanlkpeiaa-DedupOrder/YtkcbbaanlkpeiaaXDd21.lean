/- The first answer goes: slices.Delete. -/
import Derived.Test.YtkcbbaanlkpeiaaXDd20
namespace Go.Proofs.Ytkcbbaanlkpeiaa
open Go.RowKit
set_option linter.unusedVariables false
set_option linter.unusedSimpArgs false
set_option maxRecDepth 4000

theorem zero_ans (w : World) : (zeroValue 90).run Try.prog w = .ok (.agg #[.int .i64 0, .int .i64 0, .string (ByteArray.mk #[])]) w := by
  obtain ⟨i0, hi, hz0, hz1, hz2⟩ := info_parts info_answer
  simp [zeroValue, typeInfo, hi, hz0]
/-- clear of one answer -/
theorem run_clear_ans (w : World) (ty : TypeId) (c g off : Nat) (cur : List Value) (hg : Blk w g 90 cur) (hfit : off + 3 ≤ cur.length) :
    ∃ w', (Builtin.clear_ #[55] ty #[.slice (some ⟨g, off, none⟩) 1 c]).run Try.prog w = .ok (.tuple #[]) w' ∧ Blk w' g 90 (splice cur off [.int .i64 0, .int .i64 0, .string (ByteArray.mk #[])]) ∧ w.grownBy w' (some g) := by
  have hst := run_storeCells_at Try.prog g off 90 [.int .i64 0, .int .i64 0, .string (ByteArray.mk #[])] 0 cur.toArray w hg (by simpa using hfit) (fun v hv => by simp at hv; rcases hv with rfl | rfl | rfl <;> rfl)
  refine ⟨w.setRow g (splice cur off [.int .i64 0, .int .i64 0, .string (ByteArray.mk #[])]).toArray, ?_, setRow_heap w g _ _ 90 _ hg, ⟨rfl, rfl, rfl, by simp [World.setRow], fun k hk hr => setRow_other w g k _ (by intro e; subst e; exact hr rfl)⟩⟩
  have hz : (Builtin.zeroCells (#[.int .i64 0, .int .i64 0, .string (ByteArray.mk #[])] : Array Value) 1).toList = [.int .i64 0, .int .i64 0, .string (ByteArray.mk #[])] := by kernel_rfl
  simp only [Builtin.clear_, run_underlying Try.underlying55, Sem.run_bind, Result.andThen_ok, zero_ans, List.getElem?_toArray, List.getElem?_cons_zero]
  simp only [Value.cells, hz, hst, Result.andThen_ok, Sem.run_pure, Nat.add_zero]
  simp [splice]
theorem cut_ans (cur : List Value) (n k : Nat) (hk : k < n) (hl : n * 3 ≤ cur.length) :
    (splice (splice cur (k * 3) ((cur.take (n * 3)).drop ((k + 1) * 3))) ((n - 1) * 3) [.int .i64 0, .int .i64 0, .string (ByteArray.mk #[])]).take ((n - 1) * 3) = cur.take (k * 3) ++ (cur.take (n * 3)).drop ((k + 1) * 3) := by
  have e1 : ((cur.take (n * 3)).drop ((k + 1) * 3)).length = (n - 1 - k) * 3 := by rw [List.length_drop, List.length_take]; omega
  have e2 : (cur.take (k * 3)).length = k * 3 := by rw [List.length_take]; omega
  generalize hd : (cur.take (n * 3)).drop ((k + 1) * 3) = D at *
  have e3 : (splice cur (k * 3) D).length = cur.length := length_splice _ _ _ (by omega)
  unfold splice at *
  rw [List.take_append_of_le_length (by rw [List.length_take]; omega), List.take_take, Nat.min_self, ← List.append_assoc, List.take_append_of_le_length (by rw [List.length_append]; omega)]
  exact List.take_of_length_le (by rw [List.length_append]; omega)

set_option maxHeartbeats 2000000 in
theorem ddDelete_any (qb r qc k : Nat) (cur : List Value) (w : World) (hB : Blk w qb 90 cur) (hcur : cur.length = qc * 3) (hn : r + 1 ≤ qc) (hn2 : r ≤ 10000) (hk : k ≤ r) (h1 : ∀ u ∈ cur.take ((r + 1) * 3), u.oneCell' = true) :
    Calls Try.prog 81 #[.slice (some ⟨qb, 0, none⟩) (r + 1) qc, .int .i64 k, .int .i64 ((k : Int) + 1)] w fun e w' => e = .returned (.slice (some ⟨qb, 0, none⟩) r qc) ∧
      (∃ cur', Blk w' qb 90 cur' ∧ cur'.length = qc * 3 ∧ cur'.take (r * 3) = cur.take (k * 3) ++ (cur.take ((r + 1) * 3)).drop ((k + 1) * 3)) ∧ w.grownBy w' (some qb) := by
  obtain ⟨i0, hi, hz0, hz1, hz2⟩ := info_parts info_answer
  have hcut := cut_ans cur (r + 1) k (by omega) (by omega)
  rw [Nat.add_sub_cancel] at hcut
  have hlD : ((cur.take ((r + 1) * 3)).drop ((k + 1) * 3)).length = (r - k) * 3 := by rw [List.length_drop, List.length_take]; omega
  have hmD : ∀ u ∈ (cur.take ((r + 1) * 3)).drop ((k + 1) * 3), u.oneCell' = true := fun u hu => h1 u (List.mem_of_mem_drop hu)
  have hcd : ∀ W : World, Blk W qb 90 cur → ∀ j u, ((cur.take ((r + 1) * 3)).drop ((k + 1) * 3))[j]? = some u → W.cell? ⟨qb, (k + 1) * 3 + j, none⟩ = some u := by
    intro W hW j u hj
    have : j < ((cur.take ((r + 1) * 3)).drop ((k + 1) * 3)).length := by
      rcases Nat.lt_or_ge j ((cur.take ((r + 1) * 3)).drop ((k + 1) * 3)).length with h | h
      · exact h
      · rw [List.getElem?_eq_none h] at hj; cases hj
    rw [blk_at hW, ← hj, List.getElem?_drop, List.getElem?_take, if_pos (by omega)]
  generalize (cur.take ((r + 1) * 3)).drop ((k + 1) * 3) = D at *
  have hrun : ∀ (ap : Addr) (m c : Nat), m = r - k → (r - k = 0 ∨ ap = ⟨qb, (k + 1) * 3, none⟩) → (Builtin.append_ #[55, 55] 55 #[.slice (some ⟨qb, 0, none⟩) k qc, .slice (some ap) m c]).run Try.prog w.drew = .ok (.slice (some ⟨qb, 0, none⟩) r qc) (w.drew.setCells qb (k * 3) D) := by
    intro ap m c hm hap
    have := run_append_room_cells (P := Try.prog) w.drew 55 55 90 i0 Try.underlying55 hi qb 0 k qc ap m c D (by rw [hlD, hz1, hm])
      (fun j u hj => by
        rcases hap with h0 | rfl
        · have e0 : D = [] := List.eq_nil_of_length_eq_zero (by rw [hlD, h0])
          rw [e0] at hj; simp at hj
        · rw [Addr.add_lit]; exact hcd w.drew hB j u hj)
      hmD (by omega)
      (fun j hj => by rw [hz1, blk_at (w := w.drew) hB, List.getElem?_eq_getElem (by omega)]; rfl) (fun j hj => blk_frozen (w := w.drew) hB _)
    rw [hz1] at this
    rw [show k + m = r by omega, Nat.zero_add] at this
    exact this
  obtain ⟨B1, g1⟩ := Blk.setCells D (k * 3) w.drew cur hB (by omega)
  have lS : (splice cur (k * 3) D).length = cur.length := length_splice _ _ _ (by omega)
  obtain ⟨w2, hcl, B2, g2⟩ := run_clear_ans (w.drew.setCells qb (k * 3) D) 0 (qc - r) qb (r * 3) _ B1 (by rw [lS]; omega)
  have hgd : w.grownBy w.drew (some qb) := ⟨rfl, rfl, rfl, Nat.le_refl _, fun _ _ _ => rfl⟩
  have HF : Hid _ := And.intro (⟨_, B2, by rw [length_splice _ _ _ (by rw [lS]; simp; omega), lS, hcur], hcut⟩ : ∃ cur', Blk w2 qb 90 cur' ∧ cur'.length = qc * 3 ∧ cur'.take (r * 3) = cur.take (k * 3) ++ D) (grown_trans hgd (grown_trans g1 g2))
  have HR : Hid _ := hrun
  have q1 : (k : Int) ≤ (r : Int) := by omega
  have q2 : (r : Int) + 1 ≤ (qc : Int) := by omega
  have q3 : (r : Int) ≤ 10000 := by omega
  have q6 : (k : Int) ≤ (qc : Int) := by omega
  have q7 : (k : Int) + 1 ≤ (qc : Int) := by omega
  have q8 : (0 : Int) ≤ (k : Int) := by omega
  have q9 : (0 : Int) ≤ (k : Int) + 1 := by omega
  have q5 : (k : Int) + 1 ≤ (r : Int) + 1 := by omega
  generalize w.drew.setCells qb (k * 3) D = w1 at *
  clear hrun hcd B1 g1 B2 g2 hgd lS hlD hB hcur h1 hmD hcut
  by_cases hkc : qc = k + 1
  · obtain rfl : r = k := by omega
    subst hkc
    have H0 : Hid _ := HR.out ⟨qb, 0, none⟩ 0 0 (by omega) (.inl (by omega))
    rw [show r + 1 - r = 1 by omega] at hcl
    have p1 : (r : Int) ≤ (r : Int) + 1 := by omega
    have p2 : (0 : Int) ≤ (r : Int) + 1 := by omega
    clear HR q1 q2 q5 q6 q7
    go_enter Try.func81, Try.ntmps81
    go_wp2_with fail
    go_region_law (refine step_run_app rfl (.tmp 22) (.tmp 25) 55 55 rfl _ _ (by simp [Act.eval]; rfl) (by simp [Act.eval]; rfl) H0.out ?_)
    all_goals
      go_wp2
      go_ret
      exact ⟨rfl, HF.out.1, HF.out.2⟩
  · have H0 : Hid _ := HR.out ⟨qb, (k + 1) * 3, none⟩ (r - k) (qc - (k + 1)) rfl (.inr rfl)
    clear HR
    go_enter Try.func81, Try.ntmps81
    go_wp2_with fail
    go_region_law (refine step_run_app rfl (.tmp 22) (.tmp 25) 55 55 rfl _ _ (by simp [Act.eval]; rfl) (by simp [Act.eval]; rfl) H0.out ?_)
    all_goals
      go_wp2
      go_ret
      exact ⟨rfl, HF.out.1, HF.out.2⟩

/-- what a list's call leaves of the block it lies in -/
structure PG (g TG : Nat) (cs' : List Value) (w : World) (v : Value) (l' : List An) (w' : World) (v' : Value) : Prop where
  turned : Turned (fun k => v.ownBlock = some k ∨ k = g) w w'
  blk : Blk w' g TG cs'
  own : AOwn w' v' l'
  or : ∀ k, v'.ownBlock = some k → v.ownBlock = some k ∨ w.heap.size ≤ k
theorem own_ne {w : World} {v : Value} {l : List An} {g TG : Nat} {cs : List Value} (ho : AOwn w v l) (hG : Blk w g TG cs) (hT : TG ≠ 90) : v.ownBlock ≠ some g := by
  intro e
  obtain ⟨h1, ⟨h2, h3⟩ | ⟨b, cap, cur, rfl, hb, hh, hc, hm, hs, ht⟩⟩ := ho
  · rw [h2] at e; cases e
  · have : b = g := by simpa [Value.ownBlock] using e
    subst this
    unfold Blk at hG
    rw [hG] at hh
    injection hh with hh
    injection hh with e1 e2 e3
    exact hT e2
theorem setBlk_other {w : World} {g o k : Nat} {v : Value} (h : k ≠ g) : (w.setCell ⟨g, o, none⟩ v).heap[k]? = w.heap[k]? := Below.heap_setCell _ _ _ _ h
theorem PutR.pg {g o TG : Nat} {cs : List Value} {w w' W : World} {v v' : Value} {l' : List An} (h : PutR (fun k => v.ownBlock = some k) g o w v l' w' W v') (hG : Blk w g TG cs) (hg : v.ownBlock ≠ some g) : PG g TG (cs.set o v') w v l' w' v' := by
  have hl := hG.lt
  have hne : ∀ k, v'.ownBlock = some k → k ≠ g := fun k hk e => by
    rcases h.or k hk with q | q
    · exact hg (by rw [← e]; exact q)
    · omega
  refine ⟨?_, ?_, ?_, h.or⟩
  · rw [h.eq]
    exact (h.turned.mono (fun k e => .inl e)).trans ⟨rfl, rfl, rfl, by simp [World.setCell], fun k hk hn => setBlk_other (fun e => hn (.inl (.inr e)))⟩
  · rw [h.eq]; exact (hG.turned h.turned hg).set o v'
  · rw [h.eq]; exact h.own.same (fun k hk => setBlk_other (hne k hk))
theorem set3_own {w : World} {k T : Nat} {xs : List Value} (h : Blk w k T xs) (hx : xs.length = 3) (a b c : Value) : Blk (((w.setCell ⟨k, 0, none⟩ a).setCell ⟨k, 1, none⟩ b).setCell ⟨k, 2, none⟩ c) k T [a, b, c] ∧ w.grownBy (((w.setCell ⟨k, 0, none⟩ a).setCell ⟨k, 1, none⟩ b).setCell ⟨k, 2, none⟩ c) (some k) := by
  have := ((h.set 0 a).set 1 b).set 2 c
  match xs, hx with
  | [x, y, z], _ =>
    refine ⟨by simpa using this, grown_trans (grown_trans (grown_set w k 0 a) (grown_set _ k 1 b)) (grown_set _ k 2 c)⟩
set_option maxHeartbeats 2000000 in
theorem ddtake_any (g o TG : Nat) (cs : List Value) (v : Value) (x : An) (r : List An) (w : World) (hG : Blk w g TG cs) (hco : cs[o]? = some v) (hT : TG ≠ 90) (ho : AOwn w v (x :: r)) (hl : r.length ≤ 1000) :
    Calls Try.prog 68 #[.pointer (some ⟨g, o, none⟩)] w fun e w' => e = .returned (.agg #[.int .i64 x.1, .int .i64 x.2.1, .string x.2.2]) ∧ ∃ v', PG g TG (cs.set o v') w v r w' v' := by
  have hg := own_ne ho hG hT
  obtain ⟨va, vc, hv, hvc, hcells⟩ := id ho.open
  obtain ⟨bb, hva, hvb, k0, k1, k2⟩ := hcells 0 (by simp)
  obtain ⟨hl1, ⟨h2, h3⟩ | ⟨qb, qc, cur, hv2, hb, hh, hc, hmx, hs, ht⟩⟩ := id ho
  · simp at h3
  have hB : Blk w qb 90 cur.toList := by unfold Blk; simpa using hh
  have hbq : bb = qb := by rw [hv2] at hvb; simpa [Value.ownBlock] using hvb.symm
  subst hbq
  have e1 : vc = qc := by rw [hv] at hv2; injection hv2
  subst hva e1
  have hlr : (x :: r).length = r.length + 1 := rfl
  rw [hlr] at hv hc ht hl1
  simp only [List.getElem_cons_zero, Nat.zero_mul, Nat.zero_add] at k0 k1 k2
  have b1 : Below w.heap.size w (w.alloc (.cells #[.int .i64 0, .int .i64 0, .string (ByteArray.mk #[])] 90)) := (Below.refl _ _).alloc (Nat.le_refl _) _
  have A1 := Blk.new' w 90 [.int .i64 0, .int .i64 0, .string (ByteArray.mk #[])]
  have b2 : Below (w.alloc (.cells #[.int .i64 0, .int .i64 0, .string (ByteArray.mk #[])] 90)).heap.size (w.alloc (.cells #[.int .i64 0, .int .i64 0, .string (ByteArray.mk #[])] 90)) ((w.alloc (.cells #[.int .i64 0, .int .i64 0, .string (ByteArray.mk #[])] 90)).alloc (.cells #[.int .i64 x.1, .int .i64 x.2.1, .string x.2.2] 90)) := (Below.refl _ _).alloc (Nat.le_refl _) _
  have F2 := Blk.new' (w.alloc (.cells #[.int .i64 0, .int .i64 0, .string (ByteArray.mk #[])] 90)) 90 [.int .i64 x.1, .int .i64 x.2.1, .string x.2.2]
  have z1 : (w.alloc (.cells #[.int .i64 0, .int .i64 0, .string (ByteArray.mk #[])] 90)).heap.size = w.heap.size + 1 := by simp
  rw [z1] at F2
  have A2 := A1.laterB b2
  have bb2 := below_then b1 b2
  have hDel := ddDelete_any bb r.length vc 0 cur.toList _ (hB.laterB bb2) (by simpa using hs) (by omega) (by omega) (by omega) (by rw [ht]; exact acells_one _)
  have HD : Hid (Calls Try.prog 81 #[.slice (some ⟨bb, 0, none⟩) (r.length + 1) vc, .int .i64 0, .int .i64 1] ((w.alloc (.cells #[.int .i64 0, .int .i64 0, .string (ByteArray.mk #[])] 90)).alloc (.cells #[.int .i64 x.1, .int .i64 x.2.1, .string x.2.2] 90)) _) := hDel
  have c0 : (w.alloc (.cells #[.int .i64 0, .int .i64 0, .string (ByteArray.mk #[])] 90)).cell? ⟨g, o, none⟩ = some (.slice (some ⟨bb, 0, none⟩) (r.length + 1) vc) := by rw [blk_at (hG.laterB b1), hco, hv]
  have c2 : ((w.alloc (.cells #[.int .i64 0, .int .i64 0, .string (ByteArray.mk #[])] 90)).alloc (.cells #[.int .i64 x.1, .int .i64 x.2.1, .string x.2.2] 90)).cell? ⟨g, o, none⟩ = some (.slice (some ⟨bb, 0, none⟩) (r.length + 1) vc) := by rw [blk_at (hG.laterB bb2), hco, hv]
  have k0' := cell_later b1 k0
  have k1' := cell_later b1 k1
  have k2' := cell_later b1 k2
  have hgl := hG.lt
  have hbl := hB.lt
  have hgb : g ≠ bb := fun e => hg (by rw [hv, e]; rfl)
  have HK : Hid _ := And.intro bb2 (And.intro A2 (And.intro F2 (And.intro (hG.laterB bb2) (And.intro hmx (And.intro ht (And.intro hc (And.intro hv hco)))))))
  have q1 : (r.length : Int) ≤ 1000 := by omega
  have q2 : ¬ ((r.length : Int) + 1 ≤ 0) := by omega
  clear hDel hB hh ht hs hl1 hc ho hG hmx k0 k1 k2 b1 A1 b2 F2 A2 bb2 hcells hco hvc hb hv2 hvb hv hg hlr
  obtain ⟨x1, x2, x3⟩ := x
  simp only at k0' k1' k2' HD HK c2 ⊢
  go_enter Try.func68, Try.ntmps68
  go_wp2_with fail
  clear k0' k1' k2' c0 c2
  generalize ((w.alloc (.cells #[.int .i64 0, .int .i64 0, .string (ByteArray.mk #[])] 90)).alloc (.cells #[.int .i64 x1, .int .i64 x2, .string x3] 90)) = w2 at *
  refine (Calls.mono HD.out) ?_
  rintro e w3 ⟨rfl, ⟨cur', B3, hl', ht'⟩, g3⟩
  obtain ⟨bb2, A2, F2, hG, hmx, ht, hc, hv, hco⟩ := HK.out
  have G3 := hG.grown g3 (fun e => hgb (by injection e))
  have A3 := A2.grown g3 (fun e => by injection e with e; omega)
  have F3 := F2.grown g3 (fun e => by injection e with e; omega)
  have y1 := blk_at G3 o
  have y2 := blk_frozen G3 o
  rw [hco, hv] at y1
  have hcs : o < cs.length := by
    rcases Nat.lt_or_ge o cs.length with q | q
    · exact q
    · rw [List.getElem?_eq_none q] at hco; cases hco
  have G4 := G3.set o (.slice (some ⟨bb, 0, none⟩) r.length vc)
  have A4 : Blk (w3.setCell ⟨g, o, none⟩ (.slice (some ⟨bb, 0, none⟩) r.length vc)) w.heap.size 90 [.int .i64 0, .int .i64 0, .string (ByteArray.mk #[])] := by unfold Blk; rw [setBlk_other (by omega)]; exact A3
  have F4 : Blk (w3.setCell ⟨g, o, none⟩ (.slice (some ⟨bb, 0, none⟩) r.length vc)) (w.heap.size + 1) 90 [.int .i64 x1, .int .i64 x2, .string x3] := by unfold Blk; rw [setBlk_other (by omega)]; exact F3
  obtain ⟨A5, g5⟩ := set3_own A4 rfl (.int .i64 x1) (.int .i64 x2) (.string x3)
  have t1 := cur'.take (r.length * 3)
  have own5 : AOwn (((((w3.setCell ⟨g, o, none⟩ (.slice (some ⟨bb, 0, none⟩) r.length vc))).setCell ⟨w.heap.size, 0, none⟩ (.int .i64 x1)).setCell ⟨w.heap.size, 1, none⟩ (.int .i64 x2)).setCell ⟨w.heap.size, 2, none⟩ (.string x3)) (.slice (some ⟨bb, 0, none⟩) r.length vc) r := by
    have B4 : Blk (w3.setCell ⟨g, o, none⟩ (.slice (some ⟨bb, 0, none⟩) r.length vc)) bb 90 cur' := by unfold Blk; rw [setBlk_other (fun e => hgb e.symm)]; exact B3
    have B5 := B4.grown g5 (fun e => by injection e with e; omega)
    refine ⟨acells_length r, .inr ⟨bb, vc, cur'.toArray, rfl, Nat.zero_le _, B5, by omega, hmx, by simpa using hl', ?_⟩⟩
    have e1 : cur'.take (r.length * 3) = (cur.toList.take ((r.length + 1) * 3)).drop (1 * 3) := by simpa using ht'
    rw [ht, acells_drop] at e1
    simpa using e1
  have G5 := G4.grown g5 (fun e => by injection e with e; omega)
  have T5 : Turned (fun k => v.ownBlock = some k ∨ k = g) w (((((w3.setCell ⟨g, o, none⟩ (.slice (some ⟨bb, 0, none⟩) r.length vc))).setCell ⟨w.heap.size, 0, none⟩ (.int .i64 x1)).setCell ⟨w.heap.size, 1, none⟩ (.int .i64 x2)).setCell ⟨w.heap.size, 2, none⟩ (.string x3)) := by
    have u1 : Turned (fun k => v.ownBlock = some k ∨ k = g) w w3 := (tnd_of bb2).trans (turned_grown g3 (fun k e => .inl (.inl (by rw [hv]; injection e with e; rw [← e]; rfl))))
    have u2 : Turned (fun k => v.ownBlock = some k ∨ k = g) w (w3.setCell ⟨g, o, none⟩ (.slice (some ⟨bb, 0, none⟩) r.length vc)) := u1.trans ⟨rfl, rfl, rfl, by simp [World.setCell], fun k hk hn => setBlk_other (fun e => hn (.inl (.inr e)))⟩
    exact u2.trans (turned_grown g5 (fun k e => .inr (by injection e with e; omega)))
  have F : Hid (PG g TG (cs.set o (.slice (some ⟨bb, 0, none⟩) r.length vc)) w v r _ (.slice (some ⟨bb, 0, none⟩) r.length vc)) := ⟨T5, G5, own5, fun k hk => .inl (by rw [hv]; exact hk)⟩
  have n0 := blk_at F4 0
  have n1 := blk_at F4 1
  have n2 := blk_at F4 2
  have m0 := blk_at A4 0
  have m1 := blk_at A4 1
  have m2 := blk_at A4 2
  have f0 := blk_frozen A4 0
  have f1 := blk_frozen A4 1
  have f2 := blk_frozen A4 2
  simp only [List.getElem?_cons_zero, List.getElem?_cons_succ] at n0 n1 n2 m0 m1 m2
  have HA : Hid _ := A5
  clear bb2 A2 F2 hG hmx ht hc hv hco G3 A3 F3 hcs G4 A4 F4 A5 g5 own5 G5 T5 B3 hl' ht' g3 HK HD
  go_wp2
  generalize (((((w3.setCell ⟨g, o, none⟩ (.slice (some ⟨bb, 0, none⟩) r.length vc))).setCell ⟨w.heap.size, 0, none⟩ (.int .i64 x1)).setCell ⟨w.heap.size, 1, none⟩ (.int .i64 x2)).setCell ⟨w.heap.size, 2, none⟩ (.string x3)) = V at *
  clear n0 n1 n2 m0 m1 m2 f0 f1 f2
  have y0 := blk_at HA.out 0
  have y1 := blk_at HA.out 1
  have y2 := blk_at HA.out 2
  simp only [List.getElem?_cons_zero, List.getElem?_cons_succ] at y0 y1 y2
  refine bodyPost_ret (v := .agg #[.int .i64 x1, .int .i64 x2, .string x3]) (by simp [results, Try.results68, go_sem, y0, y1, y2]) rfl ?_
  exact ⟨rfl, _, F.out⟩
end Go.Proofs.Ytkcbbaanlkpeiaa

