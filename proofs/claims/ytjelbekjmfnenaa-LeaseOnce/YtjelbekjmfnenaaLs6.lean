/- A sending more, and the first one that goes. -/
import Derived.Test.YtjelbekjmfnenaaLs5
import Derived.ArgAppend
namespace Go.Proofs.Ytjelbekjmfnenaa
open Go.RowKit Go.Shelf
set_option linter.unusedVariables false
set_option maxRecDepth 4000

theorem info_send : (Try.prog.info? 72).map (fun i => (i.zero, i.size, i.bytes)) = some (some (.agg #[.int .i64 0, .int .i64 0]), 2, 16) := by kernel_rfl
theorem zero_send (w : World) : (zeroValue 72).run Try.prog w = .ok (.agg #[.int .i64 0, .int .i64 0]) w := by
  obtain ⟨i0, hi, hz0, hz1, hz2⟩ := info_parts info_send
  simp [zeroValue, typeInfo, hi, hz0]
/-- clear of one letter -/
theorem run_clear_send (w : World) (ty : TypeId) (c g off : Nat) (cur : List Value) (hg : Blk w g 72 cur) (hfit : off + 2 ≤ cur.length) :
    ∃ w', (Builtin.clear_ #[66] ty #[.slice (some ⟨g, off, none⟩) 1 c]).run Try.prog w = .ok (.tuple #[]) w' ∧ Blk w' g 72 (splice cur off [.int .i64 0, .int .i64 0]) ∧ w.grownBy w' (some g) := by
  have hst := run_storeCells_at Try.prog g off 72 [.int .i64 0, .int .i64 0] 0 cur.toArray w hg (by simpa using hfit) (fun v hv => by simp at hv; rcases hv with rfl | rfl <;> rfl)
  refine ⟨w.setRow g (splice cur off [.int .i64 0, .int .i64 0]).toArray, ?_, setRow_heap w g _ _ 72 _ hg, ⟨rfl, rfl, rfl, by simp [World.setRow], fun k hk hr => setRow_other w g k _ (by intro e; subst e; exact hr rfl)⟩⟩
  have hz : (Builtin.zeroCells (#[.int .i64 0, .int .i64 0] : Array Value) 1).toList = [.int .i64 0, .int .i64 0] := by kernel_rfl
  simp only [Builtin.clear_, run_underlying Try.underlying66, Sem.run_bind, Result.andThen_ok, zero_send, List.getElem?_toArray, List.getElem?_cons_zero]
  simp only [Value.cells, hz, hst, Result.andThen_ok, Sem.run_pure, Nat.add_zero]
  simp [splice]

theorem cut_pairs (cur : List Value) (n k : Nat) (hk : k < n) (hl : n * 2 ≤ cur.length) :
    (splice (splice cur (k * 2) ((cur.take (n * 2)).drop ((k + 1) * 2))) ((n - 1) * 2) [.int .i64 0, .int .i64 0]).take ((n - 1) * 2) = cur.take (k * 2) ++ (cur.take (n * 2)).drop ((k + 1) * 2) := by
  have e1 : ((cur.take (n * 2)).drop ((k + 1) * 2)).length = (n - 1 - k) * 2 := by rw [List.length_drop, List.length_take]; omega
  have e2 : (cur.take (k * 2)).length = k * 2 := by rw [List.length_take]; omega
  generalize hd : (cur.take (n * 2)).drop ((k + 1) * 2) = D at *
  have e3 : (splice cur (k * 2) D).length = cur.length := length_splice _ _ _ (by omega)
  unfold splice at *
  rw [List.take_append_of_le_length (by rw [List.length_take]; omega), List.take_take, Nat.min_self, ← List.append_assoc, List.take_append_of_le_length (by rw [List.length_append]; omega)]
  exact List.take_of_length_le (by rw [List.length_append]; omega)

set_option maxHeartbeats 2000000 in
theorem lsDelete_any (qb r qc k : Nat) (cur : List Value) (w : World) (hB : Blk w qb 72 cur) (hcur : cur.length = qc * 2) (hn : r + 1 ≤ qc) (hn2 : r ≤ 10000) (hk : k ≤ r) (h1 : ∀ u ∈ cur.take ((r + 1) * 2), u.oneCell' = true) :
    Calls Try.prog 51 #[.slice (some ⟨qb, 0, none⟩) (r + 1) qc, .int .i64 k, .int .i64 ((k : Int) + 1)] w fun e w' => e = .returned (.slice (some ⟨qb, 0, none⟩) r qc) ∧
      (∃ cur', Blk w' qb 72 cur' ∧ cur'.length = qc * 2 ∧ cur'.take (r * 2) = cur.take (k * 2) ++ (cur.take ((r + 1) * 2)).drop ((k + 1) * 2)) ∧ w.grownBy w' (some qb) := by
  obtain ⟨i0, hi, hz0, hz1, hz2⟩ := info_parts info_send
  have hcut := cut_pairs cur (r + 1) k (by omega) (by omega)
  rw [Nat.add_sub_cancel] at hcut
  have hlD : ((cur.take ((r + 1) * 2)).drop ((k + 1) * 2)).length = (r - k) * 2 := by rw [List.length_drop, List.length_take]; omega
  have hmD : ∀ u ∈ (cur.take ((r + 1) * 2)).drop ((k + 1) * 2), u.oneCell' = true := fun u hu => h1 u (List.mem_of_mem_drop hu)
  have hcd : ∀ W : World, Blk W qb 72 cur → ∀ j u, ((cur.take ((r + 1) * 2)).drop ((k + 1) * 2))[j]? = some u → W.cell? ⟨qb, (k + 1) * 2 + j, none⟩ = some u := by
    intro W hW j u hj
    have : j < ((cur.take ((r + 1) * 2)).drop ((k + 1) * 2)).length := by
      rcases Nat.lt_or_ge j ((cur.take ((r + 1) * 2)).drop ((k + 1) * 2)).length with h | h
      · exact h
      · rw [List.getElem?_eq_none h] at hj; cases hj
    rw [blk_at hW, ← hj, List.getElem?_drop, List.getElem?_take, if_pos (by omega)]
  generalize (cur.take ((r + 1) * 2)).drop ((k + 1) * 2) = D at *
  have hrun : ∀ (ap : Addr) (m c : Nat), m = r - k → (r - k = 0 ∨ ap = ⟨qb, (k + 1) * 2, none⟩) → (Builtin.append_ #[66, 66] 66 #[.slice (some ⟨qb, 0, none⟩) k qc, .slice (some ap) m c]).run Try.prog w.drew = .ok (.slice (some ⟨qb, 0, none⟩) r qc) (w.drew.setCells qb (k * 2) D) := by
    intro ap m c hm hap
    have := run_append_room_cells (P := Try.prog) w.drew 66 66 72 i0 Try.underlying66 hi qb 0 k qc ap m c D (by rw [hlD, hz1, hm])
      (fun j u hj => by
        rcases hap with h0 | rfl
        · have e0 : D = [] := List.eq_nil_of_length_eq_zero (by rw [hlD, h0])
          rw [e0] at hj; simp at hj
        · rw [Addr.add_lit]; exact hcd w.drew hB j u hj)
      hmD (by omega)
      (fun j hj => by rw [hz1, blk_at (w := w.drew) hB, List.getElem?_eq_getElem (by omega)]; rfl) (fun j hj => blk_frozen (w := w.drew) hB _)
    rw [hz1] at this
    rw [show k + m = r by omega, Nat.zero_add] at this
    exact this
  obtain ⟨B1, g1⟩ := Blk.setCells D (k * 2) w.drew cur hB (by omega)
  have lS : (splice cur (k * 2) D).length = cur.length := length_splice _ _ _ (by omega)
  obtain ⟨w2, hcl, B2, g2⟩ := run_clear_send (w.drew.setCells qb (k * 2) D) 0 (qc - r) qb (r * 2) _ B1 (by rw [lS]; omega)
  have hgd : w.grownBy w.drew (some qb) := ⟨rfl, rfl, rfl, Nat.le_refl _, fun _ _ _ => rfl⟩
  have HF : Hid _ := And.intro (⟨_, B2, by rw [length_splice _ _ _ (by rw [lS]; simp; omega), lS, hcur], hcut⟩ : ∃ cur', Blk w2 qb 72 cur' ∧ cur'.length = qc * 2 ∧ cur'.take (r * 2) = cur.take (k * 2) ++ D) (grown_trans hgd (grown_trans g1 g2))
  have HR : Hid _ := hrun
  have q1 : (k : Int) ≤ (r : Int) := by omega
  have q2 : (r : Int) + 1 ≤ (qc : Int) := by omega
  have q3 : (r : Int) ≤ 10000 := by omega
  have q6 : (k : Int) ≤ (qc : Int) := by omega
  have q7 : (k : Int) + 1 ≤ (qc : Int) := by omega
  have q8 : (0 : Int) ≤ (k : Int) := by omega
  have q9 : (0 : Int) ≤ (k : Int) + 1 := by omega
  have q5 : (k : Int) + 1 ≤ (r : Int) + 1 := by omega
  generalize w.drew.setCells qb (k * 2) D = w1 at *
  clear hrun hcd B1 g1 B2 g2 hgd lS hlD hB hcur h1 hmD hcut
  by_cases hkc : qc = k + 1
  · obtain rfl : r = k := by omega
    subst hkc
    have H0 : Hid _ := HR.out ⟨qb, 0, none⟩ 0 0 (by omega) (.inl (by omega))
    rw [show r + 1 - r = 1 by omega] at hcl
    have p1 : (r : Int) ≤ (r : Int) + 1 := by omega
    have p2 : (0 : Int) ≤ (r : Int) + 1 := by omega
    clear HR q1 q2 q5 q6 q7
    go_enter Try.func51, Try.ntmps51
    go_wp2_with fail
    go_region_law (refine step_run_app rfl (.tmp 22) (.tmp 25) 66 66 rfl _ _ (by simp [Act.eval]; rfl) (by simp [Act.eval]; rfl) H0.out ?_)
    all_goals
      go_wp2
      go_ret
      exact ⟨rfl, HF.out.1, HF.out.2⟩
  · have H0 : Hid _ := HR.out ⟨qb, (k + 1) * 2, none⟩ (r - k) (qc - (k + 1)) rfl (.inr rfl)
    clear HR
    go_enter Try.func51, Try.ntmps51
    go_wp2_with fail
    go_region_law (refine step_run_app rfl (.tmp 22) (.tmp 25) 66 66 rfl _ _ (by simp [Act.eval]; rfl) (by simp [Act.eval]; rfl) H0.out ?_)
    all_goals
      go_wp2
      go_ret
      exact ⟨rfl, HF.out.1, HF.out.2⟩

set_option maxHeartbeats 1000000 in
theorem lsadd_any (g : Nat) (q : Option Nat) (s : Int) (l : List (Int × Int)) (x y : Int) (w : World) (h : (lsOb g q s l).Ok w) (hl : l.length ≤ 1000) :
    Calls Try.prog 36 #[.pointer (some ⟨g, 1, none⟩), .agg #[.int .i64 x, .int .i64 y]] w fun e w' => ∃ q', e = .returned (.tuple #[]) ∧ Step w w' (lsOb g q s l) (lsOb g q' s (l ++ [(x, y)])) := by
  have b0 : Below w.heap.size w (w.alloc (.cells #[.int .i64 x, .int .i64 y] 72)) := (Below.refl _ _).alloc (Nat.le_refl _) _
  have M0 := Blk.new' w 72 [.int .i64 x, .int .i64 y]
  have k0 := blk_at M0 0
  have k1 := blk_at M0 1
  simp only [List.getElem?_cons_zero, List.getElem?_cons_succ] at k0 k1
  obtain ⟨hn, v, hq, hG, ho⟩ := id h.holds
  have hG1 := hG.laterB b0
  have c1 := blk_at hG1 1
  simp only [List.cons_append, List.nil_append, List.getElem?_cons_zero, List.getElem?_cons_succ] at c1
  obtain ⟨va, vc, hv, -, -⟩ := ho.open
  have z0 : (w.alloc (.cells #[.int .i64 x, .int .i64 y] 72)).heap.size = w.heap.size + 1 := by simp
  have HP : Hid _ := And.intro h (And.intro hq (And.intro hG ho))
  have HB : Hid _ := And.intro b0 z0
  have hmx : l.length ≤ 1000000 := by omega
  clear h hG hG1 ho b0 M0 z0 hl
  have HV : Hid _ := hv
  rw [hv] at c1
  go_enter Try.func36, Try.ntmps36
  go_wp2_with fail
  generalize w.alloc (.cells #[.int .i64 x, .int .i64 y] 72) = w1 at *
  have b1 : Below w1.heap.size w1 (w1.drew.alloc (.cells #[.int .i64 x, .int .i64 y] 72)) := ((Below.refl _ _).drew).alloc (Nat.le_refl _) _
  have bb := below_then HB.out.1 b1
  have hG4 : Hid _ := And.intro (HP.out.2.2.2.later bb) (And.intro (Blk.new' w1.drew 72 [.int .i64 x, .int .i64 y]) bb)
  have t3 : (w1.alloc (.cells #[.int .i64 x, .int .i64 y] 72)).cell? ⟨g, 1, none⟩ = some (.slice va l.length vc) := cell_later ((Below.refl _ _).alloc (Nat.le_refl _) _) c1
  clear b1 bb
  go_region_law (refine step_append_pair 66 72 Try.underlying66 info_send rfl (.tmp 8) (.tmp 10) rfl v l (by simp [Act.eval, HV.out]) hG4.out.1 w1.heap.size x y (by simp [Act.eval]) hG4.out.2.1 hmx ?_; intro gv' w5 hown hg5 hor; obtain ⟨a', c', hv', -, -⟩ := hown.open; rw [List.length_append, List.length_singleton] at hv'; have W : Put2 _ _ g q [.int .i64 s] l w w5 v gv' _ := ⟨HP.out.1, HP.out.2.1, HP.out.2.2.1, (turned_below hG4.out.2.2).mono (fun _ h => h.elim) |>.trans (turned_grown hg5 (fun k e => .inl (by rw [← HP.out.2.1]; exact e))), hown, (fun k hk => by rcases hor with e | e; exact .inl (by rw [← HP.out.2.1, ← e]; exact hk); exact .inr (by rw [e] at hk; cases hk; exact hG4.out.2.2.size))⟩; obtain ⟨cc, cf⟩ := W.cell; simp only [List.length_singleton] at cc cf; have HS : Hid _ := W.done; subst hv'; clear W hown hg5 hor)
  all_goals
    go_wp2
    go_end0
    exact ⟨_, rfl, HS.out⟩
end Go.Proofs.Ytjelbekjmfnenaa
