/- A letter that is taken out of the row. -/
import Derived.Test.YtjfodmdijajfbaaWo8
import Derived.ArgAppend
namespace Go.Proofs.Ytjfodmdijajfbaa
open Go.RowKit
set_option linter.unusedVariables false
set_option maxRecDepth 4000

theorem blk_at {w : World} {g : Nat} {t : TypeId} {xs : List Value} (h : Blk w g t xs) (i : Nat) : w.cell? ⟨g, i, none⟩ = xs[i]? := by
  unfold Blk at h; simp [World.cell?, h]
theorem blk_frozen {w : World} {g : Nat} {t : TypeId} {xs : List Value} (h : Blk w g t xs) (i : Nat) : w.frozen? ⟨g, i, none⟩ = false := by
  unfold Blk at h; simp [World.frozen?, h]
theorem splice_cons {α : Type} (xs : List α) (o : Nat) (v : α) (r : List α) (h : o + 1 + r.length ≤ xs.length) : splice (xs.set o v) (o + 1) r = splice xs o (v :: r) := by
  unfold splice
  have e1 : (xs.set o v).take (o + 1) = xs.take o ++ [v] := by
    rw [List.take_succ_eq_append_getElem (by simp; omega), List.take_set_of_le (Nat.le_refl _)]
    simp
  have e2 : (xs.set o v).drop (o + 1 + r.length) = xs.drop (o + (v :: r).length) := by
    rw [List.drop_set, if_pos (by omega)]
    congr 1
    simp; omega
  rw [e1, e2]
  simp
theorem Blk.setCells {g : Nat} {t : TypeId} : ∀ (vs : List Value) (o : Nat) (w : World) (xs : List Value), Blk w g t xs → o + vs.length ≤ xs.length → Blk (w.setCells g o vs) g t (splice xs o vs) ∧ w.grownBy (w.setCells g o vs) (some g)
  | [], o, w, xs, h, hl => ⟨by simpa [World.setCells, splice] using h, ⟨rfl, rfl, rfl, Nat.le_refl _, fun _ _ _ => rfl⟩⟩
  | v :: r, o, w, xs, h, hl => by
    have hl' : o + 1 + r.length ≤ xs.length := by simp at hl; omega
    obtain ⟨h1, h2⟩ := Blk.setCells r (o + 1) (w.setCell ⟨g, o, none⟩ v) (xs.set o v) (h.set o v) (by rw [List.length_set]; exact hl')
    rw [splice_cons xs o v r hl'] at h1
    exact ⟨h1, grown_trans (grown_set w g o v) h2⟩

theorem zero_letter (w : World) : (zeroValue 41).run Try.prog w = .ok (.agg #[.int .i64 0, .int .i64 0, .slice none 0 0]) w := by
  obtain ⟨i0, hi, hz0, hz1, hz2⟩ := info_parts info_letter
  simp [zeroValue, typeInfo, hi, hz0]
/-- clear of one letter -/
theorem run_clear_letter (w : World) (ty : TypeId) (c g off : Nat) (cur : List Value) (hg : Blk w g 41 cur) (hfit : off + 3 ≤ cur.length) :
    ∃ w', (Builtin.clear_ #[81] ty #[.slice (some ⟨g, off, none⟩) 1 c]).run Try.prog w = .ok (.tuple #[]) w' ∧ Blk w' g 41 (splice cur off [.int .i64 0, .int .i64 0, .slice none 0 0]) ∧ w.grownBy w' (some g) := by
  have hst := run_storeCells_at Try.prog g off 41 [.int .i64 0, .int .i64 0, .slice none 0 0] 0 cur.toArray w hg (by simpa using hfit) (fun v hv => by simp at hv; rcases hv with rfl | rfl | rfl <;> rfl)
  refine ⟨w.setRow g (splice cur off [.int .i64 0, .int .i64 0, .slice none 0 0]).toArray, ?_, setRow_heap w g _ _ 41 _ hg, ⟨rfl, rfl, rfl, by simp [World.setRow], fun k hk hr => setRow_other w g k _ (by intro e; subst e; exact hr rfl)⟩⟩
  have hz : (Builtin.zeroCells (#[.int .i64 0, .int .i64 0, .slice none 0 0] : Array Value) 1).toList = [.int .i64 0, .int .i64 0, .slice none 0 0] := by kernel_rfl
  simp only [Builtin.clear_, run_underlying Try.underlying81, Sem.run_bind, Result.andThen_ok, zero_letter, List.getElem?_toArray, List.getElem?_cons_zero]
  simp only [Value.cells, hz, hst, Result.andThen_ok, Sem.run_pure, Nat.add_zero]
  simp [splice]

theorem step_run_app {ops : Array Oper} {o : Oper} {a : Act} {w w' : World} {v' : Value} {K : Act → World → Prop} {Q : Exit → Act → World → Prop} {E : Prop} (hg : o.guard = none) (s x : Operand) (t1 t2 : TypeId)
    (ho : o.op = .call { callee := .builtin .append, args := #[s, x], argTypes := #[t1, t2] }) (vs vx : Value) (hs : a.eval s = vs) (hx : a.eval x = vx) (hr : (Builtin.append_ #[t1, t2] o.type #[vs, vx]).run Try.prog w = .ok v' w') (next : K (a.put o.dst v') w') :
    if Region.wanted o (yielded ops a.tmps) = true then Oper.wp Try.prog o a w K Q else E := by
  have hw : Region.wanted o (yielded ops a.tmps) = true := by simp [Region.wanted, hg]
  rw [if_pos hw]
  unfold Oper.wp
  simp only [execOp, ho, resolve, invoke, builtin, Sem.run_bind, Sem.run_pure, Result.andThen_ok, List.map_toArray, List.map_cons, List.map_nil, hs, hx, hr]
  exact next

theorem cut_list (cur : List Value) (n k : Nat) (hk : k < n) (hl : n * 3 ≤ cur.length) :
    (splice (splice cur (k * 3) ((cur.take (n * 3)).drop ((k + 1) * 3))) ((n - 1) * 3) [.int .i64 0, .int .i64 0, .slice none 0 0]).take ((n - 1) * 3) = cur.take (k * 3) ++ (cur.take (n * 3)).drop ((k + 1) * 3) := by
  have e1 : ((cur.take (n * 3)).drop ((k + 1) * 3)).length = (n - 1 - k) * 3 := by rw [List.length_drop, List.length_take]; omega
  have e2 : (cur.take (k * 3)).length = k * 3 := by rw [List.length_take]; omega
  generalize hd : (cur.take (n * 3)).drop ((k + 1) * 3) = D at *
  have e3 : (splice cur (k * 3) D).length = cur.length := length_splice _ _ _ (by omega)
  unfold splice at *
  rw [List.take_append_of_le_length (by rw [List.length_take]; omega), List.take_take, Nat.min_self, ← List.append_assoc, List.take_append_of_le_length (by rw [List.length_append]; omega)]
  exact List.take_of_length_le (by rw [List.length_append]; omega)

set_option maxHeartbeats 2000000 in
theorem woDelete_any (qb r qc k : Nat) (cur : List Value) (w : World) (hB : Blk w qb 41 cur) (hcur : cur.length = qc * 3) (hn : r + 1 ≤ qc) (hn2 : r ≤ 10000) (hk : k ≤ r) (h1 : ∀ u ∈ cur.take ((r + 1) * 3), u.oneCell' = true) :
    Calls Try.prog 95 #[.slice (some ⟨qb, 0, none⟩) (r + 1) qc, .int .i64 k, .int .i64 ((k : Int) + 1)] w fun e w' => e = .returned (.slice (some ⟨qb, 0, none⟩) r qc) ∧
      (∃ cur', Blk w' qb 41 cur' ∧ cur'.length = qc * 3 ∧ cur'.take (r * 3) = cur.take (k * 3) ++ (cur.take ((r + 1) * 3)).drop ((k + 1) * 3)) ∧ w.grownBy w' (some qb) := by
  obtain ⟨i0, hi, hz0, hz1, hz2⟩ := info_parts info_letter
  have hcut := cut_list cur (r + 1) k (by omega) (by omega)
  rw [Nat.add_sub_cancel] at hcut
  have hlD : ((cur.take ((r + 1) * 3)).drop ((k + 1) * 3)).length = (r - k) * 3 := by rw [List.length_drop, List.length_take]; omega
  have hmD : ∀ u ∈ (cur.take ((r + 1) * 3)).drop ((k + 1) * 3), u.oneCell' = true := fun u hu => h1 u (List.mem_of_mem_drop hu)
  have hcd : ∀ W : World, Blk W qb 41 cur → ∀ j u, ((cur.take ((r + 1) * 3)).drop ((k + 1) * 3))[j]? = some u → W.cell? ⟨qb, (k + 1) * 3 + j, none⟩ = some u := by
    intro W hW j u hj
    have : j < ((cur.take ((r + 1) * 3)).drop ((k + 1) * 3)).length := by
      rcases Nat.lt_or_ge j ((cur.take ((r + 1) * 3)).drop ((k + 1) * 3)).length with h | h
      · exact h
      · rw [List.getElem?_eq_none h] at hj; cases hj
    rw [blk_at hW, ← hj, List.getElem?_drop, List.getElem?_take, if_pos (by omega)]
  generalize (cur.take ((r + 1) * 3)).drop ((k + 1) * 3) = D at *
  have hrun : ∀ (ap : Addr) (m c : Nat), m = r - k → (r - k = 0 ∨ ap = ⟨qb, (k + 1) * 3, none⟩) → (Builtin.append_ #[81, 81] 81 #[.slice (some ⟨qb, 0, none⟩) k qc, .slice (some ap) m c]).run Try.prog w.drew = .ok (.slice (some ⟨qb, 0, none⟩) r qc) (w.drew.setCells qb (k * 3) D) := by
    intro ap m c hm hap
    have := run_append_room_cells (P := Try.prog) w.drew 81 81 41 i0 Try.underlying81 hi qb 0 k qc ap m c D (by rw [hlD, hz1, hm])
      (fun j u hj => by
        rcases hap with h0 | rfl
        · have e0 : D = [] := List.eq_nil_of_length_eq_zero (by rw [hlD, h0])
          rw [e0] at hj; simp at hj
        · rw [Addr.add_lit]; exact hcd w.drew hB j u hj)
      hmD (by omega)
      (fun j hj => by rw [hz1, blk_at (w := w.drew) hB, List.getElem?_eq_getElem (by omega)]; rfl) (fun j hj => blk_frozen (w := w.drew) hB _)
    rw [hz1] at this
    rw [show k + m = r by omega, Nat.zero_add] at this
    exact this
  obtain ⟨B1, g1⟩ := Blk.setCells D (k * 3) w.drew cur hB (by omega)
  have lS : (splice cur (k * 3) D).length = cur.length := length_splice _ _ _ (by omega)
  obtain ⟨w2, hcl, B2, g2⟩ := run_clear_letter (w.drew.setCells qb (k * 3) D) 0 (qc - r) qb (r * 3) _ B1 (by rw [lS]; omega)
  have hgd : w.grownBy w.drew (some qb) := ⟨rfl, rfl, rfl, Nat.le_refl _, fun _ _ _ => rfl⟩
  have HF : Hid _ := And.intro (⟨_, B2, by rw [length_splice _ _ _ (by rw [lS]; simp; omega), lS, hcur], hcut⟩ : ∃ cur', Blk w2 qb 41 cur' ∧ cur'.length = qc * 3 ∧ cur'.take (r * 3) = cur.take (k * 3) ++ D) (grown_trans hgd (grown_trans g1 g2))
  have HR : Hid _ := hrun
  have q1 : (k : Int) ≤ (r : Int) := by omega
  have q2 : (r : Int) + 1 ≤ (qc : Int) := by omega
  have q3 : (r : Int) ≤ 10000 := by omega
  have q6 : (k : Int) ≤ (qc : Int) := by omega
  have q7 : (k : Int) + 1 ≤ (qc : Int) := by omega
  have q8 : (0 : Int) ≤ (k : Int) := by omega
  have q9 : (0 : Int) ≤ (k : Int) + 1 := by omega
  have q5 : (k : Int) + 1 ≤ (r : Int) + 1 := by omega
  generalize w.drew.setCells qb (k * 3) D = w1 at *
  clear hrun hcd B1 g1 B2 g2 hgd lS hlD hB hcur h1 hmD hcut
  by_cases hkc : qc = k + 1
  · obtain rfl : r = k := by omega
    subst hkc
    have H0 : Hid _ := HR.out ⟨qb, 0, none⟩ 0 0 (by omega) (.inl (by omega))
    rw [show r + 1 - r = 1 by omega] at hcl
    have p1 : (r : Int) ≤ (r : Int) + 1 := by omega
    have p2 : (0 : Int) ≤ (r : Int) + 1 := by omega
    clear HR q1 q2 q5 q6 q7
    go_enter Try.func95, Try.ntmps95
    go_wp2_with fail
    go_region_law (refine step_run_app rfl (.tmp 22) (.tmp 25) 81 81 rfl _ _ (by simp [Act.eval]; rfl) (by simp [Act.eval]; rfl) H0.out ?_)
    all_goals
      go_wp2
      go_ret
      exact ⟨rfl, HF.out.1, HF.out.2⟩
  · have H0 : Hid _ := HR.out ⟨qb, (k + 1) * 3, none⟩ (r - k) (qc - (k + 1)) rfl (.inr rfl)
    clear HR
    go_enter Try.func95, Try.ntmps95
    go_wp2_with fail
    go_region_law (refine step_run_app rfl (.tmp 22) (.tmp 25) 81 81 rfl _ _ (by simp [Act.eval]; rfl) (by simp [Act.eval]; rfl) H0.out ?_)
    all_goals
      go_wp2
      go_ret
      exact ⟨rfl, HF.out.1, HF.out.2⟩
end Go.Proofs.Ytjfodmdijajfbaa
