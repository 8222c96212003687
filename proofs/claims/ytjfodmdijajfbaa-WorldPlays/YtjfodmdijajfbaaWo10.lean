/- Letters that are lost, doubled. -/
import Derived.Test.YtjfodmdijajfbaaWo9
namespace Go.Proofs.Ytjfodmdijajfbaa
open Go.RowKit
set_option linter.unusedVariables false
set_option maxRecDepth 4000

def Wm.del (m : Wm) (k : Nat) : Wm := { m with fl := m.fl.take k ++ m.fl.drop (k + 1) }
theorem del_wf {m : Wm} (h : m.Wf) (k : Nat) : (m.del k).Wf := by
  refine ⟨h.one, h.five, ?_, h.mask, ?_, h.rho1, h.rho2, h.late⟩
  · have := h.full
    simp only [Wm.del, List.length_append, List.length_take, List.length_drop]; omega
  · intro l hl
    rcases List.mem_append.1 hl with hl | hl
    · exact h.each l (List.mem_of_mem_take hl)
    · exact h.each l (List.mem_of_mem_drop hl)
theorem Blk.step {w w' : World} {o o' : Ob} {k : Nat} {T : TypeId} {xs : List Value} (h : Blk w k T xs) (s : Step w w' o o') (hk : k ∉ o.W) : Blk w' k T xs := h.turned s.turned hk
set_option maxHeartbeats 2000000 in
theorem woremove_any (g : Nat) (p : Wp) (m : Wm) (k : Nat) (w : World) (h : (wo g p m).Ok w) (hw : m.Wf) (hk : k < m.fl.length) :
    Calls Try.prog 66 #[.pointer (some ⟨g, 0, none⟩), .int .i64 k] w fun e w' => e = .returned (.tuple #[]) ∧ Step w w' (wo g p m) (wo g p (m.del k)) := by
  obtain ⟨hnd, fv, vs, hq, hD⟩ := h.holds
  obtain ⟨n1, n2, n3⟩ := wo_ne hnd
  obtain ⟨c0, -⟩ := wo_cells hD
  have hfu := hw.full
  have hvl := hD.each.length
  obtain ⟨hl1, ⟨h2, h3⟩ | ⟨qb, qc, cur, rfl, hb, hh, hc, hmx, hs, ht⟩⟩ := id hD.letters
  · omega
  have hq' : p.q = some qb := hq.symm
  have hqg : qb ≠ g := fun e => n2 (by rw [hq', e])
  have hqcc : qb ≠ p.c := fun e => n3 (by rw [hq', e])
  obtain ⟨r, hr⟩ : ∃ r, m.fl.length = r + 1 := ⟨m.fl.length - 1, by omega⟩
  have hB : Blk w qb 41 cur.toList := by unfold Blk; simpa using hh
  have hDel := woDelete_any qb r qc k cur.toList w hB (by simpa using hs) (by omega) (by omega) (by omega) (by rw [← hr, ht]; exact hD.each.each)
  rw [hr] at c0
  have HD : Hid _ := hDel
  have qk : (k : Int) ≤ 10000 := by omega
  have HRr : Hid _ := hr
  have HRc : Hid _ := hc
  have HK : Hid _ := And.intro h (And.intro hD (And.intro hq (And.intro hmx (And.intro ht hvl))))
  have hgl := hD.blk.lt
  clear hDel hD h hB hh ht hs hl1 hq hnd hr hc hfu hvl
  go_enter Try.func66, Try.ntmps66
  go_wp2_with fail
  refine (Calls.mono HD.out) ?_
  rintro e w1 ⟨rfl, ⟨cur', B1, hl', ht'⟩, g1⟩
  obtain ⟨h, hD, hq, hmx, ht, hvl⟩ := HK.out
  have hr := HRr.out
  have hc := HRc.out
  have Bg : Blk w1 g 97 _ := hD.blk.grown g1 (by simpa using Ne.symm hqg)
  have c0' := Bg.cell (by simp [maxLen]) 0 (by simp)
  have f0' := Bg.frozen (by simp [maxLen]) 0
  simp only [List.getElem?_cons_zero] at c0'
  have z1 := g1.size
  have hset : ∀ j, j ≠ g → (w1.setCell ⟨g, 0, none⟩ (.slice (some ⟨qb, 0, none⟩) r qc)).heap[j]? = w1.heap[j]? := fun j hj => Below.heap_setCell _ _ _ _ hj
  have hsz : (w1.setCell ⟨g, 0, none⟩ (.slice (some ⟨qb, 0, none⟩) r qc)).heap.size = w1.heap.size := by simp [World.setCell]
  have hold : ∀ j, j < w.heap.size → j ≠ g → j ≠ qb → (w1.setCell ⟨g, 0, none⟩ (.slice (some ⟨qb, 0, none⟩) r qc)).heap[j]? = w.heap[j]? := fun j hj h1 h2 => by rw [hset j h1, g1.block j hj (by simpa using h2)]
  have hdl : (m.fl.take k ++ m.fl.drop (k + 1)).length = r := by rw [List.length_append, List.length_take, List.length_drop]; omega
  have hvk : cur.toList.take (k * 3) = vs.take (k * 3) := by rw [← ht, List.take_take, Nat.min_eq_left (by omega)]
  have hst : Step w (w1.setCell ⟨g, 0, none⟩ (.slice (some ⟨qb, 0, none⟩) r qc)) (wo g p m) (wo g p (m.del k)) := by
    refine step_of ⟨g1.os, g1.tape, g1.output, by omega, fun j hj hn => ?_⟩ ⟨h.holds.1, .slice (some ⟨qb, 0, none⟩) r qc, vs.take (k * 3) ++ vs.drop ((k + 1) * 3), hq, ?_, ?_, ?_, ?_⟩ (wo_stable g p _) (fun j hj => ⟨.inl hj, by rw [hsz]; have := h.lt j (.inl hj); omega⟩) (fun j hj => ⟨.inl hj, by rw [hsz]; have := h.lt j (.inr hj); omega⟩) h.apart
    · simp only [wo, List.mem_cons, Option.mem_toList, not_or] at hn
      exact hold j hj hn.1 (fun e => hn.2.2 (by rw [e]; exact hq'))
    · have := Bg.set 0 (.slice (some ⟨qb, 0, none⟩) r qc)
      simpa [Wm.del] using this
    · have hcl := hD.clocks
      have hcl' := hcl.lt
      unfold Blk at *
      rw [hold _ hcl' (Ne.symm n1) (Ne.symm hqcc)]; exact hcl
    · show World.ownsRow _ 0 _ 3 _ (m.fl.take k ++ m.fl.drop (k + 1)).length _
      rw [hdl]
      refine ⟨by rw [List.length_append, List.length_take, List.length_drop, hvl]; omega, .inr ⟨qb, qc, cur'.toArray, rfl, Nat.zero_le _, ?_, by omega, hmx, by simpa using hl', ?_⟩⟩
      · rw [hset _ hqg]; exact B1
      · rw [← hvk, ← ht, hr]; simpa using ht'
    · refine LsAt.append ((hD.each.take k).same (fun j hj => ?_)) ((hD.each.drop (k + 1)).same (fun j hj => ?_)) <;>
      · refine hold j (h.lt j (.inr hj)) (fun e => ?_) (fun e => ?_)
        · subst e; exact h.apart j (by simp [wo]) hj
        · subst e; exact h.apart j (by simp [wo, hq']) hj
  have HS : Hid _ := hst
  rw [hr] at c0'
  clear hst hold hset hsz hD h Bg B1 g1 HK HD ht' hl' hvk hr hc hdl ht hvl hq hmx z1
  go_wp2
  go_end0
  exact ⟨rfl, HS.out⟩

def Wm.lose (m : Wm) (k : Nat) : Wm := { m.del k with lo := m.lo + 1 }
def Wm.come (m : Wm) (k : Nat) : Wm := { m.del k with tk := m.tk + 1 }
theorem lose_wf {m : Wm} (h : m.Wf) (k : Nat) : (m.lose k).Wf := by
  have := del_wf h k
  exact ⟨this.one, this.five, this.full, this.mask, this.each, this.rho1, this.rho2, this.late⟩
theorem come_wf {m : Wm} (h : m.Wf) (k : Nat) : (m.come k).Wf := by
  have := del_wf h k
  exact ⟨this.one, this.five, this.full, this.mask, this.each, this.rho1, this.rho2, this.late⟩
set_option maxHeartbeats 1000000 in
theorem wolose_any (g : Nat) (p : Wp) (m : Wm) (k : Nat) (w : World) (h : (wo g p m).Ok w) (hw : m.Wf) (hk : k < m.fl.length) (hlo : m.lo ≤ 1000000000) :
    Calls Try.prog 65 #[.pointer (some ⟨g, 0, none⟩), .int .i64 k] w fun e w' => e = .returned (.tuple #[]) ∧ Step w w' (wo g p m) (wo g p (m.lose k)) := by
  have HR : Hid _ := woremove_any g p m k w h hw hk
  have HL : Hid _ := hlo
  clear h hw hk hlo
  go_enter Try.func65, Try.ntmps65
  go_wp2_with fail
  refine (Calls.mono HR.out) ?_
  rintro e w1 ⟨rfl, st⟩
  obtain ⟨hnd, fv, vs, hq, hD⟩ := st.ok.holds
  obtain ⟨-, -, -, -, -, c5, -⟩ := wo_cells hD
  have f5 := hD.blk.frozen (by simp [maxLen]) 5
  have HA : Hid _ := atAdd_any g 5 ((m.del k).lo : Nat) w1 c5 f5 (by have := HL.out; show _ ≤ ((m.lo : Nat) : Int) ∧ ((m.lo : Nat) : Int) ≤ _; omega)
  have HS : Hid _ := st.trans (wo_store (m' := m.lose k) st.ok hq hD 5 (.int .i64 (((m.del k).lo : Nat) + 1)) (by simp [Wm.lose, Wm.del]) rfl rfl)
  clear st hD hq hnd c5 f5 HR
  go_wp2_with fail
  refine (Calls.mono HA.out) ?_
  rintro e w2 ⟨rfl, rfl⟩
  go_wp2
  go_end0
  exact ⟨rfl, HS.out⟩
set_option maxHeartbeats 1000000 in
theorem woDrop_no (g : Nat) (p : Wp) (m : Wm) (k : Int) (w : World) (h : (wo g p m).Ok w) (hw : m.Wf) (hk : I64 k) (hn : ¬ (0 ≤ k ∧ k < m.fl.length)) :
    Calls Try.prog 18 #[.pointer (some ⟨g, 0, none⟩), .int .i64 k] w fun e w' => e = .returned (.int .i64 1) ∧ w = w' := by
  have hL := woletter_any g p m k _ h hw hk
  rw [show m.letE k = 1 from if_neg hn] at hL
  have HL : Hid _ := hL
  clear hL h hw hn
  go_enter Try.func18, Try.ntmps18
  go_wp2_with (go_at_call 69; refine (Calls.mono HL.out) ?_; rintro e w' ⟨rfl, rfl⟩)
  go_ret
  exact ⟨rfl, rfl⟩
set_option maxHeartbeats 1000000 in
theorem woDrop_yes (g : Nat) (p : Wp) (m : Wm) (k : Nat) (w : World) (h : (wo g p m).Ok w) (hw : m.Wf) (hk : k < m.fl.length) (hlo : m.lo ≤ 1000000000) :
    Calls Try.prog 18 #[.pointer (some ⟨g, 0, none⟩), .int .i64 k] w fun e w' => e = .returned (.int .i64 0) ∧ Step w w' (wo g p m) (wo g p (m.lose k)) := by
  have hfu := hw.full
  have hL := woletter_any g p m k _ h hw (by constructor <;> omega)
  rw [show m.letE k = 0 from if_pos (by omega)] at hL
  have HL : Hid _ := hL
  have HR : Hid _ := wolose_any g p m k w h hw hk hlo
  clear hL h hw hk hlo
  go_enter Try.func18, Try.ntmps18
  go_wp2_with (first
    | (go_at_call 69; refine (Calls.mono HL.out) ?_; rintro e w' ⟨rfl, rfl⟩)
    | (go_at_call 65; refine (Calls.mono HR.out) ?_; rintro e w1 ⟨rfl, st⟩))
  go_ret
  exact ⟨rfl, st⟩
def Wm.twice (m : Wm) (k : Nat) : Wm := { m with fl := m.fl ++ (m.fl[k]?).toList }
theorem twice_wf {m : Wm} (h : m.Wf) (k : Nat) (hf : m.fl.length < 10000) : (m.twice k).Wf := by
  refine ⟨h.one, h.five, ?_, h.mask, ?_, h.rho1, h.rho2, h.late⟩
  · simp only [Wm.twice, List.length_append]; cases m.fl[k]? <;> simp <;> omega
  · intro l hl
    rcases List.mem_append.1 hl with hl | hl
    · exact h.each l hl
    · cases e : m.fl[k]? with
      | none => rw [e] at hl; cases hl
      | some y => rw [e] at hl; simp at hl; subst hl; exact h.each _ (List.mem_of_getElem? e)
set_option maxHeartbeats 1000000 in
theorem woDouble_no (g : Nat) (p : Wp) (m : Wm) (k : Int) (w : World) (h : (wo g p m).Ok w) (hw : m.Wf) (hk : I64 k) (hn : ¬ (0 ≤ k ∧ k < m.fl.length)) :
    Calls Try.prog 20 #[.pointer (some ⟨g, 0, none⟩), .int .i64 k] w fun e w' => e = .returned (.int .i64 1) ∧ w = w' := by
  have hL := woletter_any g p m k _ h hw hk
  rw [show m.letE k = 1 from if_neg hn] at hL
  have HL : Hid _ := hL
  clear hL h hw hn
  go_enter Try.func20, Try.ntmps20
  go_wp2_with (go_at_call 69; refine (Calls.mono HL.out) ?_; rintro e w' ⟨rfl, rfl⟩)
  go_ret
  exact ⟨rfl, rfl⟩
set_option maxHeartbeats 1000000 in
theorem woDouble_yes (g : Nat) (p : Wp) (m : Wm) (k : Nat) (w : World) (h : (wo g p m).Ok w) (hw : m.Wf) (hk : k < m.fl.length) :
    Calls Try.prog 20 #[.pointer (some ⟨g, 0, none⟩), .int .i64 k] w fun e w' => ∃ p', e = .returned (.int .i64 (if m.fl.length < 10000 then 0 else 4)) ∧ Step w w' (wo g p m) (wo g p' (if m.fl.length < 10000 then m.twice k else m)) := by
  have hfu := hw.full
  have hL := woletter_any g p m k _ h hw (by constructor <;> omega)
  rw [show m.letE k = 0 from if_pos (by omega)] at hL
  have HL : Hid _ := hL
  obtain ⟨hnd, fv, vs, hq, hD⟩ := h.holds
  obtain ⟨c0, -⟩ := wo_cells hD
  obtain ⟨qb, qc, a, cap, rfl, hqc, e0, e1, e2, r1, r2, r3, r4⟩ := wo_letter hD k hk
  have q1 : (k : Int) < (m.fl.length : Int) := by omega
  by_cases hf : m.fl.length < 10000
  · rw [if_pos hf, if_pos hf]
    have hP := wopost_ok g p m m.fl[k].1 m.fl[k].2.1 a cap m.fl[k].2.2 w h hf r1 r2 r3 (fun z hz => ⟨h.lt _ (.inr (r4 z hz)), fun e => h.apart _ e (r4 z hz)⟩)
    have e3 : m.twice k = { m with fl := m.fl ++ [(m.fl[k].1, m.fl[k].2.1, m.fl[k].2.2)] } := by unfold Wm.twice; rw [List.getElem?_eq_getElem hk]; rfl
    rw [e3]
    have HP : Hid _ := hP
    have HV : Hid _ := r4
    generalize m.fl[k].1 = x at *
    generalize m.fl[k].2.1 = y at *
    generalize m.fl[k].2.2 = l at *
    clear hL h hw hk hD hnd hq e3 hP r1 r2 r3 r4 hf
    generalize l.length = len at *
    go_enter Try.func20, Try.ntmps20
    go_wp2_with (go_at_call 69; refine (Calls.mono HL.out) ?_; rintro e w' ⟨rfl, rfl⟩)
    refine (Calls.mono HP.out) ?_
    rintro e w2 ⟨q', rfl, ht, ok2, hwr⟩
    have HS : Hid _ := (⟨ht, ok2, hwr, fun j hj => by
      simp only [wo, List.mem_append, Option.mem_toList, Option.map_eq_some_iff] at hj
      rcases hj with ⟨z, hz, rfl⟩ | hj
      · exact .inr (.inl (HV.out z hz))
      · exact .inr (.inl hj)⟩ : Step w w2 (wo g p m) _)
    clear ht ok2 hwr HP HV
    go_wp2
    go_ret
    exact ⟨_, rfl, HS.out⟩
  · rw [if_neg hf, if_neg hf]
    have HP : Hid _ := wopost_full g p m m.fl[k].1 m.fl[k].2.1 a m.fl[k].2.2.length cap w h (by omega)
    have HK : Hid _ := h
    generalize m.fl[k].1 = x at *
    generalize m.fl[k].2.1 = y at *
    generalize m.fl[k].2.2 = l at *
    clear hL h hw hk hD hnd hq r1 r2 r3 r4 hf
    generalize l.length = len at *
    go_enter Try.func20, Try.ntmps20
    go_wp2_with (first
      | (go_at_call 69; refine (Calls.mono HL.out) ?_; rintro e w' ⟨rfl, rfl⟩)
      | (go_at_call 63; refine (Calls.mono HP.out) ?_; rintro e w2 ⟨rfl, b2⟩))
    go_ret
    exact ⟨p, rfl, Step.quiet HK.out b2⟩
end Go.Proofs.Ytjfodmdijajfbaa
