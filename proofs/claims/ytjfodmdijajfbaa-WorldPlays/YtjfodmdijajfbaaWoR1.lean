/- The document's world in memory; its clocks and cuts. -/
import Derived.Test.YtjfodmdijajfbaaWo13
import Derived.Deep.CutRange
namespace Go.Proofs.Ytjfodmdijajfbaa
open Go.RowKit
set_option linter.unusedVariables false
set_option maxRecDepth 4000

structure RwAt (w : World) (g c : Nat) (V : List Nat) (fv : Value) (vs : List Value) (m : Wm) : Prop where
  blk : Blk w g 100 [.int .i64 (m.ck.length : Nat), .int .i64 m.rho, fv, .int .i64 m.cut, .slice (some ⟨c, 0, none⟩) m.ck.length m.ck.length, .int .i64 m.tk, .int .i64 m.lo, .bool m.cl]
  clocks : Blk w c 2 (cks m.ck)
  letters : w.ownsRow 0 51 3 fv m.fl.length vs
  each : LsAt V w m.fl vs
/-- the document's world at block g -/
def rw8 (g : Nat) (p : Wp) (m : Wm) : Ob :=
  ⟨g :: p.c :: p.q.toList, p.V, fun w => (g :: p.c :: p.q.toList).Nodup ∧ ∃ fv vs, fv.ownBlock = p.q ∧ RwAt w g p.c p.V fv vs m⟩
theorem rw_stable (g : Nat) (p : Wp) (m : Wm) (w1 w2 : World) (hb : ∀ k, k ∈ (rw8 g p m).W ∨ k ∈ (rw8 g p m).V → w2.heap[k]? = w1.heap[k]?) (h : (rw8 g p m).P w1) : (rw8 g p m).P w2 := by
  obtain ⟨hn, fv, vs, hq, h1, h2, h4, h5⟩ := h
  refine ⟨hn, fv, vs, hq, ?_, ?_, ownsRow_same h4 ?_, h5.same ?_⟩
  · unfold Blk at *; rw [hb g (.inl (by simp [rw8]))]; exact h1
  · unfold Blk at *; rw [hb p.c (.inl (by simp [rw8]))]; exact h2
  · intro k hk; exact hb _ (.inl (by rw [hq] at hk; simp [rw8, hk]))
  · intro k hk; exact hb _ (.inr hk)
theorem rw_ok {g : Nat} {p : Wp} {m : Wm} {w : World} (h : (rw8 g p m).P w) (hl : ∀ k, k ∈ g :: p.c :: p.q.toList ∨ k ∈ p.V → k < w.heap.size) (ha : ∀ k ∈ g :: p.c :: p.q.toList, k ∉ p.V) : (rw8 g p m).Ok w :=
  ⟨h, hl, ha, rw_stable g p m⟩
theorem rw_cells {w : World} {g c : Nat} {V : List Nat} {fv : Value} {vs : List Value} {m : Wm} (h : RwAt w g c V fv vs m) :
    w.cell? ⟨g, 0, none⟩ = some (.int .i64 (m.ck.length : Nat)) ∧ w.cell? ⟨g, 1, none⟩ = some (.int .i64 m.rho) ∧ w.cell? ⟨g, 2, none⟩ = some fv ∧ w.cell? ⟨g, 3, none⟩ = some (.int .i64 m.cut) ∧ w.cell? ⟨g, 4, none⟩ = some (.slice (some ⟨c, 0, none⟩) m.ck.length m.ck.length) ∧
    w.cell? ⟨g, 5, none⟩ = some (.int .i64 m.tk) ∧ w.cell? ⟨g, 6, none⟩ = some (.int .i64 m.lo) ∧ w.cell? ⟨g, 7, none⟩ = some (.bool m.cl) := by
  have f := fun i hi => h.blk.cell (by simp [maxLen]) i hi
  exact ⟨f 0 (by simp), f 1 (by simp), f 2 (by simp), f 3 (by simp), f 4 (by simp), f 5 (by simp), f 6 (by simp), f 7 (by simp)⟩
theorem rck_cell {w : World} {g c : Nat} {V : List Nat} {fv : Value} {vs : List Value} {m : Wm} (h : RwAt w g c V fv vs m) (x : Nat) (hx : x < m.ck.length) : w.cell? ⟨c, x, none⟩ = some (.int .i64 (m.ck.getD x 0 : Nat)) ∧ w.frozen? ⟨c, x, none⟩ = false := by
  refine ⟨?_, blk_frozen h.clocks x⟩
  rw [blk_at h.clocks, cks_at _ _ hx]
  simp [List.getD, List.getElem?_eq_getElem hx]
theorem rw_store {g : Nat} {p : Wp} {m m' : Wm} {w : World} {fv : Value} {vs : List Value} (h : (rw8 g p m).Ok w) (hq : fv.ownBlock = p.q) (hD : RwAt w g p.c p.V fv vs m) (i : Nat) (v : Value)
    (hx : [.int .i64 (m.ck.length : Nat), .int .i64 m.rho, fv, .int .i64 m.cut, .slice (some ⟨p.c, 0, none⟩) m.ck.length m.ck.length, .int .i64 m.tk, .int .i64 m.lo, .bool m.cl].set i v = [.int .i64 (m'.ck.length : Nat), .int .i64 m'.rho, fv, .int .i64 m'.cut, .slice (some ⟨p.c, 0, none⟩) m'.ck.length m'.ck.length, .int .i64 m'.tk, .int .i64 m'.lo, .bool m'.cl]) (hc : m'.ck = m.ck) (hf : m'.fl = m.fl) :
    Step w (w.setCell ⟨g, i, none⟩ v) (rw8 g p m) (rw8 g p m') := by
  obtain ⟨n1, n2, n3⟩ := wo_ne h.holds.1
  have hB := hD.blk.set i v
  rw [hx] at hB
  have hs : ∀ k, k ≠ g → (w.setCell ⟨g, i, none⟩ v).heap[k]? = w.heap[k]? := fun k hk => Below.heap_setCell _ _ _ _ hk
  have hz : (w.setCell ⟨g, i, none⟩ v).heap.size = w.heap.size := by simp [World.setCell]
  refine step_of ((turned_set w g i v).mono (fun k hk => by subst hk; simp [rw8])) ⟨h.holds.1, fv, vs, hq, hB, ?_, ?_, ?_⟩ (rw_stable g p m') (fun k hk => ⟨.inl hk, by rw [hz]; exact h.lt k (.inl hk)⟩) (fun k hk => ⟨.inl hk, by rw [hz]; exact h.lt k (.inr hk)⟩) h.apart
  · rw [hc]; unfold Blk; rw [hs _ (Ne.symm n1)]; exact hD.clocks
  · rw [hf]; exact ownsRow_same hD.letters (fun k hk => hs k (by rintro rfl; exact n2 (hq ▸ hk)))
  · rw [hf]; exact hD.each.same (fun k hk => hs k (by rintro rfl; exact h.apart k (by simp [rw8]) hk))
theorem rw_clock {g : Nat} {p : Wp} {m : Wm} {w : World} {fv : Value} {vs : List Value} (h : (rw8 g p m).Ok w) (hq : fv.ownBlock = p.q) (hD : RwAt w g p.c p.V fv vs m) (i z : Nat) :
    Step w (w.setCell ⟨p.c, i, none⟩ (.int .i64 z)) (rw8 g p m) (rw8 g p { m with ck := m.ck.set i z }) := by
  obtain ⟨n1, n2, n3⟩ := wo_ne h.holds.1
  have hB := hD.clocks.set i (.int .i64 z)
  have e : (cks m.ck).set i (.int .i64 z) = cks (m.ck.set i z) := by unfold cks; rw [List.map_set]
  rw [e] at hB
  have hs : ∀ k, k ≠ p.c → (w.setCell ⟨p.c, i, none⟩ (.int .i64 z)).heap[k]? = w.heap[k]? := fun k hk => Below.heap_setCell _ _ _ _ hk
  have hz : (w.setCell ⟨p.c, i, none⟩ (.int .i64 z)).heap.size = w.heap.size := by simp [World.setCell]
  refine step_of ((turned_set w p.c i _).mono (fun k hk => by subst hk; simp [rw8])) ⟨h.holds.1, fv, vs, hq, ?_, hB, ?_, ?_⟩ (rw_stable g p _) (fun k hk => ⟨.inl hk, by rw [hz]; exact h.lt k (.inl hk)⟩) (fun k hk => ⟨.inl hk, by rw [hz]; exact h.lt k (.inr hk)⟩) h.apart
  · simp only [List.length_set]; unfold Blk; rw [hs _ n1]; exact hD.blk
  · exact ownsRow_same hD.letters (fun k hk => hs k (by rintro rfl; exact n3 (hq ▸ hk)))
  · exact hD.each.same (fun k hk => hs k (by rintro rfl; exact h.apart p.c (by simp [rw8]) hk))

set_option maxHeartbeats 400000 in
theorem rwNew_no (n r : Int) (w : World) (hn : I64 n) (hr : I64 r) (h : ¬ (1 ≤ n ∧ n ≤ 5 ∧ 1 ≤ r ∧ r ≤ 1000)) :
    Calls Try.prog 10 #[.int .i64 n, .int .i64 r] w fun e w' => e = .returned (.tuple #[.pointer none, .int .i64 1]) ∧ w = w' := by
  by_cases h1 : n < 1
  · go_enter Try.func10, Try.ntmps10
    go_wp2
    go_ret2
    exact ⟨rfl, rfl⟩
  · by_cases h2 : 5 < n
    · go_enter Try.func10, Try.ntmps10
      go_wp2
      go_ret2
      exact ⟨rfl, rfl⟩
    · by_cases h3 : r < 1
      · go_enter Try.func10, Try.ntmps10
        go_wp2
        go_ret2
        exact ⟨rfl, rfl⟩
      · have h4 : 1000 < r := by omega
        go_enter Try.func10, Try.ntmps10
        go_wp2
        go_ret2
        exact ⟨rfl, rfl⟩
set_option maxHeartbeats 400000 in
theorem rwNew_yes (n r : Nat) (w : World) (h : 1 ≤ n ∧ n ≤ 5) (hr : 1 ≤ r ∧ r ≤ 1000) :
    Calls Try.prog 10 #[.int .i64 n, .int .i64 r] w fun e w' => ∃ g c, e = .returned (.tuple #[.pointer (some ⟨g, 0, none⟩), .int .i64 0]) ∧ w.heap.size ≤ g ∧ w.heap.size ≤ c ∧ (rw8 g ⟨c, none, []⟩ (Wm.new n r)).Ok w' ∧ Below w.heap.size w w' := by
  have h1 : ¬ ((n : Int) < 1) := by omega
  have h2 : ¬ (5 < (n : Int)) := by omega
  have h3 : ¬ ((r : Int) < 1) := by omega
  have h4 : ¬ (1000 < (r : Int)) := by omega
  have hmk := make_cks n (by omega)
  have B0 := made_cks w n
  have b0 : Below w.heap.size w (w.alloc (.cells (madeCells #[.int .i64 0] n) 2)) := (Below.refl _ _).alloc (Nat.le_refl _) _
  have z0 := B0.lt
  have F : Hid _ := And.intro B0 (And.intro b0 z0)
  clear B0 b0 z0
  go_enter Try.func10, Try.ntmps10
  go_wp2
  go_ret2
  obtain ⟨B0, b0, z0⟩ := F.out
  have zs : (w.alloc (.cells (madeCells #[.int .i64 0] n) 2)).heap.size = w.heap.size + 1 := by simp
  generalize w.alloc (.cells (madeCells #[.int .i64 0] n) 2) = w1 at *
  have B1 := Blk.new' w1 100 [.int .i64 n, .int .i64 r, .slice none 0 0, .int .i64 0, .slice (some ⟨w.heap.size, 0, none⟩) n n, .int .i64 0, .int .i64 0, .bool false]
  have b1 : Below w1.heap.size w1 (w1.alloc (.cells #[.int .i64 n, .int .i64 r, .slice none 0 0, .int .i64 0, .slice (some ⟨w.heap.size, 0, none⟩) n n, .int .i64 0, .int .i64 0, .bool false] 100)) := (Below.refl _ _).alloc (Nat.le_refl _) _
  have e : (List.replicate n 0).length = n := List.length_replicate ..
  rw [zs] at B1
  refine ⟨w.heap.size + 1, rfl, by omega, w.heap.size, Nat.le_refl _, rw_ok ⟨by simp, .slice none 0 0, [], rfl, ?_, ?_, World.ownsRow_nil _ _ _ _, trivial⟩ ?_ ?_, below_then b0 b1⟩
  · simp only [Wm.new, e]; exact B1
  · exact B0.laterB b1
  · intro k hk
    have := b1.size
    have := B1.lt
    simp at hk
    rcases hk with rfl | rfl <;> omega
  · intro k hk hv; cases hv
set_option maxHeartbeats 400000 in
theorem rwin_any (g : Nat) (p : Wp) (m : Wm) (i : Int) (w : World) (h : (rw8 g p m).Ok w) (hw : m.Wf) (hi : I64 i) :
    Calls Try.prog 93 #[.pointer (some ⟨g, 0, none⟩), .int .i64 i] w fun e w' => e = .returned (.bool (hasW m.ck.length i)) ∧ w = w' := by
  obtain ⟨hn, fv, vs, hq, h⟩ := h.holds
  obtain ⟨c0, -⟩ := rw_cells h
  have h5 := hw.five
  have HB : Hid (hasW m.ck.length i = decide (0 ≤ i ∧ i < m.ck.length)) := rfl
  clear h hw
  by_cases c1 : 0 ≤ i
  · by_cases c3 : i < (m.ck.length : Int)
    · go_enter Try.func93, Try.ntmps93
      go_wp2
      go_ret
      exact ⟨ret_bool (by rw [HB.out]; first | (refine decide_eq_decide.2 ?_; omega) | (refine (decide_eq_true ?_).symm; omega)), rfl⟩
    · go_enter Try.func93, Try.ntmps93
      go_wp2
      go_ret
      exact ⟨ret_bool (by rw [HB.out]; first | (refine decide_eq_decide.2 ?_; omega) | (refine (decide_eq_false ?_).symm; omega)), rfl⟩
  · go_enter Try.func93, Try.ntmps93
    go_wp2
    go_ret
    exact ⟨ret_bool (by rw [HB.out]; first | (refine decide_eq_decide.2 ?_; omega) | (refine (decide_eq_false ?_).symm; omega)), rfl⟩
set_option maxHeartbeats 400000 in
theorem rwClock_any (g : Nat) (p : Wp) (m : Wm) (i : Int) (w : World) (h : (rw8 g p m).Ok w) (hw : m.Wf) (hi : I64 i) :
    Calls Try.prog 61 #[.pointer (some ⟨g, 0, none⟩), .int .i64 i] w fun e w' => e = .returned (.int .i64 (m.clock i)) ∧ w = w' := by
  have HH : Hid _ := rwin_any g p m i w h hw hi
  obtain ⟨hn, fv, vs, hq, h⟩ := h.holds
  obtain ⟨-, -, -, -, c4, -⟩ := rw_cells h
  unfold Wm.clock
  by_cases hb : hasW m.ck.length i = true
  · rw [hb] at HH
    obtain ⟨x, rfl, hx⟩ := at_ck hb
    obtain ⟨cc, -⟩ := rck_cell h x hx
    have hl := ck_late hw x
    have q1 : (x : Int) < (m.ck.length : Int) := by omega
    rw [if_pos hb, Int.toNat_natCast]
    generalize m.ck.getD x 0 = z at *
    clear h hw hb
    go_enter Try.func61, Try.ntmps61
    go_wp2_with (go_at_call 93; refine (Calls.mono HH.out) ?_; rintro e w' ⟨rfl, rfl⟩)
    go_ret
    exact ⟨rfl, rfl⟩
  · rw [if_neg hb]
    have hf : hasW m.ck.length i = false := by simpa using hb
    rw [hf] at HH
    clear h hw hb
    go_enter Try.func61, Try.ntmps61
    go_wp2_with (go_at_call 93; refine (Calls.mono HH.out) ?_; rintro e w' ⟨rfl, rfl⟩)
    go_ret
    exact ⟨rfl, rfl⟩
set_option maxHeartbeats 1000000 in
theorem rwCut_any (g : Nat) (p : Wp) (m : Wm) (k : Int) (w : World) (h : (rw8 g p m).Ok w) (hw : m.Wf) (hk : I64 k) :
    Calls Try.prog 56 #[.pointer (some ⟨g, 0, none⟩), .int .i64 k] w fun e w' => e = .returned (.int .i64 (m.cutE k)) ∧ Step w w' (rw8 g p m) (rw8 g p (m.cutTo k)) := by
  obtain ⟨hn, fv, vs, hq, hD⟩ := h.holds
  obtain ⟨c0, -, -, c3, -⟩ := rw_cells hD
  have f3 := hD.blk.frozen (by simp [maxLen]) 3
  have h1 := hw.one
  have h5 := hw.five
  unfold Wm.cutE Wm.cutTo
  by_cases hc : 0 ≤ k ∧ k < 2 ^ m.ck.length
  · rw [if_pos hc, if_pos hc]
    have hS : Hid _ := rw_store (m' := { m with cut := k.toNat }) h hq hD 3 (.int .i64 k) (by simp only [List.set_cons_succ, List.set_cons_zero]; rw [show ((k.toNat : Nat) : Int) = k by omega]) rfl rfl
    obtain ⟨hc0, hc1⟩ := hc
    clear h hw hD hn hq
    have hs : ∀ n : Nat, m.ck.length = n → (n = 1 ∨ n = 2 ∨ n = 3 ∨ n = 4 ∨ n = 5) := fun n hn => by omega
    rcases hs _ rfl with e | e | e | e | e <;> rw [e] at c0 hc1
    all_goals
      clear hs h1 h5 e
      simp only [Int.reducePow] at hc1
      go_enter Try.func56, Try.ntmps56
      go_wp2
      go_ret
      exact ⟨rfl, hS.out⟩
  · rw [if_neg hc, if_neg hc]
    have K : Hid _ := h
    clear h hw hD hn hq
    have hs : ∀ n : Nat, m.ck.length = n → (n = 1 ∨ n = 2 ∨ n = 3 ∨ n = 4 ∨ n = 5) := fun n hn => by omega
    by_cases hc0 : k < 0
    · go_enter Try.func56, Try.ntmps56
      go_wp2
      go_ret
      exact ⟨rfl, Step.refl K.out⟩
    · have hc1 : ¬ (k < 2 ^ m.ck.length) := fun e => hc ⟨by omega, e⟩
      clear hc
      rcases hs _ rfl with e | e | e | e | e <;> rw [e] at c0 hc1
      all_goals
        clear hs h1 h5 e
        simp only [Int.reducePow] at hc1
        go_enter Try.func56, Try.ntmps56
        go_wp2
        go_ret
        exact ⟨rfl, Step.refl K.out⟩
end Go.Proofs.Ytjfodmdijajfbaa
