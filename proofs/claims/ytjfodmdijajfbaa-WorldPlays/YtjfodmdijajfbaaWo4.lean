/- Clocks that tick, machines that are cut off, what is counted. -/
import Derived.Test.YtjfodmdijajfbaaWo3
namespace Go.Proofs.Ytjfodmdijajfbaa
open Go.RowKit
set_option linter.unusedVariables false
set_option maxRecDepth 4000

theorem turned_set (w : World) (g i : Nat) (v : Value) : Turned (fun k => k = g) w (w.setCell ⟨g, i, none⟩ v) := turned_grown (grown_set w g i v) (fun k hk => by cases hk; rfl)
theorem wo_ne {g : Nat} {p : Wp} (h : (g :: p.c :: p.q.toList).Nodup) : g ≠ p.c ∧ p.q ≠ some g ∧ p.q ≠ some p.c := by
  simp only [List.nodup_cons, List.mem_cons, Option.mem_toList, not_or] at h
  exact ⟨h.1.1, fun e => h.1.2 e, fun e => h.2.1 e⟩
/-- a store of one of the world's own cells, but not of its letters -/
theorem wo_store {g : Nat} {p : Wp} {m m' : Wm} {w : World} {fv : Value} {vs : List Value} (h : (wo g p m).Ok w) (hq : fv.ownBlock = p.q) (hD : WoAt w g p.c p.V fv vs m) (i : Nat) (v : Value)
    (hx : [fv, .int .i64 m.cut, .slice (some ⟨p.c, 0, none⟩) m.ck.length m.ck.length, .int .i64 m.rho, .int .i64 m.tk, .int .i64 m.lo, .int .u32 (b01 m.cl), .int .i32 0, .int .u32 0, .bool m.cl].set i v = [fv, .int .i64 m'.cut, .slice (some ⟨p.c, 0, none⟩) m'.ck.length m'.ck.length, .int .i64 m'.rho, .int .i64 m'.tk, .int .i64 m'.lo, .int .u32 (b01 m'.cl), .int .i32 0, .int .u32 0, .bool m'.cl]) (hc : m'.ck = m.ck) (hf : m'.fl = m.fl) :
    Step w (w.setCell ⟨g, i, none⟩ v) (wo g p m) (wo g p m') := by
  obtain ⟨n1, n2, n3⟩ := wo_ne h.holds.1
  have hB := hD.blk.set i v
  rw [hx] at hB
  have hs : ∀ k, k ≠ g → (w.setCell ⟨g, i, none⟩ v).heap[k]? = w.heap[k]? := fun k hk => Below.heap_setCell _ _ _ _ hk
  have hz : (w.setCell ⟨g, i, none⟩ v).heap.size = w.heap.size := by simp [World.setCell]
  refine step_of ((turned_set w g i v).mono (fun k hk => by subst hk; simp [wo])) ⟨h.holds.1, fv, vs, hq, hB, ?_, ?_, ?_⟩ (wo_stable g p m') (fun k hk => ⟨.inl hk, by rw [hz]; exact h.lt k (.inl hk)⟩) (fun k hk => ⟨.inl hk, by rw [hz]; exact h.lt k (.inr hk)⟩) h.apart
  · rw [hc]; unfold Blk; rw [hs _ (Ne.symm n1)]; exact hD.clocks
  · rw [hf]; exact ownsRow_same hD.letters (fun k hk => hs k (by rintro rfl; exact n2 (hq ▸ hk)))
  · rw [hf]; exact hD.each.same (fun k hk => hs k (by rintro rfl; exact h.apart k (by simp [wo]) hk))
/-- a store of one of its clocks -/
theorem wo_clock {g : Nat} {p : Wp} {m : Wm} {w : World} {fv : Value} {vs : List Value} (h : (wo g p m).Ok w) (hq : fv.ownBlock = p.q) (hD : WoAt w g p.c p.V fv vs m) (i z : Nat) :
    Step w (w.setCell ⟨p.c, i, none⟩ (.int .i64 z)) (wo g p m) (wo g p { m with ck := m.ck.set i z }) := by
  obtain ⟨n1, n2, n3⟩ := wo_ne h.holds.1
  have hB := hD.clocks.set i (.int .i64 z)
  have e : (cks m.ck).set i (.int .i64 z) = cks (m.ck.set i z) := by unfold cks; rw [List.map_set]
  rw [e] at hB
  have hs : ∀ k, k ≠ p.c → (w.setCell ⟨p.c, i, none⟩ (.int .i64 z)).heap[k]? = w.heap[k]? := fun k hk => Below.heap_setCell _ _ _ _ hk
  have hz : (w.setCell ⟨p.c, i, none⟩ (.int .i64 z)).heap.size = w.heap.size := by simp [World.setCell]
  refine step_of ((turned_set w p.c i _).mono (fun k hk => by subst hk; simp [wo])) ⟨h.holds.1, fv, vs, hq, ?_, hB, ?_, ?_⟩ (wo_stable g p _) (fun k hk => ⟨.inl hk, by rw [hz]; exact h.lt k (.inl hk)⟩) (fun k hk => ⟨.inl hk, by rw [hz]; exact h.lt k (.inr hk)⟩) h.apart
  · simp only [List.length_set]; unfold Blk; rw [hs _ n1]; exact hD.blk
  · exact ownsRow_same hD.letters (fun k hk => hs k (by rintro rfl; exact n3 (hq ▸ hk)))
  · exact hD.each.same (fun k hk => hs k (by rintro rfl; exact h.apart p.c (by simp [wo]) hk))

def Wm.tick (m : Wm) (i : Int) : Wm := if m.may i then { m with ck := m.ck.set i.toNat (m.ck.getD i.toNat 0 + 1) } else m
def Wm.tickE (m : Wm) (i : Int) : Int := if hasW m.ck.length i then (if m.may i then 0 else 5) else 1
theorem may_has {m : Wm} {i : Int} (h : m.may i = true) : hasW m.ck.length i = true := by unfold Wm.may at h; simp at h; exact h.1
theorem tick_wf {m : Wm} (h : m.Wf) (i : Int) : (m.tick i).Wf := by
  unfold Wm.tick
  split
  · rename_i hm
    refine ⟨by simpa using h.one, by simpa using h.five, h.full, by simpa using h.mask, by simpa using h.each, h.rho1, h.rho2, fun c hc => ?_⟩
    rcases List.mem_or_eq_of_mem_set hc with hc | rfl
    · exact h.late c hc
    · unfold Wm.may at hm
      simp at hm
      have := hm.2.1
      simp only [List.getD] at this ⊢
      omega
  · exact h
set_option maxHeartbeats 1000000 in
theorem woTick_any (g : Nat) (p : Wp) (m : Wm) (i : Int) (w : World) (h : (wo g p m).Ok w) (hw : m.Wf) (hi : I64 i) :
    Calls Try.prog 23 #[.pointer (some ⟨g, 0, none⟩), .int .i64 i] w fun e w' => e = .returned (.int .i64 (m.tickE i)) ∧ Step w w' (wo g p m) (wo g p (m.tick i)) := by
  have HH : Hid _ := wohas_any g p m i w h hw hi
  have HM : Hid _ := woMay_any g p m i w h hw hi
  unfold Wm.tick Wm.tickE
  by_cases hb : hasW m.ck.length i = true
  · rw [hb] at HH
    rw [if_pos hb]
    obtain ⟨x, rfl, hx⟩ := at_ck hb
    by_cases hm : m.may x = true
    · rw [hm] at HM
      rw [if_pos hm, if_pos hm, Int.toNat_natCast]
      have hl := ck_late hw x
      have K : Hid _ := And.intro h hw
      have q1 : (x : Int) < (m.ck.length : Int) := by omega
      clear h hw hb hm
      go_enter Try.func23, Try.ntmps23
      go_wp2_with (first
        | (go_at_call 62; refine (Calls.mono HH.out) ?_; rintro e w' ⟨rfl, rfl⟩)
        | fail)
      refine (Calls.mono HM.out) ?_
      rintro e w1 ⟨rfl, b1⟩
      obtain ⟨h, hw⟩ := K.out
      have h1 := h.later b1
      obtain ⟨hn, fv, vs, hq, hD⟩ := h1.holds
      obtain ⟨-, -, c2, -⟩ := wo_cells hD
      obtain ⟨cc, cf⟩ := ck_cell hD hw x hx
      have hS : Hid _ := (Step.quiet h b1).trans (wo_clock h1 hq hD x (m.ck.getD x 0 + 1))
      have hz : Hid ((((m.ck.getD x 0 + 1 : Nat)) : Int) = ((m.ck.getD x 0 : Nat) : Int) + 1) := by show _ = _; omega
      generalize hgz : ((m.ck.getD x 0 : Nat) : Int) = Z at *
      have q2 : Z ≤ 1099511627776 := by omega
      have q3 : 0 ≤ Z := by omega
      rw [hz.out] at hS
      clear h1 hn hq hD h hw K HM hl hgz hz
      go_wp2
      go_ret
      exact ⟨rfl, hS.out⟩
    · have hf : m.may x = false := by simpa using hm
      rw [hf] at HM
      rw [if_neg hm, if_neg hm]
      have K : Hid _ := h
      clear h hw hb hm hf
      go_enter Try.func23, Try.ntmps23
      go_wp2_with (first
        | (go_at_call 62; refine (Calls.mono HH.out) ?_; rintro e w' ⟨rfl, rfl⟩)
        | (go_at_call 24; refine (Calls.mono HM.out) ?_; rintro e w1 ⟨rfl, b1⟩))
      go_ret
      exact ⟨rfl, Step.quiet K.out b1⟩
  · have hf : hasW m.ck.length i = false := by simpa using hb
    rw [hf] at HH
    rw [if_neg hb, if_neg (fun e => hb (may_has e))]
    have K : Hid _ := h
    clear h hw hb hf HM
    go_enter Try.func23, Try.ntmps23
    go_wp2_with (go_at_call 62; refine (Calls.mono HH.out) ?_; rintro e w' ⟨rfl, rfl⟩)
    go_ret
    exact ⟨rfl, Step.refl K.out⟩

theorem and_bit : ∀ x : Nat, x < 32 → bits .and .i64 (x : Int) 1 = ((x % 2 : Nat) : Int) := by decide
/-- on which side a machine is -/
def sideN (cut i : Nat) : Nat := cut / 2 ^ i % 2
set_option maxHeartbeats 1000000 in
theorem woside_any (g : Nat) (p : Wp) (m : Wm) (i : Nat) (w : World) (h : (wo g p m).Ok w) (hw : m.Wf) (hi : i < m.ck.length) :
    Calls Try.prog 68 #[.pointer (some ⟨g, 0, none⟩), .int .i64 i] w fun e w' => e = .returned (.int .i64 (sideN m.cut i)) ∧ w = w' := by
  obtain ⟨hn, fv, vs, hq, hD⟩ := h.holds
  obtain ⟨-, c1, -⟩ := wo_cells hD
  have h5 := hw.five
  have hc : m.cut < 32 := Nat.lt_of_lt_of_le hw.mask (Nat.pow_le_pow_right (by omega) h5 : 2 ^ m.ck.length ≤ 2 ^ 5)
  generalize m.cut = c at *
  clear hD hw h hn hq
  have h5' : i < 5 := by omega
  go_enter Try.func68, Try.ntmps68
  go_wp2
  go_ret
  refine ⟨ret_int ?_, rfl⟩
  have e : ((c : Int) / 2 ^ i) = ((c / 2 ^ i : Nat) : Int) := by rw [Int.natCast_ediv, Int.natCast_pow]; rfl
  rw [e]
  exact and_bit _ (Nat.lt_of_le_of_lt (Nat.div_le_self _ _) hc)

/-- are two machines cut off from each other? -/
def Wm.apart (m : Wm) (a b : Int) : Bool := hasW m.ck.length a && (hasW m.ck.length b && decide (sideN m.cut a.toNat ≠ sideN m.cut b.toNat))
set_option maxHeartbeats 1000000 in
theorem woApart_any (g : Nat) (p : Wp) (m : Wm) (a b : Int) (w : World) (h : (wo g p m).Ok w) (hw : m.Wf) (ha : I64 a) (hb : I64 b) :
    Calls Try.prog 17 #[.pointer (some ⟨g, 0, none⟩), .int .i64 a, .int .i64 b] w fun e w' => e = .returned (.bool (m.apart a b)) ∧ w = w' := by
  have HH : Hid _ := fun (i : Int) (hi : I64 i) => wohas_any g p m i w h hw hi
  unfold Wm.apart
  by_cases ca : hasW m.ck.length a = true
  · by_cases cb : hasW m.ck.length b = true
    · rw [ca, cb]
      obtain ⟨x, rfl, hx⟩ := at_ck ca
      obtain ⟨y, rfl, hy⟩ := at_ck cb
      rw [Bool.true_and, Bool.true_and, Int.toNat_natCast, Int.toNat_natCast]
      have SX : Hid _ := fun (z : Nat) (hz : z = x ∨ z = y) => woside_any g p m z w h hw (by omega)
      have HD : Hid (decide (((sideN m.cut x : Nat) : Int) ≠ ((sideN m.cut y : Nat) : Int)) = decide (sideN m.cut x ≠ sideN m.cut y)) := by refine decide_eq_decide.2 ?_; omega
      generalize decide (sideN m.cut x ≠ sideN m.cut y) = B at *
      clear h hw
      go_enter Try.func17, Try.ntmps17
      go_wp2_with (first
        | (go_at_call 62; refine (Calls.mono (HH.out _ (by assumption))) ?_; rintro e w' ⟨rfl, rfl⟩)
        | (go_at_call 68; refine (Calls.mono (SX.out _ (by first | exact .inl rfl | exact .inr rfl))) ?_; rintro e w' ⟨rfl, rfl⟩))
      go_ret
      exact ⟨ret_bool (by rw [← HD.out]; simp [bne, Bool.beq_eq_decide_eq]), rfl⟩
    · have hf : hasW m.ck.length b = false := by simpa using cb
      rw [ca, hf, Bool.false_and, Bool.and_false]
      clear h hw cb
      go_enter Try.func17, Try.ntmps17
      go_wp2_with (go_at_call 62; refine (Calls.mono (HH.out _ (by assumption))) ?_; rintro e w' ⟨rfl, rfl⟩)
      go_ret
      exact ⟨rfl, rfl⟩
  · have hf : hasW m.ck.length a = false := by simpa using ca
    rw [hf, Bool.false_and]
    clear h hw ca
    go_enter Try.func17, Try.ntmps17
    go_wp2_with (go_at_call 62; refine (Calls.mono (HH.out _ (by assumption))) ?_; rintro e w' ⟨rfl, rfl⟩)
    go_ret
    exact ⟨rfl, rfl⟩

def Wm.cutE (m : Wm) (k : Int) : Int := if 0 ≤ k ∧ k < 2 ^ m.ck.length then 0 else 1
def Wm.cutTo (m : Wm) (k : Int) : Wm := if 0 ≤ k ∧ k < 2 ^ m.ck.length then { m with cut := k.toNat } else m
theorem cut_wf {m : Wm} (h : m.Wf) (k : Int) : (m.cutTo k).Wf := by
  unfold Wm.cutTo
  split
  · rename_i hk
    refine ⟨h.one, h.five, h.full, ?_, h.each, h.rho1, h.rho2, h.late⟩
    show k.toNat < 2 ^ m.ck.length
    have : ((2 ^ m.ck.length : Nat) : Int) = 2 ^ m.ck.length := by rw [Int.natCast_pow]; rfl
    omega
  · exact h
set_option maxHeartbeats 1000000 in
theorem woCut_any (g : Nat) (p : Wp) (m : Wm) (k : Int) (w : World) (h : (wo g p m).Ok w) (hw : m.Wf) (hk : I64 k) :
    Calls Try.prog 21 #[.pointer (some ⟨g, 0, none⟩), .int .i64 k] w fun e w' => e = .returned (.int .i64 (m.cutE k)) ∧ Step w w' (wo g p m) (wo g p (m.cutTo k)) := by
  obtain ⟨hn, fv, vs, hq, hD⟩ := h.holds
  obtain ⟨-, c1, c2, -⟩ := wo_cells hD
  have f1 := hD.blk.frozen (by simp [maxLen]) 1
  have h1 := hw.one
  have h5 := hw.five
  unfold Wm.cutE Wm.cutTo
  by_cases hc : 0 ≤ k ∧ k < 2 ^ m.ck.length
  · rw [if_pos hc, if_pos hc]
    have hS : Hid _ := wo_store (m' := { m with cut := k.toNat }) h hq hD 1 (.int .i64 k) (by simp only [List.set_cons_succ, List.set_cons_zero]; rw [show ((k.toNat : Nat) : Int) = k by omega]) rfl rfl
    obtain ⟨hc0, hc1⟩ := hc
    clear h hw hD hn hq
    have hs : ∀ n : Nat, m.ck.length = n → (n = 1 ∨ n = 2 ∨ n = 3 ∨ n = 4 ∨ n = 5) := fun n hn => by omega
    rcases hs _ rfl with e | e | e | e | e <;> rw [e] at c2 hc1
    all_goals
      clear hs h1 h5 e
      simp only [Int.reducePow] at hc1
      go_enter Try.func21, Try.ntmps21
      go_wp2
      go_ret
      exact ⟨rfl, hS.out⟩
  · rw [if_neg hc, if_neg hc]
    have K : Hid _ := h
    clear h hw hD hn hq
    have hs : ∀ n : Nat, m.ck.length = n → (n = 1 ∨ n = 2 ∨ n = 3 ∨ n = 4 ∨ n = 5) := fun n hn => by omega
    by_cases hc0 : k < 0
    · go_enter Try.func21, Try.ntmps21
      go_wp2
      go_ret
      exact ⟨rfl, Step.refl K.out⟩
    · have hc1 : ¬ (k < 2 ^ m.ck.length) := fun e => hc ⟨by omega, e⟩
      clear hc
      rcases hs _ rfl with e | e | e | e | e <;> rw [e] at c2 hc1
      all_goals
        clear hs h1 h5 e
        simp only [Int.reducePow] at hc1
        go_enter Try.func21, Try.ntmps21
        go_wp2
        go_ret
        exact ⟨rfl, Step.refl K.out⟩
end Go.Proofs.Ytjfodmdijajfbaa
