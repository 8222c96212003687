/- Clocks that tick, machines that are cut off, what is counted. -/
import Derived.Test.YtjelbekjmfnenaaWo3
namespace Go.Proofs.Ytjelbekjmfnenaa
open Go.RowKit
set_option linter.unusedVariables false
set_option maxRecDepth 4000

theorem turned_set (w : World) (g i : Nat) (v : Value) : Turned (fun k => k = g) w (w.setCell ⟨g, i, none⟩ v) := turned_grown (grown_set w g i v) (fun k hk => by cases hk; rfl)
theorem wo_ne {g : Nat} {p : Wp} (h : (g :: p.c :: p.q.toList).Nodup) : g ≠ p.c ∧ p.q ≠ some g ∧ p.q ≠ some p.c := by
  simp only [List.nodup_cons, List.mem_cons, Option.mem_toList, not_or] at h
  exact ⟨h.1.1, fun e => h.1.2 e, fun e => h.2.1 e⟩
/-- a store of one of the world's own cells, but not of its letters -/
theorem wo_store {g : Nat} {p : Wp} {m m' : Wm} {w : World} {fv : Value} {vs : List Value} (h : (wo g p m).Ok w) (hq : fv.ownBlock = p.q) (hD : WoAt w g p.c p.V fv vs m) (i : Nat) (v : Value)
    (hx : [fv, .int .i64 m.cut, .slice (some ⟨p.c, 0, none⟩) m.ck.length m.ck.length, .int .i64 m.rho, .int .i64 m.tk, .int .i64 m.lo, .int .u32 (b01 m.cl), .int .i32 0, .int .u32 0, .bool m.cl].set i v = [fv, .int .i64 m'.cut, .slice (some ⟨p.c, 0, none⟩) m'.ck.length m'.ck.length, .int .i64 m'.rho, .int .i64 m'.tk, .int .i64 m'.lo, .int .u32 (b01 m'.cl), .int .i32 0, .int .u32 0, .bool m'.cl]) (hc : m'.ck = m.ck) (hf : m'.fl = m.fl) :
    Step w (w.setCell ⟨g, i, none⟩ v) (wo g p m) (wo g p m') := by
  obtain ⟨n1, n2, n3⟩ := wo_ne h.holds.1
  have hB := hD.blk.set i v
  rw [hx] at hB
  have hs : ∀ k, k ≠ g → (w.setCell ⟨g, i, none⟩ v).heap[k]? = w.heap[k]? := fun k hk => Below.heap_setCell _ _ _ _ hk
  have hz : (w.setCell ⟨g, i, none⟩ v).heap.size = w.heap.size := by simp [World.setCell]
  refine step_of ((turned_set w g i v).mono (fun k hk => by subst hk; simp [wo])) ⟨h.holds.1, fv, vs, hq, hB, ?_, ?_, ?_⟩ (wo_stable g p m') (fun k hk => ⟨.inl hk, by rw [hz]; exact h.lt k (.inl hk)⟩) (fun k hk => ⟨.inl hk, by rw [hz]; exact h.lt k (.inr hk)⟩) h.apart
  · rw [hc]; unfold Blk; rw [hs _ (Ne.symm n1)]; exact hD.clocks
  · rw [hf]; exact ownsRow_same hD.letters (fun k hk => hs k (by rintro rfl; exact n2 (hq ▸ hk)))
  · rw [hf]; exact hD.each.same (fun k hk => hs k (by rintro rfl; exact h.apart k (by simp [wo]) hk))
/-- a store of one of its clocks -/
theorem wo_clock {g : Nat} {p : Wp} {m : Wm} {w : World} {fv : Value} {vs : List Value} (h : (wo g p m).Ok w) (hq : fv.ownBlock = p.q) (hD : WoAt w g p.c p.V fv vs m) (i z : Nat) :
    Step w (w.setCell ⟨p.c, i, none⟩ (.int .i64 z)) (wo g p m) (wo g p { m with ck := m.ck.set i z }) := by
  obtain ⟨n1, n2, n3⟩ := wo_ne h.holds.1
  have hB := hD.clocks.set i (.int .i64 z)
  have e : (cks m.ck).set i (.int .i64 z) = cks (m.ck.set i z) := by unfold cks; rw [List.map_set]
  rw [e] at hB
  have hs : ∀ k, k ≠ p.c → (w.setCell ⟨p.c, i, none⟩ (.int .i64 z)).heap[k]? = w.heap[k]? := fun k hk => Below.heap_setCell _ _ _ _ hk
  have hz : (w.setCell ⟨p.c, i, none⟩ (.int .i64 z)).heap.size = w.heap.size := by simp [World.setCell]
  refine step_of ((turned_set w p.c i _).mono (fun k hk => by subst hk; simp [wo])) ⟨h.holds.1, fv, vs, hq, ?_, hB, ?_, ?_⟩ (wo_stable g p _) (fun k hk => ⟨.inl hk, by rw [hz]; exact h.lt k (.inl hk)⟩) (fun k hk => ⟨.inl hk, by rw [hz]; exact h.lt k (.inr hk)⟩) h.apart
  · simp only [List.length_set]; unfold Blk; rw [hs _ n1]; exact hD.blk
  · exact ownsRow_same hD.letters (fun k hk => hs k (by rintro rfl; exact n3 (hq ▸ hk)))
  · exact hD.each.same (fun k hk => hs k (by rintro rfl; exact h.apart p.c (by simp [wo]) hk))

def Wm.tick (m : Wm) (i : Int) : Wm := if m.may i then { m with ck := m.ck.set i.toNat (m.ck.getD i.toNat 0 + 1) } else m
def Wm.tickE (m : Wm) (i : Int) : Int := if hasW m.ck.length i then (if m.may i then 0 else 5) else 1
theorem may_has {m : Wm} {i : Int} (h : m.may i = true) : hasW m.ck.length i = true := by unfold Wm.may at h; simp at h; exact h.1
theorem tick_wf {m : Wm} (h : m.Wf) (i : Int) : (m.tick i).Wf := by
  unfold Wm.tick
  split
  · rename_i hm
    refine ⟨by simpa using h.one, by simpa using h.five, h.full, by simpa using h.mask, by simpa using h.each, h.rho1, h.rho2, fun c hc => ?_⟩
    rcases List.mem_or_eq_of_mem_set hc with hc | rfl
    · exact h.late c hc
    · unfold Wm.may at hm
      simp at hm
      have := hm.2.1
      simp only [List.getD] at this ⊢
      omega
  · exact h
set_option maxHeartbeats 1000000 in
theorem woTick_any (g : Nat) (p : Wp) (m : Wm) (i : Int) (w : World) (h : (wo g p m).Ok w) (hw : m.Wf) (hi : I64 i) :
    Calls Try.prog 32 #[.pointer (some ⟨g, 0, none⟩), .int .i64 i] w fun e w' => e = .returned (.int .i64 (m.tickE i)) ∧ Step w w' (wo g p m) (wo g p (m.tick i)) := by
  have HH : Hid _ := wohas_any g p m i w h hw hi
  have HM : Hid _ := woMay_any g p m i w h hw hi
  unfold Wm.tick Wm.tickE
  by_cases hb : hasW m.ck.length i = true
  · rw [hb] at HH
    rw [if_pos hb]
    obtain ⟨x, rfl, hx⟩ := at_ck hb
    by_cases hm : m.may x = true
    · rw [hm] at HM
      rw [if_pos hm, if_pos hm, Int.toNat_natCast]
      have hl := ck_late hw x
      have K : Hid _ := And.intro h hw
      have q1 : (x : Int) < (m.ck.length : Int) := by omega
      clear h hw hb hm
      go_enter Try.func32, Try.ntmps32
      go_wp2_with (first
        | (go_at_call 47; refine (Calls.mono HH.out) ?_; rintro e w' ⟨rfl, rfl⟩)
        | fail)
      refine (Calls.mono HM.out) ?_
      rintro e w1 ⟨rfl, b1⟩
      obtain ⟨h, hw⟩ := K.out
      have h1 := h.later b1
      obtain ⟨hn, fv, vs, hq, hD⟩ := h1.holds
      obtain ⟨-, -, c2, -⟩ := wo_cells hD
      obtain ⟨cc, cf⟩ := ck_cell hD hw x hx
      have hS : Hid _ := (Step.quiet h b1).trans (wo_clock h1 hq hD x (m.ck.getD x 0 + 1))
      have hz : Hid ((((m.ck.getD x 0 + 1 : Nat)) : Int) = ((m.ck.getD x 0 : Nat) : Int) + 1) := by show _ = _; omega
      generalize hgz : ((m.ck.getD x 0 : Nat) : Int) = Z at *
      have q2 : Z ≤ 1099511627776 := by omega
      have q3 : 0 ≤ Z := by omega
      rw [hz.out] at hS
      clear h1 hn hq hD h hw K HM hl hgz hz
      go_wp2
      go_ret
      exact ⟨rfl, hS.out⟩
    · have hf : m.may x = false := by simpa using hm
      rw [hf] at HM
      rw [if_neg hm, if_neg hm]
      have K : Hid _ := h
      clear h hw hb hm hf
      go_enter Try.func32, Try.ntmps32
      go_wp2_with (first
        | (go_at_call 47; refine (Calls.mono HH.out) ?_; rintro e w' ⟨rfl, rfl⟩)
        | (go_at_call 48; refine (Calls.mono HM.out) ?_; rintro e w1 ⟨rfl, b1⟩))
      go_ret
      exact ⟨rfl, Step.quiet K.out b1⟩
  · have hf : hasW m.ck.length i = false := by simpa using hb
    rw [hf] at HH
    rw [if_neg hb, if_neg (fun e => hb (may_has e))]
    have K : Hid _ := h
    clear h hw hb hf HM
    go_enter Try.func32, Try.ntmps32
    go_wp2_with (go_at_call 47; refine (Calls.mono HH.out) ?_; rintro e w' ⟨rfl, rfl⟩)
    go_ret
    exact ⟨rfl, Step.refl K.out⟩

theorem and_bit : ∀ x : Nat, x < 32 → bits .and .i64 (x : Int) 1 = ((x % 2 : Nat) : Int) := by decide
/-- on which side a machine is -/
def sideN (cut i : Nat) : Nat := cut / 2 ^ i % 2

/-- are two machines cut off from each other? -/
def Wm.apart (m : Wm) (a b : Int) : Bool := hasW m.ck.length a && (hasW m.ck.length b && decide (sideN m.cut a.toNat ≠ sideN m.cut b.toNat))

def Wm.cutE (m : Wm) (k : Int) : Int := if 0 ≤ k ∧ k < 2 ^ m.ck.length then 0 else 1
def Wm.cutTo (m : Wm) (k : Int) : Wm := if 0 ≤ k ∧ k < 2 ^ m.ck.length then { m with cut := k.toNat } else m
theorem cut_wf {m : Wm} (h : m.Wf) (k : Int) : (m.cutTo k).Wf := by
  unfold Wm.cutTo
  split
  · rename_i hk
    refine ⟨h.one, h.five, h.full, ?_, h.each, h.rho1, h.rho2, h.late⟩
    show k.toNat < 2 ^ m.ck.length
    have : ((2 ^ m.ck.length : Nat) : Int) = 2 ^ m.ck.length := by rw [Int.natCast_pow]; rfl
    omega
  · exact h

end Go.Proofs.Ytjelbekjmfnenaa
