/- One call of both worlds, whatever it is. -/
import Derived.Test.YtjfodmdijajfbaaWoS3
import Derived.Test.YtjfodmdijajfbaaWoS5
namespace Go.Proofs.Ytjfodmdijajfbaa
open Go.RowKit
set_option linter.unusedVariables false
set_option maxRecDepth 4000

/-- what any call leaves -/
def Moved (B : Nat) (g g' : Nat) (m : Wm) (W W1 : World) : Prop := ∃ m1 p1 p1', Both B g g' p1 p1' m1 W1 ∧ Below B W W1 ∧ m1.Wf ∧ m1.lo ≤ m.lo + 1 ∧ m1.tk ≤ m.tk + 1
theorem After.moved {B g g' : Nat} {m m1 : Wm} {W W1 : World} {e : Ending} (h : After B g g' m1 W e W1) (hw : m1.Wf) (hl : m1.lo ≤ m.lo + 1) (ht : m1.tk ≤ m.tk + 1) : e = .returned (.bool true) ∧ Moved B g g' m W W1 := by
  obtain ⟨he, p1, p1', h1, h2⟩ := h
  exact ⟨he, m1, p1, p1', h1, h2, hw, hl, ht⟩
theorem took_wf {m : Wm} (h : m.Wf) (N : Int) : (m.took N).Wf ∧ (m.took N).lo ≤ m.lo + 1 ∧ (m.took N).tk ≤ m.tk + 1 := by
  unfold Wm.took
  split
  · split
    · exact ⟨lose_wf h _, by simp [Wm.lose, Wm.del], by simp [Wm.lose, Wm.del]⟩
    · exact ⟨come_wf h _, by simp [Wm.come, Wm.del], by simp [Wm.come, Wm.del]⟩
  · exact ⟨h, by omega, by omega⟩
theorem tick_lo (m : Wm) (i : Int) : (m.tick i).lo = m.lo ∧ (m.tick i).tk = m.tk := by
  unfold Wm.tick
  repeat' split
  all_goals exact ⟨rfl, rfl⟩
theorem cut_lo (m : Wm) (i : Int) : (m.cutTo i).lo = m.lo ∧ (m.cutTo i).tk = m.tk := by
  unfold Wm.cutTo
  repeat' split
  all_goals exact ⟨rfl, rfl⟩
theorem dbl_wf {m : Wm} (h : m.Wf) (k : Nat) : (dblM m k).Wf ∧ (dblM m k).lo = m.lo ∧ (dblM m k).tk = m.tk := by
  unfold dblM
  split
  · exact ⟨twice_wf h k (by assumption), rfl, rfl⟩
  · exact ⟨h, rfl, rfl⟩
theorem st_any (B g g' : Nat) (p p' : Wp) (m : Wm) (K F N : Int) (xa : Option Addr) (xl xc : Nat) (l : List (BitVec 8)) (W : World) (h : Both B g g' p p' m W) (hw : m.Wf) (hF : I64 F) (hN : I64 N) (hlo : m.lo ≤ 1000000000) (htk : m.tk ≤ 1000000000)
    (hl : l.length = xl) (hlc : xl ≤ xc) (hcb : xc ≤ 140737488351232) (hnn : xa = none → xc = 0) (hrow : ∀ X, Below B W X → Row X xa l) :
    Calls Try.prog 12 #[.pointer (some ⟨g, 0, none⟩), .pointer (some ⟨g', 0, none⟩), .agg #[.int .i64 K, .int .i64 F, .int .i64 N, .slice xa xl xc]] W (fun e W1 => e = .returned (.bool true) ∧ Moved B g g' m W W1) := by
  by_cases hK : K < 0 ∨ 11 < K
  · exact (st_none B g g' p p' m K F N xa xl xc W h hK).mono (fun e w1 a => a.moved hw (by omega) (by omega))
  have hK' : K = 0 ∨ K = 1 ∨ K = 2 ∨ K = 3 ∨ K = 4 ∨ K = 5 ∨ K = 6 ∨ K = 7 ∨ K = 8 ∨ K = 9 ∨ K = 10 ∨ K = 11 := by omega
  have hs := send_lo m F N l
  have ht := tick_lo m N
  have hc := cut_lo m N
  rcases hK' with rfl | rfl | rfl | rfl | rfl | rfl | rfl | rfl | rfl | rfl | rfl | rfl
  · exact (st_send0 B g g' p p' m F N xa xl xc l W h hw hF hN hl hlc hcb hnn hrow).mono (fun e w1 a => a.moved (send_wf hw F N l) (by omega) (by omega))
  · exact (st_send1 B g g' p p' m F N xa xl xc l W h hw hF hN hl hlc hcb hnn hrow).mono (fun e w1 a => a.moved (send_wf hw F N l) (by omega) (by omega))
  · exact (st_send2 B g g' p p' m F N xa xl xc l W h hw hF hN hl hlc hcb hnn hrow).mono (fun e w1 a => a.moved (send_wf hw F N l) (by omega) (by omega))
  · exact (st_take3_any B g g' p p' m F N xa xl xc W h hw hN hlo htk).mono (fun e w1 a => a.moved (took_wf hw N).1 (took_wf hw N).2.1 (took_wf hw N).2.2)
  · exact (st_take4_any B g g' p p' m F N xa xl xc W h hw hN hlo htk).mono (fun e w1 a => a.moved (took_wf hw N).1 (took_wf hw N).2.1 (took_wf hw N).2.2)
  · by_cases hn : 0 ≤ N ∧ N < (m.fl.length : Int)
    · obtain ⟨k, rfl⟩ : ∃ k : Nat, N = k := ⟨N.toNat, by omega⟩
      exact (st_drop_yes B g g' p p' m F xa xl xc W h hw k (by omega) hlo).mono (fun e w1 a => a.moved (lose_wf hw k) (by simp [Wm.lose, Wm.del]) (by simp [Wm.lose, Wm.del]))
    · exact (st_drop_no B g g' p p' m F N xa xl xc W h hw hN hn).mono (fun e w1 a => a.moved hw (by omega) (by omega))
  · by_cases hn : 0 ≤ N ∧ N < (m.fl.length : Int)
    · obtain ⟨k, rfl⟩ : ∃ k : Nat, N = k := ⟨N.toNat, by omega⟩
      have hd := dbl_wf hw k
      exact (st_double_yes B g g' p p' m F xa xl xc W h hw k (by omega)).mono (fun e w1 a => a.moved hd.1 (by omega) (by omega))
    · exact (st_double_no B g g' p p' m F N xa xl xc W h hw hN hn).mono (fun e w1 a => a.moved hw (by omega) (by omega))
  · exact (st_cut B g g' p p' m F N xa xl xc W h hw hN).mono (fun e w1 a => a.moved (cut_wf hw N) (by omega) (by omega))
  · exact (st_tick8 B g g' p p' m F N xa xl xc W h hw hN).mono (fun e w1 a => a.moved (tick_wf hw N) (by omega) (by omega))
  · exact (st_tick9 B g g' p p' m F N xa xl xc W h hw hN).mono (fun e w1 a => a.moved (tick_wf hw N) (by omega) (by omega))
  · exact (st_close B g g' p p' m F N xa xl xc W h).mono (fun e w1 a => a.moved (shut_wf hw) (by simp [Wm.shut]) (by simp [Wm.shut]))
  · exact (st_fill B g g' p p' m F N xa xl xc W h hw hN).mono (fun e w1 a => by
      obtain ⟨he, m1, p1, p1', a1, a2, a3, a4, a5⟩ := a
      exact ⟨he, m1, p1, p1', a1, a2, a3, by omega, by omega⟩)
end Go.Proofs.Ytjfodmdijajfbaa
