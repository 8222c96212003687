/- One call of both worlds: filling them up. -/
import Derived.Test.YtjfodmdijajfbaaWoS4
import Derived.Test.YtjfodmdijajfbaaWoL3
namespace Go.Proofs.Ytjfodmdijajfbaa
open Go.RowKit
set_option linter.unusedVariables false
set_option maxRecDepth 4000

theorem send_lo (m : Wm) (x y : Int) (l : List (BitVec 8)) : (m.send x y l).lo = m.lo ∧ (m.send x y l).tk = m.tk := by
  unfold Wm.send
  split <;> exact ⟨rfl, rfl⟩
/-- what is left when both are filled up -/
def Filled (B : Nat) (g g' : Nat) (m : Wm) (W W1 : World) : Prop := ∃ m1 p1 p1', Both B g g' p1 p1' m1 W1 ∧ Below B W W1 ∧ m1.Wf ∧ m1.lo = m.lo ∧ m1.tk = m.tk
set_option maxHeartbeats 4000000 in
theorem st_fill (B g g' : Nat) (p p' : Wp) (m : Wm) (F N : Int) (xa : Option Addr) (xl xc : Nat) (W : World) (h : Both B g g' p p' m W) (hw : m.Wf) (hN : I64 N) :
    Calls Try.prog 12 #[.pointer (some ⟨g, 0, none⟩), .pointer (some ⟨g', 0, none⟩), .agg #[.int .i64 11, .int .i64 F, .int .i64 N, .slice xa xl xc]] W (fun e W1 => e = .returned (.bool true) ∧ Filled B g g' m W W1) := by
  have h0 := both_box h [.int .i64 11, .int .i64 F, .int .i64 N, .slice xa xl xc]
  have BO := h0.opAt
  have x0 := BO.cell (by simp [maxLen]) 0 (by simp)
  have x2 := BO.cell (by simp [maxLen]) 2 (by simp)
  simp only [List.getElem?_cons_succ, List.getElem?_cons_zero] at x0 x2
  have b0 : Below B W (W.alloc (.cells #[.int .i64 11, .int .i64 F, .int .i64 N, .slice xa xl xc] 34)) := (Below.refl _ _).alloc h.base _
  have HI : Hid (Filled B g g' m W (W.alloc (.cells #[.int .i64 11, .int .i64 F, .int .i64 N, .slice xa xl xc] 34))) := ⟨m, p, p', h0.drop3, b0, hw, rfl, rfl⟩
  have HN : Hid _ := hN
  clear h h0 b0 BO hw hN
  go_enter Try.func12, Try.ntmps12
  go_wp2_with fail
  refine (cnt_anyM N 3 3 rfl _ HN.out (by omega) (by omega)).mono ?_
  rintro e _ ⟨kk, rfl, hkk, rfl⟩
  go_wp2_with fail
  generalize W.alloc (.cells #[.int .i64 11, .int .i64 F, .int .i64 N, .slice xa xl xc] 34) = wk at *
  generalize W.heap.size = ob at *
  clear x0 x2 HN
  go_loopw [16] (fun iv wr => ∃ i : Nat, i ≤ 10000 ∧ iv = .int .i64 i ∧ Filled B g g' m W wr) (fun iv _ => 10000 - (intOf iv).toNat)
  case atStart => exact ⟨0, by omega, rfl, HI.out⟩
  case round =>
    obtain ⟨i, hi, rfl, hF⟩ := hrel
    have HF : Hid _ := hF
    obtain ⟨m1, p1, p2, hB, hb, hw1, hlo, htk⟩ := hF
    obtain ⟨-, fv, vs, hq, hD⟩ := hB.swap.head.holds
    obtain ⟨-, -, c2, -, -, -, -, c7⟩ := rw_cells hD
    obtain ⟨fa, fc, rfl⟩ := wo_form hD.letters
    have hfl := hw1.full
    have HC1 : Hid _ := fun (X : World) (hX : (wo g p1 m1).Ok X) => woSend_any g p1 m1 0 0 none 0 0 [] X hX hw1 (by constructor <;> omega) (by constructor <;> omega) rfl (Nat.le_refl _) (.inl rfl) (fun _ => rfl)
    have HC2 : Hid _ := fun (X : World) (hX : (rw8 g' p2 m1).Ok X) => rwSend_any g' p2 m1 0 0 none 0 0 [] X hX hw1 (by constructor <;> omega) (by constructor <;> omega) rfl (Nat.le_refl _) (.inl rfl) (fun _ => rfl)
    have K1 : Hid _ := And.intro hB (And.intro hb (And.intro (send_wf hw1 0 0 []) (And.intro ((send_lo m1 0 0 []).1.trans hlo) ((send_lo m1 0 0 []).2.trans htk))))
    clear hB hb hw1 hlo htk hq hD HI
    generalize hL : m1.fl.length = L at *
    clear hL
    by_cases hgo : (i < 10000 ∧ L < 10000 - kk) ∧ m1.cl = false
    · obtain ⟨⟨g1, g2⟩, g3⟩ := hgo
      rw [g3] at c7
      have e1 : (i : Int) < 10000 := by omega
      have e2 : (L : Int) < 10000 - (kk : Int) := by omega
      go_wp2_with fail
      refine (Calls.mono (HC1.out _ K1.out.1.head)) ?_
      rintro e w1 ⟨q1, rfl, s1⟩
      have K2 : Hid _ := And.intro (K1.out.1.step s1).swap (K1.out.2.1.trans (K1.out.1.below s1))
      clear s1 c2 c7
      go_wp2_with fail
      refine (Calls.mono (HC2.out _ K2.out.1.head)) ?_
      rintro e w2 ⟨q2, rfl, s2⟩
      have K3 : Hid (Filled B g g' m W w2) := ⟨_, _, _, (K2.out.1.step s2).swap, K2.out.2.trans (K2.out.1.below s2), K1.out.2.2.1, K1.out.2.2.2.1, K1.out.2.2.2.2⟩
      clear s2 HF
      go_wp2
      go_roundw
      case rel => exact ⟨i + 1, by omega, by go_num, K3.out⟩
      case measure => simp [intOf]; omega
    · clear K1 HC1 HC2
      by_cases e1 : (i : Int) < 10000
      · by_cases e2 : (L : Int) < 10000 - (kk : Int)
        · have g3 : m1.cl = true := by
            cases hc : m1.cl
            · exact absurd ⟨⟨by omega, by omega⟩, hc⟩ hgo
            · rfl
          rw [g3] at c7
          clear hgo
          go_wp2
          go_ret
          exact ⟨rfl, HF.out⟩
        · clear hgo
          go_wp2
          go_ret
          exact ⟨rfl, HF.out⟩
      · clear hgo
        go_wp2
        go_ret
        exact ⟨rfl, HF.out⟩
end Go.Proofs.Ytjfodmdijajfbaa
