/- One call of both worlds: Close. -/
import Derived.Test.YtjfodmdijajfbaaWoS1
namespace Go.Proofs.Ytjfodmdijajfbaa
open Go.RowKit
set_option linter.unusedVariables false
set_option maxRecDepth 4000

theorem rw_shut {g : Nat} {p : Wp} {m : Wm} {w : World} (h : (rw8 g p m).Ok w) : Step w (w.setCell ⟨g, 7, none⟩ (.bool true)) (rw8 g p m) (rw8 g p m.shut) := by
  obtain ⟨hnd, fv, vs, hq, hD⟩ := h.holds
  exact rw_store (m' := m.shut) h hq hD 7 (.bool true) (by simp [Wm.shut]) rfl rfl
set_option maxHeartbeats 4000000 in
theorem st_close (B g g' : Nat) (p p' : Wp) (m : Wm) (F N : Int) (xa : Option Addr) (xl xc : Nat) (W : World) (h : Both B g g' p p' m W) :
    Calls Try.prog 12 #[.pointer (some ⟨g, 0, none⟩), .pointer (some ⟨g', 0, none⟩), .agg #[.int .i64 10, .int .i64 F, .int .i64 N, .slice xa xl xc]] W (After B g g' m.shut W) := by
  have h0 := both_box h [.int .i64 10, .int .i64 F, .int .i64 N, .slice xa xl xc]
  have BO := h0.opAt
  have x0 := BO.cell (by simp [maxLen]) 0 (by simp)
  simp only [List.getElem?_cons_zero] at x0
  have b0 : Below B W (W.alloc (.cells #[.int .i64 10, .int .i64 F, .int .i64 N, .slice xa xl xc] 34)).drew := (((Below.refl _ _).alloc h.base _)).drew
  have HC1 : Hid _ := fun (X : World) (hX : (wo g p m).Ok X) => woClose_any g p m X hX
  have h1 := h0.drew.swap.head
  obtain ⟨hnd, fv, vs, hq, hD⟩ := h1.holds
  obtain ⟨-, -, -, -, -, -, -, c7⟩ := rw_cells hD
  have HK : Hid _ := And.intro h0.drew b0
  clear h h0 b0 BO h1 hnd hq hD
  go_enter Try.func12, Try.ntmps12
  go_wp2_with fail
  generalize W.alloc (.cells #[.int .i64 10, .int .i64 F, .int .i64 N, .slice xa xl xc] 34) = wk at *
  generalize W.heap.size = ob at *
  have Sd : wk.drew.cell? ⟨g', 7, none⟩ = some (.bool m.cl) := c7
  clear x0 c7
  go_region_held_law (fun X => X.cell? ⟨g', 7, none⟩ = some (.bool m.cl)) (first | exact Sd | assumption)
    (first
      | (go_at_call 30; refine (Calls.mono (HC1.out _ HK.out.1.head)) ?_; rintro e w1 ⟨rfl, s1⟩; have H1 : Hid _ := And.intro (HK.out.1.step s1).swap (HK.out.2.trans (HK.out.1.below s1)); have S1 : w1.cell? ⟨g', 7, none⟩ = some (.bool m.cl) := (by obtain ⟨_, _, _, _, hD⟩ := H1.out.1.head.holds; exact (rw_cells hD).2.2.2.2.2.2.2); have Z1 : w1.frozen? ⟨g', 7, none⟩ = false := (by obtain ⟨_, _, _, _, hD⟩ := H1.out.1.head.holds; exact hD.blk.frozen (by simp [maxLen]) 7); clear s1))
  all_goals
    have F : Hid _ := And.intro ((H1.out.1.step (rw_shut H1.out.1.head)).swap.drop3) (H1.out.2.trans (H1.out.1.below (rw_shut H1.out.1.head)))
    go_wp2
    go_ret
    exact ⟨ret_bool (by simp), _, _, F.out.1, F.out.2⟩
end Go.Proofs.Ytjfodmdijajfbaa
