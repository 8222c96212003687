/- The world's fixed calls. -/
import Derived.Test.YtligmiajlbjecaaDoorXWo11
namespace Go.Proofs.YtligmiajlbjecaaDoor
open Go.RowKit
set_option linter.unusedVariables false
set_option maxRecDepth 4000

def mI (k : Nat) : Wm := ⟨[], 0, [k, 0], 3, 0, 0, false⟩
def mC : Wm := ⟨[], 1, [3, 0], 3, 0, 0, false⟩
def mS : Wm := ⟨[(0, 1, [97#8])], 1, [3, 0], 3, 0, 0, false⟩
def mL : Wm := ⟨[], 1, [3, 0], 3, 0, 1, false⟩
theorem mI_new : Wm.new 2 3 = mI 0 := rfl
theorem mI_wf (k : Nat) (h : k ≤ 3) : (mI k).Wf :=
  ⟨by simp [mI], by simp [mI], by simp [mI], by simp [mI], (fun l h => by cases h), by simp [mI], by simp [mI], fun c hc => by simp [mI] at hc; omega⟩
theorem mI_tick (k : Nat) (h : k < 3) : (mI k).tickE 0 = 0 ∧ (mI k).tick 0 = mI (k + 1) := by
  match k, h with
  | 0, _ => exact ⟨by decide, by rfl⟩
  | 1, _ => exact ⟨by decide, by rfl⟩
  | 2, _ => exact ⟨by decide, by rfl⟩
theorem mI_stop : (mI 3).tickE 0 = 5 ∧ (mI 3).tick 0 = mI 3 := ⟨by decide, by rfl⟩
theorem mI_cut : (mI 3).cutE 1 = 0 ∧ (mI 3).cutTo 1 = mC := ⟨by decide, by rfl⟩
theorem mC_send : mC.sendE 0 1 [97#8] = 0 ∧ mC.send 0 1 [97#8] = mS := ⟨by decide, by rfl⟩
theorem mS_lose : mS.lose 0 = mL := by rfl
theorem mC_wf : mC.Wf := mI_cut.2 ▸ cut_wf (mI_wf 3 (by omega)) 1
theorem mS_wf : mS.Wf := mC_send.2 ▸ send_wf mC_wf 0 1 [97#8]
theorem mL_wf : mL.Wf := mS_lose ▸ lose_wf mS_wf 0
theorem mL_clock : mL.clock 0 = 3 := by decide


theorem Step.far {w w' : World} {o o' : Ob} {B : Nat} (s : Step w w' o o') (hB : B ≤ w.heap.size) (h : ∀ k ∈ o.W, B ≤ k) : ∀ k ∈ o'.W, B ≤ k := fun k hk => by
  rcases s.writes k hk with e | e
  · exact h k e
  · omega
/-- an object whose blocks are new since w -/
structure Mine (w W : World) (o : Ob) : Prop where
  ok : o.Ok W
  far : ∀ k ∈ o.W, w.heap.size ≤ k
  below : Below w.heap.size w W
theorem Mine.step {w W W' : World} {o o' : Ob} (h : Mine w W o) (s : Step W W' o o') : Mine w W' o' :=
  ⟨s.ok, s.far h.below.size h.far, h.below.trans (s.below w.heap.size h.below.size h.far)⟩
theorem Mine.later {w W W' : World} {o : Ob} (h : Mine w W o) (hb : Below W.heap.size W W') : Mine w W' o := ⟨h.ok.later hb, h.far, below_then h.below hb⟩


end Go.Proofs.YtligmiajlbjecaaDoor

