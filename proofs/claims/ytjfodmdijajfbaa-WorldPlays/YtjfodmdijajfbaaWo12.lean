/- The world's fixed calls. -/
import Derived.Test.YtjfodmdijajfbaaWo11
namespace Go.Proofs.Ytjfodmdijajfbaa
open Go.RowKit
set_option linter.unusedVariables false
set_option maxRecDepth 4000

def mI (k : Nat) : Wm := ⟨[], 0, [k, 0], 3, 0, 0, false⟩
def mC : Wm := ⟨[], 1, [3, 0], 3, 0, 0, false⟩
def mS : Wm := ⟨[(0, 1, [97#8])], 1, [3, 0], 3, 0, 0, false⟩
def mL : Wm := ⟨[], 1, [3, 0], 3, 0, 1, false⟩
theorem mI_new : Wm.new 2 3 = mI 0 := rfl
theorem mI_wf (k : Nat) (h : k ≤ 3) : (mI k).Wf :=
  ⟨by simp [mI], by simp [mI], by simp [mI], by simp [mI], (fun l h => by cases h), by simp [mI], by simp [mI], fun c hc => by simp [mI] at hc; omega⟩
theorem mI_tick (k : Nat) (h : k < 3) : (mI k).tickE 0 = 0 ∧ (mI k).tick 0 = mI (k + 1) := by
  match k, h with
  | 0, _ => exact ⟨by decide, by rfl⟩
  | 1, _ => exact ⟨by decide, by rfl⟩
  | 2, _ => exact ⟨by decide, by rfl⟩
theorem mI_stop : (mI 3).tickE 0 = 5 ∧ (mI 3).tick 0 = mI 3 := ⟨by decide, by rfl⟩
theorem mI_cut : (mI 3).cutE 1 = 0 ∧ (mI 3).cutTo 1 = mC := ⟨by decide, by rfl⟩
theorem mC_send : mC.sendE 0 1 [97#8] = 0 ∧ mC.send 0 1 [97#8] = mS := ⟨by decide, by rfl⟩
theorem mS_lose : mS.lose 0 = mL := by rfl
theorem mC_wf : mC.Wf := mI_cut.2 ▸ cut_wf (mI_wf 3 (by omega)) 1
theorem mS_wf : mS.Wf := mC_send.2 ▸ send_wf mC_wf 0 1 [97#8]
theorem mL_wf : mL.Wf := mS_lose ▸ lose_wf mS_wf 0
theorem mL_clock : mL.clock 0 = 3 := by decide

theorem wo_far {g B : Nat} {p : Wp} {m : Wm} (h1 : B ≤ g) (h2 : B ≤ p.c) (h3 : ∀ k, p.q = some k → B ≤ k) : ∀ k ∈ (wo g p m).W, B ≤ k := by
  intro k hk
  simp only [wo, List.mem_cons, Option.mem_toList] at hk
  rcases hk with rfl | rfl | hk
  · exact h1
  · exact h2
  · exact h3 k hk
theorem Step.far {w w' : World} {o o' : Ob} {B : Nat} (s : Step w w' o o') (hB : B ≤ w.heap.size) (h : ∀ k ∈ o.W, B ≤ k) : ∀ k ∈ o'.W, B ≤ k := fun k hk => by
  rcases s.writes k hk with e | e
  · exact h k e
  · omega
/-- an object whose blocks are new since w -/
structure Mine (w W : World) (o : Ob) : Prop where
  ok : o.Ok W
  far : ∀ k ∈ o.W, w.heap.size ≤ k
  below : Below w.heap.size w W
theorem Mine.step {w W W' : World} {o o' : Ob} (h : Mine w W o) (s : Step W W' o o') : Mine w W' o' :=
  ⟨s.ok, s.far h.below.size h.far, h.below.trans (s.below w.heap.size h.below.size h.far)⟩
theorem Mine.later {w W W' : World} {o : Ob} (h : Mine w W o) (hb : Below W.heap.size W W') : Mine w W' o := ⟨h.ok.later hb, h.far, below_then h.below hb⟩

set_option maxHeartbeats 2000000 in
theorem known8_any (w : World) :
    Calls Try.prog 11 #[] w fun e w' => e = .returned (.bool true) ∧ Below w.heap.size w w' := by
  go_enter Try.func11, Try.ntmps11
  go_wp2_with fail
  refine (woNew_yes 2 3 w (by omega) (by omega)).mono ?_
  rintro e w1 ⟨g, c, rfl, hg, hc, ok1, b1⟩
  rw [mI_new] at ok1
  have K1 : Hid _ := (⟨ok1, wo_far hg hc (fun k hk => by cases hk), b1⟩ : Mine w w1 _)
  clear ok1 b1
  go_wp2_with fail
  go_loopw [3] (fun i wr => ∃ k : Nat, k ≤ 3 ∧ i = .int .i64 k ∧ Mine w wr (wo g ⟨c, none, []⟩ (mI k))) (fun i _ => 3 - (intOf i).toNat)
  case atStart => exact ⟨0, by omega, rfl, K1.out⟩
  case round =>
    obtain ⟨k, hk, rfl, hM⟩ := hrel
    by_cases hlt : k < 3
    · have hT := woTick_any g _ _ 0 wr hM.ok (mI_wf k hk) (by constructor <;> omega)
      rw [(mI_tick k hlt).1, (mI_tick k hlt).2] at hT
      have HT : Hid _ := And.intro hT hM
      have q1 : (k : Int) < 3 := by omega
      clear hT hM K1
      go_wp2_with (go_at_call 23; refine (Calls.mono HT.out.1) ?_; rintro e w2 ⟨rfl, st⟩)
      go_roundw
      case rel => exact ⟨k + 1, by omega, by go_num, HT.out.2.step st⟩
      case measure => simp [intOf]; omega
    · obtain rfl : k = 3 := by omega
      have hT := woTick_any g _ _ 0 wr hM.ok (mI_wf 3 hk) (by constructor <;> omega)
      rw [mI_stop.1, mI_stop.2] at hT
      have HT : Hid _ := And.intro hT hM
      clear hT hM K1
      go_wp2_with fail
      refine (Calls.mono HT.out.1) ?_
      rintro e w2 ⟨rfl, st2⟩
      have hM2 := HT.out.2.step st2
      have hC := woCut_any g _ _ 1 w2 hM2.ok (mI_wf 3 (by omega)) (by constructor <;> omega)
      rw [mI_cut.1, mI_cut.2] at hC
      have HC : Hid _ := And.intro hC hM2
      clear hC hM2 HT st2
      go_wp2_with fail
      refine (Calls.mono HC.out.1) ?_
      rintro e w3 ⟨rfl, st3⟩
      have hM3 := HC.out.2.step st3
      have hcv : (convert 32 32 (.slice (some ⟨w3.heap.size, 0, none⟩) 1 1)).run Try.prog (w3.alloc (.cells #[.int .u8 97] 5)) = .ok (.slice (some ⟨w3.heap.size, 0, none⟩) 1 1) (w3.alloc (.cells #[.int .u8 97] 5 (1, 2))) := Lib.run_convert_bytes_const (P := Try.prog) w3 32 5 #[.int .u8 97] 1 1 Try.underlying32 Try.underlying5
      have b4 : Below w3.heap.size w3 (w3.alloc (.cells #[.int .u8 97] 5 (1, 2))) := (Below.refl _ _).alloc (Nat.le_refl _) _
      have hM4 := hM3.later b4
      have hS := woSend_any g _ _ 0 1 (some ⟨w3.heap.size, 0, none⟩) 1 1 [97#8] _ hM4.ok mC_wf (by constructor <;> omega) (by constructor <;> omega) rfl (Nat.le_refl _) (Row.newl _ _ _ _ _ rfl) (fun e => by cases e)
      rw [mC_send.1, mC_send.2] at hS
      have HS : Hid _ := And.intro hS hM4
      clear hS hM4 hM3 HC st3 b4
      go_wp2_with fail
      refine (Calls.mono HS.out.1) ?_
      rintro e w5 ⟨p5, rfl, st5⟩
      have hM5 := HS.out.2.step st5
      have hA := woTake_apart g p5 mS 0 w5 hM5.ok mS_wf (by simp [mS]) (by simp [mS]) (by decide)
      rw [mS_lose, show ((0 : Nat) : Int) = 0 from rfl] at hA
      have HA : Hid _ := And.intro hA hM5
      clear hA hM5 HS st5
      go_wp2_with fail
      refine (Calls.mono HA.out.1) ?_
      rintro e w6 ⟨rfl, st6⟩
      have hM6 := HA.out.2.step st6
      have b7 : Below w6.heap.size w6 (w6.alloc (.cells #[.int .i64 0, .int .i64 0, .slice none 0 0] 41)) := (Below.refl _ _).alloc (Nat.le_refl _) _
      have hM7 := hM6.later b7
      have HM : Hid _ := hM7
      have HL : Hid _ := woLost_any g p5 mL _ hM7.ok
      have HK : Hid _ := woTaken_any g p5 mL _ hM7.ok
      have hCl := woClock_any g p5 mL 0 _ hM7.ok mL_wf (by constructor <;> omega)
      rw [mL_clock] at hCl
      have HCl : Hid _ := hCl
      clear hCl hM7 hM6 b7 HA st6
      unfold lz
      go_wp2_with (first
        | (go_at_call 29; refine (Calls.mono HL.out) ?_; rintro e w' ⟨rfl, rfl⟩)
        | (go_at_call 28; refine (Calls.mono HK.out) ?_; rintro e w' ⟨rfl, rfl⟩)
        | (go_at_call 22; refine (Calls.mono HCl.out) ?_; rintro e w' ⟨rfl, rfl⟩))
      go_ret
      exact ⟨rfl, HM.out.below⟩
end Go.Proofs.Ytjfodmdijajfbaa
