/- Worlds that are not there; letters held against each other. -/
import Derived.Test.YtjfodmdijajfbaaWo12
namespace Go.Proofs.Ytjfodmdijajfbaa
open Go.RowKit
set_option linter.unusedVariables false
set_option maxRecDepth 4000

theorem woletter_nil (k : Int) (w : World) : Calls Try.prog 69 #[.pointer none, .int .i64 k] w fun e w' => e = .returned (.int .i64 2) ∧ w = w' := by
  go_enter Try.func69, Try.ntmps69
  go_wp2
  go_ret
  exact ⟨rfl, rfl⟩
theorem woSend_nil (x y : Int) (v : Value) (w : World) : Calls Try.prog 15 #[.pointer none, .int .i64 x, .int .i64 y, v] w fun e w' => e = .returned (.int .i64 2) ∧ w = w' := by
  go_enter Try.func15, Try.ntmps15
  go_wp2
  go_ret
  exact ⟨rfl, rfl⟩
theorem woDrop_nil (k : Int) (w : World) : Calls Try.prog 18 #[.pointer none, .int .i64 k] w fun e w' => e = .returned (.int .i64 2) ∧ w = w' := by
  go_enter Try.func18, Try.ntmps18
  go_wp2_with (go_at_call 69; refine (woletter_nil _ _).mono ?_; rintro e w' ⟨rfl, rfl⟩)
  go_ret
  exact ⟨rfl, rfl⟩
theorem woDouble_nil (k : Int) (w : World) : Calls Try.prog 20 #[.pointer none, .int .i64 k] w fun e w' => e = .returned (.int .i64 2) ∧ w = w' := by
  go_enter Try.func20, Try.ntmps20
  go_wp2_with (go_at_call 69; refine (woletter_nil _ _).mono ?_; rintro e w' ⟨rfl, rfl⟩)
  go_ret
  exact ⟨rfl, rfl⟩
theorem woCut_nil (k : Int) (w : World) : Calls Try.prog 21 #[.pointer none, .int .i64 k] w fun e w' => e = .returned (.int .i64 2) ∧ w = w' := by
  go_enter Try.func21, Try.ntmps21
  go_wp2
  go_ret
  exact ⟨rfl, rfl⟩
theorem woTick_nil (k : Int) (w : World) : Calls Try.prog 23 #[.pointer none, .int .i64 k] w fun e w' => e = .returned (.int .i64 2) ∧ w = w' := by
  go_enter Try.func23, Try.ntmps23
  go_wp2
  go_ret
  exact ⟨rfl, rfl⟩
theorem woLen_nil (w : World) : Calls Try.prog 27 #[.pointer none] w fun e w' => e = .returned (.int .i64 0) ∧ w = w' := by
  go_enter Try.func27, Try.ntmps27
  go_wp2
  go_ret
  exact ⟨rfl, rfl⟩
theorem woTaken_nil (w : World) : Calls Try.prog 28 #[.pointer none] w fun e w' => e = .returned (.int .i64 0) ∧ w = w' := by
  go_enter Try.func28, Try.ntmps28
  go_wp2
  go_ret
  exact ⟨rfl, rfl⟩
theorem woLost_nil (w : World) : Calls Try.prog 29 #[.pointer none] w fun e w' => e = .returned (.int .i64 0) ∧ w = w' := by
  go_enter Try.func29, Try.ntmps29
  go_wp2
  go_ret
  exact ⟨rfl, rfl⟩
theorem woApart_nil (x y : Int) (w : World) : Calls Try.prog 17 #[.pointer none, .int .i64 x, .int .i64 y] w fun e w' => e = .returned (.bool false) ∧ w = w' := by
  go_enter Try.func17, Try.ntmps17
  go_wp2_with (go_at_call 62; refine (wohas_nil _ _).mono ?_; rintro e w' ⟨rfl, rfl⟩)
  go_ret
  exact ⟨rfl, rfl⟩
theorem woMay_nil (x : Int) (w : World) : Calls Try.prog 24 #[.pointer none, .int .i64 x] w fun e w' => e = .returned (.bool false) ∧ w = w' := by
  go_enter Try.func24, Try.ntmps24
  go_wp2_with (go_at_call 62; refine (wohas_nil _ _).mono ?_; rintro e w' ⟨rfl, rfl⟩)
  go_ret
  exact ⟨rfl, rfl⟩
theorem woClock_nil (x : Int) (w : World) : Calls Try.prog 22 #[.pointer none, .int .i64 x] w fun e w' => e = .returned (.int .i64 0) ∧ w = w' := by
  go_enter Try.func22, Try.ntmps22
  go_wp2_with (go_at_call 62; refine (wohas_nil _ _).mono ?_; rintro e w' ⟨rfl, rfl⟩)
  go_ret
  exact ⟨rfl, rfl⟩
theorem woClose_nil (w : World) : Calls Try.prog 30 #[.pointer none] w fun e w' => e = .returned (.bool false) ∧ Below w.heap.size w w' := by
  have B1 : Blk (w.alloc (.cells #[.pointer none] 23)) w.heap.size 23 [.pointer none] := Blk.new' w _ _
  have c1 := B1.cell (by simp [maxLen]) 0 (by simp)
  simp only [List.getElem?_cons_zero] at c1
  clear B1
  go_enter Try.func30, Try.ntmps30
  go_wp2
  go_ret
  exact ⟨rfl, (Below.refl _ _).alloc (Nat.le_refl _) _⟩
theorem woLook_nil (k : Int) (w : World) : Calls Try.prog 19 #[.pointer none, .int .i64 k] w fun e w' => e = .returned (.tuple #[lz, .int .i64 2]) ∧ Below w.heap.size w w' := by
  have b0 : Below w.heap.size w (w.alloc (.cells #[.int .i64 0, .int .i64 0, .slice none 0 0] 41)) := (Below.refl _ _).alloc (Nat.le_refl _) _
  have H1 : Hid _ := b0
  clear b0
  unfold lz
  go_enter Try.func19, Try.ntmps19
  go_wp2_with (go_at_call 69; refine (woletter_nil _ _).mono ?_; rintro e w' ⟨rfl, rfl⟩)
  refine bodyPost_ret (v := .tuple #[.agg #[.int .i64 0, .int .i64 0, .slice none 0 0], .int .i64 2]) (by simp [results, Try.results19, go_sem]) rfl ?_
  exact ⟨rfl, H1.out⟩
set_option maxHeartbeats 1000000 in
theorem woTake_nil (k : Int) (w : World) : Calls Try.prog 16 #[.pointer none, .int .i64 k] w fun e w' => e = .returned (.tuple #[lz, .int .i64 2]) ∧ Below w.heap.size w w' := by
  have b0 : Below w.heap.size w (w.alloc (.cells #[.int .i64 0, .int .i64 0, .slice none 0 0] 41)) := (Below.refl _ _).alloc (Nat.le_refl _) _
  have M0 := Blk.new' w 41 [.int .i64 0, .int .i64 0, .slice none 0 0]
  have HK : Hid _ := And.intro b0 M0
  clear b0 M0
  unfold lz
  go_enter Try.func16, Try.ntmps16
  go_wp2_with fail
  generalize w.alloc (.cells #[.int .i64 0, .int .i64 0, .slice none 0 0] 41) = w0 at *
  refine (woLook_nil k w0).mono ?_
  unfold lz
  rintro e w1 ⟨rfl, b1⟩
  obtain ⟨b0, M0⟩ := HK.out
  have M1 := M0.laterB b1
  have b2 : Below w1.heap.size w1 (w1.alloc (.cells #[.int .i64 0, .int .i64 0, .slice none 0 0] 41)) := (Below.refl _ _).alloc (Nat.le_refl _) _
  have M2 := M1.laterB b2
  obtain ⟨⟨y0, y1, y2⟩, f0, f1, f2⟩ := wblk3 M2
  have bb := below_then (below_then b0 b1) b2
  have z := bb.size
  have H4 : Hid _ := wset3 M2 (.int .i64 0) (.int .i64 0) (.slice none 0 0) w.heap.size w bb (Nat.le_refl _) z
  clear M0 M1 M2 b0 b1 b2 bb HK z
  go_wp2
  generalize (((w1.alloc (.cells #[.int .i64 0, .int .i64 0, .slice none 0 0] 41)).setCell ⟨w.heap.size, 0, none⟩ (.int .i64 0)).setCell ⟨w.heap.size, 1, none⟩ (.int .i64 0)).setCell ⟨w.heap.size, 2, none⟩ (.slice none 0 0) = wf at *
  obtain ⟨⟨q0, q1, q2⟩, -⟩ := wblk3 H4.out.1
  refine bodyPost_ret (v := .tuple #[.agg #[.int .i64 0, .int .i64 0, .slice none 0 0], .int .i64 2]) (by simp [results, Try.results16, go_sem, q0, q1, q2]) rfl ?_
  exact ⟨rfl, H4.out.2⟩

set_option maxHeartbeats 1000000 in
theorem as_any (x y : Int) (a : Option Addr) (len cap : Nat) (w : World) :
    Calls Try.prog 26 #[.agg #[.int .i64 x, .int .i64 y, .slice a len cap]] w fun e w' => e = .returned (.agg #[.int .i64 x, .int .i64 y, .slice a len cap]) ∧ Below w.heap.size w w' := by
  have M0 := Blk.new' w 41 [.int .i64 x, .int .i64 y, .slice a len cap]
  have b0 : Below w.heap.size w (w.alloc (.cells #[.int .i64 x, .int .i64 y, .slice a len cap] 41)) := (Below.refl _ _).alloc (Nat.le_refl _) _
  have z0 : (w.alloc (.cells #[.int .i64 x, .int .i64 y, .slice a len cap] 41)).heap.size = w.heap.size + 1 := by simp
  obtain ⟨⟨k0, k1, k2⟩, -⟩ := wblk3 M0
  have H4 : Hid (Below w.heap.size w ((w.alloc (.cells #[.int .i64 x, .int .i64 y, .slice a len cap] 41)).alloc (.cells #[.int .i64 x, .int .i64 y, .slice a len cap] 51))) := below_then b0 ((Below.refl _ _).alloc (Nat.le_refl _) _)
  clear M0 b0 z0
  go_enter Try.func26, Try.ntmps26
  go_wp2
  refine bodyPost_ret (v := .agg #[.int .i64 x, .int .i64 y, .slice a len cap]) (by simp [results, Try.results26, go_sem]) rfl ?_
  exact ⟨rfl, H4.out⟩
set_option maxHeartbeats 1000000 in
/-- two letters that are alike -/
theorem same8_yes (x y : Int) (a a' : Option Addr) (len cap cap' : Nat) (l : List (BitVec 8)) (w : World) (hl : l.length = len) (hr : Row w a l) (hr' : Row w a' l) :
    Calls Try.prog 25 #[.agg #[.int .i64 x, .int .i64 y, .slice a len cap], .agg #[.int .i64 x, .int .i64 y, .slice a' len cap']] w fun e w' => e = .returned (.bool true) ∧ Below w.heap.size w w' := by
  have M0 := Blk.new' w 51 [.int .i64 x, .int .i64 y, .slice a len cap]
  have b0 : Below w.heap.size w (w.alloc (.cells #[.int .i64 x, .int .i64 y, .slice a len cap] 51)) := (Below.refl _ _).alloc (Nat.le_refl _) _
  have z0 : (w.alloc (.cells #[.int .i64 x, .int .i64 y, .slice a len cap] 51)).heap.size = w.heap.size + 1 := by simp
  have M1 := Blk.new' (w.alloc (.cells #[.int .i64 x, .int .i64 y, .slice a len cap] 51)) 51 [.int .i64 x, .int .i64 y, .slice a' len cap']
  have b1 : Below (w.alloc (.cells #[.int .i64 x, .int .i64 y, .slice a len cap] 51)).heap.size (w.alloc (.cells #[.int .i64 x, .int .i64 y, .slice a len cap] 51)) ((w.alloc (.cells #[.int .i64 x, .int .i64 y, .slice a len cap] 51)).alloc (.cells #[.int .i64 x, .int .i64 y, .slice a' len cap'] 51)) := (Below.refl _ _).alloc (Nat.le_refl _) _
  rw [z0] at M1
  have M0' := M0.laterB b1
  have bb := below_then b0 b1
  obtain ⟨⟨k0, k1, k2⟩, -⟩ := wblk3 M0'
  obtain ⟨⟨y0, y1, y2⟩, -⟩ := wblk3 M1
  have hs := (hr.later bb).str len cap hl
  have hs' := (hr'.later bb).str len cap' hl
  have H4 : Hid _ := bb
  clear M0 M1 b0 b1 z0 M0' bb hr hr' hl
  go_enter Try.func25, Try.ntmps25
  go_wp2
  go_ret
  exact ⟨rfl, H4.out⟩
end Go.Proofs.Ytjfodmdijajfbaa
