/- Do of whomever; what must come of fixed calls. -/
import Derived.Test.YtlopkfenbeahgaaXRv17
import Derived.Test.YtlopkfenbeahgaaXRv19
namespace Go.Proofs.Ytlopkfenbeahgaa
open Go.RowKit Go.Shelf
set_option linter.unusedVariables false
set_option linter.unusedSimpArgs false
set_option maxRecDepth 8000

set_option maxHeartbeats 4000000 in
theorem do_bad (g : Nat) (m : Rs) (n : Int) (c : Cm) (w : World) (h : (rv g m).Ok w) (hn : nxB n = false) : Calls Try.prog 7 #[.pointer (some ⟨g, 0, none⟩), .int .i64 n, .agg #[.int .i64 c.a, .int .u64 c.key, .int .u64 c.nw, .int .i64 c.t]] w (Does w g (doM m n c)) := by
  have HMD0 : doM m n c = ((2, 5, 36, 0), m, []) := by unfold doM; rw [if_pos hn]
  have HMD : Hid _ := HMD0
  clear HMD0
  have hgl := h.holds.1.lt
  have b1 : Below w.heap.size w (w.alloc (.cells #[.int .i64 c.a, .int .u64 c.key, .int .u64 c.nw, .int .i64 c.t] 37)) := (Below.refl _ _).alloc (Nat.le_refl _) _
  have B1 := Blk.new' w 37 [.int .i64 c.a, .int .u64 c.key, .int .u64 c.nw, .int .i64 c.t]
  obtain ⟨w0, hw0⟩ : ∃ w0, w0 = w.alloc (.cells #[.int .i64 c.a, .int .u64 c.key, .int .u64 c.nw, .int .i64 c.t] 37) := ⟨_, rfl⟩
  have z0 : w0.heap.size = w.heap.size + 1 := by rw [hw0]; simp
  rw [← hw0] at b1 B1
  have b2 : Below w0.heap.size w0 (w0.alloc (.cells #[.int .i64 0, .int .i64 0, .int .i64 0, .int .i64 0, .slice none 0 0] 28)) := (Below.refl _ _).alloc (Nat.le_refl _) _
  have B2 := Blk.new' w0 28 [.int .i64 0, .int .i64 0, .int .i64 0, .int .i64 0, .slice none 0 0]
  obtain ⟨w1, hw1⟩ : ∃ w1, w1 = w0.alloc (.cells #[.int .i64 0, .int .i64 0, .int .i64 0, .int .i64 0, .slice none 0 0] 28) := ⟨_, rfl⟩
  have z1 : w1.heap.size = w.heap.size + 2 := by rw [hw1]; simp [z0]
  rw [← hw1] at b2 B2
  rw [z0] at B2
  have H1 : Hid (RT w w1 g m ∧ Blk w1 w.heap.size 37 [.int .i64 c.a, .int .u64 c.key, .int .u64 c.nw, .int .i64 c.t] ∧ Blk w1 (w.heap.size + 1) 28 [.int .i64 0, .int .i64 0, .int .i64 0, .int .i64 0, .slice none 0 0] ∧ w1.heap.size = w.heap.size + 2 ∧ g < w.heap.size) := ⟨(RT.start h).later (below_then b1 b2), B1.laterB b2, B2, z1, hgl⟩
  clear b1 B1 b2 B2 z0 z1 hgl h
  go_enter Try.func7, Try.ntmps7
  go_upto_region 1 with fail
  rw [← hw0, ← hw1]
  clear hw0 hw1
  have HNx : Hid _ := isNx_any n w1
  rw [hn] at HNx
  have RTW := H1.out.1
  have BW := H1.out.2.2.1
  go_wp2_with fail
  refine (Calls.mono HNx.out) ?_
  rintro e _ ⟨rfl, rfl⟩
  clear HNx
  have HG : Hid _ := wrong_any w1
  go_wp2_with fail
  refine (Calls.mono HG.out) ?_
  rintro e w9 ⟨rfl, b9⟩
  have r3' := RTW.later b9
  have B3 := BW.laterB b9
  have hN' : Nts w w9 (.slice none 0 0) [] := Nts.nil _ _
  have han : ∀ b, (Value.slice none 0 0).ownBlock = some b → b ≠ w.heap.size + 1 := fun b hb => by cases hb
  clear HG b9 RTW BW
  have y0 := blk_at B3 0
  have f0 := blk_frozen B3 0
  have y1 := blk_at B3 1
  have f1 := blk_frozen B3 1
  have y2 := blk_at B3 2
  have f2 := blk_frozen B3 2
  have y3 := blk_at B3 3
  have f3 := blk_frozen B3 3
  have y4 := blk_at B3 4
  have f4 := blk_frozen B3 4
  simp only [List.getElem?_cons_zero, List.getElem?_cons_succ] at y0 y1 y2 y3 y4
  have SP := rp5_blk B3 (2) (5) (36) (0)
  have G : Hid _ := And.intro SP.1 (And.intro (r3'.codes SP.2 (by omega) H1.out.2.2.2.2) (hN'.keep SP.2 han))
  unfold rp5 at G
  clear SP B3
  go_wp2
  clear y0 y1 y2 y3 y4 f0 f1 f2 f3 f4
  generalize (((((w9).setCell ⟨w.heap.size + 1, 0, none⟩ (.int .i64 2)).setCell ⟨w.heap.size + 1, 1, none⟩ (.int .i64 5)).setCell ⟨w.heap.size + 1, 2, none⟩ (.int .i64 36)).setCell ⟨w.heap.size + 1, 3, none⟩ (.int .i64 0)).setCell ⟨w.heap.size + 1, 4, none⟩ (.slice none 0 0) = wf at *
  have y0 := blk_at G.out.1 0
  have y1 := blk_at G.out.1 1
  have y2 := blk_at G.out.1 2
  have y3 := blk_at G.out.1 3
  have y4 := blk_at G.out.1 4
  simp only [List.getElem?_cons_zero, List.getElem?_cons_succ] at y0 y1 y2 y3 y4
  refine bodyPost_ret (v := .tuple #[.agg #[.int .i64 2, .int .i64 5, .int .i64 36, .int .i64 0, .slice none 0 0], .slice none 0 0]) (by simp [results, Try.results7, go_sem, y0, y1, y2, y3, y4]) rfl ?_
  exact ⟨_, by rw [HMD.out]; rfl, by rw [HMD.out]; exact G.out.2.2, by rw [HMD.out]; exact G.out.2.1⟩
theorem doN_any (g : Nat) (m : Rs) (n : Int) (c : Cm) (w : World) (h : (rv g m).Ok w) (hnw : 0 ≤ c.nw ∧ c.nw < 18446744073709551616) : Calls Try.prog 7 #[.pointer (some ⟨g, 0, none⟩), .int .i64 n, .agg #[.int .i64 c.a, .int .u64 c.key, .int .u64 c.nw, .int .i64 c.t]] w (Does w g (doM m n c)) := by
  cases hn : nxB n with
  | false => exact do_bad g m n c w h hn
  | true =>
    have hn' : 0 ≤ n ∧ n < 16 := of_decide_eq_true hn
    obtain ⟨i, rfl⟩ : ∃ i : Nat, n = i := ⟨n.toNat, by omega⟩
    exact do_any g m i c w h (by omega) hnw
set_option maxHeartbeats 1000000 in
theorem given_any (c : Cm) (w : World) : Calls Try.prog 8 #[.agg #[.int .i64 c.a, .int .u64 c.key, .int .u64 c.nw, .int .i64 c.t]] w fun e w' => e = .returned (.agg #[.int .i64 c.a, .int .u64 c.key, .int .u64 c.nw, .int .i64 c.t]) ∧ Below w.heap.size w w' := by
  have b1 : Below w.heap.size w (w.alloc (.cells #[.int .i64 c.a, .int .u64 c.key, .int .u64 c.nw, .int .i64 c.t] 34)) := (Below.refl _ _).alloc (Nat.le_refl _) _
  have b2 : Below (w.alloc (.cells #[.int .i64 c.a, .int .u64 c.key, .int .u64 c.nw, .int .i64 c.t] 34)).heap.size (w.alloc (.cells #[.int .i64 c.a, .int .u64 c.key, .int .u64 c.nw, .int .i64 c.t] 34)) ((w.alloc (.cells #[.int .i64 c.a, .int .u64 c.key, .int .u64 c.nw, .int .i64 c.t] 34)).alloc (.cells #[.int .i64 c.a, .int .u64 c.key, .int .u64 c.nw, .int .i64 c.t] 37)) := (Below.refl _ _).alloc (Nat.le_refl _) _
  have A2 := Blk.new' (w.alloc (.cells #[.int .i64 c.a, .int .u64 c.key, .int .u64 c.nw, .int .i64 c.t] 34)) 37 [.int .i64 c.a, .int .u64 c.key, .int .u64 c.nw, .int .i64 c.t]
  have y0 := blk_at A2 0
  have y1 := blk_at A2 1
  have y2 := blk_at A2 2
  have y3 := blk_at A2 3
  simp only [List.getElem?_cons_zero, List.getElem?_cons_succ, World.size_alloc] at y0 y1 y2 y3
  have F : Hid _ := below_then b1 b2
  clear b1 b2 A2
  go_enter Try.func8, Try.ntmps8
  go_wp2
  generalize (w.alloc (.cells #[.int .i64 c.a, .int .u64 c.key, .int .u64 c.nw, .int .i64 c.t] 34)).alloc (.cells #[.int .i64 c.a, .int .u64 c.key, .int .u64 c.nw, .int .i64 c.t] 37) = w1 at *
  refine bodyPost_ret (v := .agg #[.int .i64 c.a, .int .u64 c.key, .int .u64 c.nw, .int .i64 c.t]) (by simp [results, Try.results8, go_sem, y0, y1, y2, y3]) rfl ?_
  exact ⟨rfl, F.out⟩
def rs0 : Rs := ⟨0, 0, 0, List.replicate 16 false, z16⟩
def kA1 : Ans := doM rs0 1 ⟨0, 0, 5, 0⟩
def kA2 : Ans := doM kA1.2.1 2 ⟨0, 0, 6, 0⟩
def kA3 : Ans := doM kA2.2.1 1 ⟨1, 5, 0, 5⟩
def kA4 : Ans := doM kA3.2.1 2 ⟨4, 6, 5, 5⟩
theorem kA1_1 : kA1.1 = (0, 0, 0, 0) := by decide +kernel
theorem kA2_1 : kA2.1 = (0, 0, 0, 0) := by decide +kernel
theorem kA3_1 : kA3.1 = (0, 0, 0, 0) := by decide +kernel
theorem kA4_1 : kA4.1 = (0, 0, 0, 0) := by decide +kernel
theorem kA4_n : kA4.2.2 = [(1, 5)] := by decide +kernel
theorem kA4_h : holM kA4.2.1 = (2, 5) := by decide +kernel
theorem kA4_w : mayM kA4.2.1 1 2 = false := by decide +kernel
theorem kA4_r : mayM kA4.2.1 1 1 = true := by decide +kernel
theorem kA4_f : fenM kA4.2.1 1 = true := by decide +kernel
theorem kA4_g : kA4.2.1.gen = 3 := by decide +kernel
end Go.Proofs.Ytlopkfenbeahgaa

