/- What there is not. -/
import Derived.Test.YtjokohjdpickoaaXRv22
namespace Go.Proofs.Ytjokohjdpickoaa
open Go.RowKit Go.Shelf
set_option linter.unusedVariables false
set_option linter.unusedSimpArgs false
set_option maxRecDepth 4000

theorem hol_nil (w : World) : Calls Try.prog 15 #[.pointer none] w fun e w' => e = .returned (.tuple #[.int .i64 (-1), .int .i64 0]) ∧ w = w' := by
  go_enter Try.func15, Try.ntmps15
  go_wp2
  go_ret2
  exact ⟨rfl, rfl⟩
theorem may_nil (w : World) : Calls Try.prog 12 #[.pointer none, .int .i64 0, .int .i64 0] w fun e w' => e = .returned (.bool false) ∧ w = w' := by
  go_enter Try.func12, Try.ntmps12
  go_wp2
  go_ret
  exact ⟨rfl, rfl⟩
theorem key_nil (w : World) : Calls Try.prog 11 #[.pointer none, .int .i64 0] w fun e w' => e = .returned (.int .u64 0) ∧ w = w' := by
  go_enter Try.func11, Try.ntmps11
  go_wp2
  go_ret
  exact ⟨rfl, rfl⟩
theorem gen_nil (w : World) : Calls Try.prog 19 #[.pointer none] w fun e w' => e = .returned (.int .i64 0) ∧ w = w' := by
  go_enter Try.func19, Try.ntmps19
  go_wp2
  go_ret
  exact ⟨rfl, rfl⟩
theorem fen_nil (w : World) : Calls Try.prog 13 #[.pointer none, .int .i64 0] w fun e w' => e = .returned (.bool false) ∧ w = w' := by
  go_enter Try.func13, Try.ntmps13
  go_wp2
  go_ret
  exact ⟨rfl, rfl⟩
theorem byt_nil (w : World) : Calls Try.prog 16 #[.pointer none] w fun e w' => e = .returned (.slice none 0 0) ∧ w = w' := by
  go_enter Try.func16, Try.ntmps16
  go_wp2
  go_ret
  exact ⟨rfl, rfl⟩
theorem cop_nil (w : World) : Calls Try.prog 20 #[.pointer none] w fun e w' => e = .returned (.pointer none) ∧ w = w' := by
  go_enter Try.func20, Try.ntmps20
  go_wp2
  go_ret
  exact ⟨rfl, rfl⟩
set_option maxHeartbeats 1000000 in
theorem regs_nil (w : World) : Calls Try.prog 17 #[.pointer none] w fun e w' => e = .returned (.func (.func 34) #[] #[.pointer (some ⟨w.heap.size, 0, none⟩)]) ∧ Blk w' w.heap.size 61 (ivs .u64 z16) ∧ Below w.heap.size w w' := by
  have F : Hid _ := And.intro (Blk.new' w 61 (ivs .u64 z16)) ((Below.refl w.heap.size w).alloc (Nat.le_refl _) (.cells (ivs .u64 z16).toArray 61))
  go_enter Try.func17, Try.ntmps17
  go_wp2
  go_ret
  exact ⟨rfl, F.out.1, F.out.2⟩
set_option maxHeartbeats 2000000 in
theorem do_nil (n : Int) (c : Cm) (w : World) : Calls Try.prog 9 #[.pointer none, .int .i64 n, .agg #[.int .i64 c.a, .int .u64 c.key, .int .u64 c.nw, .int .i64 c.t]] w fun e w' => e = .returned (.tuple #[.agg #[.int .i64 2, .int .i64 5, .int .i64 36, .int .i64 0, .slice none 0 0], .slice none 0 0]) ∧ Below w.heap.size w w' := by
  have b1 : Below w.heap.size w (w.alloc (.cells #[.int .i64 c.a, .int .u64 c.key, .int .u64 c.nw, .int .i64 c.t] 37)) := (Below.refl _ _).alloc (Nat.le_refl _) _
  obtain ⟨w0, hw0⟩ : ∃ w0, w0 = w.alloc (.cells #[.int .i64 c.a, .int .u64 c.key, .int .u64 c.nw, .int .i64 c.t] 37) := ⟨_, rfl⟩
  have z0 : w0.heap.size = w.heap.size + 1 := by rw [hw0]; simp
  rw [← hw0] at b1
  have b2 : Below w0.heap.size w0 (w0.alloc (.cells #[.int .i64 0, .int .i64 0, .int .i64 0, .int .i64 0, .slice none 0 0] 28)) := (Below.refl _ _).alloc (Nat.le_refl _) _
  have B2 := Blk.new' w0 28 [.int .i64 0, .int .i64 0, .int .i64 0, .int .i64 0, .slice none 0 0]
  obtain ⟨w1, hw1⟩ : ∃ w1, w1 = w0.alloc (.cells #[.int .i64 0, .int .i64 0, .int .i64 0, .int .i64 0, .slice none 0 0] 28) := ⟨_, rfl⟩
  rw [← hw1] at b2 B2
  rw [z0] at B2
  have H1 : Hid _ := And.intro (below_then b1 b2) B2
  have HW : Hid _ := wrong_any w1
  clear b1 b2 B2 z0
  go_enter Try.func9, Try.ntmps9
  go_wp2_with fail
  rw [← hw0, ← hw1]
  clear hw0 hw1
  refine (Calls.mono HW.out) ?_
  rintro e w2 ⟨rfl, b2⟩
  have B3 := H1.out.2.laterB b2
  have bb := below_then H1.out.1 b2
  have y0 := blk_at B3 0
  have f0 := blk_frozen B3 0
  have y1 := blk_at B3 1
  have f1 := blk_frozen B3 1
  have y2 := blk_at B3 2
  have f2 := blk_frozen B3 2
  have y3 := blk_at B3 3
  have f3 := blk_frozen B3 3
  have y4 := blk_at B3 4
  have f4 := blk_frozen B3 4
  simp only [List.getElem?_cons_zero, List.getElem?_cons_succ] at y0 y1 y2 y3 y4
  have SP := rp5_blk B3 (2) (5) (36) (0)
  have hb5 : Below w.heap.size w (rp5 w2 (w.heap.size + 1) 2 5 36 0) := by
    unfold rp5
    exact ((((bb.setCell (p := ⟨w.heap.size + 1, 0, none⟩) (by show w.heap.size ≤ w.heap.size + 1; omega) _).setCell (p := ⟨w.heap.size + 1, 1, none⟩) (by show w.heap.size ≤ w.heap.size + 1; omega) _).setCell (p := ⟨w.heap.size + 1, 2, none⟩) (by show w.heap.size ≤ w.heap.size + 1; omega) _).setCell (p := ⟨w.heap.size + 1, 3, none⟩) (by show w.heap.size ≤ w.heap.size + 1; omega) _).setCell (p := ⟨w.heap.size + 1, 4, none⟩) (by show w.heap.size ≤ w.heap.size + 1; omega) _
  have G : Hid _ := And.intro SP.1 hb5
  unfold rp5 at G
  clear SP B3 hb5 bb b2 H1
  go_wp2
  clear y0 y1 y2 y3 y4 f0 f1 f2 f3 f4
  generalize (((((w2).setCell ⟨w.heap.size + 1, 0, none⟩ (.int .i64 2)).setCell ⟨w.heap.size + 1, 1, none⟩ (.int .i64 5)).setCell ⟨w.heap.size + 1, 2, none⟩ (.int .i64 36)).setCell ⟨w.heap.size + 1, 3, none⟩ (.int .i64 0)).setCell ⟨w.heap.size + 1, 4, none⟩ (.slice none 0 0) = wf at *
  have y0 := blk_at G.out.1 0
  have y1 := blk_at G.out.1 1
  have y2 := blk_at G.out.1 2
  have y3 := blk_at G.out.1 3
  have y4 := blk_at G.out.1 4
  simp only [List.getElem?_cons_zero, List.getElem?_cons_succ] at y0 y1 y2 y3 y4
  refine bodyPost_ret (v := .tuple #[.agg #[.int .i64 2, .int .i64 5, .int .i64 36, .int .i64 0, .slice none 0 0], .slice none 0 0]) (by simp [results, Try.results9, go_sem, y0, y1, y2, y3, y4]) rfl ?_
  exact ⟨rfl, G.out.2⟩
set_option maxHeartbeats 2000000 in
theorem same_wr (w : World) : Calls Try.prog 18 #[.agg #[.int .i64 2, .int .i64 5, .int .i64 36, .int .i64 0, .slice none 0 0], .agg #[.int .i64 2, .int .i64 5, .int .i64 36, .int .i64 0, .slice none 0 0]] w fun e w' => e = .returned (.bool true) ∧ Below w.heap.size w w' := by
  have b1 : Below w.heap.size w (w.alloc (.cells #[.int .i64 2, .int .i64 5, .int .i64 36, .int .i64 0, .slice none 0 0] 28)) := (Below.refl _ _).alloc (Nat.le_refl _) _
  have b2 : Below (w.alloc (.cells #[.int .i64 2, .int .i64 5, .int .i64 36, .int .i64 0, .slice none 0 0] 28)).heap.size (w.alloc (.cells #[.int .i64 2, .int .i64 5, .int .i64 36, .int .i64 0, .slice none 0 0] 28)) ((w.alloc (.cells #[.int .i64 2, .int .i64 5, .int .i64 36, .int .i64 0, .slice none 0 0] 28)).alloc (.cells #[.int .i64 2, .int .i64 5, .int .i64 36, .int .i64 0, .slice none 0 0] 28)) := (Below.refl _ _).alloc (Nat.le_refl _) _
  have F : Hid _ := below_then b1 b2
  have hcv : ∀ W : World, (convert 26 9 (.slice none 0 0)).run Try.prog W = .ok (.string (str [])) W := fun W => (show Row W none [] from .inl rfl).str 0 0 rfl
  clear b1 b2
  go_enter Try.func18, Try.ntmps18
  go_wp2
  go_ret
  exact ⟨rfl, F.out⟩
end Go.Proofs.Ytjokohjdpickoaa

