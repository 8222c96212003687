/- A message read. -/
import Derived.Test.YtgjcgnmomdanaaaXEm7
import Derived.Test.YtgjcgnmomdanaaaXDraw
import Derived.Test.YtgjcgnmomdanaaaXEp3
import Derived.Test.YtgjcgnmomdanaaaXEm1
namespace Go.Proofs.Ytgjcgnmomdanaaa
open Go.RowKit Go.Shelf
set_option linter.unusedVariables false
set_option linter.unusedSimpArgs false
set_option maxRecDepth 20000

theorem eblk11f {w : World} {g : Nat} {T : TypeId} {a b c d e f h i j k l : Value} (M : Blk w g T [a, b, c, d, e, f, h, i, j, k, l]) : w.frozen? ⟨g, 0, none⟩ = false ∧ w.frozen? ⟨g, 1, none⟩ = false ∧ w.frozen? ⟨g, 2, none⟩ = false ∧ w.frozen? ⟨g, 3, none⟩ = false ∧ w.frozen? ⟨g, 4, none⟩ = false ∧ w.frozen? ⟨g, 5, none⟩ = false ∧ w.frozen? ⟨g, 6, none⟩ = false ∧ w.frozen? ⟨g, 7, none⟩ = false ∧ w.frozen? ⟨g, 8, none⟩ = false ∧ w.frozen? ⟨g, 9, none⟩ = false ∧ w.frozen? ⟨g, 10, none⟩ = false :=
  ⟨M.frozen (by simp [maxLen]) 0, M.frozen (by simp [maxLen]) 1, M.frozen (by simp [maxLen]) 2, M.frozen (by simp [maxLen]) 3, M.frozen (by simp [maxLen]) 4, M.frozen (by simp [maxLen]) 5, M.frozen (by simp [maxLen]) 6, M.frozen (by simp [maxLen]) 7, M.frozen (by simp [maxLen]) 8, M.frozen (by simp [maxLen]) 9, M.frozen (by simp [maxLen]) 10⟩
set_option maxHeartbeats 8000000 in
theorem readMsg_any (g : Nat) (s : Rs) (w : World) (hR : Rd w [] g 98 s.1 s.2) :
    Calls Try.prog 29 #[.pointer (some ⟨g, 0, none⟩)] w fun e w' => RmR g s w e w' := by
  have b0 := box11_below w #[.int .i64 0, .int .i64 0, .int .i64 0, .int .i64 0, .int .i64 0, .int .i64 0, .int .i64 0, .int .i64 0, .bool false, .slice none 0 0, .slice none 0 0] 25
  have M0 : Blk (w.alloc (.cells #[.int .i64 0, .int .i64 0, .int .i64 0, .int .i64 0, .int .i64 0, .int .i64 0, .int .i64 0, .int .i64 0, .bool false, .slice none 0 0, .slice none 0 0] 25)) w.heap.size 25 [.int .i64 0, .int .i64 0, .int .i64 0, .int .i64 0, .int .i64 0, .int .i64 0, .int .i64 0, .int .i64 0, .bool false, .slice none 0 0, .slice none 0 0] := Blk.new' w _ _
  have b1 := box11_below (w.alloc (.cells #[.int .i64 0, .int .i64 0, .int .i64 0, .int .i64 0, .int .i64 0, .int .i64 0, .int .i64 0, .int .i64 0, .bool false, .slice none 0 0, .slice none 0 0] 25)) #[.int .i64 0, .int .i64 0, .int .i64 0, .int .i64 0, .int .i64 0, .int .i64 0, .int .i64 0, .int .i64 0, .bool false, .slice none 0 0, .slice none 0 0] 25
  have M1 : Blk ((w.alloc (.cells #[.int .i64 0, .int .i64 0, .int .i64 0, .int .i64 0, .int .i64 0, .int .i64 0, .int .i64 0, .int .i64 0, .bool false, .slice none 0 0, .slice none 0 0] 25)).alloc (.cells #[.int .i64 0, .int .i64 0, .int .i64 0, .int .i64 0, .int .i64 0, .int .i64 0, .int .i64 0, .int .i64 0, .bool false, .slice none 0 0, .slice none 0 0] 25)) (w.alloc (.cells #[.int .i64 0, .int .i64 0, .int .i64 0, .int .i64 0, .int .i64 0, .int .i64 0, .int .i64 0, .int .i64 0, .bool false, .slice none 0 0, .slice none 0 0] 25)).heap.size 25 [.int .i64 0, .int .i64 0, .int .i64 0, .int .i64 0, .int .i64 0, .int .i64 0, .int .i64 0, .int .i64 0, .bool false, .slice none 0 0, .slice none 0 0] := Blk.new' _ _ _
  have hs : (w.alloc (.cells #[.int .i64 0, .int .i64 0, .int .i64 0, .int .i64 0, .int .i64 0, .int .i64 0, .int .i64 0, .int .i64 0, .bool false, .slice none 0 0, .slice none 0 0] 25)).heap.size = w.heap.size + 1 := by first | simp | rfl
  have R1 := (((hR.more w.heap.size (Nat.le_refl _)).later b0).more (w.heap.size + 1) (by omega)).later b1
  rw [hs] at M1
  have hgl := hR.blt
  have H0 : Hid (RM g w.heap.size (w.heap.size + 1) w ((w.alloc (.cells #[.int .i64 0, .int .i64 0, .int .i64 0, .int .i64 0, .int .i64 0, .int .i64 0, .int .i64 0, .int .i64 0, .bool false, .slice none 0 0, .slice none 0 0] 25)).alloc (.cells #[.int .i64 0, .int .i64 0, .int .i64 0, .int .i64 0, .int .i64 0, .int .i64 0, .int .i64 0, .int .i64 0, .bool false, .slice none 0 0, .slice none 0 0] 25)) s [.int .i64 0, .int .i64 0, .int .i64 0, .int .i64 0, .int .i64 0, .int .i64 0, .int .i64 0, .int .i64 0, .bool false, .slice none 0 0, .slice none 0 0] [.int .i64 0, .int .i64 0, .int .i64 0, .int .i64 0, .int .i64 0, .int .i64 0, .int .i64 0, .int .i64 0, .bool false, .slice none 0 0, .slice none 0 0]) := ⟨(turned_below (below_then b0 b1)).mono (fun _ e => absurd e id), R1, M0.laterB b1, M1, ⟨hgl, Nat.le_refl _, by omega, by omega⟩⟩
  clear b0 M0 b1 M1 hs R1 hR
  go_enter Try.func29, Try.ntmps29
  go_wp2_with fail
  generalize (w.alloc (.cells #[.int .i64 0, .int .i64 0, .int .i64 0, .int .i64 0, .int .i64 0, .int .i64 0, .int .i64 0, .int .i64 0, .bool false, .slice none 0 0, .slice none 0 0] 25)).alloc (.cells #[.int .i64 0, .int .i64 0, .int .i64 0, .int .i64 0, .int .i64 0, .int .i64 0, .int .i64 0, .int .i64 0, .bool false, .slice none 0 0, .slice none 0 0] 25) = e0 at *
  have N : Calls Try.prog 59 #[.pointer (some ⟨g, 0, none⟩), .int .i64 1] e0 fun e w' => e = .returned (.int .i64 (rnV s 1)) ∧ Rd w' [w.heap.size + 1, w.heap.size] g 98 (rn s 1).1 (rn s 1).2 ∧ e0.grownBy w' (some g) := Num_any _ g _ _ 1 e0 H0.out.rd
  obtain ⟨X0, hX0⟩ : ∃ X, X = rnV s 1 := ⟨_, rfl⟩
  rw [← hX0] at N
  have HX0 : Hid (X0 = rnV s 1) := hX0
  clear hX0
  refine N.mono ?_
  rintro r d0 ⟨rfl, R', g'⟩
  have hD := H0.out.read R' g'
  obtain ⟨u0, u1, u2, u3, u4, u5, u6, u7, u8, u9, u10⟩ := eblk11 hD.m4
  obtain ⟨f0, f1, f2, f3, f4, f5, f6, f7, f8, f9, f10⟩ := eblk11f hD.m4
  have H1 : Hid (RM g w.heap.size (w.heap.size + 1) w (d0.setCell ⟨w.heap.size + 1, 0, none⟩ (.int .i64 X0)) (rn s 1) [.int .i64 0, .int .i64 0, .int .i64 0, .int .i64 0, .int .i64 0, .int .i64 0, .int .i64 0, .int .i64 0, .bool false, .slice none 0 0, .slice none 0 0] [.int .i64 X0, .int .i64 0, .int .i64 0, .int .i64 0, .int .i64 0, .int .i64 0, .int .i64 0, .int .i64 0, .bool false, .slice none 0 0, .slice none 0 0]) := hD.put 0 (.int .i64 X0)
  clear N R' g' hD H0
  go_wp2_with fail
  generalize d0.setCell ⟨w.heap.size + 1, 0, none⟩ (.int .i64 X0) = e1 at *
  clear u0 f0 u1 f1 u2 f2 u3 f3 u4 f4 u5 f5 u6 f6 u7 f7 u8 f8 u9 f9 u10 f10
  have N : Calls Try.prog 59 #[.pointer (some ⟨g, 0, none⟩), .int .i64 1] e1 fun e w' => e = .returned (.int .i64 (rnV (rn s 1) 1)) ∧ Rd w' [w.heap.size + 1, w.heap.size] g 98 (rn (rn s 1) 1).1 (rn (rn s 1) 1).2 ∧ e1.grownBy w' (some g) := Num_any _ g _ _ 1 e1 H1.out.rd
  obtain ⟨X1, hX1⟩ : ∃ X, X = rnV (rn s 1) 1 := ⟨_, rfl⟩
  rw [← hX1] at N
  have HX1 : Hid (X1 = rnV (rn s 1) 1) := hX1
  clear hX1
  refine N.mono ?_
  rintro r d1 ⟨rfl, R', g'⟩
  have hD := H1.out.read R' g'
  obtain ⟨u0, u1, u2, u3, u4, u5, u6, u7, u8, u9, u10⟩ := eblk11 hD.m4
  obtain ⟨f0, f1, f2, f3, f4, f5, f6, f7, f8, f9, f10⟩ := eblk11f hD.m4
  have H2 : Hid (RM g w.heap.size (w.heap.size + 1) w (d1.setCell ⟨w.heap.size + 1, 1, none⟩ (.int .i64 X1)) (rn (rn s 1) 1) [.int .i64 0, .int .i64 0, .int .i64 0, .int .i64 0, .int .i64 0, .int .i64 0, .int .i64 0, .int .i64 0, .bool false, .slice none 0 0, .slice none 0 0] [.int .i64 X0, .int .i64 X1, .int .i64 0, .int .i64 0, .int .i64 0, .int .i64 0, .int .i64 0, .int .i64 0, .bool false, .slice none 0 0, .slice none 0 0]) := hD.put 1 (.int .i64 X1)
  clear N R' g' hD H1
  go_wp2_with fail
  generalize d1.setCell ⟨w.heap.size + 1, 1, none⟩ (.int .i64 X1) = e2 at *
  clear u0 f0 u1 f1 u2 f2 u3 f3 u4 f4 u5 f5 u6 f6 u7 f7 u8 f8 u9 f9 u10 f10
  have N : Calls Try.prog 59 #[.pointer (some ⟨g, 0, none⟩), .int .i64 1] e2 fun e w' => e = .returned (.int .i64 (rnV (rn (rn s 1) 1) 1)) ∧ Rd w' [w.heap.size + 1, w.heap.size] g 98 (rn (rn (rn s 1) 1) 1).1 (rn (rn (rn s 1) 1) 1).2 ∧ e2.grownBy w' (some g) := Num_any _ g _ _ 1 e2 H2.out.rd
  obtain ⟨X2, hX2⟩ : ∃ X, X = rnV (rn (rn s 1) 1) 1 := ⟨_, rfl⟩
  rw [← hX2] at N
  have HX2 : Hid (X2 = rnV (rn (rn s 1) 1) 1) := hX2
  clear hX2
  refine N.mono ?_
  rintro r d2 ⟨rfl, R', g'⟩
  have hD := H2.out.read R' g'
  obtain ⟨u0, u1, u2, u3, u4, u5, u6, u7, u8, u9, u10⟩ := eblk11 hD.m4
  obtain ⟨f0, f1, f2, f3, f4, f5, f6, f7, f8, f9, f10⟩ := eblk11f hD.m4
  have H3 : Hid (RM g w.heap.size (w.heap.size + 1) w (d2.setCell ⟨w.heap.size + 1, 2, none⟩ (.int .i64 X2)) (rn (rn (rn s 1) 1) 1) [.int .i64 0, .int .i64 0, .int .i64 0, .int .i64 0, .int .i64 0, .int .i64 0, .int .i64 0, .int .i64 0, .bool false, .slice none 0 0, .slice none 0 0] [.int .i64 X0, .int .i64 X1, .int .i64 X2, .int .i64 0, .int .i64 0, .int .i64 0, .int .i64 0, .int .i64 0, .bool false, .slice none 0 0, .slice none 0 0]) := hD.put 2 (.int .i64 X2)
  clear N R' g' hD H2
  go_wp2_with fail
  generalize d2.setCell ⟨w.heap.size + 1, 2, none⟩ (.int .i64 X2) = e3 at *
  clear u0 f0 u1 f1 u2 f2 u3 f3 u4 f4 u5 f5 u6 f6 u7 f7 u8 f8 u9 f9 u10 f10
  have N : Calls Try.prog 59 #[.pointer (some ⟨g, 0, none⟩), .int .i64 1] e3 fun e w' => e = .returned (.int .i64 (rnV (rn (rn (rn s 1) 1) 1) 1)) ∧ Rd w' [w.heap.size + 1, w.heap.size] g 98 (rn (rn (rn (rn s 1) 1) 1) 1).1 (rn (rn (rn (rn s 1) 1) 1) 1).2 ∧ e3.grownBy w' (some g) := Num_any _ g _ _ 1 e3 H3.out.rd
  obtain ⟨X3, hX3⟩ : ∃ X, X = rnV (rn (rn (rn s 1) 1) 1) 1 := ⟨_, rfl⟩
  rw [← hX3] at N
  have HX3 : Hid (X3 = rnV (rn (rn (rn s 1) 1) 1) 1) := hX3
  clear hX3
  refine N.mono ?_
  rintro r d3 ⟨rfl, R', g'⟩
  have hD := H3.out.read R' g'
  obtain ⟨u0, u1, u2, u3, u4, u5, u6, u7, u8, u9, u10⟩ := eblk11 hD.m4
  obtain ⟨f0, f1, f2, f3, f4, f5, f6, f7, f8, f9, f10⟩ := eblk11f hD.m4
  have H4 : Hid (RM g w.heap.size (w.heap.size + 1) w (d3.setCell ⟨w.heap.size + 1, 8, none⟩ (.bool (X3 == 1))) (rn (rn (rn (rn s 1) 1) 1) 1) [.int .i64 0, .int .i64 0, .int .i64 0, .int .i64 0, .int .i64 0, .int .i64 0, .int .i64 0, .int .i64 0, .bool false, .slice none 0 0, .slice none 0 0] [.int .i64 X0, .int .i64 X1, .int .i64 X2, .int .i64 0, .int .i64 0, .int .i64 0, .int .i64 0, .int .i64 0, .bool (X3 == 1), .slice none 0 0, .slice none 0 0]) := hD.put 8 (.bool (X3 == 1))
  clear N R' g' hD H3
  go_wp2_with fail
  generalize d3.setCell ⟨w.heap.size + 1, 8, none⟩ (.bool (X3 == 1)) = e4 at *
  clear u0 f0 u1 f1 u2 f2 u3 f3 u4 f4 u5 f5 u6 f6 u7 f7 u8 f8 u9 f9 u10 f10
  have N : Calls Try.prog 59 #[.pointer (some ⟨g, 0, none⟩), .int .i64 6] e4 fun e w' => e = .returned (.int .i64 (rnV (rn (rn (rn (rn s 1) 1) 1) 1) 6)) ∧ Rd w' [w.heap.size + 1, w.heap.size] g 98 (rn (rn (rn (rn (rn s 1) 1) 1) 1) 6).1 (rn (rn (rn (rn (rn s 1) 1) 1) 1) 6).2 ∧ e4.grownBy w' (some g) := Num_any _ g _ _ 6 e4 H4.out.rd
  obtain ⟨X4, hX4⟩ : ∃ X, X = rnV (rn (rn (rn (rn s 1) 1) 1) 1) 6 := ⟨_, rfl⟩
  rw [← hX4] at N
  have HX4 : Hid (X4 = rnV (rn (rn (rn (rn s 1) 1) 1) 1) 6) := hX4
  clear hX4
  refine N.mono ?_
  rintro r d4 ⟨rfl, R', g'⟩
  have hD := H4.out.read R' g'
  obtain ⟨u0, u1, u2, u3, u4, u5, u6, u7, u8, u9, u10⟩ := eblk11 hD.m4
  obtain ⟨f0, f1, f2, f3, f4, f5, f6, f7, f8, f9, f10⟩ := eblk11f hD.m4
  have H5 : Hid (RM g w.heap.size (w.heap.size + 1) w (d4.setCell ⟨w.heap.size + 1, 3, none⟩ (.int .i64 X4)) (rn (rn (rn (rn (rn s 1) 1) 1) 1) 6) [.int .i64 0, .int .i64 0, .int .i64 0, .int .i64 0, .int .i64 0, .int .i64 0, .int .i64 0, .int .i64 0, .bool false, .slice none 0 0, .slice none 0 0] [.int .i64 X0, .int .i64 X1, .int .i64 X2, .int .i64 X4, .int .i64 0, .int .i64 0, .int .i64 0, .int .i64 0, .bool (X3 == 1), .slice none 0 0, .slice none 0 0]) := hD.put 3 (.int .i64 X4)
  clear N R' g' hD H4
  go_wp2_with fail
  generalize d4.setCell ⟨w.heap.size + 1, 3, none⟩ (.int .i64 X4) = e5 at *
  clear u0 f0 u1 f1 u2 f2 u3 f3 u4 f4 u5 f5 u6 f6 u7 f7 u8 f8 u9 f9 u10 f10
  have N : Calls Try.prog 59 #[.pointer (some ⟨g, 0, none⟩), .int .i64 6] e5 fun e w' => e = .returned (.int .i64 (rnV (rn (rn (rn (rn (rn s 1) 1) 1) 1) 6) 6)) ∧ Rd w' [w.heap.size + 1, w.heap.size] g 98 (rn (rn (rn (rn (rn (rn s 1) 1) 1) 1) 6) 6).1 (rn (rn (rn (rn (rn (rn s 1) 1) 1) 1) 6) 6).2 ∧ e5.grownBy w' (some g) := Num_any _ g _ _ 6 e5 H5.out.rd
  obtain ⟨X5, hX5⟩ : ∃ X, X = rnV (rn (rn (rn (rn (rn s 1) 1) 1) 1) 6) 6 := ⟨_, rfl⟩
  rw [← hX5] at N
  have HX5 : Hid (X5 = rnV (rn (rn (rn (rn (rn s 1) 1) 1) 1) 6) 6) := hX5
  clear hX5
  refine N.mono ?_
  rintro r d5 ⟨rfl, R', g'⟩
  have hD := H5.out.read R' g'
  obtain ⟨u0, u1, u2, u3, u4, u5, u6, u7, u8, u9, u10⟩ := eblk11 hD.m4
  obtain ⟨f0, f1, f2, f3, f4, f5, f6, f7, f8, f9, f10⟩ := eblk11f hD.m4
  have H6 : Hid (RM g w.heap.size (w.heap.size + 1) w (d5.setCell ⟨w.heap.size + 1, 4, none⟩ (.int .i64 X5)) (rn (rn (rn (rn (rn (rn s 1) 1) 1) 1) 6) 6) [.int .i64 0, .int .i64 0, .int .i64 0, .int .i64 0, .int .i64 0, .int .i64 0, .int .i64 0, .int .i64 0, .bool false, .slice none 0 0, .slice none 0 0] [.int .i64 X0, .int .i64 X1, .int .i64 X2, .int .i64 X4, .int .i64 X5, .int .i64 0, .int .i64 0, .int .i64 0, .bool (X3 == 1), .slice none 0 0, .slice none 0 0]) := hD.put 4 (.int .i64 X5)
  clear N R' g' hD H5
  go_wp2_with fail
  generalize d5.setCell ⟨w.heap.size + 1, 4, none⟩ (.int .i64 X5) = e6 at *
  clear u0 f0 u1 f1 u2 f2 u3 f3 u4 f4 u5 f5 u6 f6 u7 f7 u8 f8 u9 f9 u10 f10
  have N : Calls Try.prog 59 #[.pointer (some ⟨g, 0, none⟩), .int .i64 6] e6 fun e w' => e = .returned (.int .i64 (rnV (rn (rn (rn (rn (rn (rn s 1) 1) 1) 1) 6) 6) 6)) ∧ Rd w' [w.heap.size + 1, w.heap.size] g 98 (rn (rn (rn (rn (rn (rn (rn s 1) 1) 1) 1) 6) 6) 6).1 (rn (rn (rn (rn (rn (rn (rn s 1) 1) 1) 1) 6) 6) 6).2 ∧ e6.grownBy w' (some g) := Num_any _ g _ _ 6 e6 H6.out.rd
  obtain ⟨X6, hX6⟩ : ∃ X, X = rnV (rn (rn (rn (rn (rn (rn s 1) 1) 1) 1) 6) 6) 6 := ⟨_, rfl⟩
  rw [← hX6] at N
  have HX6 : Hid (X6 = rnV (rn (rn (rn (rn (rn (rn s 1) 1) 1) 1) 6) 6) 6) := hX6
  clear hX6
  refine N.mono ?_
  rintro r d6 ⟨rfl, R', g'⟩
  have hD := H6.out.read R' g'
  obtain ⟨u0, u1, u2, u3, u4, u5, u6, u7, u8, u9, u10⟩ := eblk11 hD.m4
  obtain ⟨f0, f1, f2, f3, f4, f5, f6, f7, f8, f9, f10⟩ := eblk11f hD.m4
  have H7 : Hid (RM g w.heap.size (w.heap.size + 1) w (d6.setCell ⟨w.heap.size + 1, 5, none⟩ (.int .i64 X6)) (rn (rn (rn (rn (rn (rn (rn s 1) 1) 1) 1) 6) 6) 6) [.int .i64 0, .int .i64 0, .int .i64 0, .int .i64 0, .int .i64 0, .int .i64 0, .int .i64 0, .int .i64 0, .bool false, .slice none 0 0, .slice none 0 0] [.int .i64 X0, .int .i64 X1, .int .i64 X2, .int .i64 X4, .int .i64 X5, .int .i64 X6, .int .i64 0, .int .i64 0, .bool (X3 == 1), .slice none 0 0, .slice none 0 0]) := hD.put 5 (.int .i64 X6)
  clear N R' g' hD H6
  go_wp2_with fail
  generalize d6.setCell ⟨w.heap.size + 1, 5, none⟩ (.int .i64 X6) = e7 at *
  clear u0 f0 u1 f1 u2 f2 u3 f3 u4 f4 u5 f5 u6 f6 u7 f7 u8 f8 u9 f9 u10 f10
  have N : Calls Try.prog 59 #[.pointer (some ⟨g, 0, none⟩), .int .i64 6] e7 fun e w' => e = .returned (.int .i64 (rnV (rn (rn (rn (rn (rn (rn (rn s 1) 1) 1) 1) 6) 6) 6) 6)) ∧ Rd w' [w.heap.size + 1, w.heap.size] g 98 (rn (rn (rn (rn (rn (rn (rn (rn s 1) 1) 1) 1) 6) 6) 6) 6).1 (rn (rn (rn (rn (rn (rn (rn (rn s 1) 1) 1) 1) 6) 6) 6) 6).2 ∧ e7.grownBy w' (some g) := Num_any _ g _ _ 6 e7 H7.out.rd
  obtain ⟨X7, hX7⟩ : ∃ X, X = rnV (rn (rn (rn (rn (rn (rn (rn s 1) 1) 1) 1) 6) 6) 6) 6 := ⟨_, rfl⟩
  rw [← hX7] at N
  have HX7 : Hid (X7 = rnV (rn (rn (rn (rn (rn (rn (rn s 1) 1) 1) 1) 6) 6) 6) 6) := hX7
  clear hX7
  refine N.mono ?_
  rintro r d7 ⟨rfl, R', g'⟩
  have hD := H7.out.read R' g'
  obtain ⟨u0, u1, u2, u3, u4, u5, u6, u7, u8, u9, u10⟩ := eblk11 hD.m4
  obtain ⟨f0, f1, f2, f3, f4, f5, f6, f7, f8, f9, f10⟩ := eblk11f hD.m4
  have H8 : Hid (RM g w.heap.size (w.heap.size + 1) w (d7.setCell ⟨w.heap.size + 1, 6, none⟩ (.int .i64 X7)) (rn (rn (rn (rn (rn (rn (rn (rn s 1) 1) 1) 1) 6) 6) 6) 6) [.int .i64 0, .int .i64 0, .int .i64 0, .int .i64 0, .int .i64 0, .int .i64 0, .int .i64 0, .int .i64 0, .bool false, .slice none 0 0, .slice none 0 0] [.int .i64 X0, .int .i64 X1, .int .i64 X2, .int .i64 X4, .int .i64 X5, .int .i64 X6, .int .i64 X7, .int .i64 0, .bool (X3 == 1), .slice none 0 0, .slice none 0 0]) := hD.put 6 (.int .i64 X7)
  clear N R' g' hD H7
  go_wp2_with fail
  generalize d7.setCell ⟨w.heap.size + 1, 6, none⟩ (.int .i64 X7) = e8 at *
  clear u0 f0 u1 f1 u2 f2 u3 f3 u4 f4 u5 f5 u6 f6 u7 f7 u8 f8 u9 f9 u10 f10
  have N : Calls Try.prog 59 #[.pointer (some ⟨g, 0, none⟩), .int .i64 6] e8 fun e w' => e = .returned (.int .i64 (rnV (rn (rn (rn (rn (rn (rn (rn (rn s 1) 1) 1) 1) 6) 6) 6) 6) 6)) ∧ Rd w' [w.heap.size + 1, w.heap.size] g 98 (rn (rn (rn (rn (rn (rn (rn (rn (rn s 1) 1) 1) 1) 6) 6) 6) 6) 6).1 (rn (rn (rn (rn (rn (rn (rn (rn (rn s 1) 1) 1) 1) 6) 6) 6) 6) 6).2 ∧ e8.grownBy w' (some g) := Num_any _ g _ _ 6 e8 H8.out.rd
  obtain ⟨X8, hX8⟩ : ∃ X, X = rnV (rn (rn (rn (rn (rn (rn (rn (rn s 1) 1) 1) 1) 6) 6) 6) 6) 6 := ⟨_, rfl⟩
  rw [← hX8] at N
  have HX8 : Hid (X8 = rnV (rn (rn (rn (rn (rn (rn (rn (rn s 1) 1) 1) 1) 6) 6) 6) 6) 6) := hX8
  clear hX8
  refine N.mono ?_
  rintro r d8 ⟨rfl, R', g'⟩
  have hD := H8.out.read R' g'
  obtain ⟨u0, u1, u2, u3, u4, u5, u6, u7, u8, u9, u10⟩ := eblk11 hD.m4
  obtain ⟨f0, f1, f2, f3, f4, f5, f6, f7, f8, f9, f10⟩ := eblk11f hD.m4
  have H9 : Hid (RM g w.heap.size (w.heap.size + 1) w (d8.setCell ⟨w.heap.size + 1, 7, none⟩ (.int .i64 X8)) (rn (rn (rn (rn (rn (rn (rn (rn (rn s 1) 1) 1) 1) 6) 6) 6) 6) 6) [.int .i64 0, .int .i64 0, .int .i64 0, .int .i64 0, .int .i64 0, .int .i64 0, .int .i64 0, .int .i64 0, .bool false, .slice none 0 0, .slice none 0 0] [.int .i64 X0, .int .i64 X1, .int .i64 X2, .int .i64 X4, .int .i64 X5, .int .i64 X6, .int .i64 X7, .int .i64 X8, .bool (X3 == 1), .slice none 0 0, .slice none 0 0]) := hD.put 7 (.int .i64 X8)
  clear N R' g' hD H8
  go_wp2_with fail
  generalize d8.setCell ⟨w.heap.size + 1, 7, none⟩ (.int .i64 X8) = e9 at *
  clear u0 f0 u1 f1 u2 f2 u3 f3 u4 f4 u5 f5 u6 f6 u7 f7 u8 f8 u9 f9 u10 f10
  have N : Calls Try.prog 60 #[.pointer (some ⟨g, 0, none⟩), .int .i64 2, .int .i64 4096] e9 fun e w' => e = .returned (.int .i64 (rcntV s)) ∧ Rd w' [w.heap.size + 1, w.heap.size] g 98 (rcnt s).1 (rcnt s).2 ∧ e9.grownBy w' (some g) := Count_any _ g _ _ 2 4096 e9 H9.out.rd
  obtain ⟨cn, hcn⟩ : ∃ cn : Nat, rcntV s = cn ∧ cn ≤ 4096 := ⟨(rcntV s).toNat, by have := rcntV_bd s; omega, by have := rcntV_bd s; omega⟩
  rw [hcn.1] at N
  have hcI : (cn : Int) ≤ 4096 := by have := hcn.2; omega
  have HCN : Hid _ := hcn
  clear hcn
  refine N.mono ?_
  rintro r d9 ⟨rfl, R', g'⟩
  have hD := H9.out.read R' g'
  have hz9 : w.heap.size + 2 ≤ d9.heap.size := by have h1 := hD.m4.lt; have h2 := hD.m2.lt; omega
  have HL : Hid (RL (w.heap.size + 2) g w.heap.size (w.heap.size + 1) w d9 (rents (rcnt s) 0) [.int .i64 0, .int .i64 0, .int .i64 0, .int .i64 0, .int .i64 0, .int .i64 0, .int .i64 0, .int .i64 0, .bool false, .slice none 0 0, .slice none 0 0] [.int .i64 X0, .int .i64 X1, .int .i64 X2, .int .i64 X4, .int .i64 X5, .int .i64 X6, .int .i64 X7, .int .i64 X8, .bool (X3 == 1), .slice none 0 0, .slice none 0 0] (.slice none 0 0) (rentsV (rcnt s) 0)) := ⟨hD, hD.rd, ⟨[], [], EsOwn.nil _ _, by simp⟩, ⟨by omega, by omega, by omega, hz9⟩⟩
  clear N R' g' hD hz9 H9
  go_wp2_with fail
  go_loopw [37] (fun iv wr => ∃ (k : Nat) (v : Value), k ≤ cn ∧ iv = .int .i64 k ∧ RL (w.heap.size + 2) g w.heap.size (w.heap.size + 1) w wr (rents (rcnt s) k) [.int .i64 0, .int .i64 0, .int .i64 0, .int .i64 0, .int .i64 0, .int .i64 0, .int .i64 0, .int .i64 0, .bool false, .slice none 0 0, .slice none 0 0] [.int .i64 X0, .int .i64 X1, .int .i64 X2, .int .i64 X4, .int .i64 X5, .int .i64 X6, .int .i64 X7, .int .i64 X8, .bool (X3 == 1), v, .slice none 0 0] v (rentsV (rcnt s) k)) (fun iv _ => cn - (intOf iv).toNat)
  case atStart => exact ⟨0, _, Nat.zero_le _, rfl, HL.out⟩
  case round =>
    obtain ⟨k, v, hk, rfl, hL⟩ := hrel
    by_cases hlt : k < cn
    · have q1 : (k : Int) < (cn : Int) := by omega
      obtain ⟨u0, u1, u2, u3, u4, u5, u6, u7, u8, u9, u10⟩ := eblk11 hL.rm.m4
      clear u0 u1 u2 u3 u4 u5 u6 u7 u8 u10
      have hz := hL.lo
      have hkl := rentsV_len (rcnt s) k
      have HL1 : Hid _ := And.intro (hL.later (Below.refl _ _).drew) (And.intro hkl hz)
      have HE : Hid _ := readEntry_turn (v.ownBlock.toList ++ [w.heap.size + 1, w.heap.size]) g (rents (rcnt s) k) wr.drew HL1.out.1.rd
      have HS : Hid _ := (show wr.drew.cell? ⟨w.heap.size + 1, 9, none⟩ = some v from u9)
      clear hL hz hkl u9
      go_wp2_with fail
      refine e_begin (S := fun W => W.cell? ⟨w.heap.size + 1, 9, none⟩ = some v) 7 (by kernel_rfl) (HS.out) (fun hS => ?_)
      refine e_take (i := 0) (v := ?_) [1, 5, 7] rfl (by kernel_rfl) (by kernel_rfl) (by kernel_rfl) (by kernel_rfl) (by exact fun _ _ _ h => h) (by rfl) ?_ hS ?_
      rotate_left
      · ((intro w hSw; (try dsimp only at hSw); go_simp) <;> with_reducible rfl)
      (try simp only [Act.put, List.setIfInBounds_toArray, List.set_cons_zero, List.set_cons_succ])
      refine e_take (i := 1) (v := ?_) [5, 7] rfl (by kernel_rfl) (by kernel_rfl) (by kernel_rfl) (by kernel_rfl) (by exact fun _ _ _ h => h) (by rfl) ?_ hS ?_
      rotate_left
      · ((intro w hSw; (try dsimp only at hSw); go_simp) <;> with_reducible rfl)
      (try simp only [Act.put, List.setIfInBounds_toArray, List.set_cons_zero, List.set_cons_succ])
      refine e_take (i := 2) (v := ?_) [3, 4, 5, 7] rfl (by kernel_rfl) (by kernel_rfl) (by kernel_rfl) (by kernel_rfl) (by exact fun _ _ _ h => h) (by rfl) ?_ hS ?_
      rotate_left
      · ((intro w hSw; (try dsimp only at hSw); go_simp) <;> with_reducible rfl)
      (try simp only [Act.put, List.setIfInBounds_toArray, List.set_cons_zero, List.set_cons_succ])
      refine e_one (i := 3) rfl (by kernel_rfl) (fun K hK => ?_)
      go_simp
      refine (Calls.mono (HE.out)) ?_
      rintro e x1 ⟨x, c, rfl, oE, R1, t1⟩
      have hE1 := HL1.out.1.entry (s' := rents (rcnt s) (k + 1)) R1 t1
      obtain ⟨-, -, -, -, -, -, -, -, -, hS2, -⟩ := eblk11 hE1.rm.m4
      have bA : Below x1.heap.size x1 (x1.alloc (.cells #[.int .i64 (rEntE (rents (rcnt s) k)).1, .int .i64 (rEntE (rents (rcnt s) k)).2.1, .slice x (rEntE (rents (rcnt s) k)).2.2.length c] 49)) := (Below.refl _ _).alloc (Nat.le_refl _) _
      have BA : Blk (x1.alloc (.cells #[.int .i64 (rEntE (rents (rcnt s) k)).1, .int .i64 (rEntE (rents (rcnt s) k)).2.1, .slice x (rEntE (rents (rcnt s) k)).2.2.length c] 49)) x1.heap.size 49 [.int .i64 (rEntE (rents (rcnt s) k)).1, .int .i64 (rEntE (rents (rcnt s) k)).2.1, .slice x (rEntE (rents (rcnt s) k)).2.2.length c] := Blk.new' x1 _ _
      have hE2 := hE1.later bA
      obtain ⟨V, vs, ho, hV⟩ := hE2.own
      have hlv := World.ownsRow.lt HL1.out.1.own.choose_spec.choose_spec.1.own
      obtain ⟨a9, c9, e9', hle, -, hrow, hnil, hadr⟩ := oE.open
      simp only [Value.slice.injEq] at e9'
      obtain ⟨e91, -, e92⟩ := e9'
      subst e91
      subst e92
      have hoe := World.ownsRow.lt oE
      have hfar : ∀ z, x = some z → v.ownBlock ≠ some z.block ∧ z.block < (x1.alloc (.cells #[.int .i64 (rEntE (rents (rcnt s) k)).1, .int .i64 (rEntE (rents (rcnt s) k)).2.1, .slice x (rEntE (rents (rcnt s) k)).2.2.length c] 49)).heap.size ∧ w.heap.size + 2 ≤ z.block := fun z hz => by
        obtain ⟨gz, rfl, hgz⟩ := hadr z hz
        subst hz
        have h1 := (hoe gz rfl).2
        have h2 := bA.size
        have h3 := HL1.out.2.2.2.2.2
        have h4 : wr.drew.heap.size = wr.heap.size := rfl
        refine ⟨fun e => by have := (hlv gz e).2; omega, by show gz < _; omega, by show _ ≤ gz; omega⟩
      have hkl := HL1.out.2.1
      obtain ⟨v', x3, hrun, ⟨V', vs', ho3, hV3⟩, hg3, hat3⟩ := run_append_ent (x1.alloc (.cells #[.int .i64 (rEntE (rents (rcnt s) k)).1, .int .i64 (rEntE (rents (rcnt s) k)).2.1, .slice x (rEntE (rents (rcnt s) k)).2.2.length c] 49)) 22 (w.heap.size + 2) v (rentsV (rcnt s) k) V vs ho x1.heap.size (rEntE (rents (rcnt s) k)) x c BA hle (hrow.later bA) hnil (fun z hz => ⟨(hfar z hz).1, (hfar z hz).2.1⟩) (by have := HCN.out.2; omega) hE2.lo.2.2.2
      have hR3 := hE2.app hg3 ⟨V', vs', ho3, fun q hq => (hV3 q hq).elim (hV q) (fun ⟨z, hz, e⟩ => by rw [e]; exact (hfar z hz).2.2)⟩ hat3
      obtain ⟨va, vn, vc, rfl⟩ : ∃ va vn vc, v' = .slice va vn vc := by
        obtain ⟨_, ⟨e, _⟩ | ⟨g', cap, cur, e, _⟩⟩ := ho3.own
        · exact ⟨_, _, _, e⟩
        · exact ⟨_, _, _, e⟩
      obtain ⟨-, -, -, -, -, -, -, -, -, s2, -⟩ := eblk11 hE2.rm.m4
      obtain ⟨-, -, -, -, -, -, -, -, -, s3, -⟩ := eblk11 hR3.rm.m4
      obtain ⟨-, -, -, -, -, -, -, -, -, f3, -⟩ := eblk11f hR3.rm.m4
      have HF : Hid _ := And.intro hrun (And.intro s2 (And.intro s3 (hR3.put 9 (.slice va vn vc))))
      have c3 := s3
      clear hE1 bA BA hE2 ho hV hlv hle hrow hnil hadr hoe hfar hkl hrun ho3 hV3 hg3 hat3 hR3 s2 s3 oE R1 t1 hS
      go_wp2_with fail
      refine hK.out _ _ (hS2) (fun hS => ?_)
      clear hK K
      refine e_one (i := 4) rfl (by kernel_rfl) (fun K hK => ?_)
      go_simp
      refine hK.out _ _ HF.out.2.1 (fun hS => ?_)
      clear hK K
      refine e_one (i := 5) rfl (by kernel_rfl) (fun K hK => ?_)
      refine st_app9 rfl _ _ 22 22 rfl _ _ rfl rfl HF.out.1 ?_
      refine hK.out _ _ HF.out.2.2.1 (fun hS => ?_)
      clear hK K
      refine e_take (i := 6) (v := ?_) [7] rfl (by kernel_rfl) (by kernel_rfl) (by kernel_rfl) (by kernel_rfl) (by exact fun _ _ _ h => h) (by rfl) ?_ hS ?_
      rotate_left
      · ((intro w hSw; (try dsimp only at hSw); go_simp) <;> with_reducible rfl)
      (try simp only [Act.put, List.setIfInBounds_toArray, List.set_cons_zero, List.set_cons_succ])
      clear hS
      refine e_last (z := 7) rfl (by kernel_rfl) (fun K hK => ?_)
      go_simp
      refine hK.out _ _ ?_
      clear hK K
      refine e_done (by kernel_rfl) ?_ _
      have F : Hid _ := HF.out.2.2.2
      clear HF c3 f3 HL1 HE HS
      go_wp2
      go_roundw
      case rel => exact ⟨k + 1, .slice va vn vc, by omega, by go_num, F.out⟩
      case measure => simp [intOf]; omega
    · obtain rfl : k = cn := by omega
      have q1 : ¬ ((k : Int) < (k : Int)) := by omega
      have hkN : (rcntV s).toNat = k := by rw [HCN.out.1]; rfl
      have hes : (rmM s).es = rentsV (rcnt s) k := by show rentsV (rcnt s) (rcntV s).toNat = _; rw [hkN]
      have hme : rents (rcnt s) k = rme s := by unfold rme; rw [hkN]
      rw [hme, ← hes] at hL
      have N2 : Calls Try.prog 62 #[.pointer (some ⟨g, 0, none⟩), .int .i64 4] wr fun e w' => ∃ v2, e = .returned v2 ∧ Own w' wr.heap.size v2 (rmM s).dt ∧ Rd w' (v2.ownBlock.toList ++ (v.ownBlock.toList ++ [w.heap.size + 1, w.heap.size])) g 98 (rmS s).1 (rmS s).2 ∧ wr.grownBy w' (some g) := Bytes_any _ g _ _ 4 wr hL.rd
      have HN2 : Hid _ := And.intro N2 hL
      clear N2 hL hkN hes hme
      go_wp2_with fail
      refine (Calls.mono HN2.out.1) ?_
      rintro r wB ⟨v2, rfl, oD, RB, gB⟩
      have tB : Turned (fun k => k = g) wr wB := turned_grown gB (fun k e => (Option.some.inj e).symm)
      have hE := HN2.out.2.entry (s' := rmS s) (RB.less (fun k hk => List.mem_append_right _ hk)) tB
      have hloD := World.ownsRow.lt oD
      have hzB := HN2.out.2.lo
      obtain ⟨da, dc, rfl, -, -, -, -, hadr⟩ := oD.open
      have hP := hE.put 10 (.slice da (rmM s).dt.length dc)
      obtain ⟨-, -, -, -, -, -, -, -, -, -, uA⟩ := eblk11 hE.rm.m4
      obtain ⟨-, -, -, -, -, -, -, -, -, -, fA⟩ := eblk11f hE.rm.m4
      have hG := grown_set wB (w.heap.size + 1) 10 (.slice da (rmM s).dt.length dc)
      have oD2 : Own (wB.setCell ⟨w.heap.size + 1, 10, none⟩ (.slice da (rmM s).dt.length dc)) w.heap.size (.slice da (rmM s).dt.length dc) (rmM s).dt := own_keptM (own_baseM oD (by omega)) hG (fun q hq e => by have := (hloD q hq).1; have := Option.some.inj e; omega)
      have hv1 : v.oneCell' = true := by
        obtain ⟨V, vs, ho, -⟩ := hE.own
        obtain ⟨_, ⟨e, _⟩ | ⟨g', cap, cur, e, _⟩⟩ := ho.own <;> rw [e] <;> rfl
      obtain ⟨w9, hst, B9, g9⟩ := store_msg (vs := [.int .i64 X0, .int .i64 X1, .int .i64 X2, .int .i64 X4, .int .i64 X5, .int .i64 X6, .int .i64 X7, .int .i64 X8, .bool (X3 == 1), v, .slice da (rmM s).dt.length dc]) hP.rm.m2 rfl rfl (by intro u hu; simp only [List.mem_cons, List.not_mem_nil, or_false] at hu; rcases hu with rfl | rfl | rfl | rfl | rfl | rfl | rfl | rfl | rfl | rfl | rfl <;> first | rfl | exact hv1)
      have hld := load_msg hP.rm.m4 rfl
      obtain ⟨V, vs, ho, hV⟩ := hP.own
      have hlv := World.ownsRow.lt ho.own
      have t9 : Turned (fun k => k = w.heap.size) _ w9 := turned_grown g9 (fun k e => (Option.some.inj e).symm)
      obtain ⟨va, vc, rfl⟩ : ∃ va vc, v = .slice va (rmM s).es.length vc := by
        obtain ⟨_, ⟨e, h0⟩ | ⟨g', cap, cur, e, _⟩⟩ := ho.own
        · exact ⟨none, 0, by rw [e, h0]⟩
        · exact ⟨_, _, e⟩
      have F : Hid _ := And.intro B9 (And.intro (show ∃ V vs, EsOwn w9 w.heap.size (.slice va (rmM s).es.length vc) (rmM s).es V vs ∧ ∀ k ∈ V, w.heap.size ≤ k from ⟨V, vs, es_baseM (ho.turned t9 (fun k hk e => by have := (hlv k hk).1; omega) (fun k hk e => by have := hV k hk; omega)) (by omega), fun k hk => by have := hV k hk; omega⟩) (And.intro (own_keptM oD2 g9 (fun q hq e => by have := (hloD q hq).1; have := Option.some.inj e; omega)) (And.intro ((hP.rm.rd.keep g9 (fun k hk => ⟨by have := Option.some.inj hk; have := hP.rm.far.1; omega, .inl (by rw [← Option.some.inj hk]; simp)⟩)).less (F' := []) (fun k hk => by cases hk)) (hP.rm.t.trans (turned_grown (R := fun k => k = g ∨ w.heap.size ≤ k) g9 (fun k e => .inr (by have := Option.some.inj e; omega)))))))
      clear B9 g9 t9 ho hV hlv oD2 hG hE hloD hzB hadr tB RB gB oD hv1 HN2
      go_wp2_with (first | (refine wpList_valueM rfl (exec_loadM rfl rfl hld) ?_) | (refine wpList_skipM rfl (exec_storeM rfl rfl rfl hst) ?_))
      refine bodyPost_ret (res_msg rfl F.out.1 rfl rfl rfl) rfl ?_
      exact ⟨va, vc, da, dc, by rw [HX0.out, HX1.out, HX2.out, HX3.out, HX4.out, HX5.out, HX6.out, HX7.out, HX8.out]; rfl, F.out.2.1, F.out.2.2.1, F.out.2.2.2.1, F.out.2.2.2.2⟩
end Go.Proofs.Ytgjcgnmomdanaaa

/- A message unpacked: what is answered, without Go; bounds of what is read. -/
namespace Go.Proofs.Ytgjcgnmomdanaaa
open Go.RowKit Go.Shelf
set_option linter.unusedVariables false
set_option linter.unusedSimpArgs false
set_option maxRecDepth 8000

/-- ahead of the sum; is the sum right; where the reader begins -/
def umA (l : List (BitVec 8)) : List (BitVec 8) := l.take (l.length - 4)
def umK (l : List (BitVec 8)) : Bool := decide (((numTo l (l.length - 4) 4).toNat : Int) = ((Crc.sum (umA l)).toNat : Int))
def umS (l : List (BitVec 8)) : Rs := ((umA l).drop 1, 0)
def umHd (l : List (BitVec 8)) : Bool := decide (umA l = [] ∨ ¬ bt (umA l) 0 = 202)
def mg0 : Mg := ⟨0, 0, 0, 0, 0, 0, 0, 0, false, [], []⟩
def umR (s : Rs) : Int := if rdEnd (rmS s).1 (rmS s).2 = 0 then (if 1 < rmY s then 11 else if canM (rmM s) = true then 0 else 1) else rdEnd (rmS s).1 (rmS s).2
def umE (l : List (BitVec 8)) : Int :=
  if 65536 < l.length then 3 else if l.length < 4 then 10 else if umK l = false then 12 else if umHd l = true then 11 else umR (umS l)
def umM (l : List (BitVec 8)) : Mg := if umE l = 0 then rmM (umS l) else mg0
def UmR (l : List (BitVec 8)) (w : World) (e : Ending) (w' : World) : Prop :=
  ∃ ea ec da dc, e = .returned (.tuple #[msgV (umM l) ea ec da dc, .int .i64 (umE l)]) ∧ (∃ V vs, EsOwn w' w.heap.size (.slice ea (umM l).es.length ec) (umM l).es V vs ∧ ∀ k ∈ V, w.heap.size ≤ k) ∧ Own w' w.heap.size (.slice da (umM l).dt.length dc) (umM l).dt ∧ Below w.heap.size w w'
theorem UmR.no {l : List (BitVec 8)} {w w' : World} {E : Int} (h : umE l = E) (h0 : E ≠ 0) (hB : Below w.heap.size w w') : UmR l w (.returned (.tuple #[.agg #[.int .i64 0, .int .i64 0, .int .i64 0, .int .i64 0, .int .i64 0, .int .i64 0, .int .i64 0, .int .i64 0, .bool false, .slice none 0 0, .slice none 0 0], .int .i64 E])) w' := by
  have hm : umM l = mg0 := by unfold umM; rw [h, if_neg h0]
  unfold UmR
  rw [hm, h]
  exact ⟨none, 0, none, 0, rfl, ⟨[], [], EsOwn.nil _ _, by simp⟩, Own.nil _ _, hB⟩
theorem um_exit {w W : World} (hB : Below w.heap.size w W) (hM : Blk W w.heap.size 25 [.int .i64 0, .int .i64 0, .int .i64 0, .int .i64 0, .int .i64 0, .int .i64 0, .int .i64 0, .int .i64 0, .bool false, .slice none 0 0, .slice none 0 0]) : ∃ w', (Instr.storeAt 25 (.pointer (some ⟨w.heap.size, 0, none⟩)) (.agg #[.int .i64 0, .int .i64 0, .int .i64 0, .int .i64 0, .int .i64 0, .int .i64 0, .int .i64 0, .int .i64 0, .bool false, .slice none 0 0, .slice none 0 0])).run Try.prog W = .ok () w' ∧ Blk w' w.heap.size 25 [.int .i64 0, .int .i64 0, .int .i64 0, .int .i64 0, .int .i64 0, .int .i64 0, .int .i64 0, .int .i64 0, .bool false, .slice none 0 0, .slice none 0 0] ∧ Below w.heap.size w w' := by
  obtain ⟨w', h1, h2, h3⟩ := store_msg (vs := [.int .i64 0, .int .i64 0, .int .i64 0, .int .i64 0, .int .i64 0, .int .i64 0, .int .i64 0, .int .i64 0, .bool false, .slice none 0 0, .slice none 0 0]) hM rfl rfl (by intro u hu; simp only [List.mem_cons, List.not_mem_nil, or_false] at hu; rcases hu with rfl | rfl | rfl | rfl | rfl | rfl | rfl | rfl | rfl | rfl | rfl <;> rfl)
  exact ⟨w', h1, h2, hB.trans (grown_below h3 _ (Nat.le_refl _) hB.size)⟩
/- bounds -/
theorem rdBytes_len (L : List (BitVec 8)) (E s : Int) : (rdBytes L E s).1.length ≤ L.length ∧ (rdBytes L E s).2.2.length ≤ L.length := by
  unfold rdBytes
  split
  · split
    · refine ⟨?_, ?_⟩
      · show (L.drop _).length ≤ _; rw [List.length_drop]; omega
      · show ((L.drop _).take _).length ≤ _; rw [List.length_take, List.length_drop]; omega
    · exact ⟨Nat.zero_le _, Nat.zero_le _⟩
  · exact ⟨Nat.zero_le _, Nat.zero_le _⟩
theorem rdCount_len (L : List (BitVec 8)) (E s m : Int) : (rdCount L E s m).1.length ≤ L.length := by
  unfold rdCount
  split
  · split
    · exact Nat.zero_le _
    · split
      · exact Nat.zero_le _
      · exact rdNum_len L E s
  · exact Nat.zero_le _
theorem rn_len (s : Rs) (k : Int) : (rn s k).1.length ≤ s.1.length := rdNum_len _ _ _
theorem rcnt_len (s : Rs) : (rcnt s).1.length ≤ s.1.length := by
  have h0 := rdCount_len (rn9 s 5).1 (rn9 s 5).2 2 4096
  have a (s : Rs) : ∀ k, (rn4 s k).1.length ≤ s.1.length := fun k => by
    induction k with
    | zero => exact Nat.le_refl _
    | succ k ih => exact Nat.le_trans (rn_len _ _) ih
  have b : ∀ k, (rn9 s k).1.length ≤ s.1.length := fun k => by
    induction k with
    | zero => exact a s 4
    | succ k ih => exact Nat.le_trans (rn_len _ _) ih
  exact Nat.le_trans h0 (b 5)
theorem rNext_len (s : Rs) : (rNext s).1.length ≤ s.1.length ∧ (rEntE s).2.2.length ≤ s.1.length := by
  have h1 : (rkE s).1.length ≤ s.1.length := rdNum_len _ _ _
  have h2 : (rtE s).1.length ≤ (rkE s).1.length := rdNum_len _ _ _
  have h3 := rdBytes_len (rtE s).1 (rtE s).2.1 2
  exact ⟨Nat.le_trans h3.1 (Nat.le_trans h2 h1), Nat.le_trans h3.2 (Nat.le_trans h2 h1)⟩
theorem rents_len (s : Rs) (k : Nat) : (rents s k).1.length ≤ s.1.length := by
  induction k with
  | zero => exact Nat.le_refl _
  | succ k ih => exact Nat.le_trans (rNext_len _).1 ih
theorem rentsV_ok (s : Rs) (n : Nat) (h : s.1.length ≤ n) (k : Nat) : ∀ e ∈ rentsV s k, I64 e.1 ∧ I64 e.2.1 ∧ e.2.2.length ≤ n := by
  induction k with
  | zero => intro e he; cases he
  | succ k ih =>
    intro e he
    unfold rentsV at he
    rcases List.mem_append.1 he with he | he
    · exact ih e he
    · rw [List.mem_singleton.1 he]
      have h1 := rkE_bd (rents s k)
      have h2 : 0 ≤ (rdNum (rkE (rents s k)).1 (rkE (rents s k)).2.1 6).2.2 ∧ (rdNum (rkE (rents s k)).1 (rkE (rents s k)).2.1 6).2.2 < 281474976710656 := rdNum_bd (rkE (rents s k)).1 (rkE (rents s k)).2.1 6 (.inr rfl)
      have h3 := (rNext_len (rents s k)).2
      have h4 := rents_len s k
      have e2 : (rEntE (rents s k)).2.1 = (rdNum (rkE (rents s k)).1 (rkE (rents s k)).2.1 6).2.2 := rfl
      have e1 : (rEntE (rents s k)).1 = (rkE (rents s k)).2.2 - 64 := rfl
      refine ⟨?_, ?_, by omega⟩
      · unfold I64; rw [e1]; omega
      · unfold I64; rw [e2]; exact ⟨by omega, by omega⟩
theorem rmM_es (s : Rs) : (rmM s).es.length ≤ 4096 := by
  show (rentsV (rcnt s) (rcntV s).toNat).length ≤ 4096
  rw [rentsV_len]
  have := rcntV_bd s
  omega
theorem rmM_ok (s : Rs) (n : Nat) (h : s.1.length ≤ n) : ∀ e ∈ (rmM s).es, I64 e.1 ∧ I64 e.2.1 ∧ e.2.2.length ≤ n := rentsV_ok (rcnt s) n (Nat.le_trans (rcnt_len s) h) _
/- bytes cut -/
theorem exec_sliceM {P : Program} {w : World} {a : Act} {o : Oper} {t : TypeId} {x : Operand} {lo hi : Option Operand} (ho : o.op = .slice t x lo hi none) {p u : Value} (hx : a.eval x = p) (h : (Instr.sliceAt t p (lo.map a.eval) (hi.map a.eval) none).run P w = .ok u w) : (execOp a.eval o).run P w = .ok (.value u) w := by
  simp [execOp, ho, hx, h, Result.andThen]
theorem sz_u8M (w : World) : (sizeOf (Try.prog.elem 23)).run Try.prog w = .ok 1 w := by
  have e : Try.prog.elem 23 = 5 := by kernel_rfl
  obtain ⟨i0, hi, -, hz1, -⟩ := info_parts info_u8
  rw [e]
  simp [sizeOf, typeInfo, hi, hz1]
theorem elem_u8sM : Try.prog.underlying 23 = some (.slice (Try.prog.elem 23)) := by kernel_rfl
/-- x[k:] of bytes -/
theorem slice_fromM {w : World} {a : Option Addr} {n c : Nat} {l : List (BitVec 8)} (hr : Row w a l) (hl : l.length = n) (hc : n ≤ c) (hn : a = none → c = 0) (k : Nat) (hk : k ≤ n) :
    ∃ y, (∀ W : World, (Instr.sliceAt 23 (.slice a n c) (some (.int .i64 (k : Int))) none none).run Try.prog W = .ok (.slice y (n - k) (c - k)) W) ∧ Row w y (l.drop k) ∧ (y = none → c - k = 0) ∧ (∀ x, y = some x → ∃ x0, a = some x0 ∧ x.block = x0.block) := by
  have hrun : ∀ W : World, (Instr.sliceAt 23 (.slice a n c) (some (.int .i64 (k : Int))) none none).run Try.prog W = .ok (sliced a k n c 1) W := fun W => by
    rw [run_sliceAt_slice W _ _ _ _ _ elem_u8sM, run_slice_l W _ _ _ _ elem_u8sM .i64 (k : Int) (by omega) (by omega), sz_u8M]
    rfl
  unfold sliced at hrun
  refine ⟨_, hrun, ?_, ?_, ?_⟩
  · split
    · exact .inl (List.drop_eq_nil_of_le (by omega))
    · rcases hr with rfl | ⟨b, off, rfl, hcl⟩
      · exact .inl (by simp)
      · have e : (⟨b, off, none⟩ : Addr).add k = ⟨b, off + k, none⟩ := by unfold Addr.add; split <;> simp_all
        refine .inr ⟨b, off + k, by simp [e], fun i hi => ?_⟩
        rw [List.length_drop] at hi
        rw [Nat.add_assoc, hcl (k + i) (by omega)]
        unfold bt
        simp [List.getD]
  · split
    · intro h; omega
    · intro h
      have : a = none := by cases a <;> simp_all
      have := hn this
      omega
  · split
    · intro x hx; exact ⟨x, hx, rfl⟩
    · intro x hx
      cases a with
      | none => cases hx
      | some x0 =>
        simp at hx
        subst hx
        exact ⟨x0, rfl, by unfold Addr.add; split <;> rfl⟩
/-- x[:k] of bytes -/
theorem slice_uptoM {w : World} {a : Option Addr} {n c : Nat} {l : List (BitVec 8)} (hr : Row w a l) (hl : l.length = n) (hc : n ≤ c) (k : Nat) (hk : k ≤ n) (hn : a = none → c = 0) :
    ∃ y, (∀ W : World, (Instr.sliceAt 23 (.slice a n c) none (some (.int .i64 (k : Int))) none).run Try.prog W = .ok (.slice y k c) W) ∧ Row w y (l.take k) ∧ (y = none → c = 0) ∧ (∀ x, y = some x → ∃ x0, a = some x0 ∧ x.block = x0.block) := by
  have hrun : ∀ W : World, (Instr.sliceAt 23 (.slice a n c) none (some (.int .i64 (k : Int))) none).run Try.prog W = .ok (sliced a 0 k c 1) W := fun W => by
    rw [run_sliceAt_slice W _ _ _ _ _ elem_u8sM, run_slice_h W _ _ _ _ elem_u8sM .i64 (k : Int) (by omega) (by omega), sz_u8M]
    rfl
  have e : sliced a 0 k c 1 = .slice a k c := by
    unfold sliced
    rcases hr with rfl | ⟨b, off, rfl, hcl⟩
    · simp at hl
      split
      · simp
      · cases a with
        | none => simp
        | some x => obtain ⟨b, o, s⟩ := x; cases s <;> simp [Addr.add]
    · simp [Addr.add]
  rw [e] at hrun
  refine ⟨a, hrun, ?_, hn, fun x hx => ⟨x, hx, rfl⟩⟩
  rcases hr with rfl | ⟨b, off, rfl, hcl⟩
  · exact .inl (by simp)
  · refine .inr ⟨b, off, rfl, fun i hi => ?_⟩
    rw [List.length_take] at hi
    rw [hcl i (by omega)]
    unfold bt
    simp [List.getD, List.getElem?_take, show i < k by omega]
end Go.Proofs.Ytgjcgnmomdanaaa

/- What is read of a message's parts: numbers, entries, a count (no Go). -/
namespace Go.Proofs.Ytgjcgnmomdanaaa
open Go.RowKit Go.Shelf
set_option linter.unusedVariables false
set_option maxRecDepth 8000

theorem rn_1 {n : Int} (h : byB n = true) (Y : List (BitVec 8)) : rn (be 1 (BitVec.ofInt 64 n) ++ Y, 0) 1 = (Y, 0) ∧ rnV (be 1 (BitVec.ofInt 64 n) ++ Y, 0) 1 = n := by
  unfold byB at h
  rw [decide_eq_true_eq] at h
  have e : rdNum (be 1 (BitVec.ofInt 64 n) ++ Y) 0 1 = (Y, 0, n) := rd_num9 1 n Y (.inl rfl) h.1 (by simp only [Nat.reduceMul, Int.reducePow]; omega)
  unfold rn rnV
  rw [e]
  exact ⟨rfl, rfl⟩
theorem rn_6 {n : Int} (h : numB n = true) (Y : List (BitVec 8)) : rn (be 6 (BitVec.ofInt 64 n) ++ Y, 0) 6 = (Y, 0) ∧ rnV (be 6 (BitVec.ofInt 64 n) ++ Y, 0) 6 = n := by
  unfold numB at h
  rw [decide_eq_true_eq] at h
  have e : rdNum (be 6 (BitVec.ofInt 64 n) ++ Y) 0 6 = (Y, 0, n) := rd_num9 6 n Y (.inr rfl) h.1 (by simp only [Nat.reduceMul, Int.reducePow]; omega)
  unfold rn rnV
  rw [e]
  exact ⟨rfl, rfl⟩
theorem rEnt_pack {e : Ent} (h : canE e = true) (Y : List (BitVec 8)) : rEntE (packE e ++ Y, 0) = e ∧ rNext (packE e ++ Y, 0) = (Y, 0) := by
  have hk := canE_k h
  have ht := canE_term h
  have hl := canE_len h
  have e1 : rkE (packE e ++ Y, 0) = (be 6 (BitVec.ofInt 64 e.2.1) ++ ((be 2 (BitVec.ofNat 64 e.2.2.length) ++ e.2.2) ++ Y), 0, e.1 + 64) := by
    unfold rkE packE
    rw [List.append_assoc, List.append_assoc]
    exact rd_num9 1 (e.1 + 64) _ (.inl rfl) (by omega) (by simp only [Nat.reduceMul, Int.reducePow]; omega)
  have e2 : rtE (packE e ++ Y, 0) = ((be 2 (BitVec.ofNat 64 e.2.2.length) ++ e.2.2) ++ Y, 0, e.2.1) := by
    unfold rtE; rw [e1]
    exact rd_num9 6 e.2.1 _ (.inr rfl) (by omega) (by simp only [Nat.reduceMul, Int.reducePow]; omega)
  have e3 : rcE (packE e ++ Y, 0) = (Y, 0, e.2.2) := by
    unfold rcE; rw [e2]
    exact rd_bytes9 e.2.2 Y hl
  refine ⟨?_, ?_⟩
  · unfold rEntE; rw [e1, e2, e3]; show (e.1 + 64 - 64, e.2.1, e.2.2) = e; rw [Int.add_sub_cancel]
  · unfold rNext; rw [e3]
theorem rents_pack (es : List Ent) (hc : ∀ e ∈ es, canE e = true) (Y : List (BitVec 8)) (k : Nat) (hk : k ≤ es.length) : rents (es.flatMap packE ++ Y, 0) k = ((es.drop k).flatMap packE ++ Y, 0) ∧ rentsV (es.flatMap packE ++ Y, 0) k = es.take k := by
  induction k with
  | zero => exact ⟨rfl, rfl⟩
  | succ k ih =>
    obtain ⟨i1, i2⟩ := ih (by omega)
    have hd : es.drop k = es[k] :: es.drop (k + 1) := List.drop_eq_getElem_cons (by omega)
    have h1 := rEnt_pack (hc es[k] (List.getElem_mem (by omega))) ((es.drop (k + 1)).flatMap packE ++ Y)
    have i3 : rents (es.flatMap packE ++ Y, 0) k = (packE es[k] ++ ((es.drop (k + 1)).flatMap packE ++ Y), 0) := by rw [i1, hd, List.flatMap_cons, List.append_assoc]
    refine ⟨?_, ?_⟩
    · show rNext (rents _ k) = _
      rw [i3, h1.2]
    · show rentsV _ k ++ [rEntE (rents _ k)] = _
      rw [i2, i3, h1.1, List.take_succ_eq_append_getElem (by omega)]
theorem rd_num2 (n : Nat) (Y : List (BitVec 8)) (hb : n ≤ 4096) : rdNum (be 2 (BitVec.ofInt 64 n) ++ Y) 0 2 = (Y, 0, (n : Int)) := by
  have hbl := be_length 2 (BitVec.ofInt 64 n) (by omega)
  have hnE : numE (be 2 (BitVec.ofInt 64 n) ++ Y).length 2 = 0 := by
    unfold numE
    have hw : widthB 2 = true := by decide
    rw [hw, if_neg (by decide), List.length_append, hbl, if_neg (by omega)]
  have e : ((numTo (be 2 (BitVec.ofInt 64 n) ++ Y) 0 2).toNat : Int) = (n : Int) % 18446744073709551616 % 2 ^ (8 * 2) := by
    unfold numTo
    rw [List.drop_zero, List.take_left' hbl, num_mod9 2 (by omega), Int.natCast_emod, ← toU64]
    simp
  unfold rdNum
  have e2 : ((2 : Int)).toNat = 2 := rfl
  rw [if_pos rfl, if_pos hnE, e2, List.drop_left' hbl, e]
  have : wrap64 ((n : Int) % 18446744073709551616 % 2 ^ (8 * 2)) = n := by
    unfold wrap64
    simp only [Nat.reduceMul, Int.reducePow]
    omega
  rw [this]
theorem rdC_2 (n : Nat) (Y : List (BitVec 8)) (hb : n ≤ 4096) (hY : n ≤ Y.length) : rdCount (be 2 (BitVec.ofInt 64 n) ++ Y) 0 2 4096 = (Y, 0, (n : Int)) := by
  unfold rdCount
  rw [rd_num2 n Y hb, if_pos rfl, if_neg (by show ¬ ((n : Int) < 0 ∨ (4096 : Int) < n); omega), if_neg (by show ¬ ((Y.length : Int) < n); omega)]
theorem rdB_4 (l Y : List (BitVec 8)) (h : l.length ≤ 65536) : rdBytes ((be 4 (BitVec.ofNat 64 l.length) ++ l) ++ Y) 0 4 = (Y, 0, l) := by
  have hbl := be_length 4 (BitVec.ofNat 64 l.length) (by omega)
  have hnum : (numTo ((be 4 (BitVec.ofNat 64 l.length) ++ l) ++ Y) 0 4).toNat = l.length := by
    unfold numTo
    rw [List.drop_zero, List.append_assoc, List.take_left' hbl, num_mod9 4 (by omega), BitVec.toNat_ofNat, Nat.mod_eq_of_lt (a := l.length) (by omega), Nat.mod_eq_of_lt (by omega)]
  have hE : cutE ((be 4 (BitVec.ofNat 64 l.length) ++ l) ++ Y) 4 = 0 := by
    unfold cutE
    have e : ((4 : Int)).toNat = 4 := rfl
    rw [if_neg (by decide), e, hnum, List.length_append, List.length_append, hbl, if_neg (by omega), if_neg (by omega), if_neg (by omega)]
  have hN : cutN ((be 4 (BitVec.ofNat 64 l.length) ++ l) ++ Y) 4 = 4 + l.length := by
    unfold cutN
    have e : ((4 : Int)).toNat = 4 := rfl
    rw [if_pos hE, e, hnum]
  unfold rdBytes
  have e : ((4 : Int)).toNat = 4 := rfl
  rw [if_pos rfl, if_pos hE, hN, e]
  have e1 : ((be 4 (BitVec.ofNat 64 l.length) ++ l) ++ Y).drop (4 + l.length) = Y := List.drop_left' (by rw [List.length_append, hbl])
  have e2 : (((be 4 (BitVec.ofNat 64 l.length) ++ l) ++ Y).drop 4).take (4 + l.length - 4) = l := by
    rw [List.append_assoc, List.drop_left' hbl, List.take_left' (by omega)]
  rw [e1, e2]
theorem read_seq {s s1 s2 s3 s4 s5 s6 s7 s8 s9 sc se : Rs} {kd fr too y tm ta tt cm rd : Int} {n : Nat} {es : List Ent} {dt : List (BitVec 8)}
    (a1 : rn s 1 = s1 ∧ rnV s 1 = kd) (a2 : rn s1 1 = s2 ∧ rnV s1 1 = fr) (a3 : rn s2 1 = s3 ∧ rnV s2 1 = too) (a4 : rn s3 1 = s4 ∧ rnV s3 1 = y)
    (b1 : rn s4 6 = s5 ∧ rnV s4 6 = tm) (b2 : rn s5 6 = s6 ∧ rnV s5 6 = ta) (b3 : rn s6 6 = s7 ∧ rnV s6 6 = tt) (b4 : rn s7 6 = s8 ∧ rnV s7 6 = cm) (b5 : rn s8 6 = s9 ∧ rnV s8 6 = rd)
    (c : rdCount s9.1 s9.2 2 4096 = (sc.1, sc.2, (n : Int))) (p : rents sc n = se ∧ rentsV sc n = es) (d : rdBytes se.1 se.2 4 = ([], 0, dt)) :
    rmM s = ⟨kd, fr, too, tm, ta, tt, cm, rd, y == 1, es, dt⟩ ∧ rmS s = ([], 0) ∧ rmY s = y := by
  have e4 : rn4 s 4 = s4 := by unfold rn4 rn4 rn4 rn4 rn4; rw [a1.1, a2.1, a3.1, a4.1]
  have e1 : rn4 s 1 = s1 := by unfold rn4 rn4; exact a1.1
  have e2 : rn4 s 2 = s2 := by unfold rn4 rn4 rn4; rw [a1.1, a2.1]
  have e3 : rn4 s 3 = s3 := by unfold rn4 rn4 rn4 rn4; rw [a1.1, a2.1, a3.1]
  have f0 : rn9 s 0 = s4 := e4
  have f1 : rn9 s 1 = s5 := by unfold rn9; rw [f0, b1.1]
  have f2 : rn9 s 2 = s6 := by unfold rn9; rw [f1, b2.1]
  have f3 : rn9 s 3 = s7 := by unfold rn9; rw [f2, b3.1]
  have f4 : rn9 s 4 = s8 := by unfold rn9; rw [f3, b4.1]
  have f5 : rn9 s 5 = s9 := by unfold rn9; rw [f4, b5.1]
  have g1 : rcnt s = sc := by unfold rcnt; rw [f5, c]
  have g2 : rcntV s = (n : Int) := by unfold rcntV; rw [f5, c]
  have g3 : rme s = se := by unfold rme; rw [g1, g2, Int.toNat_natCast, p.1]
  have g4 : rmb s = ([], 0, dt) := by unfold rmb; rw [g3, d]
  have g5 : rmY s = y := by unfold rmY; rw [e3, a4.2]
  refine ⟨?_, ?_, g5⟩
  · unfold rmM; rw [g5, g4, g1, g2, Int.toNat_natCast, p.2, e1, e2, f0, f1, f2, f3, f4, a1.2, a2.2, a3.2, b1.2, b2.2, b3.2, b4.2, b5.2]
  · unfold rmS; rw [g4]
theorem read_body (m : Mg) (hc : canM m = true) (hl : m.es.length ≤ 4096) (hd : m.dt.length ≤ 65536) :
    rmM (be 1 (BitVec.ofInt 64 m.kd) ++ (be 1 (BitVec.ofInt 64 m.fr) ++ (be 1 (BitVec.ofInt 64 m.too) ++ (be 1 (BitVec.ofInt 64 (yesN m)) ++ (be 6 (BitVec.ofInt 64 m.tm) ++ (be 6 (BitVec.ofInt 64 m.at_) ++ (be 6 (BitVec.ofInt 64 m.att) ++ (be 6 (BitVec.ofInt 64 m.cm) ++ (be 6 (BitVec.ofInt 64 m.rd) ++ (be 2 (BitVec.ofInt 64 (m.es.length : Int)) ++ (m.es.flatMap packE ++ (be 4 (BitVec.ofNat 64 m.dt.length) ++ m.dt))))))))))), 0) = ⟨m.kd, m.fr, m.too, m.tm, m.at_, m.att, m.cm, m.rd, yesN m == 1, m.es, m.dt⟩ ∧
    rmS (be 1 (BitVec.ofInt 64 m.kd) ++ (be 1 (BitVec.ofInt 64 m.fr) ++ (be 1 (BitVec.ofInt 64 m.too) ++ (be 1 (BitVec.ofInt 64 (yesN m)) ++ (be 6 (BitVec.ofInt 64 m.tm) ++ (be 6 (BitVec.ofInt 64 m.at_) ++ (be 6 (BitVec.ofInt 64 m.att) ++ (be 6 (BitVec.ofInt 64 m.cm) ++ (be 6 (BitVec.ofInt 64 m.rd) ++ (be 2 (BitVec.ofInt 64 (m.es.length : Int)) ++ (m.es.flatMap packE ++ (be 4 (BitVec.ofNat 64 m.dt.length) ++ m.dt))))))))))), 0) = ([], 0) ∧
    rmY (be 1 (BitVec.ofInt 64 m.kd) ++ (be 1 (BitVec.ofInt 64 m.fr) ++ (be 1 (BitVec.ofInt 64 m.too) ++ (be 1 (BitVec.ofInt 64 (yesN m)) ++ (be 6 (BitVec.ofInt 64 m.tm) ++ (be 6 (BitVec.ofInt 64 m.at_) ++ (be 6 (BitVec.ofInt 64 m.att) ++ (be 6 (BitVec.ofInt 64 m.cm) ++ (be 6 (BitVec.ofInt 64 m.rd) ++ (be 2 (BitVec.ofInt 64 (m.es.length : Int)) ++ (m.es.flatMap packE ++ (be 4 (BitVec.ofNat 64 m.dt.length) ++ m.dt))))))))))), 0) = yesN m := by
  unfold canM at hc
  simp only [Bool.and_eq_true] at hc
  obtain ⟨⟨⟨⟨h1, h2⟩, h3⟩, ⟨⟨⟨⟨h4, h5⟩, h6⟩, h7⟩, h8⟩⟩, h9⟩ := hc
  have hy : byB (yesN m) = true := by unfold byB yesN; split <;> decide
  have hes : ∀ e ∈ m.es, canE e = true := fun e he => List.all_eq_true.1 h9 e he
  have hlen : m.es.length ≤ (m.es.flatMap packE ++ (be 4 (BitVec.ofNat 64 m.dt.length) ++ m.dt)).length := by
    have h0 : ∀ l : List Ent, l.length ≤ (l.flatMap packE).length := fun l => by
      induction l with
      | nil => exact Nat.le_refl _
      | cons e l ih => rw [List.flatMap_cons, List.length_append, List.length_cons, packE_len]; omega
    rw [List.length_append]
    exact Nat.le_trans (h0 m.es) (Nat.le_add_right _ _)
  have d1 := rdB_4 m.dt [] hd
  rw [List.append_nil] at d1
  have p1 := rents_pack m.es hes (be 4 (BitVec.ofNat 64 m.dt.length) ++ m.dt) m.es.length (Nat.le_refl _)
  rw [List.drop_length, List.flatMap_nil, List.nil_append, List.take_length] at p1
  exact read_seq (rn_1 h1 _) (rn_1 h2 _) (rn_1 h3 _) (rn_1 hy _) (rn_6 h4 _) (rn_6 h5 _) (rn_6 h6 _) (rn_6 h7 _) (rn_6 h8 _) (sc := (m.es.flatMap packE ++ (be 4 (BitVec.ofNat 64 m.dt.length) ++ m.dt), 0)) (rdC_2 m.es.length _ hl hlen) p1 d1
end Go.Proofs.Ytgjcgnmomdanaaa

/- Packed and unpacked again, and back: no Go. -/
namespace Go.Proofs.Ytgjcgnmomdanaaa
open Go.RowKit Go.Shelf
set_option linter.unusedVariables false
set_option maxRecDepth 8000

theorem num_be4 (x : BitVec 32) : num (be 4 (x.setWidth 64)) = x.setWidth 64 := by
  apply BitVec.eq_of_toNat_eq
  have := x.isLt
  rw [num_mod9 4 (by omega), BitVec.toNat_setWidth, Nat.mod_eq_of_lt (a := x.toNat) (by omega), Nat.mod_eq_of_lt (by omega)]
theorem pks_lenK (m : Mg) (k : Nat) (hk : k ≤ m.es.length) : (pks m.es k).length + (45 + m.dt.length) = m.lenK k := by
  induction k with
  | zero => simp [pks, Mg.lenK]
  | succ k ih =>
    have := ih (by omega)
    rw [pks_succ m.es k hk, List.length_append, packE_len, Mg.lenK, List.getElem?_eq_getElem (by omega), Option.getD_some]
    omega
theorem bodyM_lenK (m : Mg) : (bodyM m).length + 4 = m.lenK m.es.length := by
  have := pks_lenK m m.es.length (Nat.le_refl _)
  unfold bodyM
  simp only [List.length_append, bN_len 1 (by omega) [202, m.kd, m.fr, m.too, yesN m] 5 (by simp), bN_len 6 (by omega) [m.tm, m.at_, m.att, m.cm, m.rd] 5 (by simp), be_length _ _ (show 2 ≤ 8 by omega), be_length _ _ (show 4 ≤ 8 by omega)]
  omega
def partsM (m : Mg) : List (BitVec 8) := be 1 (BitVec.ofInt 64 m.kd) ++ (be 1 (BitVec.ofInt 64 m.fr) ++ (be 1 (BitVec.ofInt 64 m.too) ++ (be 1 (BitVec.ofInt 64 (yesN m)) ++ (be 6 (BitVec.ofInt 64 m.tm) ++ (be 6 (BitVec.ofInt 64 m.at_) ++ (be 6 (BitVec.ofInt 64 m.att) ++ (be 6 (BitVec.ofInt 64 m.cm) ++ (be 6 (BitVec.ofInt 64 m.rd) ++ (be 2 (BitVec.ofInt 64 (m.es.length : Int)) ++ (m.es.flatMap packE ++ (be 4 (BitVec.ofNat 64 m.dt.length) ++ m.dt)))))))))))
theorem be_202 : be 1 (BitVec.ofInt 64 202) = [202#8] := by decide
theorem bodyM_parts (m : Mg) : bodyM m = 202#8 :: partsM m := by
  have e1 : bN 1 [202, m.kd, m.fr, m.too, yesN m] 5 = be 1 (BitVec.ofInt 64 202) ++ (be 1 (BitVec.ofInt 64 m.kd) ++ (be 1 (BitVec.ofInt 64 m.fr) ++ (be 1 (BitVec.ofInt 64 m.too) ++ (be 1 (BitVec.ofInt 64 (yesN m)) ++ [])))) := rfl
  have e2 : bN 6 [m.tm, m.at_, m.att, m.cm, m.rd] 5 = be 6 (BitVec.ofInt 64 m.tm) ++ (be 6 (BitVec.ofInt 64 m.at_) ++ (be 6 (BitVec.ofInt 64 m.att) ++ (be 6 (BitVec.ofInt 64 m.cm) ++ (be 6 (BitVec.ofInt 64 m.rd) ++ [])))) := rfl
  have e3 : pks m.es m.es.length = m.es.flatMap packE := by unfold pks; rw [List.take_length]
  unfold bodyM partsM
  rw [e1, e2, e3, be_202]
  simp only [List.append_nil, List.append_assoc, List.cons_append, List.nil_append]
theorem yesN_eq (m : Mg) : (yesN m == 1) = m.yes := by unfold yesN; cases m.yes <;> rfl
theorem yesN_le (m : Mg) : ¬ 1 < yesN m := by unfold yesN; split <;> omega
theorem pm_ok {m : Mg} (h : pmE m = 0) : m.es.length ≤ 4096 ∧ m.lenK m.es.length ≤ 65536 ∧ canM m = true := by
  unfold pmE at h
  split at h
  · exact absurd h (by decide)
  · split at h
    · exact absurd h (by decide)
    · split at h
      · rename_i a b c; exact ⟨by omega, by omega, c⟩
      · exact absurd h (by decide)
theorem um_pm {m : Mg} (h : pmE m = 0) : umE (pmB m) = 0 ∧ umM (pmB m) = m := by
  obtain ⟨h1, h2, h3⟩ := pm_ok h
  have hB : pmB m = bodyM m ++ be 4 ((Crc.sum (bodyM m)).setWidth 64) := by unfold pmB; rw [if_pos h]
  have h4 : (be 4 ((Crc.sum (bodyM m)).setWidth 64)).length = 4 := be_length _ _ (by omega)
  have hlen : (pmB m).length = (bodyM m).length + 4 := by rw [hB, List.length_append, h4]
  have hK := bodyM_lenK m
  have hge := lenK_ge m m.es.length
  have hA : umA (pmB m) = bodyM m := by
    unfold umA
    rw [hlen, hB, Nat.add_sub_cancel, List.take_left' rfl]
  have hS : umK (pmB m) = true := by
    unfold umK
    rw [hA, decide_eq_true_eq]
    unfold numTo
    rw [hlen, Nat.add_sub_cancel, hB, List.drop_left' rfl, List.take_of_length_le (by omega), num_be4, BitVec.toNat_setWidth, Nat.mod_eq_of_lt (by have := (Crc.sum (bodyM m)).isLt; omega)]
  have hH : umHd (pmB m) = false := by
    unfold umHd
    rw [hA, bodyM_parts, decide_eq_false_iff_not]
    rintro (e | e)
    · cases e
    · exact e rfl
  have hs : umS (pmB m) = (partsM m, 0) := by
    unfold umS
    rw [hA, bodyM_parts]
    rfl
  obtain ⟨r1, r2, r3⟩ := read_body m h3 h1 (by omega)
  have r1' : rmM (umS (pmB m)) = m := by
    rw [hs]
    refine Eq.trans r1 ?_
    rw [yesN_eq]
  have r2' : rmS (umS (pmB m)) = ([], 0) := by rw [hs]; exact r2
  have r3' : rmY (umS (pmB m)) = yesN m := by rw [hs]; exact r3
  have hE : umE (pmB m) = 0 := by
    unfold umE
    rw [if_neg (by omega), if_neg (by omega), hS, if_neg (by decide), hH, if_neg (by decide)]
    unfold umR
    rw [r2', r3', r1', if_neg (yesN_le m), if_pos h3]
    rfl
  refine ⟨hE, ?_⟩
  unfold umM
  rw [if_pos hE, r1']
/- back -/
theorem rd_back (L : List (BitVec 8)) (E : Int) (s : Nat) (hs : s ≤ 8) (h : (rdNum L E s).2.1 = 0) : E = 0 ∧ L = be s (BitVec.ofInt 64 (rdNum L E s).2.2) ++ (rdNum L E s).1 := by
  obtain ⟨a1, a2, a3, a4⟩ := rd_yes9 h hs
  refine ⟨a1, ?_⟩
  rw [a3, a4, List.take_append_drop]
theorem rn_back {s : Rs} {k : Nat} (hk : k ≤ 8) (h : (rn s (k : Int)).2 = 0) : s.2 = 0 ∧ s.1 = be k (BitVec.ofInt 64 (rnV s (k : Int))) ++ (rn s (k : Int)).1 := rd_back s.1 s.2 k hk h
theorem rdB_back (L : List (BitVec 8)) (E : Int) (s : Nat) (h : (rdBytes L E (s : Int)).2.1 = 0) : E = 0 ∧ L = (be s (BitVec.ofNat 64 (rdBytes L E (s : Int)).2.2.length) ++ (rdBytes L E (s : Int)).2.2) ++ (rdBytes L E (s : Int)).1 := by
  have h4 : E = 0 ∧ cutE L (s : Int) = 0 := by
    unfold rdBytes at h
    split at h
    · rename_i h4
      split at h
      · rename_i h5; exact ⟨h4, h5⟩
      · rename_i h5; exact absurd h h5
    · rename_i h4; exact absurd h h4
  obtain ⟨h0, hc⟩ := h4
  obtain ⟨s', n, es, hss, hn, _, hsn, hN⟩ := cutE_0 hc
  have es2 : s' = s := by omega
  subst es2
  have hR : rdBytes L E (s' : Int) = (L.drop (s' + n), 0, (L.drop s').take (s' + n - s')) := by
    unfold rdBytes; rw [if_pos h0, if_pos hc, hN, Int.toNat_natCast]
  have hl : ((L.drop s').take (s' + n - s')).length = n := by rw [List.length_take, List.length_drop]; omega
  refine ⟨h0, ?_⟩
  rw [hR]
  show L = (be s' (BitVec.ofNat 64 ((L.drop s').take (s' + n - s')).length) ++ (L.drop s').take (s' + n - s')) ++ L.drop (s' + n)
  rw [hl]
  have e1 : BitVec.ofNat 64 n = numTo L 0 s' := by
    apply BitVec.eq_of_toNat_eq
    rw [BitVec.toNat_ofNat, hn]
    exact Nat.mod_eq_of_lt (numTo L 0 s').isLt
  have hbe : be s' (BitVec.ofNat 64 n) = L.take s' := by
    rw [e1]
    unfold numTo
    rw [List.drop_zero]
    exact be_num9 s' _ (by rw [List.length_take]; omega) (by omega)
  rw [hbe, List.append_assoc, Nat.add_sub_cancel_left, ← List.drop_drop, List.take_append_drop, List.take_append_drop]
theorem rNext_back {s : Rs} (h : (rNext s).2 = 0) : s.2 = 0 ∧ s.1 = packE (rEntE s) ++ (rNext s).1 := by
  obtain ⟨a1, a2⟩ := rdB_back (rtE s).1 (rtE s).2.1 2 h
  obtain ⟨b1, b2⟩ := rd_back (rkE s).1 (rkE s).2.1 6 (by omega) a1
  obtain ⟨c1, c2⟩ := rd_back s.1 s.2 1 (by omega) b1
  refine ⟨c1, ?_⟩
  refine c2.trans ?_
  unfold packE
  show be 1 (BitVec.ofInt 64 (rkE s).2.2) ++ (rkE s).1 = ((be 1 (BitVec.ofInt 64 ((rkE s).2.2 - 64 + 64)) ++ be 6 (BitVec.ofInt 64 (rtE s).2.2)) ++ (be 2 (BitVec.ofNat 64 (rcE s).2.2.length) ++ (rcE s).2.2)) ++ (rcE s).1
  rw [Int.sub_add_cancel]
  have e1 : (rkE s).1 = be 6 (BitVec.ofInt 64 (rtE s).2.2) ++ (rtE s).1 := b2
  have e2 : (rtE s).1 = (be 2 (BitVec.ofNat 64 (rcE s).2.2.length) ++ (rcE s).2.2) ++ (rcE s).1 := a2
  generalize (rcE s).2.2 = dt at *
  generalize (rcE s).1 = Y at *
  rw [e1, e2]
  simp only [List.append_assoc]
theorem rents_back {s : Rs} (k : Nat) (h : (rents s k).2 = 0) : s.2 = 0 ∧ s.1 = (rentsV s k).flatMap packE ++ (rents s k).1 := by
  induction k with
  | zero => exact ⟨h, rfl⟩
  | succ k ih =>
    obtain ⟨a1, a2⟩ := rNext_back (s := rents s k) h
    obtain ⟨b1, b2⟩ := ih a1
    refine ⟨b1, ?_⟩
    show s.1 = (rentsV s k ++ [rEntE (rents s k)]).flatMap packE ++ (rNext (rents s k)).1
    rw [List.flatMap_append, List.flatMap_cons, List.flatMap_nil, List.append_nil, List.append_assoc, ← a2]
    exact b2
theorem rdC_back (L : List (BitVec 8)) (E : Int) (h : (rdCount L E 2 4096).2.1 = 0) : E = 0 ∧ L = be 2 (BitVec.ofInt 64 (rdCount L E 2 4096).2.2) ++ (rdCount L E 2 4096).1 := by
  unfold rdCount at h ⊢
  split at h
  · rename_i h1
    split at h
    · exact absurd h (by decide)
    · rename_i h2
      split at h
      · exact absurd h (by decide)
      · rename_i h3
        rw [if_pos h1, if_neg h2, if_neg h3]
        exact rd_back L E 2 (by omega) h1
  · rename_i h1; exact absurd h h1
theorem back_seq {s : Rs} (h : rmS s = ([], 0)) (hy : ¬ 1 < rmY s) : s.2 = 0 ∧ s.1 = partsM (rmM s) := by
  have hd : (rdBytes (rme s).1 (rme s).2 4).2.1 = 0 := congrArg Prod.snd h
  have hd1 : (rdBytes (rme s).1 (rme s).2 4).1 = [] := congrArg Prod.fst h
  obtain ⟨p1, p2⟩ := rdB_back (rme s).1 (rme s).2 4 hd
  obtain ⟨q1, q2⟩ := rents_back (s := rcnt s) (rcntV s).toNat p1
  obtain ⟨t1, t2⟩ := rdC_back (rn9 s 5).1 (rn9 s 5).2 q1
  obtain ⟨u1, v1⟩ := rn_back (s := rn9 s 4) (k := 6) (by omega) t1
  obtain ⟨u2, v2⟩ := rn_back (s := rn9 s 3) (k := 6) (by omega) u1
  obtain ⟨u3, v3⟩ := rn_back (s := rn9 s 2) (k := 6) (by omega) u2
  obtain ⟨u4, v4⟩ := rn_back (s := rn9 s 1) (k := 6) (by omega) u3
  obtain ⟨u5, v5⟩ := rn_back (s := rn9 s 0) (k := 6) (by omega) u4
  obtain ⟨u6, v6⟩ := rn_back (s := rn4 s 3) (k := 1) (by omega) u5
  obtain ⟨u7, v7⟩ := rn_back (s := rn4 s 2) (k := 1) (by omega) u6
  obtain ⟨u8, v8⟩ := rn_back (s := rn4 s 1) (k := 1) (by omega) u7
  obtain ⟨u9, v9⟩ := rn_back (s := s) (k := 1) (by omega) u8
  refine ⟨u9, ?_⟩
  have hyn : yesN (rmM s) = rnV (rn4 s 3) 1 := by
    have b : 0 ≤ rmY s := (rdNum_bd (rn4 s 3).1 (rn4 s 3).2 1 (.inl rfl)).1
    unfold yesN
    show (if (rmY s == 1) = true then (1 : Int) else 0) = rmY s
    generalize rmY s = y at *
    by_cases hy1 : y = 1
    · subst hy1; rfl
    · rw [if_neg (by simpa using hy1)]; omega
  have hn : (((rmM s).es.length : Nat) : Int) = rcntV s := by
    show (((rentsV (rcnt s) (rcntV s).toNat).length : Nat) : Int) = _
    rw [rentsV_len]
    have := rcntV_bd s
    omega
  unfold partsM
  rw [hyn, hn]
  have w1 : s.1 = be 1 (BitVec.ofInt 64 (rmM s).kd) ++ (rn4 s 1).1 := v9
  have w2 : (rn4 s 1).1 = be 1 (BitVec.ofInt 64 (rmM s).fr) ++ (rn4 s 2).1 := v8
  have w3 : (rn4 s 2).1 = be 1 (BitVec.ofInt 64 (rmM s).too) ++ (rn4 s 3).1 := v7
  have w4 : (rn4 s 3).1 = be 1 (BitVec.ofInt 64 (rnV (rn4 s 3) 1)) ++ (rn9 s 0).1 := v6
  have w5 : (rn9 s 0).1 = be 6 (BitVec.ofInt 64 (rmM s).tm) ++ (rn9 s 1).1 := v5
  have w6 : (rn9 s 1).1 = be 6 (BitVec.ofInt 64 (rmM s).at_) ++ (rn9 s 2).1 := v4
  have w7 : (rn9 s 2).1 = be 6 (BitVec.ofInt 64 (rmM s).att) ++ (rn9 s 3).1 := v3
  have w8 : (rn9 s 3).1 = be 6 (BitVec.ofInt 64 (rmM s).cm) ++ (rn9 s 4).1 := v2
  have w9 : (rn9 s 4).1 = be 6 (BitVec.ofInt 64 (rmM s).rd) ++ (rn9 s 5).1 := v1
  have wc : (rn9 s 5).1 = be 2 (BitVec.ofInt 64 (rcntV s)) ++ (rcnt s).1 := t2
  have wp : (rcnt s).1 = (rmM s).es.flatMap packE ++ (rme s).1 := q2
  have wd : (rme s).1 = (be 4 (BitVec.ofNat 64 (rmM s).dt.length) ++ (rmM s).dt) ++ (rdBytes (rme s).1 (rme s).2 4).1 := p2
  rw [hd1, List.append_nil] at wd
  rw [← wd, ← wp, ← wc, ← w9, ← w8, ← w7, ← w6, ← w5, ← w4, ← w3, ← w2, ← w1]
theorem pm_um {b : List (BitVec 8)} (h : umE b = 0) : pmE (umM b) = 0 ∧ pmB (umM b) = b := by
  have hM : umM b = rmM (umS b) := by unfold umM; rw [if_pos h]
  have hx : b.length ≤ 65536 ∧ 4 ≤ b.length ∧ umK b = true ∧ umHd b = false ∧ umR (umS b) = 0 := by
    unfold umE at h
    split at h
    · exact absurd h (by decide)
    · split at h
      · exact absurd h (by decide)
      · split at h
        · exact absurd h (by decide)
        · split at h
          · exact absurd h (by decide)
          · rename_i a1 a2 a3 a4
            exact ⟨by omega, by omega, by simpa using a3, by simpa using a4, h⟩
  obtain ⟨x1, x2, x3, x4, x5⟩ := hx
  have hy : rmS (umS b) = ([], 0) ∧ ¬ 1 < rmY (umS b) ∧ canM (rmM (umS b)) = true := by
    unfold umR at x5
    split at x5
    · rename_i h1
      split at x5
      · exact absurd x5 (by decide)
      · rename_i h2
        split at x5
        · rename_i h3
          refine ⟨?_, h2, h3⟩
          unfold rdEnd at h1
          split at h1
          · rename_i h4
            split at h1
            · exact absurd h1 (by decide)
            · rename_i h5
              exact Prod.ext (List.eq_nil_of_length_eq_zero (by omega)) h4
          · rename_i h4; exact absurd h1 h4
        · exact absurd x5 (by decide)
    · rename_i h1; exact absurd x5 h1
  obtain ⟨y1, y2, y3⟩ := hy
  obtain ⟨-, z2⟩ := back_seq y1 y2
  have hA : umA b = bodyM (rmM (umS b)) := by
    rw [bodyM_parts, ← z2]
    show umA b = 202#8 :: (umA b).drop 1
    unfold umHd at x4
    rw [decide_eq_false_iff_not] at x4
    cases hu : umA b with
    | nil => exact absurd (.inl hu) x4
    | cons c l =>
      rw [hu] at x4
      have e : bt (c :: l) 0 = 202 := by
        by_cases e : bt (c :: l) 0 = 202
        · exact e
        · exact absurd (.inr e) x4
      have e2 : c = 202#8 := by
        have e3 : (c.toNat : Int) = 202 := e
        apply BitVec.eq_of_toNat_eq
        show c.toNat = 202
        omega
      rw [e2]; rfl
  have hbl : b = umA b ++ be 4 ((Crc.sum (umA b)).setWidth 64) := by
    have e1 : be 4 ((Crc.sum (umA b)).setWidth 64) = b.drop (b.length - 4) := by
      unfold umK at x3
      rw [decide_eq_true_eq] at x3
      have e2 : (Crc.sum (umA b)).setWidth 64 = numTo b (b.length - 4) 4 := by
        apply BitVec.eq_of_toNat_eq
        rw [BitVec.toNat_setWidth, Nat.mod_eq_of_lt (by have := (Crc.sum (umA b)).isLt; omega)]
        omega
      rw [e2]
      unfold numTo
      have e3 : (b.drop (b.length - 4)).take 4 = b.drop (b.length - 4) := List.take_of_length_le (by rw [List.length_drop]; omega)
      rw [e3]
      exact be_num9 4 _ (by rw [List.length_drop]; omega) (by omega)
    rw [e1]
    unfold umA
    exact (List.take_append_drop _ _).symm
  have hK := bodyM_lenK (rmM (umS b))
  have hAl : (umA b).length = b.length - 4 := by unfold umA; rw [List.length_take]; omega
  have hP : pmE (rmM (umS b)) = 0 := by
    have := rmM_es (umS b)
    unfold pmE
    rw [if_neg (by omega), if_neg (by rw [← hK, ← hA]; omega), if_pos y3]
  rw [hM]
  refine ⟨hP, ?_⟩
  unfold pmB
  rw [if_pos hP, ← hA]
  exact hbl.symm
end Go.Proofs.Ytgjcgnmomdanaaa
