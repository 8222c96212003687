/- A message read. -/
import Derived.Test.YtgjcgnmomdanaaaXEm7
import Derived.Test.YtgjcgnmomdanaaaXDrawE
namespace Go.Proofs.Ytgjcgnmomdanaaa
open Go.RowKit Go.Shelf
set_option linter.unusedVariables false
set_option linter.unusedSimpArgs false
set_option maxRecDepth 20000

theorem eblk11f {w : World} {g : Nat} {T : TypeId} {a b c d e f h i j k l : Value} (M : Blk w g T [a, b, c, d, e, f, h, i, j, k, l]) : w.frozen? ⟨g, 0, none⟩ = false ∧ w.frozen? ⟨g, 1, none⟩ = false ∧ w.frozen? ⟨g, 2, none⟩ = false ∧ w.frozen? ⟨g, 3, none⟩ = false ∧ w.frozen? ⟨g, 4, none⟩ = false ∧ w.frozen? ⟨g, 5, none⟩ = false ∧ w.frozen? ⟨g, 6, none⟩ = false ∧ w.frozen? ⟨g, 7, none⟩ = false ∧ w.frozen? ⟨g, 8, none⟩ = false ∧ w.frozen? ⟨g, 9, none⟩ = false ∧ w.frozen? ⟨g, 10, none⟩ = false :=
  ⟨M.frozen (by simp [maxLen]) 0, M.frozen (by simp [maxLen]) 1, M.frozen (by simp [maxLen]) 2, M.frozen (by simp [maxLen]) 3, M.frozen (by simp [maxLen]) 4, M.frozen (by simp [maxLen]) 5, M.frozen (by simp [maxLen]) 6, M.frozen (by simp [maxLen]) 7, M.frozen (by simp [maxLen]) 8, M.frozen (by simp [maxLen]) 9, M.frozen (by simp [maxLen]) 10⟩
set_option maxHeartbeats 8000000 in
theorem readMsg_any (g : Nat) (s : Rs) (w : World) (hR : Rd w [] g 98 s.1 s.2) :
    Calls Try.prog 29 #[.pointer (some ⟨g, 0, none⟩)] w fun e w' => RmR g s w e w' := by
  have b0 := box11_below w #[.int .i64 0, .int .i64 0, .int .i64 0, .int .i64 0, .int .i64 0, .int .i64 0, .int .i64 0, .int .i64 0, .bool false, .slice none 0 0, .slice none 0 0] 25
  have M0 : Blk (w.alloc (.cells #[.int .i64 0, .int .i64 0, .int .i64 0, .int .i64 0, .int .i64 0, .int .i64 0, .int .i64 0, .int .i64 0, .bool false, .slice none 0 0, .slice none 0 0] 25)) w.heap.size 25 [.int .i64 0, .int .i64 0, .int .i64 0, .int .i64 0, .int .i64 0, .int .i64 0, .int .i64 0, .int .i64 0, .bool false, .slice none 0 0, .slice none 0 0] := Blk.new' w _ _
  have b1 := box11_below (w.alloc (.cells #[.int .i64 0, .int .i64 0, .int .i64 0, .int .i64 0, .int .i64 0, .int .i64 0, .int .i64 0, .int .i64 0, .bool false, .slice none 0 0, .slice none 0 0] 25)) #[.int .i64 0, .int .i64 0, .int .i64 0, .int .i64 0, .int .i64 0, .int .i64 0, .int .i64 0, .int .i64 0, .bool false, .slice none 0 0, .slice none 0 0] 25
  have M1 : Blk ((w.alloc (.cells #[.int .i64 0, .int .i64 0, .int .i64 0, .int .i64 0, .int .i64 0, .int .i64 0, .int .i64 0, .int .i64 0, .bool false, .slice none 0 0, .slice none 0 0] 25)).alloc (.cells #[.int .i64 0, .int .i64 0, .int .i64 0, .int .i64 0, .int .i64 0, .int .i64 0, .int .i64 0, .int .i64 0, .bool false, .slice none 0 0, .slice none 0 0] 25)) (w.alloc (.cells #[.int .i64 0, .int .i64 0, .int .i64 0, .int .i64 0, .int .i64 0, .int .i64 0, .int .i64 0, .int .i64 0, .bool false, .slice none 0 0, .slice none 0 0] 25)).heap.size 25 [.int .i64 0, .int .i64 0, .int .i64 0, .int .i64 0, .int .i64 0, .int .i64 0, .int .i64 0, .int .i64 0, .bool false, .slice none 0 0, .slice none 0 0] := Blk.new' _ _ _
  have hs : (w.alloc (.cells #[.int .i64 0, .int .i64 0, .int .i64 0, .int .i64 0, .int .i64 0, .int .i64 0, .int .i64 0, .int .i64 0, .bool false, .slice none 0 0, .slice none 0 0] 25)).heap.size = w.heap.size + 1 := by first | simp | rfl
  have R1 := (((hR.more w.heap.size (Nat.le_refl _)).later b0).more (w.heap.size + 1) (by omega)).later b1
  rw [hs] at M1
  have hgl := hR.blt
  have H0 : Hid (RM g w.heap.size (w.heap.size + 1) w ((w.alloc (.cells #[.int .i64 0, .int .i64 0, .int .i64 0, .int .i64 0, .int .i64 0, .int .i64 0, .int .i64 0, .int .i64 0, .bool false, .slice none 0 0, .slice none 0 0] 25)).alloc (.cells #[.int .i64 0, .int .i64 0, .int .i64 0, .int .i64 0, .int .i64 0, .int .i64 0, .int .i64 0, .int .i64 0, .bool false, .slice none 0 0, .slice none 0 0] 25)) s [.int .i64 0, .int .i64 0, .int .i64 0, .int .i64 0, .int .i64 0, .int .i64 0, .int .i64 0, .int .i64 0, .bool false, .slice none 0 0, .slice none 0 0] [.int .i64 0, .int .i64 0, .int .i64 0, .int .i64 0, .int .i64 0, .int .i64 0, .int .i64 0, .int .i64 0, .bool false, .slice none 0 0, .slice none 0 0]) := ⟨(turned_below (below_then b0 b1)).mono (fun _ e => absurd e id), R1, M0.laterB b1, M1, ⟨hgl, Nat.le_refl _, by omega, by omega⟩⟩
  clear b0 M0 b1 M1 hs R1 hR
  go_enter Try.func29, Try.ntmps29
  go_wp2_with fail
  generalize (w.alloc (.cells #[.int .i64 0, .int .i64 0, .int .i64 0, .int .i64 0, .int .i64 0, .int .i64 0, .int .i64 0, .int .i64 0, .bool false, .slice none 0 0, .slice none 0 0] 25)).alloc (.cells #[.int .i64 0, .int .i64 0, .int .i64 0, .int .i64 0, .int .i64 0, .int .i64 0, .int .i64 0, .int .i64 0, .bool false, .slice none 0 0, .slice none 0 0] 25) = e0 at *
  have N : Calls Try.prog 59 #[.pointer (some ⟨g, 0, none⟩), .int .i64 1] e0 fun e w' => e = .returned (.int .i64 (rnV s 1)) ∧ Rd w' [w.heap.size + 1, w.heap.size] g 98 (rn s 1).1 (rn s 1).2 ∧ e0.grownBy w' (some g) := Num_any _ g _ _ 1 e0 H0.out.rd
  obtain ⟨X0, hX0⟩ : ∃ X, X = rnV s 1 := ⟨_, rfl⟩
  rw [← hX0] at N
  have HX0 : Hid (X0 = rnV s 1) := hX0
  clear hX0
  refine N.mono ?_
  rintro r d0 ⟨rfl, R', g'⟩
  have hD := H0.out.read R' g'
  obtain ⟨u0, u1, u2, u3, u4, u5, u6, u7, u8, u9, u10⟩ := eblk11 hD.m4
  obtain ⟨f0, f1, f2, f3, f4, f5, f6, f7, f8, f9, f10⟩ := eblk11f hD.m4
  have H1 : Hid (RM g w.heap.size (w.heap.size + 1) w (d0.setCell ⟨w.heap.size + 1, 0, none⟩ (.int .i64 X0)) (rn s 1) [.int .i64 0, .int .i64 0, .int .i64 0, .int .i64 0, .int .i64 0, .int .i64 0, .int .i64 0, .int .i64 0, .bool false, .slice none 0 0, .slice none 0 0] [.int .i64 X0, .int .i64 0, .int .i64 0, .int .i64 0, .int .i64 0, .int .i64 0, .int .i64 0, .int .i64 0, .bool false, .slice none 0 0, .slice none 0 0]) := hD.put 0 (.int .i64 X0)
  clear N R' g' hD H0
  go_wp2_with fail
  generalize d0.setCell ⟨w.heap.size + 1, 0, none⟩ (.int .i64 X0) = e1 at *
  clear u0 f0 u1 f1 u2 f2 u3 f3 u4 f4 u5 f5 u6 f6 u7 f7 u8 f8 u9 f9 u10 f10
  have N : Calls Try.prog 59 #[.pointer (some ⟨g, 0, none⟩), .int .i64 1] e1 fun e w' => e = .returned (.int .i64 (rnV (rn s 1) 1)) ∧ Rd w' [w.heap.size + 1, w.heap.size] g 98 (rn (rn s 1) 1).1 (rn (rn s 1) 1).2 ∧ e1.grownBy w' (some g) := Num_any _ g _ _ 1 e1 H1.out.rd
  obtain ⟨X1, hX1⟩ : ∃ X, X = rnV (rn s 1) 1 := ⟨_, rfl⟩
  rw [← hX1] at N
  have HX1 : Hid (X1 = rnV (rn s 1) 1) := hX1
  clear hX1
  refine N.mono ?_
  rintro r d1 ⟨rfl, R', g'⟩
  have hD := H1.out.read R' g'
  obtain ⟨u0, u1, u2, u3, u4, u5, u6, u7, u8, u9, u10⟩ := eblk11 hD.m4
  obtain ⟨f0, f1, f2, f3, f4, f5, f6, f7, f8, f9, f10⟩ := eblk11f hD.m4
  have H2 : Hid (RM g w.heap.size (w.heap.size + 1) w (d1.setCell ⟨w.heap.size + 1, 1, none⟩ (.int .i64 X1)) (rn (rn s 1) 1) [.int .i64 0, .int .i64 0, .int .i64 0, .int .i64 0, .int .i64 0, .int .i64 0, .int .i64 0, .int .i64 0, .bool false, .slice none 0 0, .slice none 0 0] [.int .i64 X0, .int .i64 X1, .int .i64 0, .int .i64 0, .int .i64 0, .int .i64 0, .int .i64 0, .int .i64 0, .bool false, .slice none 0 0, .slice none 0 0]) := hD.put 1 (.int .i64 X1)
  clear N R' g' hD H1
  go_wp2_with fail
  generalize d1.setCell ⟨w.heap.size + 1, 1, none⟩ (.int .i64 X1) = e2 at *
  clear u0 f0 u1 f1 u2 f2 u3 f3 u4 f4 u5 f5 u6 f6 u7 f7 u8 f8 u9 f9 u10 f10
  have N : Calls Try.prog 59 #[.pointer (some ⟨g, 0, none⟩), .int .i64 1] e2 fun e w' => e = .returned (.int .i64 (rnV (rn (rn s 1) 1) 1)) ∧ Rd w' [w.heap.size + 1, w.heap.size] g 98 (rn (rn (rn s 1) 1) 1).1 (rn (rn (rn s 1) 1) 1).2 ∧ e2.grownBy w' (some g) := Num_any _ g _ _ 1 e2 H2.out.rd
  obtain ⟨X2, hX2⟩ : ∃ X, X = rnV (rn (rn s 1) 1) 1 := ⟨_, rfl⟩
  rw [← hX2] at N
  have HX2 : Hid (X2 = rnV (rn (rn s 1) 1) 1) := hX2
  clear hX2
  refine N.mono ?_
  rintro r d2 ⟨rfl, R', g'⟩
  have hD := H2.out.read R' g'
  obtain ⟨u0, u1, u2, u3, u4, u5, u6, u7, u8, u9, u10⟩ := eblk11 hD.m4
  obtain ⟨f0, f1, f2, f3, f4, f5, f6, f7, f8, f9, f10⟩ := eblk11f hD.m4
  have H3 : Hid (RM g w.heap.size (w.heap.size + 1) w (d2.setCell ⟨w.heap.size + 1, 2, none⟩ (.int .i64 X2)) (rn (rn (rn s 1) 1) 1) [.int .i64 0, .int .i64 0, .int .i64 0, .int .i64 0, .int .i64 0, .int .i64 0, .int .i64 0, .int .i64 0, .bool false, .slice none 0 0, .slice none 0 0] [.int .i64 X0, .int .i64 X1, .int .i64 X2, .int .i64 0, .int .i64 0, .int .i64 0, .int .i64 0, .int .i64 0, .bool false, .slice none 0 0, .slice none 0 0]) := hD.put 2 (.int .i64 X2)
  clear N R' g' hD H2
  go_wp2_with fail
  generalize d2.setCell ⟨w.heap.size + 1, 2, none⟩ (.int .i64 X2) = e3 at *
  clear u0 f0 u1 f1 u2 f2 u3 f3 u4 f4 u5 f5 u6 f6 u7 f7 u8 f8 u9 f9 u10 f10
  have N : Calls Try.prog 59 #[.pointer (some ⟨g, 0, none⟩), .int .i64 1] e3 fun e w' => e = .returned (.int .i64 (rnV (rn (rn (rn s 1) 1) 1) 1)) ∧ Rd w' [w.heap.size + 1, w.heap.size] g 98 (rn (rn (rn (rn s 1) 1) 1) 1).1 (rn (rn (rn (rn s 1) 1) 1) 1).2 ∧ e3.grownBy w' (some g) := Num_any _ g _ _ 1 e3 H3.out.rd
  obtain ⟨X3, hX3⟩ : ∃ X, X = rnV (rn (rn (rn s 1) 1) 1) 1 := ⟨_, rfl⟩
  rw [← hX3] at N
  have HX3 : Hid (X3 = rnV (rn (rn (rn s 1) 1) 1) 1) := hX3
  clear hX3
  refine N.mono ?_
  rintro r d3 ⟨rfl, R', g'⟩
  have hD := H3.out.read R' g'
  obtain ⟨u0, u1, u2, u3, u4, u5, u6, u7, u8, u9, u10⟩ := eblk11 hD.m4
  obtain ⟨f0, f1, f2, f3, f4, f5, f6, f7, f8, f9, f10⟩ := eblk11f hD.m4
  have H4 : Hid (RM g w.heap.size (w.heap.size + 1) w (d3.setCell ⟨w.heap.size + 1, 8, none⟩ (.bool (X3 == 1))) (rn (rn (rn (rn s 1) 1) 1) 1) [.int .i64 0, .int .i64 0, .int .i64 0, .int .i64 0, .int .i64 0, .int .i64 0, .int .i64 0, .int .i64 0, .bool false, .slice none 0 0, .slice none 0 0] [.int .i64 X0, .int .i64 X1, .int .i64 X2, .int .i64 0, .int .i64 0, .int .i64 0, .int .i64 0, .int .i64 0, .bool (X3 == 1), .slice none 0 0, .slice none 0 0]) := hD.put 8 (.bool (X3 == 1))
  clear N R' g' hD H3
  go_wp2_with fail
  generalize d3.setCell ⟨w.heap.size + 1, 8, none⟩ (.bool (X3 == 1)) = e4 at *
  clear u0 f0 u1 f1 u2 f2 u3 f3 u4 f4 u5 f5 u6 f6 u7 f7 u8 f8 u9 f9 u10 f10
  have N : Calls Try.prog 59 #[.pointer (some ⟨g, 0, none⟩), .int .i64 6] e4 fun e w' => e = .returned (.int .i64 (rnV (rn (rn (rn (rn s 1) 1) 1) 1) 6)) ∧ Rd w' [w.heap.size + 1, w.heap.size] g 98 (rn (rn (rn (rn (rn s 1) 1) 1) 1) 6).1 (rn (rn (rn (rn (rn s 1) 1) 1) 1) 6).2 ∧ e4.grownBy w' (some g) := Num_any _ g _ _ 6 e4 H4.out.rd
  obtain ⟨X4, hX4⟩ : ∃ X, X = rnV (rn (rn (rn (rn s 1) 1) 1) 1) 6 := ⟨_, rfl⟩
  rw [← hX4] at N
  have HX4 : Hid (X4 = rnV (rn (rn (rn (rn s 1) 1) 1) 1) 6) := hX4
  clear hX4
  refine N.mono ?_
  rintro r d4 ⟨rfl, R', g'⟩
  have hD := H4.out.read R' g'
  obtain ⟨u0, u1, u2, u3, u4, u5, u6, u7, u8, u9, u10⟩ := eblk11 hD.m4
  obtain ⟨f0, f1, f2, f3, f4, f5, f6, f7, f8, f9, f10⟩ := eblk11f hD.m4
  have H5 : Hid (RM g w.heap.size (w.heap.size + 1) w (d4.setCell ⟨w.heap.size + 1, 3, none⟩ (.int .i64 X4)) (rn (rn (rn (rn (rn s 1) 1) 1) 1) 6) [.int .i64 0, .int .i64 0, .int .i64 0, .int .i64 0, .int .i64 0, .int .i64 0, .int .i64 0, .int .i64 0, .bool false, .slice none 0 0, .slice none 0 0] [.int .i64 X0, .int .i64 X1, .int .i64 X2, .int .i64 X4, .int .i64 0, .int .i64 0, .int .i64 0, .int .i64 0, .bool (X3 == 1), .slice none 0 0, .slice none 0 0]) := hD.put 3 (.int .i64 X4)
  clear N R' g' hD H4
  go_wp2_with fail
  generalize d4.setCell ⟨w.heap.size + 1, 3, none⟩ (.int .i64 X4) = e5 at *
  clear u0 f0 u1 f1 u2 f2 u3 f3 u4 f4 u5 f5 u6 f6 u7 f7 u8 f8 u9 f9 u10 f10
  have N : Calls Try.prog 59 #[.pointer (some ⟨g, 0, none⟩), .int .i64 6] e5 fun e w' => e = .returned (.int .i64 (rnV (rn (rn (rn (rn (rn s 1) 1) 1) 1) 6) 6)) ∧ Rd w' [w.heap.size + 1, w.heap.size] g 98 (rn (rn (rn (rn (rn (rn s 1) 1) 1) 1) 6) 6).1 (rn (rn (rn (rn (rn (rn s 1) 1) 1) 1) 6) 6).2 ∧ e5.grownBy w' (some g) := Num_any _ g _ _ 6 e5 H5.out.rd
  obtain ⟨X5, hX5⟩ : ∃ X, X = rnV (rn (rn (rn (rn (rn s 1) 1) 1) 1) 6) 6 := ⟨_, rfl⟩
  rw [← hX5] at N
  have HX5 : Hid (X5 = rnV (rn (rn (rn (rn (rn s 1) 1) 1) 1) 6) 6) := hX5
  clear hX5
  refine N.mono ?_
  rintro r d5 ⟨rfl, R', g'⟩
  have hD := H5.out.read R' g'
  obtain ⟨u0, u1, u2, u3, u4, u5, u6, u7, u8, u9, u10⟩ := eblk11 hD.m4
  obtain ⟨f0, f1, f2, f3, f4, f5, f6, f7, f8, f9, f10⟩ := eblk11f hD.m4
  have H6 : Hid (RM g w.heap.size (w.heap.size + 1) w (d5.setCell ⟨w.heap.size + 1, 4, none⟩ (.int .i64 X5)) (rn (rn (rn (rn (rn (rn s 1) 1) 1) 1) 6) 6) [.int .i64 0, .int .i64 0, .int .i64 0, .int .i64 0, .int .i64 0, .int .i64 0, .int .i64 0, .int .i64 0, .bool false, .slice none 0 0, .slice none 0 0] [.int .i64 X0, .int .i64 X1, .int .i64 X2, .int .i64 X4, .int .i64 X5, .int .i64 0, .int .i64 0, .int .i64 0, .bool (X3 == 1), .slice none 0 0, .slice none 0 0]) := hD.put 4 (.int .i64 X5)
  clear N R' g' hD H5
  go_wp2_with fail
  generalize d5.setCell ⟨w.heap.size + 1, 4, none⟩ (.int .i64 X5) = e6 at *
  clear u0 f0 u1 f1 u2 f2 u3 f3 u4 f4 u5 f5 u6 f6 u7 f7 u8 f8 u9 f9 u10 f10
  have N : Calls Try.prog 59 #[.pointer (some ⟨g, 0, none⟩), .int .i64 6] e6 fun e w' => e = .returned (.int .i64 (rnV (rn (rn (rn (rn (rn (rn s 1) 1) 1) 1) 6) 6) 6)) ∧ Rd w' [w.heap.size + 1, w.heap.size] g 98 (rn (rn (rn (rn (rn (rn (rn s 1) 1) 1) 1) 6) 6) 6).1 (rn (rn (rn (rn (rn (rn (rn s 1) 1) 1) 1) 6) 6) 6).2 ∧ e6.grownBy w' (some g) := Num_any _ g _ _ 6 e6 H6.out.rd
  obtain ⟨X6, hX6⟩ : ∃ X, X = rnV (rn (rn (rn (rn (rn (rn s 1) 1) 1) 1) 6) 6) 6 := ⟨_, rfl⟩
  rw [← hX6] at N
  have HX6 : Hid (X6 = rnV (rn (rn (rn (rn (rn (rn s 1) 1) 1) 1) 6) 6) 6) := hX6
  clear hX6
  refine N.mono ?_
  rintro r d6 ⟨rfl, R', g'⟩
  have hD := H6.out.read R' g'
  obtain ⟨u0, u1, u2, u3, u4, u5, u6, u7, u8, u9, u10⟩ := eblk11 hD.m4
  obtain ⟨f0, f1, f2, f3, f4, f5, f6, f7, f8, f9, f10⟩ := eblk11f hD.m4
  have H7 : Hid (RM g w.heap.size (w.heap.size + 1) w (d6.setCell ⟨w.heap.size + 1, 5, none⟩ (.int .i64 X6)) (rn (rn (rn (rn (rn (rn (rn s 1) 1) 1) 1) 6) 6) 6) [.int .i64 0, .int .i64 0, .int .i64 0, .int .i64 0, .int .i64 0, .int .i64 0, .int .i64 0, .int .i64 0, .bool false, .slice none 0 0, .slice none 0 0] [.int .i64 X0, .int .i64 X1, .int .i64 X2, .int .i64 X4, .int .i64 X5, .int .i64 X6, .int .i64 0, .int .i64 0, .bool (X3 == 1), .slice none 0 0, .slice none 0 0]) := hD.put 5 (.int .i64 X6)
  clear N R' g' hD H6
  go_wp2_with fail
  generalize d6.setCell ⟨w.heap.size + 1, 5, none⟩ (.int .i64 X6) = e7 at *
  clear u0 f0 u1 f1 u2 f2 u3 f3 u4 f4 u5 f5 u6 f6 u7 f7 u8 f8 u9 f9 u10 f10
  have N : Calls Try.prog 59 #[.pointer (some ⟨g, 0, none⟩), .int .i64 6] e7 fun e w' => e = .returned (.int .i64 (rnV (rn (rn (rn (rn (rn (rn (rn s 1) 1) 1) 1) 6) 6) 6) 6)) ∧ Rd w' [w.heap.size + 1, w.heap.size] g 98 (rn (rn (rn (rn (rn (rn (rn (rn s 1) 1) 1) 1) 6) 6) 6) 6).1 (rn (rn (rn (rn (rn (rn (rn (rn s 1) 1) 1) 1) 6) 6) 6) 6).2 ∧ e7.grownBy w' (some g) := Num_any _ g _ _ 6 e7 H7.out.rd
  obtain ⟨X7, hX7⟩ : ∃ X, X = rnV (rn (rn (rn (rn (rn (rn (rn s 1) 1) 1) 1) 6) 6) 6) 6 := ⟨_, rfl⟩
  rw [← hX7] at N
  have HX7 : Hid (X7 = rnV (rn (rn (rn (rn (rn (rn (rn s 1) 1) 1) 1) 6) 6) 6) 6) := hX7
  clear hX7
  refine N.mono ?_
  rintro r d7 ⟨rfl, R', g'⟩
  have hD := H7.out.read R' g'
  obtain ⟨u0, u1, u2, u3, u4, u5, u6, u7, u8, u9, u10⟩ := eblk11 hD.m4
  obtain ⟨f0, f1, f2, f3, f4, f5, f6, f7, f8, f9, f10⟩ := eblk11f hD.m4
  have H8 : Hid (RM g w.heap.size (w.heap.size + 1) w (d7.setCell ⟨w.heap.size + 1, 6, none⟩ (.int .i64 X7)) (rn (rn (rn (rn (rn (rn (rn (rn s 1) 1) 1) 1) 6) 6) 6) 6) [.int .i64 0, .int .i64 0, .int .i64 0, .int .i64 0, .int .i64 0, .int .i64 0, .int .i64 0, .int .i64 0, .bool false, .slice none 0 0, .slice none 0 0] [.int .i64 X0, .int .i64 X1, .int .i64 X2, .int .i64 X4, .int .i64 X5, .int .i64 X6, .int .i64 X7, .int .i64 0, .bool (X3 == 1), .slice none 0 0, .slice none 0 0]) := hD.put 6 (.int .i64 X7)
  clear N R' g' hD H7
  go_wp2_with fail
  generalize d7.setCell ⟨w.heap.size + 1, 6, none⟩ (.int .i64 X7) = e8 at *
  clear u0 f0 u1 f1 u2 f2 u3 f3 u4 f4 u5 f5 u6 f6 u7 f7 u8 f8 u9 f9 u10 f10
  have N : Calls Try.prog 59 #[.pointer (some ⟨g, 0, none⟩), .int .i64 6] e8 fun e w' => e = .returned (.int .i64 (rnV (rn (rn (rn (rn (rn (rn (rn (rn s 1) 1) 1) 1) 6) 6) 6) 6) 6)) ∧ Rd w' [w.heap.size + 1, w.heap.size] g 98 (rn (rn (rn (rn (rn (rn (rn (rn (rn s 1) 1) 1) 1) 6) 6) 6) 6) 6).1 (rn (rn (rn (rn (rn (rn (rn (rn (rn s 1) 1) 1) 1) 6) 6) 6) 6) 6).2 ∧ e8.grownBy w' (some g) := Num_any _ g _ _ 6 e8 H8.out.rd
  obtain ⟨X8, hX8⟩ : ∃ X, X = rnV (rn (rn (rn (rn (rn (rn (rn (rn s 1) 1) 1) 1) 6) 6) 6) 6) 6 := ⟨_, rfl⟩
  rw [← hX8] at N
  have HX8 : Hid (X8 = rnV (rn (rn (rn (rn (rn (rn (rn (rn s 1) 1) 1) 1) 6) 6) 6) 6) 6) := hX8
  clear hX8
  refine N.mono ?_
  rintro r d8 ⟨rfl, R', g'⟩
  have hD := H8.out.read R' g'
  obtain ⟨u0, u1, u2, u3, u4, u5, u6, u7, u8, u9, u10⟩ := eblk11 hD.m4
  obtain ⟨f0, f1, f2, f3, f4, f5, f6, f7, f8, f9, f10⟩ := eblk11f hD.m4
  have H9 : Hid (RM g w.heap.size (w.heap.size + 1) w (d8.setCell ⟨w.heap.size + 1, 7, none⟩ (.int .i64 X8)) (rn (rn (rn (rn (rn (rn (rn (rn (rn s 1) 1) 1) 1) 6) 6) 6) 6) 6) [.int .i64 0, .int .i64 0, .int .i64 0, .int .i64 0, .int .i64 0, .int .i64 0, .int .i64 0, .int .i64 0, .bool false, .slice none 0 0, .slice none 0 0] [.int .i64 X0, .int .i64 X1, .int .i64 X2, .int .i64 X4, .int .i64 X5, .int .i64 X6, .int .i64 X7, .int .i64 X8, .bool (X3 == 1), .slice none 0 0, .slice none 0 0]) := hD.put 7 (.int .i64 X8)
  clear N R' g' hD H8
  go_wp2_with fail
  generalize d8.setCell ⟨w.heap.size + 1, 7, none⟩ (.int .i64 X8) = e9 at *
  clear u0 f0 u1 f1 u2 f2 u3 f3 u4 f4 u5 f5 u6 f6 u7 f7 u8 f8 u9 f9 u10 f10
  have N : Calls Try.prog 60 #[.pointer (some ⟨g, 0, none⟩), .int .i64 2, .int .i64 4096] e9 fun e w' => e = .returned (.int .i64 (rcntV s)) ∧ Rd w' [w.heap.size + 1, w.heap.size] g 98 (rcnt s).1 (rcnt s).2 ∧ e9.grownBy w' (some g) := Count_any _ g _ _ 2 4096 e9 H9.out.rd
  obtain ⟨cn, hcn⟩ : ∃ cn : Nat, rcntV s = cn ∧ cn ≤ 4096 := ⟨(rcntV s).toNat, by have := rcntV_bd s; omega, by have := rcntV_bd s; omega⟩
  rw [hcn.1] at N
  have hcI : (cn : Int) ≤ 4096 := by have := hcn.2; omega
  have HCN : Hid _ := hcn
  clear hcn
  refine N.mono ?_
  rintro r d9 ⟨rfl, R', g'⟩
  have hD := H9.out.read R' g'
  have hz9 : w.heap.size + 2 ≤ d9.heap.size := by have h1 := hD.m4.lt; have h2 := hD.m2.lt; omega
  have HL : Hid (RL (w.heap.size + 2) g w.heap.size (w.heap.size + 1) w d9 (rents (rcnt s) 0) [.int .i64 0, .int .i64 0, .int .i64 0, .int .i64 0, .int .i64 0, .int .i64 0, .int .i64 0, .int .i64 0, .bool false, .slice none 0 0, .slice none 0 0] [.int .i64 X0, .int .i64 X1, .int .i64 X2, .int .i64 X4, .int .i64 X5, .int .i64 X6, .int .i64 X7, .int .i64 X8, .bool (X3 == 1), .slice none 0 0, .slice none 0 0] (.slice none 0 0) (rentsV (rcnt s) 0)) := ⟨hD, hD.rd, ⟨[], [], EsOwn.nil _ _, by simp⟩, ⟨by omega, by omega, by omega, hz9⟩⟩
  clear N R' g' hD hz9 H9
  go_wp2_with fail
  go_loopw [37] (fun iv wr => ∃ (k : Nat) (v : Value), k ≤ cn ∧ iv = .int .i64 k ∧ RL (w.heap.size + 2) g w.heap.size (w.heap.size + 1) w wr (rents (rcnt s) k) [.int .i64 0, .int .i64 0, .int .i64 0, .int .i64 0, .int .i64 0, .int .i64 0, .int .i64 0, .int .i64 0, .bool false, .slice none 0 0, .slice none 0 0] [.int .i64 X0, .int .i64 X1, .int .i64 X2, .int .i64 X4, .int .i64 X5, .int .i64 X6, .int .i64 X7, .int .i64 X8, .bool (X3 == 1), v, .slice none 0 0] v (rentsV (rcnt s) k)) (fun iv _ => cn - (intOf iv).toNat)
  case atStart => exact ⟨0, _, Nat.zero_le _, rfl, HL.out⟩
  case round =>
    obtain ⟨k, v, hk, rfl, hL⟩ := hrel
    by_cases hlt : k < cn
    · have q1 : (k : Int) < (cn : Int) := by omega
      obtain ⟨u0, u1, u2, u3, u4, u5, u6, u7, u8, u9, u10⟩ := eblk11 hL.rm.m4
      clear u0 u1 u2 u3 u4 u5 u6 u7 u8 u10
      have hz := hL.lo
      have hkl := rentsV_len (rcnt s) k
      have HL1 : Hid _ := And.intro (hL.later (Below.refl _ _).drew) (And.intro hkl hz)
      have HE : Hid _ := readEntry_turn (v.ownBlock.toList ++ [w.heap.size + 1, w.heap.size]) g (rents (rcnt s) k) wr.drew HL1.out.1.rd
      have HS : Hid _ := (show wr.drew.cell? ⟨w.heap.size + 1, 9, none⟩ = some v from u9)
      clear hL hz hkl u9
      go_wp2_with fail
      refine e_begin (S := fun W => W.cell? ⟨w.heap.size + 1, 9, none⟩ = some v) 7 (by kernel_rfl) (HS.out) (fun hS => ?_)
      refine e_take (i := 0) (v := ?_) [1, 5, 7] rfl (by kernel_rfl) (by kernel_rfl) (by kernel_rfl) (by kernel_rfl) (by exact fun _ _ _ h => h) (by rfl) ?_ hS ?_
      rotate_left
      · ((intro w hSw; (try dsimp only at hSw); go_simp) <;> with_reducible rfl)
      (try simp only [Act.put, List.setIfInBounds_toArray, List.set_cons_zero, List.set_cons_succ])
      refine e_take (i := 1) (v := ?_) [5, 7] rfl (by kernel_rfl) (by kernel_rfl) (by kernel_rfl) (by kernel_rfl) (by exact fun _ _ _ h => h) (by rfl) ?_ hS ?_
      rotate_left
      · ((intro w hSw; (try dsimp only at hSw); go_simp) <;> with_reducible rfl)
      (try simp only [Act.put, List.setIfInBounds_toArray, List.set_cons_zero, List.set_cons_succ])
      refine e_take (i := 2) (v := ?_) [3, 4, 5, 7] rfl (by kernel_rfl) (by kernel_rfl) (by kernel_rfl) (by kernel_rfl) (by exact fun _ _ _ h => h) (by rfl) ?_ hS ?_
      rotate_left
      · ((intro w hSw; (try dsimp only at hSw); go_simp) <;> with_reducible rfl)
      (try simp only [Act.put, List.setIfInBounds_toArray, List.set_cons_zero, List.set_cons_succ])
      refine e_one (i := 3) rfl (by kernel_rfl) (fun K hK => ?_)
      go_simp
      refine (Calls.mono (HE.out)) ?_
      rintro e x1 ⟨x, c, rfl, oE, R1, t1⟩
      have hE1 := HL1.out.1.entry (s' := rents (rcnt s) (k + 1)) R1 t1
      obtain ⟨-, -, -, -, -, -, -, -, -, hS2, -⟩ := eblk11 hE1.rm.m4
      have bA : Below x1.heap.size x1 (x1.alloc (.cells #[.int .i64 (rEntE (rents (rcnt s) k)).1, .int .i64 (rEntE (rents (rcnt s) k)).2.1, .slice x (rEntE (rents (rcnt s) k)).2.2.length c] 49)) := (Below.refl _ _).alloc (Nat.le_refl _) _
      have BA : Blk (x1.alloc (.cells #[.int .i64 (rEntE (rents (rcnt s) k)).1, .int .i64 (rEntE (rents (rcnt s) k)).2.1, .slice x (rEntE (rents (rcnt s) k)).2.2.length c] 49)) x1.heap.size 49 [.int .i64 (rEntE (rents (rcnt s) k)).1, .int .i64 (rEntE (rents (rcnt s) k)).2.1, .slice x (rEntE (rents (rcnt s) k)).2.2.length c] := Blk.new' x1 _ _
      have hE2 := hE1.later bA
      obtain ⟨V, vs, ho, hV⟩ := hE2.own
      have hlv := World.ownsRow.lt HL1.out.1.own.choose_spec.choose_spec.1.own
      obtain ⟨a9, c9, e9', hle, -, hrow, hnil, hadr⟩ := oE.open
      simp only [Value.slice.injEq] at e9'
      obtain ⟨e91, -, e92⟩ := e9'
      subst e91
      subst e92
      have hoe := World.ownsRow.lt oE
      have hfar : ∀ z, x = some z → v.ownBlock ≠ some z.block ∧ z.block < (x1.alloc (.cells #[.int .i64 (rEntE (rents (rcnt s) k)).1, .int .i64 (rEntE (rents (rcnt s) k)).2.1, .slice x (rEntE (rents (rcnt s) k)).2.2.length c] 49)).heap.size ∧ w.heap.size + 2 ≤ z.block := fun z hz => by
        obtain ⟨gz, rfl, hgz⟩ := hadr z hz
        subst hz
        have h1 := (hoe gz rfl).2
        have h2 := bA.size
        have h3 := HL1.out.2.2.2.2.2
        have h4 : wr.drew.heap.size = wr.heap.size := rfl
        refine ⟨fun e => by have := (hlv gz e).2; omega, by show gz < _; omega, by show _ ≤ gz; omega⟩
      have hkl := HL1.out.2.1
      obtain ⟨v', x3, hrun, ⟨V', vs', ho3, hV3⟩, hg3, hat3⟩ := run_append_ent (x1.alloc (.cells #[.int .i64 (rEntE (rents (rcnt s) k)).1, .int .i64 (rEntE (rents (rcnt s) k)).2.1, .slice x (rEntE (rents (rcnt s) k)).2.2.length c] 49)) 22 (w.heap.size + 2) v (rentsV (rcnt s) k) V vs ho x1.heap.size (rEntE (rents (rcnt s) k)) x c BA hle (hrow.later bA) hnil (fun z hz => ⟨(hfar z hz).1, (hfar z hz).2.1⟩) (by have := HCN.out.2; omega) hE2.lo.2.2.2
      have hR3 := hE2.app hg3 ⟨V', vs', ho3, fun q hq => (hV3 q hq).elim (hV q) (fun ⟨z, hz, e⟩ => by rw [e]; exact (hfar z hz).2.2)⟩ hat3
      obtain ⟨va, vn, vc, rfl⟩ : ∃ va vn vc, v' = .slice va vn vc := by
        obtain ⟨_, ⟨e, _⟩ | ⟨g', cap, cur, e, _⟩⟩ := ho3.own
        · exact ⟨_, _, _, e⟩
        · exact ⟨_, _, _, e⟩
      obtain ⟨-, -, -, -, -, -, -, -, -, s2, -⟩ := eblk11 hE2.rm.m4
      obtain ⟨-, -, -, -, -, -, -, -, -, s3, -⟩ := eblk11 hR3.rm.m4
      obtain ⟨-, -, -, -, -, -, -, -, -, f3, -⟩ := eblk11f hR3.rm.m4
      have HF : Hid _ := And.intro hrun (And.intro s2 (And.intro s3 (hR3.put 9 (.slice va vn vc))))
      have c3 := s3
      clear hE1 bA BA hE2 ho hV hlv hle hrow hnil hadr hoe hfar hkl hrun ho3 hV3 hg3 hat3 hR3 s2 s3 oE R1 t1 hS
      go_wp2_with fail
      refine hK.out _ _ (hS2) (fun hS => ?_)
      clear hK K
      refine e_one (i := 4) rfl (by kernel_rfl) (fun K hK => ?_)
      go_simp
      refine hK.out _ _ HF.out.2.1 (fun hS => ?_)
      clear hK K
      refine e_one (i := 5) rfl (by kernel_rfl) (fun K hK => ?_)
      refine st_app9 rfl _ _ 22 22 rfl _ _ rfl rfl HF.out.1 ?_
      refine hK.out _ _ HF.out.2.2.1 (fun hS => ?_)
      clear hK K
      refine e_take (i := 6) (v := ?_) [7] rfl (by kernel_rfl) (by kernel_rfl) (by kernel_rfl) (by kernel_rfl) (by exact fun _ _ _ h => h) (by rfl) ?_ hS ?_
      rotate_left
      · ((intro w hSw; (try dsimp only at hSw); go_simp) <;> with_reducible rfl)
      (try simp only [Act.put, List.setIfInBounds_toArray, List.set_cons_zero, List.set_cons_succ])
      clear hS
      refine e_last (z := 7) rfl (by kernel_rfl) (fun K hK => ?_)
      go_simp
      refine hK.out _ _ ?_
      clear hK K
      refine e_done (by kernel_rfl) ?_ _
      have F : Hid _ := HF.out.2.2.2
      clear HF c3 f3 HL1 HE HS
      go_wp2
      go_roundw
      case rel => exact ⟨k + 1, .slice va vn vc, by omega, by go_num, F.out⟩
      case measure => simp [intOf]; omega
    · obtain rfl : k = cn := by omega
      have q1 : ¬ ((k : Int) < (k : Int)) := by omega
      have hkN : (rcntV s).toNat = k := by rw [HCN.out.1]; rfl
      have hes : (rmM s).es = rentsV (rcnt s) k := by show rentsV (rcnt s) (rcntV s).toNat = _; rw [hkN]
      have hme : rents (rcnt s) k = rme s := by unfold rme; rw [hkN]
      rw [hme, ← hes] at hL
      have N2 : Calls Try.prog 62 #[.pointer (some ⟨g, 0, none⟩), .int .i64 4] wr fun e w' => ∃ v2, e = .returned v2 ∧ Own w' wr.heap.size v2 (rmM s).dt ∧ Rd w' (v2.ownBlock.toList ++ (v.ownBlock.toList ++ [w.heap.size + 1, w.heap.size])) g 98 (rmS s).1 (rmS s).2 ∧ wr.grownBy w' (some g) := Bytes_any _ g _ _ 4 wr hL.rd
      have HN2 : Hid _ := And.intro N2 hL
      clear N2 hL hkN hes hme
      go_wp2_with fail
      refine (Calls.mono HN2.out.1) ?_
      rintro r wB ⟨v2, rfl, oD, RB, gB⟩
      have tB : Turned (fun k => k = g) wr wB := turned_grown gB (fun k e => (Option.some.inj e).symm)
      have hE := HN2.out.2.entry (s' := rmS s) (RB.less (fun k hk => List.mem_append_right _ hk)) tB
      have hloD := World.ownsRow.lt oD
      have hzB := HN2.out.2.lo
      obtain ⟨da, dc, rfl, -, -, -, -, hadr⟩ := oD.open
      have hP := hE.put 10 (.slice da (rmM s).dt.length dc)
      obtain ⟨-, -, -, -, -, -, -, -, -, -, uA⟩ := eblk11 hE.rm.m4
      obtain ⟨-, -, -, -, -, -, -, -, -, -, fA⟩ := eblk11f hE.rm.m4
      have hG := grown_set wB (w.heap.size + 1) 10 (.slice da (rmM s).dt.length dc)
      have oD2 : Own (wB.setCell ⟨w.heap.size + 1, 10, none⟩ (.slice da (rmM s).dt.length dc)) w.heap.size (.slice da (rmM s).dt.length dc) (rmM s).dt := own_keptM (own_baseM oD (by omega)) hG (fun q hq e => by have := (hloD q hq).1; have := Option.some.inj e; omega)
      have hv1 : v.oneCell' = true := by
        obtain ⟨V, vs, ho, -⟩ := hE.own
        obtain ⟨_, ⟨e, _⟩ | ⟨g', cap, cur, e, _⟩⟩ := ho.own <;> rw [e] <;> rfl
      obtain ⟨w9, hst, B9, g9⟩ := store_msg (vs := [.int .i64 X0, .int .i64 X1, .int .i64 X2, .int .i64 X4, .int .i64 X5, .int .i64 X6, .int .i64 X7, .int .i64 X8, .bool (X3 == 1), v, .slice da (rmM s).dt.length dc]) hP.rm.m2 rfl rfl (by intro u hu; simp only [List.mem_cons, List.not_mem_nil, or_false] at hu; rcases hu with rfl | rfl | rfl | rfl | rfl | rfl | rfl | rfl | rfl | rfl | rfl <;> first | rfl | exact hv1)
      have hld := load_msg hP.rm.m4 rfl
      obtain ⟨V, vs, ho, hV⟩ := hP.own
      have hlv := World.ownsRow.lt ho.own
      have t9 : Turned (fun k => k = w.heap.size) _ w9 := turned_grown g9 (fun k e => (Option.some.inj e).symm)
      obtain ⟨va, vc, rfl⟩ : ∃ va vc, v = .slice va (rmM s).es.length vc := by
        obtain ⟨_, ⟨e, h0⟩ | ⟨g', cap, cur, e, _⟩⟩ := ho.own
        · exact ⟨none, 0, by rw [e, h0]⟩
        · exact ⟨_, _, e⟩
      have F : Hid _ := And.intro B9 (And.intro (show ∃ V vs, EsOwn w9 w.heap.size (.slice va (rmM s).es.length vc) (rmM s).es V vs ∧ ∀ k ∈ V, w.heap.size ≤ k from ⟨V, vs, es_baseM (ho.turned t9 (fun k hk e => by have := (hlv k hk).1; omega) (fun k hk e => by have := hV k hk; omega)) (by omega), fun k hk => by have := hV k hk; omega⟩) (And.intro (own_keptM oD2 g9 (fun q hq e => by have := (hloD q hq).1; have := Option.some.inj e; omega)) (And.intro ((hP.rm.rd.keep g9 (fun k hk => ⟨by have := Option.some.inj hk; have := hP.rm.far.1; omega, .inl (by rw [← Option.some.inj hk]; simp)⟩)).less (F' := []) (fun k hk => by cases hk)) (hP.rm.t.trans (turned_grown (R := fun k => k = g ∨ w.heap.size ≤ k) g9 (fun k e => .inr (by have := Option.some.inj e; omega)))))))
      clear B9 g9 t9 ho hV hlv oD2 hG hE hloD hzB hadr tB RB gB oD hv1 HN2
      go_wp2_with (first | (refine wpList_valueM rfl (exec_loadM rfl rfl hld) ?_) | (refine wpList_skipM rfl (exec_storeM rfl rfl rfl hst) ?_))
      refine bodyPost_ret (res_msg rfl F.out.1 rfl rfl rfl) rfl ?_
      exact ⟨va, vc, da, dc, by rw [HX0.out, HX1.out, HX2.out, HX3.out, HX4.out, HX5.out, HX6.out, HX7.out, HX8.out]; rfl, F.out.2.1, F.out.2.2.1, F.out.2.2.2.1, F.out.2.2.2.2⟩
end Go.Proofs.Ytgjcgnmomdanaaa

