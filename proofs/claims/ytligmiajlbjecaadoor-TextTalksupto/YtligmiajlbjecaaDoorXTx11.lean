/- text: strings.IndexRune of the marks, at characters of more than one byte. -/
import Derived.Test.YtligmiajlbjecaaDoorXTx2
import Derived.Test.YtligmiajlbjecaaDoorXTxShelf
import Derived.Test.YtligmiajlbjecaaDoorXTxShelf2
import Derived.Test.YtligmiajlbjecaaDoorXDraw
import Derived.Laws.Runes
import Derived.Handy
import Derived.Deep.CutRange
namespace Go.Proofs.YtligmiajlbjecaaDoor
open Go.RowKit
set_option linter.unusedVariables false
set_option linter.unusedSimpArgs false
set_option maxRecDepth 8000

theorem ib_no (c : UInt8) : ∀ l : List UInt8, (∀ b ∈ l, b ≠ c) → Lib.indexByte l c = -1
  | [], _ => rfl
  | b :: l, h => by
    have h1 : (b == c) = false := by simpa using h b (List.mem_cons_self ..)
    have h2 := ib_no c l (fun x hx => h x (List.mem_cons_of_mem _ hx))
    rw [Lib.indexByte, h1, h2]
    rfl
theorem mk_low : ∀ i : Fin 5, ((⟨#[46, 45, 43, 64, 95]⟩ : ByteArray)[i.val]'(i.isLt)).toNat < 128 := by decide
set_option maxHeartbeats 4000000 in
theorem iRune_err (w : World) : Calls Tryd.prog 67 #[.string ⟨#[46, 45, 43, 64, 95]⟩, .int .i32 65533] w fun e w' => e = .returned (.int .i64 (-1)) ∧ Below w.heap.size w w' := by
  have hr := run_range_string (P := Tryd.prog) w 9 ⟨#[46, 45, 43, 64, 95]⟩ Tryd.underlying9
  go_enter Tryd.func67, Tryd.ntmps67
  go_wp2_with fail
  go_loopw [5] (fun _ wr => ∃ pos : Nat, pos ≤ 5 ∧ wr = w.iter ⟨#[46, 45, 43, 64, 95]⟩ pos) (fun _ wr => 5 - iterPos w.heap.size wr)
  case atStart => exact ⟨0, by omega, rfl⟩
  case round =>
    obtain ⟨pos, hp, rfl⟩ := hrel
    by_cases hlt : pos < 5
    · have h128 := mk_low ⟨pos, hlt⟩
      have hn := run_next_ascii (P := Tryd.prog) w ⟨#[46, 45, 43, 64, 95]⟩ pos 0 hlt h128
      generalize ((⟨#[46, 45, 43, 64, 95]⟩ : ByteArray)[pos]'hlt) = c at *
      have q : ((c.toNat : Int) == 65533) = false := by simp; omega
      clear h128
      generalize (c.toNat : Int) = C at *
      go_wp2
      go_roundw
      case rel => exact ⟨pos + 1, by omega, rfl⟩
      case measure => rw [iterPos_iter, iterPos_iter]; omega
    · have hn := run_next_end (P := Tryd.prog) w ⟨#[46, 45, 43, 64, 95]⟩ pos 0 hlt
      clear hlt
      go_wp2
      go_ret
      exact ⟨rfl, iter_below _ _ _⟩
theorem mk_ex2 : (⟨#[46, 45, 43, 64, 95]⟩ : ByteArray).extract 2 5 = ⟨#[43, 64, 95]⟩ := by decide
set_option maxHeartbeats 8000000 in
theorem iRune_2 (r : Int) (w : World) (h0 : 128 ≤ r) (h1 : r ≠ 65533) (hv : Lib.validRune r = true) (hE : (Utf8.encode r).size = 2) (hl : ∀ h : 1 < (Utf8.encode r).size, 128 ≤ ((Utf8.encode r)[1]'h).toNat) : Calls Tryd.prog 67 #[.string ⟨#[46, 45, 43, 64, 95]⟩, .int .i32 r] w fun e w' => e = .returned (.int .i64 (-1)) ∧ Below w.heap.size w w' := by
  have hlt : 1 < (Utf8.encode r).size := by omega
  have hx := hl hlt
  have hix : ∀ W, (Instr.index 9 (.string (Utf8.encode r)) (.int .i64 1)).run Tryd.prog W = .ok (.int .u8 (((Utf8.encode r)[1]'hlt).toNat : Int)) W := fun W => ix_str (Utf8.encode r) 1 hlt W
  generalize ((Utf8.encode r)[1]'hlt) = x at *
  have hcv : ∀ W, (convert 21 9 (.int .i32 r)).run Tryd.prog W = .ok (.string (Utf8.encode r)) W := fun W => run_convert_int_string W _ _ _ _ rfl Tryd.underlying9
  have HI : Hid (∀ W, Calls Tryd.prog 74 #[.string ⟨#[43, 64, 95]⟩, .int .u8 (x.toNat : Int)] W fun e w' => e = .returned (.int .i64 (-1)) ∧ Below W.heap.size W w') := fun W => by
    refine (Tryd.strings_IndexByte ⟨#[43, 64, 95]⟩ (x.toNat : Int) W).mono ?_
    rintro e w' ⟨rfl, rfl⟩
    refine ⟨?_, Below.refl _ _⟩
    have ex : ((x.toNat : Int)).toNat.toUInt8 = x := by rw [Int.toNat_natCast]; simp
    rw [ex, ib_no x _ (fun b hb => by simp at hb; rcases hb with rfl | rfl | rfl <;> (intro e; rw [← e] at hx; revert hx; decide))]
  have HV : Hid _ := Tryd.utf8_ValidRune r w
  rw [hv] at HV
  have q0 : (0 : Int) ≤ r := by omega
  have q1 : ¬ r < 128 := by omega
  have q2 : (r == 65533) = false := by simpa using h1
  have q3 : ((45 : Int) == (x.toNat : Int)) = false := by simp; omega
  have q4 : ¬ ((45 : Int) = (x.toNat : Int)) := by omega
  have q5 : ((45 : Int) != (x.toNat : Int)) = true := by simp; omega
  have q6 : ((((⟨#[46, 45, 43, 64, 95]⟩ : ByteArray)[1]'(by decide)).toNat : Int) != (x.toNat : Int)) = true := q5
  generalize Utf8.encode r = E at *
  have hsz : (E.size : Int) = 2 := by omega
  clear hl hE hlt hv h0 h1 hx
  generalize (x.toNat : Int) = X at *
  go_enter Tryd.func67, Tryd.ntmps67
  go_wp2_with fail
  refine (Calls.mono HV.out) ?_
  rintro e WW ⟨rfl, hWW⟩
  rw [hWW]
  clear hWW WW HV
  go_wp2_with fail
  go_step3
  (try go_wp2_with fail)
  refine wp_loop_rounds 2 ?_
  rw [rounds_succ]
  go_wp2_with fail
  go_step3
  (try go_wp2_with fail)
  refine wp_region_held_drew (S := fun W => Below w.heap.size w W) (by kernel_rfl) ((Below.refl _ _).drew) (fun hS => ?_)
  have B0 : Below w.heap.size w w.drew := ((Below.refl _ _).drew)
  refine any_take (i := 0) (v := ?_) rfl (by kernel_rfl) (by kernel_rfl) (by kernel_rfl) (by exact fun _ _ _ h => h) (by rfl) ?_ hS ?_
  rotate_left
  · ((intro w hSw; (try dsimp only at hSw); go_simp) <;> with_reducible rfl)
  (try simp only [Act.put, List.setIfInBounds_toArray, List.set_cons_zero, List.set_cons_succ])
  refine any_take (i := 1) (v := ?_) rfl (by kernel_rfl) (by kernel_rfl) (by kernel_rfl) (by exact fun _ _ _ h => h) (by rfl) ?_ hS ?_
  rotate_left
  · ((intro w hSw; (try dsimp only at hSw); go_simp) <;> with_reducible rfl)
  (try simp only [Act.put, List.setIfInBounds_toArray, List.set_cons_zero, List.set_cons_succ])
  refine any_take (i := 2) (v := ?_) rfl (by kernel_rfl) (by kernel_rfl) (by kernel_rfl) (by exact fun _ _ _ h => h) (by rfl) ?_ hS ?_
  rotate_left
  · ((intro w hSw; (try dsimp only at hSw); go_simp) <;> with_reducible rfl)
  (try simp only [Act.put, List.setIfInBounds_toArray, List.set_cons_zero, List.set_cons_succ])
  refine any_take (i := 3) (v := ?_) rfl (by kernel_rfl) (by kernel_rfl) (by kernel_rfl) (by exact fun _ _ _ h => h) (by rfl) ?_ hS ?_
  rotate_left
  · ((intro w hSw; (try dsimp only at hSw); go_simp) <;> with_reducible rfl)
  (try simp only [Act.put, List.setIfInBounds_toArray, List.set_cons_zero, List.set_cons_succ])
  refine any_take (i := 4) (v := ?_) rfl (by kernel_rfl) (by kernel_rfl) (by kernel_rfl) (by exact fun _ _ _ h => h) (by rfl) ?_ hS ?_
  rotate_left
  · ((intro w hSw; (try dsimp only at hSw); go_simp) <;> with_reducible rfl)
  (try simp only [Act.put, List.setIfInBounds_toArray, List.set_cons_zero, List.set_cons_succ])
  refine any_take (i := 5) (v := ?_) rfl (by kernel_rfl) (by kernel_rfl) (by kernel_rfl) (by exact fun _ _ _ h => h) (by rfl) ?_ hS ?_
  rotate_left
  · ((intro w hSw; have q9 := hix w; go_simp) <;> with_reducible rfl)
  (try simp only [Act.put, List.setIfInBounds_toArray, List.set_cons_zero, List.set_cons_succ])
  refine any_take (i := 6) (v := ?_) rfl (by kernel_rfl) (by kernel_rfl) (by kernel_rfl) (by exact fun _ _ _ h => h) (by rfl) ?_ hS ?_
  rotate_left
  · ((intro w hSw; (try dsimp only at hSw); go_simp) <;> with_reducible rfl)
  (try simp only [Act.put, List.setIfInBounds_toArray, List.set_cons_zero, List.set_cons_succ])
  refine wpAnyH_done (by kernel_rfl) ?_ _
  have F1 : Hid _ := B0
  clear B0 hS
  go_wp2_with fail
  obtain ⟨W1, hW1⟩ : ∃ y, y = w.drew := ⟨_, rfl⟩
  rw [← hW1]
  have b1 : Below w.heap.size w W1 := by rw [hW1]; exact (Below.refl _ _).drew
  clear hW1 F1
  (try simp only [mk_ex2])
  refine wp_region_held_drew (S := fun W => Below W1.heap.size W1 W) (by kernel_rfl) ((Below.refl _ _).drew) (fun hS => ?_)
  have B0 : Below W1.heap.size W1 W1.drew := ((Below.refl _ _).drew)
  refine any_take (i := 0) (v := ?_) rfl (by kernel_rfl) (by kernel_rfl) (by kernel_rfl) (by exact fun _ _ _ h => h) (by rfl) ?_ hS ?_
  rotate_left
  · ((intro w hSw; (try dsimp only at hSw); go_simp) <;> with_reducible rfl)
  (try simp only [Act.put, List.setIfInBounds_toArray, List.set_cons_zero, List.set_cons_succ])
  refine any_take (i := 1) (v := ?_) rfl (by kernel_rfl) (by kernel_rfl) (by kernel_rfl) (by exact fun _ _ _ h => h) (by rfl) ?_ hS ?_
  rotate_left
  · ((intro w hSw; (try dsimp only at hSw); go_simp) <;> with_reducible rfl)
  (try simp only [Act.put, List.setIfInBounds_toArray, List.set_cons_zero, List.set_cons_succ])
  refine any_take (i := 2) (v := ?_) rfl (by kernel_rfl) (by kernel_rfl) (by kernel_rfl) (by exact fun _ _ _ h => h) (by rfl) ?_ hS ?_
  rotate_left
  · ((intro w hSw; have w7 : IntKind.i64.wrap 2 = 2 := (by decide); have w8 := mk_ex2; go_simp) <;> with_reducible rfl)
  (try simp only [Act.put, List.setIfInBounds_toArray, List.set_cons_zero, List.set_cons_succ])
  refine any_take (i := 3) (v := ?_) rfl (by kernel_rfl) (by kernel_rfl) (by kernel_rfl) (by exact fun _ _ _ h => h) (by rfl) ?_ hS ?_
  rotate_left
  · ((intro w hSw; have w7 : IntKind.i64.wrap 2 = 2 := (by decide); have w8 := mk_ex2; go_simp) <;> with_reducible rfl)
  (try simp only [Act.put, List.setIfInBounds_toArray, List.set_cons_zero, List.set_cons_succ])
  refine any_take (i := 4) (v := ?_) rfl (by kernel_rfl) (by kernel_rfl) (by kernel_rfl) (by exact fun _ _ _ h => h) (by rfl) ?_ hS ?_
  rotate_left
  · ((intro w hSw; (try dsimp only at hSw); go_simp) <;> with_reducible rfl)
  (try simp only [Act.put, List.setIfInBounds_toArray, List.set_cons_zero, List.set_cons_succ])
  refine any_take (i := 5) (v := ?_) rfl (by kernel_rfl) (by kernel_rfl) (by kernel_rfl) (by exact fun _ _ _ h => h) (by rfl) ?_ hS ?_
  rotate_left
  · ((intro w hSw; (try dsimp only at hSw); go_simp) <;> with_reducible rfl)
  (try simp only [Act.put, List.setIfInBounds_toArray, List.set_cons_zero, List.set_cons_succ])
  refine any_take (i := 6) (v := ?_) rfl (by kernel_rfl) (by kernel_rfl) (by kernel_rfl) (by exact fun _ _ _ h => h) (by rfl) ?_ hS ?_
  rotate_left
  · ((intro w hSw; have q9 := hix w; go_simp) <;> with_reducible rfl)
  (try simp only [Act.put, List.setIfInBounds_toArray, List.set_cons_zero, List.set_cons_succ])
  refine any_one (i := 7) rfl (by kernel_rfl) (fun K hK => ?_)
  go_simp
  refine (Calls.mono (HI.out _)) ?_
  rintro e x1 ⟨rfl, hbR⟩
  have B1 : Below W1.heap.size W1 x1 := below_then B0 hbR
  go_wp2_with fail
  refine hK.out _ _ (by first | exact B1 | exact hbR | exact below_then hS hbR) (any_weaken (S' := fun W => Below x1.heap.size x1 W) (fun W hW => by first | exact below_then B1 hW | exact below_then hbR hW | exact below_then (below_then hS hbR) hW) _ _ _ _ ?_)
  clear hK K hS hbR
  have hS : Below x1.heap.size x1 x1 := Below.refl _ _
  refine any_take (i := 8) (v := ?_) rfl (by kernel_rfl) (by kernel_rfl) (by kernel_rfl) (by exact fun _ _ _ h => h) (by rfl) ?_ hS ?_
  rotate_left
  · ((intro w hSw; (try dsimp only at hSw); go_simp) <;> with_reducible rfl)
  (try simp only [Act.put, List.setIfInBounds_toArray, List.set_cons_zero, List.set_cons_succ])
  refine wpAnyH_done (by kernel_rfl) ?_ _
  have F : Hid _ := below_then b1 B1
  clear hS b1
  go_wp2
  (try unfold Exit.noGoto)
  (try dsimp only)
  go_ret
  exact ⟨rfl, F.out⟩
theorem mk_ex3 : (⟨#[46, 45, 43, 64, 95]⟩ : ByteArray).extract 3 5 = ⟨#[64, 95]⟩ := by decide
set_option maxHeartbeats 8000000 in
theorem iRune_3 (r : Int) (w : World) (h0 : 128 ≤ r) (h1 : r ≠ 65533) (hv : Lib.validRune r = true) (hE : (Utf8.encode r).size = 3) (hl : ∀ h : 2 < (Utf8.encode r).size, 128 ≤ ((Utf8.encode r)[2]'h).toNat) : Calls Tryd.prog 67 #[.string ⟨#[46, 45, 43, 64, 95]⟩, .int .i32 r] w fun e w' => e = .returned (.int .i64 (-1)) ∧ Below w.heap.size w w' := by
  have hlt : 2 < (Utf8.encode r).size := by omega
  have hx := hl hlt
  have hix : ∀ W, (Instr.index 9 (.string (Utf8.encode r)) (.int .i64 2)).run Tryd.prog W = .ok (.int .u8 (((Utf8.encode r)[2]'hlt).toNat : Int)) W := fun W => ix_str (Utf8.encode r) 2 hlt W
  generalize ((Utf8.encode r)[2]'hlt) = x at *
  have hcv : ∀ W, (convert 21 9 (.int .i32 r)).run Tryd.prog W = .ok (.string (Utf8.encode r)) W := fun W => run_convert_int_string W _ _ _ _ rfl Tryd.underlying9
  have HI : Hid (∀ W, Calls Tryd.prog 74 #[.string ⟨#[64, 95]⟩, .int .u8 (x.toNat : Int)] W fun e w' => e = .returned (.int .i64 (-1)) ∧ Below W.heap.size W w') := fun W => by
    refine (Tryd.strings_IndexByte ⟨#[64, 95]⟩ (x.toNat : Int) W).mono ?_
    rintro e w' ⟨rfl, rfl⟩
    refine ⟨?_, Below.refl _ _⟩
    have ex : ((x.toNat : Int)).toNat.toUInt8 = x := by rw [Int.toNat_natCast]; simp
    rw [ex, ib_no x _ (fun b hb => by simp at hb; rcases hb with rfl | rfl <;> (intro e; rw [← e] at hx; revert hx; decide))]
  have HV : Hid _ := Tryd.utf8_ValidRune r w
  rw [hv] at HV
  have q0 : (0 : Int) ≤ r := by omega
  have q1 : ¬ r < 128 := by omega
  have q2 : (r == 65533) = false := by simpa using h1
  have q3 : ((43 : Int) == (x.toNat : Int)) = false := by simp; omega
  have q4 : ¬ ((43 : Int) = (x.toNat : Int)) := by omega
  have q5 : ((43 : Int) != (x.toNat : Int)) = true := by simp; omega
  have q6 : ((((⟨#[46, 45, 43, 64, 95]⟩ : ByteArray)[2]'(by decide)).toNat : Int) != (x.toNat : Int)) = true := q5
  generalize Utf8.encode r = E at *
  have hsz : (E.size : Int) = 3 := by omega
  clear hl hE hlt hv h0 h1 hx
  generalize (x.toNat : Int) = X at *
  go_enter Tryd.func67, Tryd.ntmps67
  go_wp2_with fail
  refine (Calls.mono HV.out) ?_
  rintro e WW ⟨rfl, hWW⟩
  rw [hWW]
  clear hWW WW HV
  go_wp2_with fail
  go_step3
  (try go_wp2_with fail)
  refine wp_loop_rounds 2 ?_
  rw [rounds_succ]
  go_wp2_with fail
  go_step3
  (try go_wp2_with fail)
  refine wp_region_held_drew (S := fun W => Below w.heap.size w W) (by kernel_rfl) ((Below.refl _ _).drew) (fun hS => ?_)
  have B0 : Below w.heap.size w w.drew := ((Below.refl _ _).drew)
  refine any_take (i := 0) (v := ?_) rfl (by kernel_rfl) (by kernel_rfl) (by kernel_rfl) (by exact fun _ _ _ h => h) (by rfl) ?_ hS ?_
  rotate_left
  · ((intro w hSw; (try dsimp only at hSw); go_simp) <;> with_reducible rfl)
  (try simp only [Act.put, List.setIfInBounds_toArray, List.set_cons_zero, List.set_cons_succ])
  refine any_take (i := 1) (v := ?_) rfl (by kernel_rfl) (by kernel_rfl) (by kernel_rfl) (by exact fun _ _ _ h => h) (by rfl) ?_ hS ?_
  rotate_left
  · ((intro w hSw; (try dsimp only at hSw); go_simp) <;> with_reducible rfl)
  (try simp only [Act.put, List.setIfInBounds_toArray, List.set_cons_zero, List.set_cons_succ])
  refine any_take (i := 2) (v := ?_) rfl (by kernel_rfl) (by kernel_rfl) (by kernel_rfl) (by exact fun _ _ _ h => h) (by rfl) ?_ hS ?_
  rotate_left
  · ((intro w hSw; (try dsimp only at hSw); go_simp) <;> with_reducible rfl)
  (try simp only [Act.put, List.setIfInBounds_toArray, List.set_cons_zero, List.set_cons_succ])
  refine any_take (i := 3) (v := ?_) rfl (by kernel_rfl) (by kernel_rfl) (by kernel_rfl) (by exact fun _ _ _ h => h) (by rfl) ?_ hS ?_
  rotate_left
  · ((intro w hSw; (try dsimp only at hSw); go_simp) <;> with_reducible rfl)
  (try simp only [Act.put, List.setIfInBounds_toArray, List.set_cons_zero, List.set_cons_succ])
  refine any_take (i := 4) (v := ?_) rfl (by kernel_rfl) (by kernel_rfl) (by kernel_rfl) (by exact fun _ _ _ h => h) (by rfl) ?_ hS ?_
  rotate_left
  · ((intro w hSw; (try dsimp only at hSw); go_simp) <;> with_reducible rfl)
  (try simp only [Act.put, List.setIfInBounds_toArray, List.set_cons_zero, List.set_cons_succ])
  refine any_take (i := 5) (v := ?_) rfl (by kernel_rfl) (by kernel_rfl) (by kernel_rfl) (by exact fun _ _ _ h => h) (by rfl) ?_ hS ?_
  rotate_left
  · ((intro w hSw; have q9 := hix w; go_simp) <;> with_reducible rfl)
  (try simp only [Act.put, List.setIfInBounds_toArray, List.set_cons_zero, List.set_cons_succ])
  refine any_take (i := 6) (v := ?_) rfl (by kernel_rfl) (by kernel_rfl) (by kernel_rfl) (by exact fun _ _ _ h => h) (by rfl) ?_ hS ?_
  rotate_left
  · ((intro w hSw; (try dsimp only at hSw); go_simp) <;> with_reducible rfl)
  (try simp only [Act.put, List.setIfInBounds_toArray, List.set_cons_zero, List.set_cons_succ])
  refine wpAnyH_done (by kernel_rfl) ?_ _
  have F1 : Hid _ := B0
  clear B0 hS
  go_wp2_with fail
  obtain ⟨W1, hW1⟩ : ∃ y, y = w.drew := ⟨_, rfl⟩
  rw [← hW1]
  have b1 : Below w.heap.size w W1 := by rw [hW1]; exact (Below.refl _ _).drew
  clear hW1 F1
  (try simp only [mk_ex3])
  refine wp_region_held_drew (S := fun W => Below W1.heap.size W1 W) (by kernel_rfl) ((Below.refl _ _).drew) (fun hS => ?_)
  have B0 : Below W1.heap.size W1 W1.drew := ((Below.refl _ _).drew)
  refine any_take (i := 0) (v := ?_) rfl (by kernel_rfl) (by kernel_rfl) (by kernel_rfl) (by exact fun _ _ _ h => h) (by rfl) ?_ hS ?_
  rotate_left
  · ((intro w hSw; (try dsimp only at hSw); go_simp) <;> with_reducible rfl)
  (try simp only [Act.put, List.setIfInBounds_toArray, List.set_cons_zero, List.set_cons_succ])
  refine any_take (i := 1) (v := ?_) rfl (by kernel_rfl) (by kernel_rfl) (by kernel_rfl) (by exact fun _ _ _ h => h) (by rfl) ?_ hS ?_
  rotate_left
  · ((intro w hSw; (try dsimp only at hSw); go_simp) <;> with_reducible rfl)
  (try simp only [Act.put, List.setIfInBounds_toArray, List.set_cons_zero, List.set_cons_succ])
  refine any_take (i := 2) (v := ?_) rfl (by kernel_rfl) (by kernel_rfl) (by kernel_rfl) (by exact fun _ _ _ h => h) (by rfl) ?_ hS ?_
  rotate_left
  · ((intro w hSw; have w7 : IntKind.i64.wrap 3 = 3 := (by decide); have w8 := mk_ex3; go_simp) <;> with_reducible rfl)
  (try simp only [Act.put, List.setIfInBounds_toArray, List.set_cons_zero, List.set_cons_succ])
  refine any_take (i := 3) (v := ?_) rfl (by kernel_rfl) (by kernel_rfl) (by kernel_rfl) (by exact fun _ _ _ h => h) (by rfl) ?_ hS ?_
  rotate_left
  · ((intro w hSw; have w7 : IntKind.i64.wrap 3 = 3 := (by decide); have w8 := mk_ex3; go_simp) <;> with_reducible rfl)
  (try simp only [Act.put, List.setIfInBounds_toArray, List.set_cons_zero, List.set_cons_succ])
  refine any_take (i := 4) (v := ?_) rfl (by kernel_rfl) (by kernel_rfl) (by kernel_rfl) (by exact fun _ _ _ h => h) (by rfl) ?_ hS ?_
  rotate_left
  · ((intro w hSw; (try dsimp only at hSw); go_simp) <;> with_reducible rfl)
  (try simp only [Act.put, List.setIfInBounds_toArray, List.set_cons_zero, List.set_cons_succ])
  refine any_take (i := 5) (v := ?_) rfl (by kernel_rfl) (by kernel_rfl) (by kernel_rfl) (by exact fun _ _ _ h => h) (by rfl) ?_ hS ?_
  rotate_left
  · ((intro w hSw; (try dsimp only at hSw); go_simp) <;> with_reducible rfl)
  (try simp only [Act.put, List.setIfInBounds_toArray, List.set_cons_zero, List.set_cons_succ])
  refine any_take (i := 6) (v := ?_) rfl (by kernel_rfl) (by kernel_rfl) (by kernel_rfl) (by exact fun _ _ _ h => h) (by rfl) ?_ hS ?_
  rotate_left
  · ((intro w hSw; have q9 := hix w; go_simp) <;> with_reducible rfl)
  (try simp only [Act.put, List.setIfInBounds_toArray, List.set_cons_zero, List.set_cons_succ])
  refine any_one (i := 7) rfl (by kernel_rfl) (fun K hK => ?_)
  go_simp
  refine (Calls.mono (HI.out _)) ?_
  rintro e x1 ⟨rfl, hbR⟩
  have B1 : Below W1.heap.size W1 x1 := below_then B0 hbR
  go_wp2_with fail
  refine hK.out _ _ (by first | exact B1 | exact hbR | exact below_then hS hbR) (any_weaken (S' := fun W => Below x1.heap.size x1 W) (fun W hW => by first | exact below_then B1 hW | exact below_then hbR hW | exact below_then (below_then hS hbR) hW) _ _ _ _ ?_)
  clear hK K hS hbR
  have hS : Below x1.heap.size x1 x1 := Below.refl _ _
  refine any_take (i := 8) (v := ?_) rfl (by kernel_rfl) (by kernel_rfl) (by kernel_rfl) (by exact fun _ _ _ h => h) (by rfl) ?_ hS ?_
  rotate_left
  · ((intro w hSw; (try dsimp only at hSw); go_simp) <;> with_reducible rfl)
  (try simp only [Act.put, List.setIfInBounds_toArray, List.set_cons_zero, List.set_cons_succ])
  refine wpAnyH_done (by kernel_rfl) ?_ _
  have F : Hid _ := below_then b1 B1
  clear hS b1
  go_wp2
  (try unfold Exit.noGoto)
  (try dsimp only)
  go_ret
  exact ⟨rfl, F.out⟩
theorem mk_ex4 : (⟨#[46, 45, 43, 64, 95]⟩ : ByteArray).extract 4 5 = ⟨#[95]⟩ := by decide
set_option maxHeartbeats 8000000 in
theorem iRune_4 (r : Int) (w : World) (h0 : 128 ≤ r) (h1 : r ≠ 65533) (hv : Lib.validRune r = true) (hE : (Utf8.encode r).size = 4) (hl : ∀ h : 3 < (Utf8.encode r).size, 128 ≤ ((Utf8.encode r)[3]'h).toNat) : Calls Tryd.prog 67 #[.string ⟨#[46, 45, 43, 64, 95]⟩, .int .i32 r] w fun e w' => e = .returned (.int .i64 (-1)) ∧ Below w.heap.size w w' := by
  have hlt : 3 < (Utf8.encode r).size := by omega
  have hx := hl hlt
  have hix : ∀ W, (Instr.index 9 (.string (Utf8.encode r)) (.int .i64 3)).run Tryd.prog W = .ok (.int .u8 (((Utf8.encode r)[3]'hlt).toNat : Int)) W := fun W => ix_str (Utf8.encode r) 3 hlt W
  generalize ((Utf8.encode r)[3]'hlt) = x at *
  have hcv : ∀ W, (convert 21 9 (.int .i32 r)).run Tryd.prog W = .ok (.string (Utf8.encode r)) W := fun W => run_convert_int_string W _ _ _ _ rfl Tryd.underlying9
  have HI : Hid (∀ W, Calls Tryd.prog 74 #[.string ⟨#[95]⟩, .int .u8 (x.toNat : Int)] W fun e w' => e = .returned (.int .i64 (-1)) ∧ Below W.heap.size W w') := fun W => by
    refine (Tryd.strings_IndexByte ⟨#[95]⟩ (x.toNat : Int) W).mono ?_
    rintro e w' ⟨rfl, rfl⟩
    refine ⟨?_, Below.refl _ _⟩
    have ex : ((x.toNat : Int)).toNat.toUInt8 = x := by rw [Int.toNat_natCast]; simp
    rw [ex, ib_no x _ (fun b hb => by simp at hb; rcases hb with rfl <;> (intro e; rw [← e] at hx; revert hx; decide))]
  have HV : Hid _ := Tryd.utf8_ValidRune r w
  rw [hv] at HV
  have q0 : (0 : Int) ≤ r := by omega
  have q1 : ¬ r < 128 := by omega
  have q2 : (r == 65533) = false := by simpa using h1
  have q3 : ((64 : Int) == (x.toNat : Int)) = false := by simp; omega
  have q4 : ¬ ((64 : Int) = (x.toNat : Int)) := by omega
  have q5 : ((64 : Int) != (x.toNat : Int)) = true := by simp; omega
  have q6 : ((((⟨#[46, 45, 43, 64, 95]⟩ : ByteArray)[3]'(by decide)).toNat : Int) != (x.toNat : Int)) = true := q5
  generalize Utf8.encode r = E at *
  have hsz : (E.size : Int) = 4 := by omega
  clear hl hE hlt hv h0 h1 hx
  generalize (x.toNat : Int) = X at *
  go_enter Tryd.func67, Tryd.ntmps67
  go_wp2_with fail
  refine (Calls.mono HV.out) ?_
  rintro e WW ⟨rfl, hWW⟩
  rw [hWW]
  clear hWW WW HV
  go_wp2_with fail
  go_step3
  (try go_wp2_with fail)
  refine wp_loop_rounds 2 ?_
  rw [rounds_succ]
  go_wp2_with fail
  go_step3
  (try go_wp2_with fail)
  refine wp_region_held_drew (S := fun W => Below w.heap.size w W) (by kernel_rfl) ((Below.refl _ _).drew) (fun hS => ?_)
  have B0 : Below w.heap.size w w.drew := ((Below.refl _ _).drew)
  refine any_take (i := 0) (v := ?_) rfl (by kernel_rfl) (by kernel_rfl) (by kernel_rfl) (by exact fun _ _ _ h => h) (by rfl) ?_ hS ?_
  rotate_left
  · ((intro w hSw; (try dsimp only at hSw); go_simp) <;> with_reducible rfl)
  (try simp only [Act.put, List.setIfInBounds_toArray, List.set_cons_zero, List.set_cons_succ])
  refine any_take (i := 1) (v := ?_) rfl (by kernel_rfl) (by kernel_rfl) (by kernel_rfl) (by exact fun _ _ _ h => h) (by rfl) ?_ hS ?_
  rotate_left
  · ((intro w hSw; (try dsimp only at hSw); go_simp) <;> with_reducible rfl)
  (try simp only [Act.put, List.setIfInBounds_toArray, List.set_cons_zero, List.set_cons_succ])
  refine any_take (i := 2) (v := ?_) rfl (by kernel_rfl) (by kernel_rfl) (by kernel_rfl) (by exact fun _ _ _ h => h) (by rfl) ?_ hS ?_
  rotate_left
  · ((intro w hSw; (try dsimp only at hSw); go_simp) <;> with_reducible rfl)
  (try simp only [Act.put, List.setIfInBounds_toArray, List.set_cons_zero, List.set_cons_succ])
  refine any_take (i := 3) (v := ?_) rfl (by kernel_rfl) (by kernel_rfl) (by kernel_rfl) (by exact fun _ _ _ h => h) (by rfl) ?_ hS ?_
  rotate_left
  · ((intro w hSw; (try dsimp only at hSw); go_simp) <;> with_reducible rfl)
  (try simp only [Act.put, List.setIfInBounds_toArray, List.set_cons_zero, List.set_cons_succ])
  refine any_take (i := 4) (v := ?_) rfl (by kernel_rfl) (by kernel_rfl) (by kernel_rfl) (by exact fun _ _ _ h => h) (by rfl) ?_ hS ?_
  rotate_left
  · ((intro w hSw; (try dsimp only at hSw); go_simp) <;> with_reducible rfl)
  (try simp only [Act.put, List.setIfInBounds_toArray, List.set_cons_zero, List.set_cons_succ])
  refine any_take (i := 5) (v := ?_) rfl (by kernel_rfl) (by kernel_rfl) (by kernel_rfl) (by exact fun _ _ _ h => h) (by rfl) ?_ hS ?_
  rotate_left
  · ((intro w hSw; have q9 := hix w; go_simp) <;> with_reducible rfl)
  (try simp only [Act.put, List.setIfInBounds_toArray, List.set_cons_zero, List.set_cons_succ])
  refine any_take (i := 6) (v := ?_) rfl (by kernel_rfl) (by kernel_rfl) (by kernel_rfl) (by exact fun _ _ _ h => h) (by rfl) ?_ hS ?_
  rotate_left
  · ((intro w hSw; (try dsimp only at hSw); go_simp) <;> with_reducible rfl)
  (try simp only [Act.put, List.setIfInBounds_toArray, List.set_cons_zero, List.set_cons_succ])
  refine wpAnyH_done (by kernel_rfl) ?_ _
  have F1 : Hid _ := B0
  clear B0 hS
  go_wp2_with fail
  obtain ⟨W1, hW1⟩ : ∃ y, y = w.drew := ⟨_, rfl⟩
  rw [← hW1]
  have b1 : Below w.heap.size w W1 := by rw [hW1]; exact (Below.refl _ _).drew
  clear hW1 F1
  (try simp only [mk_ex4])
  refine wp_region_held_drew (S := fun W => Below W1.heap.size W1 W) (by kernel_rfl) ((Below.refl _ _).drew) (fun hS => ?_)
  have B0 : Below W1.heap.size W1 W1.drew := ((Below.refl _ _).drew)
  refine any_take (i := 0) (v := ?_) rfl (by kernel_rfl) (by kernel_rfl) (by kernel_rfl) (by exact fun _ _ _ h => h) (by rfl) ?_ hS ?_
  rotate_left
  · ((intro w hSw; (try dsimp only at hSw); go_simp) <;> with_reducible rfl)
  (try simp only [Act.put, List.setIfInBounds_toArray, List.set_cons_zero, List.set_cons_succ])
  refine any_take (i := 1) (v := ?_) rfl (by kernel_rfl) (by kernel_rfl) (by kernel_rfl) (by exact fun _ _ _ h => h) (by rfl) ?_ hS ?_
  rotate_left
  · ((intro w hSw; (try dsimp only at hSw); go_simp) <;> with_reducible rfl)
  (try simp only [Act.put, List.setIfInBounds_toArray, List.set_cons_zero, List.set_cons_succ])
  refine any_take (i := 2) (v := ?_) rfl (by kernel_rfl) (by kernel_rfl) (by kernel_rfl) (by exact fun _ _ _ h => h) (by rfl) ?_ hS ?_
  rotate_left
  · ((intro w hSw; have w7 : IntKind.i64.wrap 4 = 4 := (by decide); have w8 := mk_ex4; go_simp) <;> with_reducible rfl)
  (try simp only [Act.put, List.setIfInBounds_toArray, List.set_cons_zero, List.set_cons_succ])
  refine any_take (i := 3) (v := ?_) rfl (by kernel_rfl) (by kernel_rfl) (by kernel_rfl) (by exact fun _ _ _ h => h) (by rfl) ?_ hS ?_
  rotate_left
  · ((intro w hSw; have w7 : IntKind.i64.wrap 4 = 4 := (by decide); have w8 := mk_ex4; go_simp) <;> with_reducible rfl)
  (try simp only [Act.put, List.setIfInBounds_toArray, List.set_cons_zero, List.set_cons_succ])
  refine any_take (i := 4) (v := ?_) rfl (by kernel_rfl) (by kernel_rfl) (by kernel_rfl) (by exact fun _ _ _ h => h) (by rfl) ?_ hS ?_
  rotate_left
  · ((intro w hSw; (try dsimp only at hSw); go_simp) <;> with_reducible rfl)
  (try simp only [Act.put, List.setIfInBounds_toArray, List.set_cons_zero, List.set_cons_succ])
  refine any_take (i := 5) (v := ?_) rfl (by kernel_rfl) (by kernel_rfl) (by kernel_rfl) (by exact fun _ _ _ h => h) (by rfl) ?_ hS ?_
  rotate_left
  · ((intro w hSw; (try dsimp only at hSw); go_simp) <;> with_reducible rfl)
  (try simp only [Act.put, List.setIfInBounds_toArray, List.set_cons_zero, List.set_cons_succ])
  refine any_take (i := 6) (v := ?_) rfl (by kernel_rfl) (by kernel_rfl) (by kernel_rfl) (by exact fun _ _ _ h => h) (by rfl) ?_ hS ?_
  rotate_left
  · ((intro w hSw; have q9 := hix w; go_simp) <;> with_reducible rfl)
  (try simp only [Act.put, List.setIfInBounds_toArray, List.set_cons_zero, List.set_cons_succ])
  refine any_one (i := 7) rfl (by kernel_rfl) (fun K hK => ?_)
  go_simp
  refine (Calls.mono (HI.out _)) ?_
  rintro e x1 ⟨rfl, hbR⟩
  have B1 : Below W1.heap.size W1 x1 := below_then B0 hbR
  go_wp2_with fail
  refine hK.out _ _ (by first | exact B1 | exact hbR | exact below_then hS hbR) (any_weaken (S' := fun W => Below x1.heap.size x1 W) (fun W hW => by first | exact below_then B1 hW | exact below_then hbR hW | exact below_then (below_then hS hbR) hW) _ _ _ _ ?_)
  clear hK K hS hbR
  have hS : Below x1.heap.size x1 x1 := Below.refl _ _
  refine any_take (i := 8) (v := ?_) rfl (by kernel_rfl) (by kernel_rfl) (by kernel_rfl) (by exact fun _ _ _ h => h) (by rfl) ?_ hS ?_
  rotate_left
  · ((intro w hSw; (try dsimp only at hSw); go_simp) <;> with_reducible rfl)
  (try simp only [Act.put, List.setIfInBounds_toArray, List.set_cons_zero, List.set_cons_succ])
  refine wpAnyH_done (by kernel_rfl) ?_ _
  have F : Hid _ := below_then b1 B1
  clear hS b1
  go_wp2
  (try unfold Exit.noGoto)
  (try dsimp only)
  go_ret
  exact ⟨rfl, F.out⟩
end Go.Proofs.YtligmiajlbjecaaDoor

/- text: what a key is made of. -/
namespace Go.Proofs.YtligmiajlbjecaaDoor
open Go.RowKit
set_option linter.unusedVariables false
set_option linter.unusedSimpArgs false
set_option maxRecDepth 8000

theorem lib_valid (r : Int) : Utf8.valid r = Lib.validRune r := by
  unfold Utf8.valid Lib.validRune
  by_cases h : (0 ≤ r ∧ r < 0xD800) ∨ (0xDFFF < r ∧ r ≤ 0x10FFFF)
  · rw [decide_eq_true h]; rcases h with h | h <;> simp <;> omega
  · rw [decide_eq_false h]; simp; omega
theorem iRune_high (r : Int) (w : World) (h0 : 128 ≤ r) (hv : r = 65533 ∨ Lib.validRune r = true) : Calls Tryd.prog 67 #[.string ⟨#[46, 45, 43, 64, 95]⟩, .int .i32 r] w fun e w' => e = .returned (.int .i64 (-1)) ∧ Below w.heap.size w w' := by
  by_cases h1 : r = 65533
  · subst h1; exact iRune_err w
  · have hv1 : Lib.validRune r = true := hv.resolve_left h1
    obtain ⟨s2, s4, hl⟩ := encode_facts r (by rw [lib_valid]; exact hv1) h0
    have hs : (Utf8.encode r).size = 2 ∨ (Utf8.encode r).size = 3 ∨ (Utf8.encode r).size = 4 := by omega
    rcases hs with hs | hs | hs
    · exact iRune_2 r w h0 h1 hv1 hs (fun h => by have := hl (by omega); simpa only [hs] using this)
    · exact iRune_3 r w h0 h1 hv1 hs (fun h => by have := hl (by omega); simpa only [hs] using this)
    · exact iRune_4 r w h0 h1 hv1 hs (fun h => by have := hl (by omega); simpa only [hs] using this)
theorem cRune_high (r : Int) (w : World) (h0 : 128 ≤ r) (hv : r = 65533 ∨ Lib.validRune r = true) : Calls Tryd.prog 60 #[.string ⟨#[46, 45, 43, 64, 95]⟩, .int .i32 r] w fun e w' => e = .returned (.bool false) ∧ Below w.heap.size w w' := by
  have HI : Hid _ := iRune_high r w h0 hv
  clear h0 hv
  go_enter Tryd.func60, Tryd.ntmps60
  go_wp2_with fail
  refine (Calls.mono HI.out) ?_
  rintro e w1 ⟨rfl, b1⟩
  have F : Hid _ := b1
  clear HI b1
  go_wp2
  go_ret
  exact ⟨rfl, F.out⟩
/-- what a key is made of -/
def kyI (r : Int) : Bool := decide ((65 ≤ r ∧ r ≤ 90) ∨ (97 ≤ r ∧ r ≤ 122) ∨ (48 ≤ r ∧ r ≤ 57) ∨ r = 46 ∨ r = 45 ∨ r = 43 ∨ r = 64 ∨ r = 95)
def mkI (r : Int) : Bool := decide (r = 46 ∨ r = 45 ∨ r = 43 ∨ r = 64 ∨ r = 95)
theorem mark_any (r : Int) (w : World) (h : 0 ≤ r) (hv : r < 128 ∨ r = 65533 ∨ Lib.validRune r = true) : Calls Tryd.prog 60 #[.string ⟨#[46, 45, 43, 64, 95]⟩, .int .i32 r] w fun e w' => e = .returned (.bool (mkI r)) ∧ Below w.heap.size w w' := by
  by_cases h1 : r < 128
  · refine (Tryd.strings_ContainsRune_ascii ⟨#[46, 45, 43, 64, 95]⟩ r w h h1).mono ?_
    rintro e w' ⟨rfl, rfl⟩
    refine ⟨?_, Below.refl _ _⟩
    congr 2
    by_cases hm : r = 46 ∨ r = 45 ∨ r = 43 ∨ r = 64 ∨ r = 95
    · rcases hm with rfl | rfl | rfl | rfl | rfl <;> decide
    · rw [ib_no _ _ (fun b hb => ?_), show mkI r = false from decide_eq_false hm]
      · rfl
      · intro e
        apply hm
        have e2 := congrArg UInt8.toNat e
        have e3 : (r.toNat.toUInt8).toNat = r.toNat := by
          show (UInt8.ofNat r.toNat).toNat = r.toNat
          rw [UInt8.toNat_ofNat']; omega
        rw [e3] at e2
        simp at hb
        rcases hb with rfl | rfl | rfl | rfl | rfl <;> simp at e2 <;> omega
  · rw [show mkI r = false from decide_eq_false (by omega)]
    exact cRune_high r w (by omega) (hv.resolve_left h1)
set_option maxHeartbeats 4000000 in
theorem kyChar_any (r : Int) (w : World) (h : 0 ≤ r) (hv : r < 128 ∨ r = 65533 ∨ Lib.validRune r = true) : Calls Tryd.prog 54 #[.int .i32 r] w fun e w' => e = .returned (.bool (kyI r)) ∧ Below w.heap.size w w' := by
  have HM : Hid _ := mark_any r w h hv
  clear hv
  have hc : (65 ≤ r ∧ r ≤ 90) ∨ (97 ≤ r ∧ r ≤ 122) ∨ (48 ≤ r ∧ r ≤ 57) ∨ r < 48 ∨ (57 < r ∧ r < 65) ∨ (90 < r ∧ r < 97) ∨ 122 < r := by omega
  rcases hc with hc | hc | hc | hc | hc | hc | hc
  · have F : Hid (kyI r = true) := (decide_eq_true (by omega) : kyI r = true)
    have p0 : 65 ≤ r := by omega
    have q0 : r ≤ 90 := by omega
    have p1 : ¬ 97 ≤ r := by omega
    have q1 : r ≤ 122 := by omega
    have p2 : 48 ≤ r := by omega
    have q2 : ¬ r ≤ 57 := by omega
    clear HM hc
    go_enter Tryd.func54, Tryd.ntmps54
    go_wp2
    go_ret
    exact ⟨by first | (rw [F.out]; done) | (rw [F.out]; rfl), Below.refl _ _⟩
  · have F : Hid (kyI r = true) := (decide_eq_true (by omega) : kyI r = true)
    have p0 : 65 ≤ r := by omega
    have q0 : ¬ r ≤ 90 := by omega
    have p1 : 97 ≤ r := by omega
    have q1 : r ≤ 122 := by omega
    have p2 : 48 ≤ r := by omega
    have q2 : ¬ r ≤ 57 := by omega
    clear HM hc
    go_enter Tryd.func54, Tryd.ntmps54
    go_wp2
    go_ret
    exact ⟨by first | (rw [F.out]; done) | (rw [F.out]; rfl), Below.refl _ _⟩
  · have F : Hid (kyI r = true) := (decide_eq_true (by omega) : kyI r = true)
    have p0 : ¬ 65 ≤ r := by omega
    have q0 : r ≤ 90 := by omega
    have p1 : ¬ 97 ≤ r := by omega
    have q1 : r ≤ 122 := by omega
    have p2 : 48 ≤ r := by omega
    have q2 : r ≤ 57 := by omega
    clear HM hc
    go_enter Tryd.func54, Tryd.ntmps54
    go_wp2
    go_ret
    exact ⟨by first | (rw [F.out]; done) | (rw [F.out]; rfl), Below.refl _ _⟩
  · have F0 : Hid (kyI r = mkI r) := (by unfold kyI mkI; congr 1; apply propext; constructor <;> omega : kyI r = mkI r)
    have p0 : ¬ 65 ≤ r := by omega
    have q0 : r ≤ 90 := by omega
    have p1 : ¬ 97 ≤ r := by omega
    have q1 : r ≤ 122 := by omega
    have p2 : ¬ 48 ≤ r := by omega
    have q2 : r ≤ 57 := by omega
    clear hc
    generalize mkI r = mb at *
    go_enter Tryd.func54, Tryd.ntmps54
    go_wp2_with fail
    refine (Calls.mono HM.out) ?_
    rintro e w1 ⟨rfl, b1⟩
    have F : Hid _ := b1
    clear HM b1
    cases mb <;> (go_wp2; go_ret; exact ⟨by first | (rw [F0.out]; done) | (rw [F0.out]; rfl), F.out⟩)
  · have F0 : Hid (kyI r = mkI r) := (by unfold kyI mkI; congr 1; apply propext; constructor <;> omega : kyI r = mkI r)
    have p0 : ¬ 65 ≤ r := by omega
    have q0 : r ≤ 90 := by omega
    have p1 : ¬ 97 ≤ r := by omega
    have q1 : r ≤ 122 := by omega
    have p2 : 48 ≤ r := by omega
    have q2 : ¬ r ≤ 57 := by omega
    clear hc
    generalize mkI r = mb at *
    go_enter Tryd.func54, Tryd.ntmps54
    go_wp2_with fail
    refine (Calls.mono HM.out) ?_
    rintro e w1 ⟨rfl, b1⟩
    have F : Hid _ := b1
    clear HM b1
    cases mb <;> (go_wp2; go_ret; exact ⟨by first | (rw [F0.out]; done) | (rw [F0.out]; rfl), F.out⟩)
  · have F0 : Hid (kyI r = mkI r) := (by unfold kyI mkI; congr 1; apply propext; constructor <;> omega : kyI r = mkI r)
    have p0 : 65 ≤ r := by omega
    have q0 : ¬ r ≤ 90 := by omega
    have p1 : ¬ 97 ≤ r := by omega
    have q1 : r ≤ 122 := by omega
    have p2 : 48 ≤ r := by omega
    have q2 : ¬ r ≤ 57 := by omega
    clear hc
    generalize mkI r = mb at *
    go_enter Tryd.func54, Tryd.ntmps54
    go_wp2_with fail
    refine (Calls.mono HM.out) ?_
    rintro e w1 ⟨rfl, b1⟩
    have F : Hid _ := b1
    clear HM b1
    cases mb <;> (go_wp2; go_ret; exact ⟨by first | (rw [F0.out]; done) | (rw [F0.out]; rfl), F.out⟩)
  · have F0 : Hid (kyI r = mkI r) := (by unfold kyI mkI; congr 1; apply propext; constructor <;> omega : kyI r = mkI r)
    have p0 : 65 ≤ r := by omega
    have q0 : ¬ r ≤ 90 := by omega
    have p1 : 97 ≤ r := by omega
    have q1 : ¬ r ≤ 122 := by omega
    have p2 : 48 ≤ r := by omega
    have q2 : ¬ r ≤ 57 := by omega
    clear hc
    generalize mkI r = mb at *
    go_enter Tryd.func54, Tryd.ntmps54
    go_wp2_with fail
    refine (Calls.mono HM.out) ?_
    rintro e w1 ⟨rfl, b1⟩
    have F : Hid _ := b1
    clear HM b1
    cases mb <;> (go_wp2; go_ret; exact ⟨by first | (rw [F0.out]; done) | (rw [F0.out]; rfl), F.out⟩)
end Go.Proofs.YtligmiajlbjecaaDoor
