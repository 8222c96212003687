/- text: strings.Cut, firstOf and digest of the one list that known() hands in. -/
import Derived.Test.YtligmiajlbjecaaDoorXTx4
import Derived.Test.YtligmiajlbjecaaDoorXDraw
import Derived.Handy
namespace Go.Proofs.YtligmiajlbjecaaDoor
open Go.RowKit
set_option linter.unusedVariables false
set_option linter.unusedSimpArgs false
set_option maxRecDepth 8000

theorem sl_a : (⟨#[67, 82, 67, 51, 50, 67, 44, 78, 111, 110, 101]⟩ : ByteArray).extract 0 6 = ⟨#[67, 82, 67, 51, 50, 67]⟩ := by decide
theorem sl_b : (⟨#[67, 82, 67, 51, 50, 67, 44, 78, 111, 110, 101]⟩ : ByteArray).extract 7 11 = ⟨#[78, 111, 110, 101]⟩ := by decide
set_option maxHeartbeats 4000000 in
theorem slCut (w : World) : Calls Tryd.prog 65 #[.string ⟨#[67, 82, 67, 51, 50, 67, 44, 78, 111, 110, 101]⟩, .string ⟨#[44]⟩] w fun e w' => e = .returned (.tuple #[.string ⟨#[67, 82, 67, 51, 50, 67]⟩, .string ⟨#[78, 111, 110, 101]⟩, .bool true]) ∧ Below w.heap.size w w' := by
  have HI0 := Tryd.stringslite_Index_one ⟨#[67, 82, 67, 51, 50, 67, 44, 78, 111, 110, 101]⟩ 44 w
  have e6 : Lib.indexByte (⟨#[67, 82, 67, 51, 50, 67, 44, 78, 111, 110, 101]⟩ : ByteArray).data.toList 44 = 6 := by decide
  rw [e6] at HI0
  have HI : Hid _ := HI0
  clear HI0 e6
  go_enter Tryd.func65, Tryd.ntmps65
  go_wp2_with fail
  refine (Calls.mono HI.out) ?_
  rintro e w1 ⟨rfl, rfl⟩
  clear HI
  go_wp2_with fail
  refine wp_region_held_drew (S := fun W => Below w1.heap.size w1 W) (by kernel_rfl) ((Below.refl _ _).drew) (fun hS => ?_)
  have B0 : Below w1.heap.size w1 w1.drew := ((Below.refl _ _).drew)
  refine any_take (i := 0) (v := ?_) rfl (by kernel_rfl) (by kernel_rfl) (by kernel_rfl) (by exact fun _ _ _ h => h) (by rfl) ?_ hS ?_
  rotate_left
  · ((intro w hSw; (try dsimp only at hSw); go_simp) <;> with_reducible rfl)
  (try simp only [Act.put, List.setIfInBounds_toArray, List.set_cons_zero, List.set_cons_succ])
  refine any_take (i := 1) (v := ?_) rfl (by kernel_rfl) (by kernel_rfl) (by kernel_rfl) (by exact fun _ _ _ h => h) (by rfl) ?_ hS ?_
  rotate_left
  · ((intro w hSw; (try dsimp only at hSw); go_simp) <;> with_reducible rfl)
  (try simp only [Act.put, List.setIfInBounds_toArray, List.set_cons_zero, List.set_cons_succ])
  refine any_take (i := 2) (v := ?_) rfl (by kernel_rfl) (by kernel_rfl) (by kernel_rfl) (by exact fun _ _ _ h => h) (by rfl) ?_ hS ?_
  rotate_left
  · ((intro w hSw; (try dsimp only at hSw); go_simp) <;> with_reducible rfl)
  (try simp only [Act.put, List.setIfInBounds_toArray, List.set_cons_zero, List.set_cons_succ])
  refine any_take (i := 3) (v := ?_) rfl (by kernel_rfl) (by kernel_rfl) (by kernel_rfl) (by exact fun _ _ _ h => h) (by rfl) ?_ hS ?_
  rotate_left
  · ((intro w hSw; (try dsimp only at hSw); go_simp) <;> with_reducible rfl)
  (try simp only [Act.put, List.setIfInBounds_toArray, List.set_cons_zero, List.set_cons_succ])
  refine any_take (i := 4) (v := ?_) rfl (by kernel_rfl) (by kernel_rfl) (by kernel_rfl) (by exact fun _ _ _ h => h) (by rfl) ?_ hS ?_
  rotate_left
  · ((intro w hSw; (try dsimp only at hSw); go_simp) <;> with_reducible rfl)
  (try simp only [Act.put, List.setIfInBounds_toArray, List.set_cons_zero, List.set_cons_succ])
  refine any_take (i := 5) (v := ?_) rfl (by kernel_rfl) (by kernel_rfl) (by kernel_rfl) (by exact fun _ _ _ h => h) (by rfl) ?_ hS ?_
  rotate_left
  · ((intro w hSw; (try dsimp only at hSw); go_simp) <;> with_reducible rfl)
  (try simp only [Act.put, List.setIfInBounds_toArray, List.set_cons_zero, List.set_cons_succ])
  refine any_take (i := 6) (v := ?_) rfl (by kernel_rfl) (by kernel_rfl) (by kernel_rfl) (by exact fun _ _ _ h => h) (by rfl) ?_ hS ?_
  rotate_left
  · ((intro w hSw; (try dsimp only at hSw); go_simp) <;> with_reducible rfl)
  (try simp only [Act.put, List.setIfInBounds_toArray, List.set_cons_zero, List.set_cons_succ])
  refine any_take (i := 7) (v := ?_) rfl (by kernel_rfl) (by kernel_rfl) (by kernel_rfl) (by exact fun _ _ _ h => h) (by rfl) ?_ hS ?_
  rotate_left
  · ((intro w hSw; have w7 : IntKind.i64.wrap 7 = 7 := (by decide); go_simp) <;> with_reducible rfl)
  (try simp only [Act.put, List.setIfInBounds_toArray, List.set_cons_zero, List.set_cons_succ])
  refine any_take (i := 8) (v := ?_) rfl (by kernel_rfl) (by kernel_rfl) (by kernel_rfl) (by exact fun _ _ _ h => h) (by rfl) ?_ hS ?_
  rotate_left
  · ((intro w hSw; have w7 : IntKind.i64.wrap 7 = 7 := (by decide); go_simp) <;> with_reducible rfl)
  (try simp only [Act.put, List.setIfInBounds_toArray, List.set_cons_zero, List.set_cons_succ])
  refine any_take (i := 9) (v := ?_) rfl (by kernel_rfl) (by kernel_rfl) (by kernel_rfl) (by exact fun _ _ _ h => h) (by rfl) ?_ hS ?_
  rotate_left
  · ((intro w hSw; (try dsimp only at hSw); go_simp) <;> with_reducible rfl)
  (try simp only [Act.put, List.setIfInBounds_toArray, List.set_cons_zero, List.set_cons_succ])
  refine any_take (i := 10) (v := ?_) rfl (by kernel_rfl) (by kernel_rfl) (by kernel_rfl) (by exact fun _ _ _ h => h) (by rfl) ?_ hS ?_
  rotate_left
  · ((intro w hSw; (try dsimp only at hSw); go_simp) <;> with_reducible rfl)
  (try simp only [Act.put, List.setIfInBounds_toArray, List.set_cons_zero, List.set_cons_succ])
  refine any_take (i := 11) (v := ?_) rfl (by kernel_rfl) (by kernel_rfl) (by kernel_rfl) (by exact fun _ _ _ h => h) (by rfl) ?_ hS ?_
  rotate_left
  · ((intro w hSw; (try dsimp only at hSw); go_simp) <;> with_reducible rfl)
  (try simp only [Act.put, List.setIfInBounds_toArray, List.set_cons_zero, List.set_cons_succ])
  refine wpAnyH_done (by kernel_rfl) ?_ _
  have F : Hid _ := B0
  clear B0 hS
  go_wp2
  (try simp only [sl_a, sl_b])
  refine bodyPost_ret (v := .tuple #[.string ⟨#[67, 82, 67, 51, 50, 67]⟩, .string ⟨#[78, 111, 110, 101]⟩, .bool true]) (by first | rfl | simp [results, Tryd.results65, go_sem, sl_a, sl_b]) rfl ?_
  exact ⟨rfl, F.out⟩
set_option maxHeartbeats 4000000 in
theorem tCut (w : World) : Calls Tryd.prog 57 #[.string ⟨#[67, 82, 67, 51, 50, 67, 44, 78, 111, 110, 101]⟩, .string ⟨#[44]⟩] w fun e w' => e = .returned (.tuple #[.string ⟨#[67, 82, 67, 51, 50, 67]⟩, .string ⟨#[78, 111, 110, 101]⟩, .bool true]) ∧ Below w.heap.size w w' := by
  have HI : Hid _ := slCut w
  go_enter Tryd.func57, Tryd.ntmps57
  go_wp2_with fail
  refine (Calls.mono HI.out) ?_
  rintro e w1 ⟨rfl, b1⟩
  have F : Hid _ := b1
  clear HI b1
  go_wp2
  refine bodyPost_ret (v := .tuple #[.string ⟨#[67, 82, 67, 51, 50, 67]⟩, .string ⟨#[78, 111, 110, 101]⟩, .bool true]) (by first | rfl | simp [results, Tryd.results57, go_sem]) rfl ?_
  exact ⟨rfl, F.out⟩
set_option maxHeartbeats 4000000 in
theorem tFirst (b : Nat) (w : World) (h0 : w.cell? ⟨b, 0, none⟩ = some (.string ⟨#[78, 111, 110, 101]⟩)) (h1 : w.cell? ⟨b, 1, none⟩ = some (.string ⟨#[67, 82, 67, 51, 50, 67]⟩)) : Calls Tryd.prog 46 #[.string ⟨#[67, 82, 67, 51, 50, 67, 44, 78, 111, 110, 101]⟩, .slice (some ⟨b, 0, none⟩) 2 2] w fun e w' => e = .returned (.string ⟨#[67, 82, 67, 51, 50, 67]⟩) ∧ Below w.heap.size w w' := by
  have HI : Hid _ := tCut w
  have HC : Hid (∀ X, Below w.heap.size w X → Calls Tryd.prog 58 #[.slice (some ⟨b, 0, none⟩) 2 2, .string ⟨#[67, 82, 67, 51, 50, 67]⟩] X fun e w' => e = .returned (.bool true) ∧ X = w') := fun X hX => by
    refine (Tryd.slices_Contains_string b 0 2 2 [⟨#[78, 111, 110, 101]⟩, ⟨#[67, 82, 67, 51, 50, 67]⟩] ⟨#[67, 82, 67, 51, 50, 67]⟩ X (by decide) (by decide) (fun j hj => ?_)).mono ?_
    · have hj2 : j = 0 ∨ j = 1 := by simp at hj; omega
      rcases hj2 with rfl | rfl
      · exact ck_later h0 hX
      · exact ck_later h1 hX
    · rintro e w' ⟨rfl, rfl⟩
      exact ⟨by rw [show Lib.containsS ([⟨#[78, 111, 110, 101]⟩, ⟨#[67, 82, 67, 51, 50, 67]⟩].take 2) ⟨#[67, 82, 67, 51, 50, 67]⟩ = true by decide], rfl⟩
  clear h0 h1
  go_enter Tryd.func46, Tryd.ntmps46
  go_wp2_with fail
  refine wp_loop_rounds 2 ?_
  rw [rounds_succ]
  go_wp2_with fail
  refine (Calls.mono HI.out) ?_
  rintro e w1 ⟨rfl, b1⟩
  have HK : Hid _ := HC.out w1 b1
  have F : Hid _ := b1
  clear HI b1 HC
  go_wp2_with fail
  refine (Calls.mono HK.out) ?_
  rintro e _ ⟨rfl, rfl⟩
  clear HK
  go_wp2
  (try go_ret)
  exact ⟨rfl, F.out⟩
theorem bs_str (w : World) : (Instr.buildSlice 83 2 #[(0, .string ⟨#[78, 111, 110, 101]⟩), (1, .string ⟨#[67, 82, 67, 51, 50, 67]⟩)]).run Tryd.prog w = .ok (.slice (some ⟨w.heap.size, 0, none⟩) 2 2) (w.alloc (.cells #[.string ⟨#[78, 111, 110, 101]⟩, .string ⟨#[67, 82, 67, 51, 50, 67]⟩] 9)) := by kernel_rfl
set_option maxHeartbeats 4000000 in
theorem tDigest (g : Nat) (cs : List Value) (w : World) (hB : Blk w g 50 cs) (h0 : ∃ v b, cs = .bool b :: v) : Calls Tryd.prog 47 #[.string ⟨#[67, 82, 67, 51, 50, 67, 44, 78, 111, 110, 101]⟩, .pointer (some ⟨g, 0, none⟩)] w fun e w' => e = .returned (.string ⟨#[67, 82, 67, 51, 50, 67]⟩) ∧ Turned (fun k => k = g) w w' ∧ Blk w' g 50 (cs.set 0 (.bool true)) := by
  have hbs := bs_str w
  have bn : Below w.heap.size w (w.alloc (.cells #[.string ⟨#[78, 111, 110, 101]⟩, .string ⟨#[67, 82, 67, 51, 50, 67]⟩] 9)) := (Below.refl _ _).alloc (Nat.le_refl _) _
  have N1 := Blk.new' w 9 [.string ⟨#[78, 111, 110, 101]⟩, .string ⟨#[67, 82, 67, 51, 50, 67]⟩]
  obtain ⟨w1, hw1⟩ : ∃ w1, w1 = w.alloc (.cells #[.string ⟨#[78, 111, 110, 101]⟩, .string ⟨#[67, 82, 67, 51, 50, 67]⟩] 9) := ⟨_, rfl⟩
  rw [← hw1] at bn N1 hbs
  obtain ⟨sb, hsb⟩ : ∃ g, g = w.heap.size := ⟨_, rfl⟩
  rw [← hsb] at N1 hbs
  have y0 := ck_at N1 0
  have y1 := ck_at N1 1
  simp only [List.getElem?_cons_zero, List.getElem?_cons_succ] at y0 y1
  have HI : Hid _ := tFirst sb w1 y0 y1
  have H1 : Hid _ := And.intro bn hB
  obtain ⟨vs, b0, rfl⟩ := h0
  clear bn N1 y0 y1 hB hbs
  go_enter Tryd.func47, Tryd.ntmps47
  go_wp2_with fail
  rw [← hw1, ← hsb]
  clear hw1 hsb
  refine (Calls.mono HI.out) ?_
  rintro e w2 ⟨rfl, b2⟩
  have B2 := H1.out.2.laterB (below_then H1.out.1 b2)
  have z0 := ck_at B2 0
  have f0 := ck_fz B2 0
  simp only [List.getElem?_cons_zero] at z0
  have B3 := B2.set 0 (.bool true)
  have t3 := turned_set w2 g 0 (.bool true)
  have t2 : Turned (fun k => k = g) w w2 := (turned_below (below_then H1.out.1 b2)).mono (fun k h => h.elim)
  have t4 : Turned (fun k => k = g) w (w2.setCell ⟨g, 0, none⟩ (.bool true)) := t2.trans (t3.mono (fun k h => .inl h))
  have F : Hid _ := And.intro t4 B3
  clear t2 t3 t4 B3 B2 b2 HI H1
  go_wp2
  go_ret
  exact ⟨rfl, F.out.1, F.out.2⟩
end Go.Proofs.YtligmiajlbjecaaDoor

