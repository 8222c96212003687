/- The two worlds look alike. -/
import Derived.Test.YtjfodmdijajfbaaWoS6
import Derived.Test.YtjfodmdijajfbaaDraw
namespace Go.Proofs.Ytjfodmdijajfbaa
open Go.RowKit
set_option linter.unusedVariables false
set_option maxRecDepth 4000

theorem looked1 {B g g' : Nat} {p p' : Wp} {m : Wm} {ys : List Value} {v : Value} {l : List (BitVec 8)} {t : Nat} {w w1 : World} (h : Both B g g' p p' m w) (b : Below w.heap.size w w1) (ho : Own w1 w.heap.size v l) :
    Sep B [letOb t w1.heap.size ys, byOb v w.heap.size l, wo g p m, rw8 g' p' m] (w1.alloc (.cells ys.toArray t)) := by
  refine Sep.letter (Sep.fresh h b (byOb_ok ho) (fun k hk => ?_)) t ys
  rcases hk with hk | hk
  · exact (World.ownsRow.lt ho k (by simpa [byOb] using hk)).1
  · cases hk
set_option maxHeartbeats 8000000 in
theorem alike_gen (B g g' : Nat) (p p' : Wp) (m : Wm) (a b : Int) (W : World) (x y c : Int) (l : List (BitVec 8)) (h : Both B g g' p p' m W) (hw : m.Wf) (ha : I64 a) (hb : I64 b) (hl : l.length ≤ 140737488351232)
    (h1 : ∀ X, (wo g p m).Ok X → Calls Try.prog 19 #[.pointer (some ⟨g, 0, none⟩), .int .i64 b] X fun e w' => ∃ v, e = .returned (.tuple #[.agg #[.int .i64 x, .int .i64 y, v], .int .i64 c]) ∧ Own w' X.heap.size v l ∧ Below X.heap.size X w')
    (h2 : ∀ X, (rw8 g' p' m).Ok X → Calls Try.prog 58 #[.pointer (some ⟨g', 0, none⟩), .int .i64 b] X fun e w' => ∃ z cap, e = .returned (.tuple #[.agg #[.int .i64 x, .int .i64 y, .slice z l.length cap], .int .i64 c]) ∧ Row w' z l ∧ Below X.heap.size X w') :
    Calls Try.prog 13 #[.pointer (some ⟨g, 0, none⟩), .pointer (some ⟨g', 0, none⟩), .int .i64 a, .int .i64 b] W (After B g g' m W) := by
  have HC1 : Hid _ := h1
  have HC2 : Hid _ := h2
  have HK : Hid _ := h
  clear h h1 h2
  go_enter Try.func13, Try.ntmps13
  go_wp2_with fail
  refine (Calls.mono (HC1.out _ HK.out.head)) ?_
  rintro e w1 ⟨v, rfl, ho, b1⟩
  have hv1 := ho.open
  obtain ⟨va, vc, rfl, hvc, hvm, -, -, -⟩ := hv1
  have j1 := looked1 (t := 41) (ys := [.int .i64 x, .int .i64 y, .slice va l.length vc]) HK.out b1 ho
  have jb : Below B W (w1.alloc (.cells #[.int .i64 x, .int .i64 y, .slice va l.length vc] 41)) := (b1.mono HK.out.base).alloc (Nat.le_trans HK.out.base b1.size) _
  have K1 : Hid _ := And.intro j1 jb
  clear j1 jb ho b1 HC1 HK
  go_wp2_with fail
  generalize w1.alloc (.cells #[.int .i64 x, .int .i64 y, .slice va l.length vc] 41) = wx at *
  generalize w1.heap.size = bx at *
  refine (Calls.mono (HC2.out _ (K1.out.1.each (rw8 g' p' m) (by simp)))) ?_
  rintro e w2 ⟨z, cap, rfl, hr, b2⟩
  have b3 : Below w2.heap.size w2 (w2.alloc (.cells #[.int .i64 x, .int .i64 y, .slice z l.length cap] 51)) := (Below.refl _ _).alloc (Nat.le_refl _) _
  have j2 := (K1.out.1.later b2).later b3
  have jb := K1.out.2.trans ((below_then b2 b3).mono K1.out.1.base)
  have FY : Hid _ := (wblk3 (Blk.new' w2 51 [.int .i64 x, .int .i64 y, .slice z l.length cap])).1
  have FX : Hid _ := (wblk3 (j2.each (letOb 41 bx [.int .i64 x, .int .i64 y, .slice va l.length vc]) (by simp)).holds).1
  have hr3 := hr.later b3
  have K2 : Hid _ := And.intro j2 (And.intro jb hr3)
  clear j2 jb hr hr3 b2 b3 HC2 K1
  go_upto_region 3 with fail
  generalize w2.alloc (.cells #[.int .i64 x, .int .i64 y, .slice z l.length cap] 51) = w3 at *
  generalize w2.heap.size = byy at *
  have Sd : Below w3.heap.size w3 w3.drew := (Below.refl _ _).drew
  have hR := (K2.out.1.each (rw8 g' p' m) (by simp)).holds
  obtain ⟨-, fv, vs, hq, hD⟩ := hR
  obtain ⟨-, -, c2, -, -, c5, c6, -⟩ := rw_cells hD
  obtain ⟨fa, fc, rfl⟩ := wo_form hD.letters
  have FR : Hid _ := And.intro c2 (And.intro c5 c6)
  clear c2 c5 c6 hq hD
  refine wp_region_held_drew (S := fun W => Below w3.heap.size w3 W) (by as_aux_lemma => kernel_rfl) Sd (fun hS => ?_)
  have B0 : Below w3.heap.size w3 w3.drew := Sd
  have l2 : ∀ W, Below w3.heap.size w3 W → W.cell? ⟨g', 2, none⟩ = some (.slice fa m.fl.length fc) := fun W hW => cell_later (hW) FR.out.1
  have lX0 : ∀ W, Below w3.heap.size w3 W → W.cell? ⟨bx, 0, none⟩ = some (.int .i64 x) := fun W hW => cell_later (hW) FX.out.1
  have lX1 : ∀ W, Below w3.heap.size w3 W → W.cell? ⟨bx, 1, none⟩ = some (.int .i64 y) := fun W hW => cell_later (hW) FX.out.2.1
  have lX2 : ∀ W, Below w3.heap.size w3 W → W.cell? ⟨bx, 2, none⟩ = some (.slice va l.length vc) := fun W hW => cell_later (hW) FX.out.2.2
  have lY0 : ∀ W, Below w3.heap.size w3 W → W.cell? ⟨byy, 0, none⟩ = some (.int .i64 x) := fun W hW => cell_later (hW) FY.out.1
  have lY1 : ∀ W, Below w3.heap.size w3 W → W.cell? ⟨byy, 1, none⟩ = some (.int .i64 y) := fun W hW => cell_later (hW) FY.out.2.1
  have lY2 : ∀ W, Below w3.heap.size w3 W → W.cell? ⟨byy, 2, none⟩ = some (.slice z l.length cap) := fun W hW => cell_later (hW) FY.out.2.2
  refine any_take (i := 0) (v := ?_) rfl (by as_aux_lemma => kernel_rfl) (by as_aux_lemma => kernel_rfl) (by as_aux_lemma => kernel_rfl) (by exact fun _ _ _ h => h) (by rfl) ?_ hS ?_
  rotate_left
  · ((intro w hSw; (try dsimp only at hSw); go_simp) <;> with_reducible rfl)
  (try simp only [Act.put, List.setIfInBounds_toArray, List.set_cons_zero, List.set_cons_succ])
  refine any_take (i := 2) (v := ?_) rfl (by as_aux_lemma => kernel_rfl) (by as_aux_lemma => kernel_rfl) (by as_aux_lemma => kernel_rfl) (by exact fun _ _ _ h => h) (by rfl) ?_ hS ?_
  rotate_left
  · ((intro w hSw; (try dsimp only at hSw); go_simp) <;> with_reducible rfl)
  (try simp only [Act.put, List.setIfInBounds_toArray, List.set_cons_zero, List.set_cons_succ])
  refine any_take (i := 3) (v := ?_) rfl (by as_aux_lemma => kernel_rfl) (by as_aux_lemma => kernel_rfl) (by as_aux_lemma => kernel_rfl) (by exact fun _ _ _ h => h) (by rfl) ?_ hS ?_
  rotate_left
  · ((intro w hSw; (try dsimp only at hSw); go_simp) <;> with_reducible rfl)
  (try simp only [Act.put, List.setIfInBounds_toArray, List.set_cons_zero, List.set_cons_succ])
  refine any_take (i := 4) (v := ?_) rfl (by as_aux_lemma => kernel_rfl) (by as_aux_lemma => kernel_rfl) (by as_aux_lemma => kernel_rfl) (by exact fun _ _ _ h => h) (by rfl) ?_ hS ?_
  rotate_left
  · ((intro w hSw; (try dsimp only at hSw); go_simp) <;> with_reducible rfl)
  (try simp only [Act.put, List.setIfInBounds_toArray, List.set_cons_zero, List.set_cons_succ])
  refine any_take (i := 5) (v := ?_) rfl (by as_aux_lemma => kernel_rfl) (by as_aux_lemma => kernel_rfl) (by as_aux_lemma => kernel_rfl) (by exact fun _ _ _ h => h) (by rfl) ?_ hS ?_
  rotate_left
  · ((intro w hSw; (try dsimp only at hSw); go_simp) <;> with_reducible rfl)
  (try simp only [Act.put, List.setIfInBounds_toArray, List.set_cons_zero, List.set_cons_succ])
  refine any_take (i := 6) (v := ?_) rfl (by as_aux_lemma => kernel_rfl) (by as_aux_lemma => kernel_rfl) (by as_aux_lemma => kernel_rfl) (by exact fun _ _ _ h => h) (by rfl) ?_ hS ?_
  rotate_left
  · ((intro w hSw; (try dsimp only at hSw); go_simp) <;> with_reducible rfl)
  (try simp only [Act.put, List.setIfInBounds_toArray, List.set_cons_zero, List.set_cons_succ])
  have K1 : Hid _ := woLen_any g p m _ ((K2.out.1.later B0).each (wo g p m) (by simp)) hw
  refine any_one (i := 1) rfl (by as_aux_lemma => kernel_rfl) (fun K hK => ?_)
  go_simp
  refine (Calls.mono (K1.out)) ?_
  rintro e _ ⟨rfl, rfl⟩
  clear K1
  go_wp2_with fail
  refine hK.out _ _ hS ?_
  clear hK K
  refine any_take (i := 7) (v := ?_) rfl (by as_aux_lemma => kernel_rfl) (by as_aux_lemma => kernel_rfl) (by as_aux_lemma => kernel_rfl) (by exact fun _ _ _ h => h) (by rfl) ?_ hS ?_
  rotate_left
  · ((intro w hSw; (try dsimp only at hSw); go_simp) <;> with_reducible rfl)
  (try simp only [Act.put, List.setIfInBounds_toArray, List.set_cons_zero, List.set_cons_succ])
  refine any_take (i := 8) (v := ?_) rfl (by as_aux_lemma => kernel_rfl) (by as_aux_lemma => kernel_rfl) (by as_aux_lemma => kernel_rfl) (by exact fun _ _ _ h => h) (by rfl) ?_ hS ?_
  rotate_left
  · ((intro w hSw; (try dsimp only at hSw); go_simp) <;> with_reducible rfl)
  (try simp only [Act.put, List.setIfInBounds_toArray, List.set_cons_zero, List.set_cons_succ])
  refine any_take (i := 9) (v := ?_) rfl (by as_aux_lemma => kernel_rfl) (by as_aux_lemma => kernel_rfl) (by as_aux_lemma => kernel_rfl) (by exact fun _ _ _ h => h) (by rfl) ?_ hS ?_
  rotate_left
  · ((intro w hSw; (try dsimp only at hSw); go_simp) <;> with_reducible rfl)
  (try simp only [Act.put, List.setIfInBounds_toArray, List.set_cons_zero, List.set_cons_succ])
  refine any_take (i := 11) (v := ?_) rfl (by as_aux_lemma => kernel_rfl) (by as_aux_lemma => kernel_rfl) (by as_aux_lemma => kernel_rfl) (by exact fun _ _ _ h => h) (by rfl) ?_ hS ?_
  rotate_left
  · ((intro w hSw; (try dsimp only at hSw); go_simp) <;> with_reducible rfl)
  (try simp only [Act.put, List.setIfInBounds_toArray, List.set_cons_zero, List.set_cons_succ])
  clear lX0 lX1 lX2 lY0 lY1 lY2 l2
  refine any_one (i := 10) rfl (by as_aux_lemma => kernel_rfl) (fun K hK => ?_)
  go_simp
  refine (Calls.mono (as_any x y va l.length vc _)) ?_
  rintro e x2 ⟨rfl, hbR⟩
  have B2 : Below w3.heap.size w3 x2 := below_then B0 hbR
  go_wp2_with fail
  refine hK.out _ _ (by first | exact B2 | exact hbR | exact below_then hS hbR) (any_weaken (S' := fun W => Below x2.heap.size x2 W) (fun W hW => by first | exact below_then B2 hW | exact below_then hbR hW | exact below_then (below_then hS hbR) hW) _ _ _ _ ?_)
  clear hK K hS hbR
  have hS : Below x2.heap.size x2 x2 := Below.refl _ _
  have K3 : Hid _ := same8_yes x y va z l.length vc cap l _ rfl (own_row2 ((K2.out.1.later B2).each (byOb (.slice va l.length vc) W.heap.size l) (by simp)).holds) (K2.out.2.2.later B2)
  refine any_one (i := 12) rfl (by as_aux_lemma => kernel_rfl) (fun K hK => ?_)
  go_simp
  refine (Calls.mono (K3.out)) ?_
  rintro e x3 ⟨rfl, hbR⟩
  have B3 : Below w3.heap.size w3 x3 := below_then B2 hbR
  clear K3
  go_wp2_with fail
  refine hK.out _ _ (by first | exact B3 | exact hbR | exact below_then hS hbR) (any_weaken (S' := fun W => Below x3.heap.size x3 W) (fun W hW => by first | exact below_then B3 hW | exact below_then hbR hW | exact below_then (below_then hS hbR) hW) _ _ _ _ ?_)
  clear hK K hS hbR
  have hS : Below x3.heap.size x3 x3 := Below.refl _ _
  refine any_take (i := 13) (v := ?_) rfl (by as_aux_lemma => kernel_rfl) (by as_aux_lemma => kernel_rfl) (by as_aux_lemma => kernel_rfl) (by exact fun _ _ _ h => h) (by rfl) ?_ hS ?_
  rotate_left
  · ((intro w hSw; (try dsimp only at hSw); go_simp) <;> with_reducible rfl)
  (try simp only [Act.put, List.setIfInBounds_toArray, List.set_cons_zero, List.set_cons_succ])
  refine any_take (i := 14) (v := ?_) rfl (by as_aux_lemma => kernel_rfl) (by as_aux_lemma => kernel_rfl) (by as_aux_lemma => kernel_rfl) (by exact fun _ _ _ h => h) (by rfl) ?_ hS ?_
  rotate_left
  · ((intro w hSw; (try dsimp only at hSw); go_simp) <;> with_reducible rfl)
  (try simp only [Act.put, List.setIfInBounds_toArray, List.set_cons_zero, List.set_cons_succ])
  refine any_take (i := 15) (v := ?_) rfl (by as_aux_lemma => kernel_rfl) (by as_aux_lemma => kernel_rfl) (by as_aux_lemma => kernel_rfl) (by exact fun _ _ _ h => h) (by rfl) ?_ hS ?_
  rotate_left
  · ((intro w hSw; (try dsimp only at hSw); go_simp) <;> with_reducible rfl)
  (try simp only [Act.put, List.setIfInBounds_toArray, List.set_cons_zero, List.set_cons_succ])
  refine any_take (i := 16) (v := ?_) rfl (by as_aux_lemma => kernel_rfl) (by as_aux_lemma => kernel_rfl) (by as_aux_lemma => kernel_rfl) (by exact fun _ _ _ h => h) (by rfl) ?_ hS ?_
  rotate_left
  · ((intro w hSw; (try dsimp only at hSw); go_simp) <;> with_reducible rfl)
  (try simp only [Act.put, List.setIfInBounds_toArray, List.set_cons_zero, List.set_cons_succ])
  refine any_take (i := 17) (v := ?_) rfl (by as_aux_lemma => kernel_rfl) (by as_aux_lemma => kernel_rfl) (by as_aux_lemma => kernel_rfl) (by exact fun _ _ _ h => h) (by rfl) ?_ hS ?_
  rotate_left
  · ((intro w hSw; (try dsimp only at hSw); go_simp) <;> with_reducible rfl)
  (try simp only [Act.put, List.setIfInBounds_toArray, List.set_cons_zero, List.set_cons_succ])
  refine any_take (i := 18) (v := ?_) rfl (by as_aux_lemma => kernel_rfl) (by as_aux_lemma => kernel_rfl) (by as_aux_lemma => kernel_rfl) (by exact fun _ _ _ h => h) (by rfl) ?_ hS ?_
  rotate_left
  · ((intro w hSw; (try dsimp only at hSw); go_simp) <;> with_reducible rfl)
  (try simp only [Act.put, List.setIfInBounds_toArray, List.set_cons_zero, List.set_cons_succ])
  refine any_take (i := 19) (v := ?_) rfl (by as_aux_lemma => kernel_rfl) (by as_aux_lemma => kernel_rfl) (by as_aux_lemma => kernel_rfl) (by exact fun _ _ _ h => h) (by rfl) ?_ hS ?_
  rotate_left
  · ((intro w hSw; (try dsimp only at hSw); go_simp) <;> with_reducible rfl)
  (try simp only [Act.put, List.setIfInBounds_toArray, List.set_cons_zero, List.set_cons_succ])
  refine any_take (i := 20) (v := ?_) rfl (by as_aux_lemma => kernel_rfl) (by as_aux_lemma => kernel_rfl) (by as_aux_lemma => kernel_rfl) (by exact fun _ _ _ h => h) (by rfl) ?_ hS ?_
  rotate_left
  · ((intro w hSw; (try dsimp only at hSw); go_simp) <;> with_reducible rfl)
  (try simp only [Act.put, List.setIfInBounds_toArray, List.set_cons_zero, List.set_cons_succ])
  refine any_take (i := 21) (v := ?_) rfl (by as_aux_lemma => kernel_rfl) (by as_aux_lemma => kernel_rfl) (by as_aux_lemma => kernel_rfl) (by exact fun _ _ _ h => h) (by rfl) ?_ hS ?_
  rotate_left
  · ((intro w hSw; (try dsimp only at hSw); go_simp) <;> with_reducible rfl)
  (try simp only [Act.put, List.setIfInBounds_toArray, List.set_cons_zero, List.set_cons_succ])
  refine any_take (i := 22) (v := ?_) rfl (by as_aux_lemma => kernel_rfl) (by as_aux_lemma => kernel_rfl) (by as_aux_lemma => kernel_rfl) (by exact fun _ _ _ h => h) (by rfl) ?_ hS ?_
  rotate_left
  · ((intro w hSw; (try dsimp only at hSw); go_simp) <;> with_reducible rfl)
  (try simp only [Act.put, List.setIfInBounds_toArray, List.set_cons_zero, List.set_cons_succ])
  refine any_take (i := 23) (v := ?_) rfl (by as_aux_lemma => kernel_rfl) (by as_aux_lemma => kernel_rfl) (by as_aux_lemma => kernel_rfl) (by exact fun _ _ _ h => h) (by rfl) ?_ hS ?_
  rotate_left
  · ((intro w hSw; (try dsimp only at hSw); go_simp) <;> with_reducible rfl)
  (try simp only [Act.put, List.setIfInBounds_toArray, List.set_cons_zero, List.set_cons_succ])
  refine any_take (i := 25) (v := ?_) rfl (by as_aux_lemma => kernel_rfl) (by as_aux_lemma => kernel_rfl) (by as_aux_lemma => kernel_rfl) (by exact fun _ _ _ h => h) (by rfl) ?_ hS ?_
  rotate_left
  · ((intro w hSw; (try dsimp only at hSw); go_simp) <;> with_reducible rfl)
  (try simp only [Act.put, List.setIfInBounds_toArray, List.set_cons_zero, List.set_cons_succ])
  refine any_take (i := 26) (v := ?_) rfl (by as_aux_lemma => kernel_rfl) (by as_aux_lemma => kernel_rfl) (by as_aux_lemma => kernel_rfl) (by exact fun _ _ _ h => h) (by rfl) ?_ hS ?_
  rotate_left
  · ((intro w hSw; (try dsimp only at hSw); go_simp) <;> with_reducible rfl)
  (try simp only [Act.put, List.setIfInBounds_toArray, List.set_cons_zero, List.set_cons_succ])
  refine any_take (i := 27) (v := ?_) rfl (by as_aux_lemma => kernel_rfl) (by as_aux_lemma => kernel_rfl) (by as_aux_lemma => kernel_rfl) (by exact fun _ _ _ h => h) (by rfl) ?_ hS ?_
  rotate_left
  · ((intro w hSw; (try dsimp only at hSw); go_simp) <;> with_reducible rfl)
  (try simp only [Act.put, List.setIfInBounds_toArray, List.set_cons_zero, List.set_cons_succ])
  have K4 : Hid _ := woApart_any g p m a b _ ((K2.out.1.later B3).each (wo g p m) (by simp)) hw ha hb
  refine any_one (i := 24) rfl (by as_aux_lemma => kernel_rfl) (fun K hK => ?_)
  go_simp
  refine (Calls.mono (K4.out)) ?_
  rintro e _ ⟨rfl, rfl⟩
  clear K4
  go_wp2_with fail
  refine hK.out _ _ hS ?_
  clear hK K
  have K5 : Hid _ := rwApart_any g' p' m a b _ ((K2.out.1.later B3).each (rw8 g' p' m) (by simp)) hw ha hb
  refine any_one (i := 28) rfl (by as_aux_lemma => kernel_rfl) (fun K hK => ?_)
  go_simp
  refine (Calls.mono (K5.out)) ?_
  rintro e x5 ⟨rfl, hbR⟩
  have B5 : Below w3.heap.size w3 x5 := below_then B3 hbR
  clear K5
  go_wp2_with fail
  refine hK.out _ _ (by first | exact B5 | exact hbR | exact below_then hS hbR) (any_weaken (S' := fun W => Below x5.heap.size x5 W) (fun W hW => by first | exact below_then B5 hW | exact below_then hbR hW | exact below_then (below_then hS hbR) hW) _ _ _ _ ?_)
  clear hK K hS hbR
  have hS : Below x5.heap.size x5 x5 := Below.refl _ _
  have l5 : ∀ W, Below x5.heap.size x5 W → W.cell? ⟨g', 5, none⟩ = some (.int .i64 m.tk) := fun W hW => cell_later (below_then B5 hW) FR.out.2.1
  have l6 : ∀ W, Below x5.heap.size x5 W → W.cell? ⟨g', 6, none⟩ = some (.int .i64 m.lo) := fun W hW => cell_later (below_then B5 hW) FR.out.2.2
  refine any_take (i := 29) (v := ?_) rfl (by as_aux_lemma => kernel_rfl) (by as_aux_lemma => kernel_rfl) (by as_aux_lemma => kernel_rfl) (by exact fun _ _ _ h => h) (by rfl) ?_ hS ?_
  rotate_left
  · ((intro w hSw; (try dsimp only at hSw); go_simp) <;> with_reducible rfl)
  (try simp only [Act.put, List.setIfInBounds_toArray, List.set_cons_zero, List.set_cons_succ])
  refine any_take (i := 30) (v := ?_) rfl (by as_aux_lemma => kernel_rfl) (by as_aux_lemma => kernel_rfl) (by as_aux_lemma => kernel_rfl) (by exact fun _ _ _ h => h) (by rfl) ?_ hS ?_
  rotate_left
  · ((intro w hSw; (try dsimp only at hSw); go_simp) <;> with_reducible rfl)
  (try simp only [Act.put, List.setIfInBounds_toArray, List.set_cons_zero, List.set_cons_succ])
  refine any_take (i := 31) (v := ?_) rfl (by as_aux_lemma => kernel_rfl) (by as_aux_lemma => kernel_rfl) (by as_aux_lemma => kernel_rfl) (by exact fun _ _ _ h => h) (by rfl) ?_ hS ?_
  rotate_left
  · ((intro w hSw; (try dsimp only at hSw); go_simp) <;> with_reducible rfl)
  (try simp only [Act.put, List.setIfInBounds_toArray, List.set_cons_zero, List.set_cons_succ])
  refine any_take (i := 32) (v := ?_) rfl (by as_aux_lemma => kernel_rfl) (by as_aux_lemma => kernel_rfl) (by as_aux_lemma => kernel_rfl) (by exact fun _ _ _ h => h) (by rfl) ?_ hS ?_
  rotate_left
  · ((intro w hSw; (try dsimp only at hSw); go_simp) <;> with_reducible rfl)
  (try simp only [Act.put, List.setIfInBounds_toArray, List.set_cons_zero, List.set_cons_succ])
  refine any_take (i := 34) (v := ?_) rfl (by as_aux_lemma => kernel_rfl) (by as_aux_lemma => kernel_rfl) (by as_aux_lemma => kernel_rfl) (by exact fun _ _ _ h => h) (by rfl) ?_ hS ?_
  rotate_left
  · ((intro w hSw; (try dsimp only at hSw); go_simp) <;> with_reducible rfl)
  (try simp only [Act.put, List.setIfInBounds_toArray, List.set_cons_zero, List.set_cons_succ])
  refine any_take (i := 35) (v := ?_) rfl (by as_aux_lemma => kernel_rfl) (by as_aux_lemma => kernel_rfl) (by as_aux_lemma => kernel_rfl) (by exact fun _ _ _ h => h) (by rfl) ?_ hS ?_
  rotate_left
  · ((intro w hSw; (try dsimp only at hSw); go_simp) <;> with_reducible rfl)
  (try simp only [Act.put, List.setIfInBounds_toArray, List.set_cons_zero, List.set_cons_succ])
  refine any_take (i := 36) (v := ?_) rfl (by as_aux_lemma => kernel_rfl) (by as_aux_lemma => kernel_rfl) (by as_aux_lemma => kernel_rfl) (by exact fun _ _ _ h => h) (by rfl) ?_ hS ?_
  rotate_left
  · ((intro w hSw; (try dsimp only at hSw); go_simp) <;> with_reducible rfl)
  (try simp only [Act.put, List.setIfInBounds_toArray, List.set_cons_zero, List.set_cons_succ])
  refine any_take (i := 37) (v := ?_) rfl (by as_aux_lemma => kernel_rfl) (by as_aux_lemma => kernel_rfl) (by as_aux_lemma => kernel_rfl) (by exact fun _ _ _ h => h) (by rfl) ?_ hS ?_
  rotate_left
  · ((intro w hSw; (try dsimp only at hSw); go_simp) <;> with_reducible rfl)
  (try simp only [Act.put, List.setIfInBounds_toArray, List.set_cons_zero, List.set_cons_succ])
  have K6 : Hid _ := woTaken_any g p m _ ((K2.out.1.later B5).each (wo g p m) (by simp))
  refine any_one (i := 33) rfl (by as_aux_lemma => kernel_rfl) (fun K hK => ?_)
  go_simp
  refine (Calls.mono (K6.out)) ?_
  rintro e _ ⟨rfl, rfl⟩
  clear K6
  go_wp2_with fail
  refine hK.out _ _ hS ?_
  clear hK K
  refine any_take (i := 38) (v := ?_) rfl (by as_aux_lemma => kernel_rfl) (by as_aux_lemma => kernel_rfl) (by as_aux_lemma => kernel_rfl) (by exact fun _ _ _ h => h) (by rfl) ?_ hS ?_
  rotate_left
  · ((intro w hSw; (try dsimp only at hSw); go_simp) <;> with_reducible rfl)
  (try simp only [Act.put, List.setIfInBounds_toArray, List.set_cons_zero, List.set_cons_succ])
  refine any_take (i := 39) (v := ?_) rfl (by as_aux_lemma => kernel_rfl) (by as_aux_lemma => kernel_rfl) (by as_aux_lemma => kernel_rfl) (by exact fun _ _ _ h => h) (by rfl) ?_ hS ?_
  rotate_left
  · ((intro w hSw; (try dsimp only at hSw); go_simp) <;> with_reducible rfl)
  (try simp only [Act.put, List.setIfInBounds_toArray, List.set_cons_zero, List.set_cons_succ])
  refine any_take (i := 40) (v := ?_) rfl (by as_aux_lemma => kernel_rfl) (by as_aux_lemma => kernel_rfl) (by as_aux_lemma => kernel_rfl) (by exact fun _ _ _ h => h) (by rfl) ?_ hS ?_
  rotate_left
  · ((intro w hSw; (try dsimp only at hSw); go_simp) <;> with_reducible rfl)
  (try simp only [Act.put, List.setIfInBounds_toArray, List.set_cons_zero, List.set_cons_succ])
  refine any_take (i := 41) (v := ?_) rfl (by as_aux_lemma => kernel_rfl) (by as_aux_lemma => kernel_rfl) (by as_aux_lemma => kernel_rfl) (by exact fun _ _ _ h => h) (by rfl) ?_ hS ?_
  rotate_left
  · ((intro w hSw; (try dsimp only at hSw); go_simp) <;> with_reducible rfl)
  (try simp only [Act.put, List.setIfInBounds_toArray, List.set_cons_zero, List.set_cons_succ])
  refine any_take (i := 43) (v := ?_) rfl (by as_aux_lemma => kernel_rfl) (by as_aux_lemma => kernel_rfl) (by as_aux_lemma => kernel_rfl) (by exact fun _ _ _ h => h) (by rfl) ?_ hS ?_
  rotate_left
  · ((intro w hSw; (try dsimp only at hSw); go_simp) <;> with_reducible rfl)
  (try simp only [Act.put, List.setIfInBounds_toArray, List.set_cons_zero, List.set_cons_succ])
  refine any_take (i := 44) (v := ?_) rfl (by as_aux_lemma => kernel_rfl) (by as_aux_lemma => kernel_rfl) (by as_aux_lemma => kernel_rfl) (by exact fun _ _ _ h => h) (by rfl) ?_ hS ?_
  rotate_left
  · ((intro w hSw; (try dsimp only at hSw); go_simp) <;> with_reducible rfl)
  (try simp only [Act.put, List.setIfInBounds_toArray, List.set_cons_zero, List.set_cons_succ])
  refine any_take (i := 45) (v := ?_) rfl (by as_aux_lemma => kernel_rfl) (by as_aux_lemma => kernel_rfl) (by as_aux_lemma => kernel_rfl) (by exact fun _ _ _ h => h) (by rfl) ?_ hS ?_
  rotate_left
  · ((intro w hSw; (try dsimp only at hSw); go_simp) <;> with_reducible rfl)
  (try simp only [Act.put, List.setIfInBounds_toArray, List.set_cons_zero, List.set_cons_succ])
  refine any_take (i := 46) (v := ?_) rfl (by as_aux_lemma => kernel_rfl) (by as_aux_lemma => kernel_rfl) (by as_aux_lemma => kernel_rfl) (by exact fun _ _ _ h => h) (by rfl) ?_ hS ?_
  rotate_left
  · ((intro w hSw; (try dsimp only at hSw); go_simp) <;> with_reducible rfl)
  (try simp only [Act.put, List.setIfInBounds_toArray, List.set_cons_zero, List.set_cons_succ])
  have K7 : Hid _ := woLost_any g p m _ ((K2.out.1.later B5).each (wo g p m) (by simp))
  refine any_one (i := 42) rfl (by as_aux_lemma => kernel_rfl) (fun K hK => ?_)
  go_simp
  refine (Calls.mono (K7.out)) ?_
  rintro e _ ⟨rfl, rfl⟩
  clear K7
  go_wp2_with fail
  refine hK.out _ _ hS ?_
  clear hK K
  refine any_take (i := 47) (v := ?_) rfl (by as_aux_lemma => kernel_rfl) (by as_aux_lemma => kernel_rfl) (by as_aux_lemma => kernel_rfl) (by exact fun _ _ _ h => h) (by rfl) ?_ hS ?_
  rotate_left
  · ((intro w hSw; (try dsimp only at hSw); go_simp) <;> with_reducible rfl)
  (try simp only [Act.put, List.setIfInBounds_toArray, List.set_cons_zero, List.set_cons_succ])
  refine any_take (i := 48) (v := ?_) rfl (by as_aux_lemma => kernel_rfl) (by as_aux_lemma => kernel_rfl) (by as_aux_lemma => kernel_rfl) (by exact fun _ _ _ h => h) (by rfl) ?_ hS ?_
  rotate_left
  · ((intro w hSw; (try dsimp only at hSw); go_simp) <;> with_reducible rfl)
  (try simp only [Act.put, List.setIfInBounds_toArray, List.set_cons_zero, List.set_cons_succ])
  refine wpAnyH_done (by as_aux_lemma => kernel_rfl) ?_ _
  have c2 : x5.cell? ⟨bx, 2, none⟩ = some (.slice va l.length vc) := cell_later B5 FX.out.2.2
  have oo : Own x5 W.heap.size (.slice va l.length vc) l := ((K2.out.1.later B5).each (byOb (.slice va l.length vc) W.heap.size l) (by simp)).holds
  have HS : Hid _ := And.intro (Spoil_own _ _ l x5 oo hl) oo
  have K3 : Hid _ := And.intro (K2.out.1.later B5) (K2.out.2.1.trans (B5.mono K2.out.1.base))
  clear FX FY FR Sd l5 l6 oo K2 hS
  go_wp2_with fail
  refine (Calls.mono HS.out.1) ?_
  rintro e w6 ⟨rfl, hg6⟩
  have st := own_rest HS.out.2 hg6
  have F : Hid _ := And.intro ((K3.out.1.swap.step st).perm (List.perm_append_comm (l₁ := [restOb _, letOb _ _ _]) (l₂ := [wo g p m, rw8 g' p' m]))).two (K3.out.2.trans (K3.out.1.swap.below st))
  clear st hg6 HS K3 c2
  go_wp2_with fail
  generalize restOb (.slice va l.length vc) = ro at *
  clear hvc hvm
  go_loopw [13] (fun iv wr => ∃ I : Int, -1 ≤ I ∧ I ≤ 6 ∧ iv = .int .i64 I ∧ Both B g g' p p' m wr ∧ Below B W wr) (fun iv _ => (6 - intOf iv).toNat)
  case atStart => exact ⟨-1, by omega, by omega, rfl, F.out.1, F.out.2⟩
  case round =>
    obtain ⟨I, hI1, hI2, rfl, hB, hbw⟩ := hrel
    by_cases hlt : I ≤ 5
    · have hI : I64 I := by constructor <;> omega
      have H1 : Hid _ := woMay_any g p m I wr hB.head hw hI
      have H2 : Hid _ := fun (X : World) (hX : (rw8 g' p' m).Ok X) => rwMay_any g' p' m I X hX hw hI
      have H3 : Hid _ := fun (X : World) (hX : (wo g p m).Ok X) => woClock_any g p m I X hX hw hI
      have H4 : Hid _ := fun (X : World) (hX : (rw8 g' p' m).Ok X) => rwClock_any g' p' m I X hX hw hI
      have K4 : Hid _ := And.intro hB hbw
      clear hB hbw hI F
      go_wp2_with fail
      refine (Calls.mono H1.out) ?_
      rintro e y1 ⟨rfl, d1⟩
      have K5 : Hid _ := And.intro (K4.out.1.later d1) (K4.out.2.trans (d1.mono K4.out.1.base))
      clear d1 K4 H1
      go_wp2_with fail
      refine (Calls.mono (H2.out _ K5.out.1.swap.head)) ?_
      rintro e y2 ⟨rfl, d2⟩
      have K6 : Hid _ := And.intro (K5.out.1.later d2) (K5.out.2.trans (d2.mono K5.out.1.base))
      clear d2 K5 H2
      go_wp2_with fail
      refine (Calls.mono (H3.out _ K6.out.1.head)) ?_
      rintro e _ ⟨rfl, rfl⟩
      go_wp2_with fail
      refine (Calls.mono (H4.out _ K6.out.1.swap.head)) ?_
      rintro e _ ⟨rfl, rfl⟩
      clear H3 H4
      go_wp2
      go_roundw
      case rel => exact ⟨I + 1, by omega, by omega, by go_num, K6.out.1, K6.out.2⟩
      case measure => simp [intOf]; omega
    · have K4 : Hid _ := And.intro hB hbw
      clear hB hbw F
      have hd : decide (I ≤ 5) = false := decide_eq_false hlt
      go_wp2
      go_ret
      exact ⟨rfl, _, _, K4.out.1, K4.out.2⟩
theorem alike_any (B g g' : Nat) (p p' : Wp) (m : Wm) (a b : Int) (W : World) (h : Both B g g' p p' m W) (hw : m.Wf) (ha : I64 a) (hb : I64 b) :
    Calls Try.prog 13 #[.pointer (some ⟨g, 0, none⟩), .pointer (some ⟨g', 0, none⟩), .int .i64 a, .int .i64 b] W (After B g g' m W) := by
  by_cases hn : 0 ≤ b ∧ b < (m.fl.length : Int)
  · obtain ⟨k, rfl⟩ : ∃ k : Nat, b = k := ⟨b.toNat, by omega⟩
    have hk : k < m.fl.length := by omega
    have hsz := hw.each _ (List.getElem_mem hk)
    refine alike_gen B g g' p p' m a k W m.fl[k].1 m.fl[k].2.1 0 m.fl[k].2.2 h hw ha hb (by omega) (fun X hX => (woLook_yes g p m k X hX hw hk).mono ?_) (fun X hX => (rwLook_yes g' p' m k X hX hw hk).mono ?_)
    · rintro e w' ⟨v, rfl, ho, b⟩
      exact ⟨v, rfl, ho, b⟩
    · rintro e w' ⟨z, cap, rfl, -, hr, -, -, b⟩
      exact ⟨z, cap, rfl, hr.later b, b⟩
  · refine alike_gen B g g' p p' m a b W 0 0 1 [] h hw ha hb (by simp) (fun X hX => (woLook_no g p m b X hX hw hb hn).mono ?_) (fun X hX => (rwLook_no g' p' m b X hX hw hb hn).mono ?_)
    · rintro e w' ⟨rfl, b⟩
      exact ⟨.slice none 0 0, rfl, own_none _ _, b⟩
    · rintro e w' ⟨rfl, b⟩
      exact ⟨none, 0, rfl, .inl rfl, b⟩
end Go.Proofs.Ytjfodmdijajfbaa
