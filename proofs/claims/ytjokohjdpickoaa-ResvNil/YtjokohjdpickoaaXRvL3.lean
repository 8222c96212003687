/- The walk of ResvNil. -/
import Derived.Test.YtjokohjdpickoaaXRv24
import Derived.Test.YtjokohjdpickoaaXRvA2
import Derived.Test.YtjokohjdpickoaaXDraw
import Derived.Deep.CutRange
namespace Go.Proofs.Ytjokohjdpickoaa
open Go.RowKit Go.Shelf
set_option linter.unusedVariables false
set_option linter.unusedSimpArgs false
set_option maxRecDepth 4000
attribute [local go_sem] Oper.semAt_some

theorem any_two {P : Program} {Q : Exit → Act → World → Prop} {md : Region.Mode} {S : World → Prop} {L : List Oper} {i j : Nat} {oi oj : Oper} {ri rj : List Oper} (hi : L.drop i = oi :: ri) (hj : L.drop j = oj :: rj) {fuel : Nat} {listed : Array Bool} {a : Act} {w : World} (hr : Region.ready md L.toArray listed = [i, j])
    (h1 : ∀ K' : Act → World → Prop, Shut (∀ a w, S w → (S w → wpAnyH P md L.toArray Q S fuel (listed.setIfInBounds i true) a w) → K' a w) → if Region.wanted oi (yielded L.toArray a.tmps) = true then Oper.wp P oi a w K' Q else K' (a.put oi.dst undef) w)
    (h2 : ∀ K' : Act → World → Prop, Shut (∀ a w, S w → (S w → wpAnyH P md L.toArray Q S fuel (listed.setIfInBounds j true) a w) → K' a w) → if Region.wanted oj (yielded L.toArray a.tmps) = true then Oper.wp P oj a w K' Q else K' (a.put oj.dst undef) w) :
    wpAnyH P md L.toArray Q S (fuel + 1) listed a w :=
  wpAnyH_ready hr (by simp) (AllReadyH.cons (drop_at hi) h1 (AllReadyH.cons (drop_at hj) h2 AllReadyH.nil))
theorem regs_z : regsL z16 16 = [] := by decide
theorem seq2_not_nil (w : World) (f : Fn) (x y : Array Value) : (binOp .neq 50 (.func f x y) .nilFunc).run Try.prog w = .ok (.bool true) w := by kernel_rfl
set_option maxHeartbeats 8000000 in
theorem resvNil_walk (z0 z1 : Int) (z2 z3 : BitVec 64) (z4 : Int) (w : World) (B : I64 z0 ∧ I64 z1 ∧ I64 z4) :
    Calls Try.prog 6 #[.agg #[.int .i64 z0, .int .i64 z1, .int .u64 (z2.toNat : Int), .int .u64 (z3.toNat : Int), .int .i64 z4]] w fun e w' => e = .returned (.bool true) ∧ Below w.heap.size w w' := by
  have b1 : Below w.heap.size w (w.alloc (.cells #[.int .i64 z0, .int .i64 z1, .int .u64 (z2.toNat : Int), .int .u64 (z3.toNat : Int), .int .i64 z4] 36)) := (Below.refl _ _).alloc (Nat.le_refl _) _
  have B1 := Blk.new' w 36 [.int .i64 z0, .int .i64 z1, .int .u64 (z2.toNat : Int), .int .u64 (z3.toNat : Int), .int .i64 z4]
  obtain ⟨w1, hw1⟩ : ∃ w1, w1 = w.alloc (.cells #[.int .i64 z0, .int .i64 z1, .int .u64 (z2.toNat : Int), .int .u64 (z3.toNat : Int), .int .i64 z4] 36) := ⟨_, rfl⟩
  rw [← hw1] at b1 B1
  have HC : Hid (∀ W, Below w1.heap.size w1 W → W.cell? ⟨w.heap.size, 0, none⟩ = some (.int .i64 z0) ∧ W.cell? ⟨w.heap.size, 1, none⟩ = some (.int .i64 z1) ∧ W.cell? ⟨w.heap.size, 2, none⟩ = some (.int .u64 (z2.toNat : Int)) ∧ W.cell? ⟨w.heap.size, 3, none⟩ = some (.int .u64 (z3.toNat : Int)) ∧ W.cell? ⟨w.heap.size, 4, none⟩ = some (.int .i64 z4)) := fun W b => ⟨by have := blk_at (B1.laterB b) 0; simpa using this, by have := blk_at (B1.laterB b) 1; simpa using this, by have := blk_at (B1.laterB b) 2; simpa using this, by have := blk_at (B1.laterB b) 3; simpa using this, by have := blk_at (B1.laterB b) 4; simpa using this⟩
  have H1 : Hid _ := And.intro b1 trivial
  clear b1 B1 B
  refine (callsIn_wide (n := 9)).1 ?_
  refine callsIn_of_wp_marks Try.func6 rfl trivial ?_ rfl
  simp only [Try.ntmps6, List.size_toArray, List.length_cons, List.length_nil, Nat.reduceAdd, Nat.reduceSub, Array.replicate_succ, Array.replicate_zero, List.push_toArray, List.append_toArray, List.nil_append, List.cons_append]
  refine wpIn_wide.2 (wp_mono (Q := calmR (bodyPostM Fence.wide 9 Try.prog Try.f6 fun e w' => e = .returned (.bool true) ∧ Below w.heap.size w w')) ?_ (fun e a w h => calmR_out h))
  go_upto_region 2 with fail
  rw [← hw1]
  clear hw1
  go_cut [4, 5] from 10 to 87 (fun pv lv wx => ∃ b, pv = .pointer (some ⟨b, 0, none⟩) ∧ lv = .slice none 0 0 ∧ Blk wx b 28 [.int .i64 2, .int .i64 5, .int .i64 36, .int .i64 0, .slice none 0 0] ∧ Below w.heap.size w wx)
  case first =>
    refine wp_region_held_drew (S := fun W => Below w1.heap.size w1 W) (by kernel_rfl) ((Below.refl _ _).drew) (fun hS => ?_)
    refine any_take (i := 0) (v := ?_) rfl (by kernel_rfl) (by kernel_rfl) (by kernel_rfl) (by exact fun _ _ _ h => h) (by rfl) ?_ hS ?_
    rotate_left
    · ((intro w hSw; obtain ⟨q0, q1, q2, q3, q4⟩ := HC.out _ hSw; go_simp) <;> with_reducible rfl)
    (try simp only [Act.put, List.setIfInBounds_toArray, List.set_cons_zero, List.set_cons_succ])
    refine any_take (i := 1) (v := ?_) rfl (by kernel_rfl) (by kernel_rfl) (by kernel_rfl) (by exact fun _ _ _ h => h) (by rfl) ?_ hS ?_
    rotate_left
    · ((intro w hSw; obtain ⟨q0, q1, q2, q3, q4⟩ := HC.out _ hSw; go_simp) <;> with_reducible rfl)
    (try simp only [Act.put, List.setIfInBounds_toArray, List.set_cons_zero, List.set_cons_succ])
    refine any_take (i := 2) (v := ?_) rfl (by kernel_rfl) (by kernel_rfl) (by kernel_rfl) (by exact fun _ _ _ h => h) (by rfl) ?_ hS ?_
    rotate_left
    · ((intro w hSw; obtain ⟨q0, q1, q2, q3, q4⟩ := HC.out _ hSw; go_simp) <;> with_reducible rfl)
    (try simp only [Act.put, List.setIfInBounds_toArray, List.set_cons_zero, List.set_cons_succ])
    refine any_take (i := 3) (v := ?_) rfl (by kernel_rfl) (by kernel_rfl) (by kernel_rfl) (by exact fun _ _ _ h => h) (by rfl) ?_ hS ?_
    rotate_left
    · ((intro w hSw; obtain ⟨q0, q1, q2, q3, q4⟩ := HC.out _ hSw; go_simp) <;> with_reducible rfl)
    (try simp only [Act.put, List.setIfInBounds_toArray, List.set_cons_zero, List.set_cons_succ])
    refine any_take (i := 4) (v := ?_) rfl (by kernel_rfl) (by kernel_rfl) (by kernel_rfl) (by exact fun _ _ _ h => h) (by rfl) ?_ hS ?_
    rotate_left
    · ((intro w hSw; obtain ⟨q0, q1, q2, q3, q4⟩ := HC.out _ hSw; go_simp) <;> with_reducible rfl)
    (try simp only [Act.put, List.setIfInBounds_toArray, List.set_cons_zero, List.set_cons_succ])
    generalize w1.drew = W0 at *
    refine any_two (i := 5) (j := 10) rfl rfl (by kernel_rfl) (fun K hK => ?_) (fun K hK => ?_)
    · go_simp
      refine (Calls.mono (given_any ⟨z1, z2.toNat, z3.toNat, z4⟩ _)) ?_
      rintro e x1 ⟨rfl, b1⟩
      have S1 := below_then hS b1
      go_wp2_with fail
      refine hK.out _ _ S1 (fun hS => ?_)
      clear b1 S1
      clear hK K
      refine any_two (i := 6) (j := 10) rfl rfl (by kernel_rfl) (fun K hK => ?_) (fun K hK => ?_)
      · go_simp
        refine (Calls.mono (do_nil z0 ⟨z1, z2.toNat, z3.toNat, z4⟩ _)) ?_
        rintro e x2 ⟨rfl, b2⟩
        have S2 := below_then hS b2
        go_wp2_with fail
        refine hK.out _ _ S2 (fun hS => ?_)
        clear b2 S2
        clear hK K
        refine any_take (i := 7) (v := ?_) rfl (by kernel_rfl) (by kernel_rfl) (by kernel_rfl) (by exact fun _ _ _ h => h) (by rfl) ?_ hS ?_
        rotate_left
        · ((intro w hSw; skip; go_simp) <;> with_reducible rfl)
        (try simp only [Act.put, List.setIfInBounds_toArray, List.set_cons_zero, List.set_cons_succ])
        refine any_take (i := 8) (v := ?_) rfl (by kernel_rfl) (by kernel_rfl) (by kernel_rfl) (by exact fun _ _ _ h => h) (by rfl) ?_ hS ?_
        rotate_left
        · ((intro w hSw; skip; go_simp) <;> with_reducible rfl)
        (try simp only [Act.put, List.setIfInBounds_toArray, List.set_cons_zero, List.set_cons_succ])
        refine any_take (i := 9) (v := ?_) rfl (by kernel_rfl) (by kernel_rfl) (by kernel_rfl) (by exact fun _ _ _ h => h) (by rfl) ?_ hS ?_
        rotate_left
        · ((intro w hSw; skip; go_simp) <;> with_reducible rfl)
        (try simp only [Act.put, List.setIfInBounds_toArray, List.set_cons_zero, List.set_cons_succ])
        refine any_on (i := 10) rfl (by kernel_rfl) (fun K hK => ?_)
        go_simp
        have ba : Below x2.heap.size x2 (x2.alloc (.cells #[.int .i64 0, .int .i64 0, .int .i64 0, .int .i64 0, .slice none 0 0] 28)) := (Below.refl _ _).alloc (Nat.le_refl _) _
        have PB := Blk.new' x2 28 [.int .i64 0, .int .i64 0, .int .i64 0, .int .i64 0, .slice none 0 0]
        have hbs : w1.heap.size ≤ x2.heap.size := hS.size
        refine hK.out _ _ (below_then hS ba) (fun hS => ?_)
        clear hK K
        obtain ⟨b, hb⟩ : ∃ b, x2.heap.size = b := ⟨_, rfl⟩
        rw [hb] at PB hbs ⊢
        clear ba hb
        generalize x2.alloc (.cells #[.int .i64 0, .int .i64 0, .int .i64 0, .int .i64 0, .slice none 0 0] 28) = x3 at *
        have y0 := blk_at PB 0
        have f0 := blk_frozen PB 0
        have y1 := blk_at PB 1
        have f1 := blk_frozen PB 1
        have y2 := blk_at PB 2
        have f2 := blk_frozen PB 2
        have y3 := blk_at PB 3
        have f3 := blk_frozen PB 3
        have y4 := blk_at PB 4
        have f4 := blk_frozen PB 4
        simp only [List.getElem?_cons_zero, List.getElem?_cons_succ] at y0 y1 y2 y3 y4
        have SP := rp5_blk PB (2) (5) (36) (0)
        have S5 : Below w1.heap.size w1 (rp5 x3 b 2 5 36 0) := by
          unfold rp5
          exact ((((hS.setCell (p := ⟨b, 0, none⟩) hbs _).setCell (p := ⟨b, 1, none⟩) hbs _).setCell (p := ⟨b, 2, none⟩) hbs _).setCell (p := ⟨b, 3, none⟩) hbs _).setCell (p := ⟨b, 4, none⟩) hbs _
        have G : Hid _ := And.intro SP.1 (below_then H1.out.1 S5)
        unfold rp5 at G S5
        refine any_on (i := 11) rfl (by kernel_rfl) (fun K hK => ?_)
        go_simp
        refine hK.out _ _ S5 (fun hS => ?_)
        clear hK K S5 SP PB
        refine any_take (i := 12) (v := ?_) rfl (by kernel_rfl) (by kernel_rfl) (by kernel_rfl) (by exact fun _ _ _ h => h) (by rfl) ?_ hS ?_
        rotate_left
        · ((intro w hSw; (try dsimp only at hSw); go_simp) <;> with_reducible rfl)
        (try simp only [Act.put, List.setIfInBounds_toArray, List.set_cons_zero, List.set_cons_succ])
        refine wpAnyH_done (by kernel_rfl) ?_ _
        clear y0 y1 y2 y3 y4 f0 f1 f2 f3 f4 hS hbs
        go_wp2
        go_meet
        exact ⟨b, rfl, rfl, G.out.1, G.out.2⟩
      · go_simp
        have ba : Below x1.heap.size x1 (x1.alloc (.cells #[.int .i64 0, .int .i64 0, .int .i64 0, .int .i64 0, .slice none 0 0] 28)) := (Below.refl _ _).alloc (Nat.le_refl _) _
        have PB := Blk.new' x1 28 [.int .i64 0, .int .i64 0, .int .i64 0, .int .i64 0, .slice none 0 0]
        have hbs : w1.heap.size ≤ x1.heap.size := hS.size
        refine hK.out _ _ (below_then hS ba) (fun hS => ?_)
        clear hK K
        obtain ⟨b, hb⟩ : ∃ b, x1.heap.size = b := ⟨_, rfl⟩
        rw [hb] at PB hbs ⊢
        clear ba hb
        generalize x1.alloc (.cells #[.int .i64 0, .int .i64 0, .int .i64 0, .int .i64 0, .slice none 0 0] 28) = x3 at *
        refine any_on (i := 6) rfl (by kernel_rfl) (fun K hK => ?_)
        go_simp
        refine (Calls.mono (do_nil z0 ⟨z1, z2.toNat, z3.toNat, z4⟩ _)) ?_
        rintro e x2 ⟨rfl, b2⟩
        have S2 := below_then hS b2
        have PB2 := PB.laterB b2
        go_wp2_with fail
        refine hK.out _ _ S2 (fun hS => ?_)
        clear b2 S2 PB
        have PB := PB2
        clear PB2
        clear hK K
        refine any_take (i := 7) (v := ?_) rfl (by kernel_rfl) (by kernel_rfl) (by kernel_rfl) (by exact fun _ _ _ h => h) (by rfl) ?_ hS ?_
        rotate_left
        · ((intro w hSw; skip; go_simp) <;> with_reducible rfl)
        (try simp only [Act.put, List.setIfInBounds_toArray, List.set_cons_zero, List.set_cons_succ])
        refine any_take (i := 8) (v := ?_) rfl (by kernel_rfl) (by kernel_rfl) (by kernel_rfl) (by exact fun _ _ _ h => h) (by rfl) ?_ hS ?_
        rotate_left
        · ((intro w hSw; skip; go_simp) <;> with_reducible rfl)
        (try simp only [Act.put, List.setIfInBounds_toArray, List.set_cons_zero, List.set_cons_succ])
        refine any_take (i := 9) (v := ?_) rfl (by kernel_rfl) (by kernel_rfl) (by kernel_rfl) (by exact fun _ _ _ h => h) (by rfl) ?_ hS ?_
        rotate_left
        · ((intro w hSw; skip; go_simp) <;> with_reducible rfl)
        (try simp only [Act.put, List.setIfInBounds_toArray, List.set_cons_zero, List.set_cons_succ])
        have y0 := blk_at PB 0
        have f0 := blk_frozen PB 0
        have y1 := blk_at PB 1
        have f1 := blk_frozen PB 1
        have y2 := blk_at PB 2
        have f2 := blk_frozen PB 2
        have y3 := blk_at PB 3
        have f3 := blk_frozen PB 3
        have y4 := blk_at PB 4
        have f4 := blk_frozen PB 4
        simp only [List.getElem?_cons_zero, List.getElem?_cons_succ] at y0 y1 y2 y3 y4
        have SP := rp5_blk PB (2) (5) (36) (0)
        have S5 : Below w1.heap.size w1 (rp5 x2 b 2 5 36 0) := by
          unfold rp5
          exact ((((hS.setCell (p := ⟨b, 0, none⟩) hbs _).setCell (p := ⟨b, 1, none⟩) hbs _).setCell (p := ⟨b, 2, none⟩) hbs _).setCell (p := ⟨b, 3, none⟩) hbs _).setCell (p := ⟨b, 4, none⟩) hbs _
        have G : Hid _ := And.intro SP.1 (below_then H1.out.1 S5)
        unfold rp5 at G S5
        refine any_on (i := 11) rfl (by kernel_rfl) (fun K hK => ?_)
        go_simp
        refine hK.out _ _ S5 (fun hS => ?_)
        clear hK K S5 SP PB
        refine any_take (i := 12) (v := ?_) rfl (by kernel_rfl) (by kernel_rfl) (by kernel_rfl) (by exact fun _ _ _ h => h) (by rfl) ?_ hS ?_
        rotate_left
        · ((intro w hSw; (try dsimp only at hSw); go_simp) <;> with_reducible rfl)
        (try simp only [Act.put, List.setIfInBounds_toArray, List.set_cons_zero, List.set_cons_succ])
        refine wpAnyH_done (by kernel_rfl) ?_ _
        clear y0 y1 y2 y3 y4 f0 f1 f2 f3 f4 hS hbs
        go_wp2
        go_meet
        exact ⟨b, rfl, rfl, G.out.1, G.out.2⟩
    · go_simp
      have ba : Below W0.heap.size W0 (W0.alloc (.cells #[.int .i64 0, .int .i64 0, .int .i64 0, .int .i64 0, .slice none 0 0] 28)) := (Below.refl _ _).alloc (Nat.le_refl _) _
      have PB := Blk.new' W0 28 [.int .i64 0, .int .i64 0, .int .i64 0, .int .i64 0, .slice none 0 0]
      have hbs : w1.heap.size ≤ W0.heap.size := hS.size
      refine hK.out _ _ (below_then hS ba) (fun hS => ?_)
      clear hK K
      obtain ⟨b, hb⟩ : ∃ b, W0.heap.size = b := ⟨_, rfl⟩
      rw [hb] at PB hbs ⊢
      clear ba hb
      generalize W0.alloc (.cells #[.int .i64 0, .int .i64 0, .int .i64 0, .int .i64 0, .slice none 0 0] 28) = x3 at *
      refine any_on (i := 5) rfl (by kernel_rfl) (fun K hK => ?_)
      go_simp
      refine (Calls.mono (given_any ⟨z1, z2.toNat, z3.toNat, z4⟩ _)) ?_
      rintro e x1 ⟨rfl, b1⟩
      have S1 := below_then hS b1
      have PB1 := PB.laterB b1
      go_wp2_with fail
      refine hK.out _ _ S1 (fun hS => ?_)
      clear b1 S1 PB
      have PB := PB1
      clear PB1
      clear hK K
      refine any_on (i := 6) rfl (by kernel_rfl) (fun K hK => ?_)
      go_simp
      refine (Calls.mono (do_nil z0 ⟨z1, z2.toNat, z3.toNat, z4⟩ _)) ?_
      rintro e x2 ⟨rfl, b2⟩
      have S2 := below_then hS b2
      have PB2 := PB.laterB b2
      go_wp2_with fail
      refine hK.out _ _ S2 (fun hS => ?_)
      clear b2 S2 PB
      have PB := PB2
      clear PB2
      clear hK K
      refine any_take (i := 7) (v := ?_) rfl (by kernel_rfl) (by kernel_rfl) (by kernel_rfl) (by exact fun _ _ _ h => h) (by rfl) ?_ hS ?_
      rotate_left
      · ((intro w hSw; skip; go_simp) <;> with_reducible rfl)
      (try simp only [Act.put, List.setIfInBounds_toArray, List.set_cons_zero, List.set_cons_succ])
      refine any_take (i := 8) (v := ?_) rfl (by kernel_rfl) (by kernel_rfl) (by kernel_rfl) (by exact fun _ _ _ h => h) (by rfl) ?_ hS ?_
      rotate_left
      · ((intro w hSw; skip; go_simp) <;> with_reducible rfl)
      (try simp only [Act.put, List.setIfInBounds_toArray, List.set_cons_zero, List.set_cons_succ])
      refine any_take (i := 9) (v := ?_) rfl (by kernel_rfl) (by kernel_rfl) (by kernel_rfl) (by exact fun _ _ _ h => h) (by rfl) ?_ hS ?_
      rotate_left
      · ((intro w hSw; skip; go_simp) <;> with_reducible rfl)
      (try simp only [Act.put, List.setIfInBounds_toArray, List.set_cons_zero, List.set_cons_succ])
      have y0 := blk_at PB 0
      have f0 := blk_frozen PB 0
      have y1 := blk_at PB 1
      have f1 := blk_frozen PB 1
      have y2 := blk_at PB 2
      have f2 := blk_frozen PB 2
      have y3 := blk_at PB 3
      have f3 := blk_frozen PB 3
      have y4 := blk_at PB 4
      have f4 := blk_frozen PB 4
      simp only [List.getElem?_cons_zero, List.getElem?_cons_succ] at y0 y1 y2 y3 y4
      have SP := rp5_blk PB (2) (5) (36) (0)
      have S5 : Below w1.heap.size w1 (rp5 x2 b 2 5 36 0) := by
        unfold rp5
        exact ((((hS.setCell (p := ⟨b, 0, none⟩) hbs _).setCell (p := ⟨b, 1, none⟩) hbs _).setCell (p := ⟨b, 2, none⟩) hbs _).setCell (p := ⟨b, 3, none⟩) hbs _).setCell (p := ⟨b, 4, none⟩) hbs _
      have G : Hid _ := And.intro SP.1 (below_then H1.out.1 S5)
      unfold rp5 at G S5
      refine any_on (i := 11) rfl (by kernel_rfl) (fun K hK => ?_)
      go_simp
      refine hK.out _ _ S5 (fun hS => ?_)
      clear hK K S5 SP PB
      refine any_take (i := 12) (v := ?_) rfl (by kernel_rfl) (by kernel_rfl) (by kernel_rfl) (by exact fun _ _ _ h => h) (by rfl) ?_ hS ?_
      rotate_left
      · ((intro w hSw; (try dsimp only at hSw); go_simp) <;> with_reducible rfl)
      (try simp only [Act.put, List.setIfInBounds_toArray, List.set_cons_zero, List.set_cons_succ])
      refine wpAnyH_done (by kernel_rfl) ?_ _
      clear y0 y1 y2 y3 y4 f0 f1 f2 f3 f4 hS hbs
      go_wp2
      go_meet
      exact ⟨b, rfl, rfl, G.out.1, G.out.2⟩
  case rest =>
  obtain ⟨b, rfl, rfl, PB, bw⟩ := hcut
  clear HC
  have hsn : ∀ W f x y, (binOp .neq 50 (.func f x y) .nilFunc).run Try.prog W = .ok (.bool true) W := seq2_not_nil
  have HH : Hid _ := hol_nil wc
  have b4 : Below wc.heap.size wc (wc.alloc (.cells #[.int .i64 0] 3)) := (Below.refl _ _).alloc (Nat.le_refl _) _
  have B4 := Blk.new' wc 3 [.int .i64 0]
  have HG : Hid _ := regs_nil (wc.alloc (.cells #[.int .i64 0] 3))
  have H4 : Hid _ := And.intro B4 (And.intro (PB.laterB b4) (And.intro (below_then bw b4) (And.intro PB.lt bw.size)))
  clear b4 B4 PB bw H1
  go_wp2_with fail
  refine (Calls.mono HH.out) ?_
  rintro e _ ⟨rfl, rfl⟩
  clear HH
  go_wp2_with fail
  obtain ⟨bx, hbx⟩ : ∃ bx, wc.heap.size = bx := ⟨_, rfl⟩
  rw [hbx] at H4 ⊢
  clear hbx
  generalize wc.alloc (.cells #[.int .i64 0] 3) = w4 at *
  refine (Calls.mono HG.out) ?_
  rintro e x6 ⟨rfl, Bc, b6⟩
  have hsq := regs_stops 8 (by omega) w4.heap.size z16 x6 rfl Bc
  have H6 : Hid _ := And.intro (H4.out.1.laterB b6) (And.intro (H4.out.2.1.laterB b6) (And.intro (below_then H4.out.2.2.1 b6) (And.intro (Nat.lt_of_lt_of_le H4.out.1.lt b6.size) (And.intro (And.intro Bc.lt H4.out.1.lt) H4.out.2.2.2))))
  clear HG H4 b6 Bc
  generalize w4.heap.size = c3 at *
  go_wp2_with fail
  refine (wpIn_wide (n := 9)).1 ?_
  refine wpIn_rangeFunc_ownG rfl (by omega) (gf := 34) (lb := #[.pointer (some ⟨c3, 0, none⟩)]) rfl trivial (enters_of Try.func34 (by kernel_rfl) rfl) hsq (fun h k => h.t k) (fun W l o o' hl h _ _ k hk => World.putObj_heap_other (by simp only [List.mem_singleton] at hk; have := H6.out.2.2.2.2.1.1; omega)) (Below.refl _ _) (fun _ => rfl) (fun pre W => RB (fun k => k = bx) x6 [(bx, 3, [.int .i64 ((pre.length : Nat) : Int)])] W) (fun _ _ _ => False)
    rb_own (fun _ _ _ _ _ hs _ _ => hs) ⟨fun b' hb => by simp only [List.mem_singleton] at hb; subst hb; exact H6.out.1, ⟨rfl, rfl, rfl, Nat.le_refl _, fun _ _ _ => rfl⟩⟩ (fun x => { tmps := #[.agg #[.int .i64 z0, .int .i64 z1, .int .u64 (z2.toNat : Int), .int .u64 (z3.toNat : Int), .int .i64 z4], .pointer (some ⟨w.heap.size, 0, none⟩), .bool false, .pointer none, .pointer (some ⟨b, 0, none⟩), .slice none 0 0, .int .i64 (-1), .int .i64 0, .pointer (some ⟨bx, 0, none⟩), .func (.func 34) #[] #[.pointer (some ⟨c3, 0, none⟩)], u10, u11, u12, u13, u14, u15, u16, u17, u18, u19, .tuple #[.int .i64 (-1), .int .i64 0], .pointer none, .tuple #[.int .i64 (-1), .int .i64 0], .int .i64 (-1), .int .i64 0, .pointer none, .func (.func 34) #[] #[.pointer (some ⟨c3, 0, none⟩)], .func (.func 34) #[] #[.pointer (some ⟨c3, 0, none⟩)], .bool true, .func (.func 34) #[] #[.pointer (some ⟨c3, 0, none⟩)], .int .i64 (x.1.1 : Int), .int .u64 x.1.2, u32, u33, u34, u35, u36, u37, u38, u39, u40, u41, u42, u43, u44, u45, u46, u47, u48, u49, u50, u51, u52, u53, u54, u55, u56, u57, u58, u59, u60, u61, u62, u63, u64, u65, u66, u67, u68, u69, u70, u71, u72, u73, u74, u75, u76, u77, u78, u79, u80, u81, u82, u83, u84, u85, u86, u87], defers := [] }) ?assign ?body ?done ?stop
  case assign =>
    intro l x W K hK
    simp only [encP]
    gi_wp2
    exact hK
  case body =>
    rintro l' pre x W ⟨hB, ht⟩ hlt
    have hBx : Blk W bx 3 [.int .i64 ((pre.length : Nat) : Int)] := hB (bx, 3, [.int .i64 ((pre.length : Nat) : Int)]) (by simp)
    have e8 := blk_at hBx 0
    have f8 := blk_frozen hBx 0
    simp only [List.getElem?_cons_zero] at e8
    have B2 := hBx.set 0 (.int .i64 ((pre.length : Int) + 1))
    simp only [List.set_cons_zero] at B2
    have hl6 := H6.out.2.2.2.1
    have hc6 := H6.out.2.2.2.2.1.2
    have hc7 := H6.out.2.2.2.2.1.1
    have hls : ((pre ++ [x]).length : Int) = (pre.length : Int) + 1 := by simp
    refine wpIn_mono (Q := roundR (fun W' => KeepsFrom x6.heap.size W W' ∧ KeepL [c3] W W' ∧ RB (fun k => k = bx) x6 [(bx, 3, [.int .i64 (((pre ++ [x]).length : Nat) : Int)])] W')) ?_ ?_
    rotate_left
    · rintro e a W' h
      cases e <;> first | exact h.elim | exact h
    have t1 := turned_set W bx 0 (.int .i64 ((pre.length : Int) + 1))
    have hszW := ht.size
    have HF : Hid (KeepsFrom x6.heap.size W (W.setCell ⟨bx, 0, none⟩ (.int .i64 ((pre.length : Int) + 1))) ∧ KeepL [c3] W (W.setCell ⟨bx, 0, none⟩ (.int .i64 ((pre.length : Int) + 1))) ∧ RB (fun k => k = bx) x6 [(bx, 3, [.int .i64 (((pre ++ [x]).length : Nat) : Int)])] (W.setCell ⟨bx, 0, none⟩ (.int .i64 ((pre.length : Int) + 1)))) := ⟨keepsR t1 (fun k e => by have e : k = bx := e; omega), keepR t1 (fun k hk => by simp only [List.mem_singleton] at hk; refine ⟨by omega, fun h => ?_⟩; have h : k = bx := h; omega), fun b' hb' => by simp only [List.mem_singleton] at hb'; subst hb'; show Blk _ bx _ _; rw [hls]; exact B2, ht.trans (t1.mono (fun k e => .inl e))⟩
    have hlp : (pre.length : Int) < 16 := by omega
    have hlp0 : 0 ≤ (pre.length : Int) := by omega
    clear hB ht hBx B2 t1 hsq hls hszW hl6 hc6 hc7
    generalize (pre.length : Int) = pl at *
    have hw : wrap64 (pl + 1) = pl + 1 := by unfold wrap64; omega
    gi_wp2
    exact HF.out
  case done =>
    rintro D ys W hD hys ⟨hB, ht⟩ hdf
    rw [regs_z, List.map_eq_nil_iff] at hys
    subst hys
    have hBx : Blk W bx 3 [.int .i64 0] := hB (bx, 3, [.int .i64 (((([] : List Rg).length : Nat)) : Int)]) (by simp)
    have hbb : ¬ b = bx := by have := H6.out.2.2.2.2.2; omega
    have PBW := H6.out.2.1.turned ht hbb
    have hz6 := H6.out.2.2.1.size
    have hbxw : w.heap.size ≤ bx := by have := H6.out.2.2.2.2.2; omega
    have BW : Below w.heap.size w W := H6.out.2.2.1.trans (ht.below w.heap.size hz6 (fun k e => by rw [e]; exact hbxw))
    have q0 := blk_at PBW 0
    have q1 := blk_at PBW 1
    have q2 := blk_at PBW 2
    have q3 := blk_at PBW 3
    have q4 := blk_at PBW 4
    simp only [List.getElem?_cons_zero, List.getElem?_cons_succ] at q0 q1 q2 q3 q4
    have hDl := (Array.getElem?_eq_some_iff.1 hdf).1
    have F : Hid _ := And.intro BW (And.intro hdf (And.intro hD (And.intro hbxw (And.intro hz6 (And.intro hBx hDl)))))
    clear BW hdf hD hbxw hz6 hB ht hsq hBx PBW hDl
    go_wp2_with fail
    refine (Calls.mono (same_wr _)) ?_
    rintro e x7 ⟨rfl, b7⟩
    have B7 := F.out.2.2.2.2.2.1.laterB b7
    have c9 := blk_at B7 0
    simp only [List.getElem?_cons_zero] at c9
    have G : Hid _ := And.intro (below_then F.out.1 b7) (And.intro ((b7.block D F.out.2.2.2.2.2.2).trans F.out.2.1) (Nat.lt_of_lt_of_le F.out.2.2.2.2.2.2 b7.size))
    clear b7 B7
    go_wp2_with fail
    refine (Calls.mono (may_nil _)) ?_
    rintro e _ ⟨rfl, rfl⟩
    go_wp2_with fail
    refine (Calls.mono (key_nil _)) ?_
    rintro e _ ⟨rfl, rfl⟩
    go_wp2_with fail
    refine (Calls.mono (gen_nil _)) ?_
    rintro e _ ⟨rfl, rfl⟩
    go_wp2_with fail
    refine (Calls.mono (fen_nil _)) ?_
    rintro e _ ⟨rfl, rfl⟩
    go_wp2_with fail
    refine (Calls.mono (byt_nil _)) ?_
    rintro e _ ⟨rfl, rfl⟩
    go_wp2_with fail
    refine (Calls.mono (cop_nil _)) ?_
    rintro e _ ⟨rfl, rfl⟩
    go_wp2_with fail
    refine (Calls.mono (known13_any _)) ?_
    rintro e x8 ⟨rfl, b8⟩
    have J : Hid _ := And.intro (below_then G.out.1 b8) ((b8.block D G.out.2.2).trans G.out.2.1)
    clear b8
    go_wp2_with fail
    refine ⟨by simp, .inl ⟨_, _, rfl, run_takeDeferred J.out.2, ?_⟩⟩
    exact ⟨_, results_tmp rfl _ _ _, rfl, J.out.1.trans (belowK_b (w := w) (Nat.le_refl _) x8 D _ _ (Nat.le_trans F.out.2.2.2.2.1 F.out.2.2.1) J.out.2 rfl rfl)⟩
  case stop =>
    rintro D c pre W _ _ h _
    exact h.elim
end Go.Proofs.Ytjokohjdpickoaa

