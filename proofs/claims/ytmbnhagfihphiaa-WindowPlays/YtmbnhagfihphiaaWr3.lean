/- The document's window: a command comes by its number. -/
import Derived.Test.YtmbnhagfihphiaaWr2
namespace Go.Proofs.Ytmbnhagfihphiaa
open Go.RowKit
set_option linter.unusedVariables false
set_option linter.unusedSimpArgs false
set_option maxRecDepth 8000

theorem gap_wrap (x y : BitVec 32) : ((y.toNat : Int) - (x.toNat : Int)) % 4294967296 = gap x y := rfl
theorem gap_conv (x y : BitVec 32) : IntKind.i64.wrap (gap x y) = gap x y := by have := gap_bd x y; rw [IntKind.wrap_i64] <;> omega

set_option maxHeartbeats 2000000 in
theorem rnCome_no (g : Nat) (p : Wq) (m : Wn) (n : BitVec 32) (id : Int) (w : World) (h : (rn g p m).Ok w) (hw : m.Wf) (h0 : (m.room n && !m.has n) = false) :
    Calls Try.prog 11 #[.pointer (some ⟨g, 0, none⟩), .int .u32 (n.toNat : Int), .bool false, .int .i64 id] w fun e w' => e = .returned (.int .i64 5) ∧ Below w.heap.size w w' := by
  obtain ⟨hn, hv, wv, hB, hH, -⟩ := h.holds
  have c0 := blk_at hB 0
  have c1 := blk_at hB 1
  have c2 := blk_at hB 2
  simp only [List.getElem?_cons_succ, List.getElem?_cons_zero] at c0 c1 c2
  have HF : Hid _ := And.intro h (show m.held.length ≤ 20000 by have := hw.few; omega)
  have e1 : ((m.size - m.busy : Nat) : Int) = (m.size : Int) - m.busy := by have := hw.room; omega
  have q3 : -9223372036854775808 ≤ (m.size : Int) - m.busy ∧ (m.size : Int) - m.busy ≤ 9223372036854775807 := by have := hw.room; have := hw.most; omega
  have eh := ixI_has m n
  have er : m.room n = decide (gap m.exp n < (m.size : Int) - m.busy) := by unfold Wn.room; rw [e1]
  have gb := gap_bd m.exp n
  have eg : ((n.toNat : Int) - (m.exp.toNat : Int)) % 4294967296 = gap m.exp n := rfl
  have HG : Hid _ := eg
  clear hB hn hH h hw e1 eg
  by_cases hr : m.room n = true
  · have hh : m.has n = true := by rw [hr] at h0; simpa using h0
    rw [hr] at er
    rw [hh] at eh
    have d0 := of_decide_eq_true er.symm
    have d2 : 0 ≤ ixI m.held n := of_decide_eq_true eh
    clear er eh hr hh h0 gb HG
    have HC : Hid _ := And.intro c0 (And.intro c1 c2)
    clear c0 c1 c2
    go_enter Try.func11, Try.ntmps11
    go_wp2_with fail
    refine wp_region_held_drew (S := fun W => Below w.heap.size w W) (by kernel_rfl) ((Below.refl _ _).drew) (fun hS => ?_)
    refine any_take (i := 0) (v := ?_) rfl (by kernel_rfl) (by kernel_rfl) (by kernel_rfl) (by exact fun _ _ _ h => h) (by rfl) ?_ hS ?_
    rotate_left
    · ((intro W hSw; have c0 := cell_later hSw HC.out.1; have c1 := cell_later hSw HC.out.2.1; have c2 := cell_later hSw HC.out.2.2; clear hSw; go_simp) <;> with_reducible rfl)
    (try simp only [Act.put, List.setIfInBounds_toArray, List.set_cons_zero, List.set_cons_succ])
    refine any_take (i := 1) (v := ?_) rfl (by kernel_rfl) (by kernel_rfl) (by kernel_rfl) (by exact fun _ _ _ h => h) (by rfl) ?_ hS ?_
    rotate_left
    · ((intro W hSw; have c0 := cell_later hSw HC.out.1; have c1 := cell_later hSw HC.out.2.1; have c2 := cell_later hSw HC.out.2.2; clear hSw; go_simp) <;> with_reducible rfl)
    (try simp only [Act.put, List.setIfInBounds_toArray, List.set_cons_zero, List.set_cons_succ])
    refine any_take (i := 2) (v := ?_) rfl (by kernel_rfl) (by kernel_rfl) (by kernel_rfl) (by exact fun _ _ _ h => h) (by rfl) ?_ hS ?_
    rotate_left
    · ((intro W hSw; have c0 := cell_later hSw HC.out.1; have c1 := cell_later hSw HC.out.2.1; have c2 := cell_later hSw HC.out.2.2; clear hSw; go_simp) <;> with_reducible rfl)
    (try simp only [Act.put, List.setIfInBounds_toArray, List.set_cons_zero, List.set_cons_succ])
    refine any_take (i := 3) (v := ?_) rfl (by kernel_rfl) (by kernel_rfl) (by kernel_rfl) (by exact fun _ _ _ h => h) (by rfl) ?_ hS ?_
    rotate_left
    · ((intro W hSw; have c0 := cell_later hSw HC.out.1; have c1 := cell_later hSw HC.out.2.1; have c2 := cell_later hSw HC.out.2.2; clear hSw; go_simp) <;> with_reducible rfl)
    (try simp only [Act.put, List.setIfInBounds_toArray, List.set_cons_zero, List.set_cons_succ])
    refine any_take (i := 4) (v := ?_) rfl (by kernel_rfl) (by kernel_rfl) (by kernel_rfl) (by exact fun _ _ _ h => h) (by rfl) ?_ hS ?_
    rotate_left
    · ((intro W hSw; have c0 := cell_later hSw HC.out.1; have c1 := cell_later hSw HC.out.2.1; have c2 := cell_later hSw HC.out.2.2; clear hSw; go_simp) <;> with_reducible rfl)
    (try simp only [Act.put, List.setIfInBounds_toArray, List.set_cons_zero, List.set_cons_succ])
    refine any_take (i := 5) (v := .int .u32 (gap m.exp n)) rfl (by kernel_rfl) (by kernel_rfl) (by kernel_rfl) (by exact fun _ _ _ h => h) (by rfl) ?_ hS ?_
    · intro W hSw; have c0 := cell_later hSw HC.out.1; have c1 := cell_later hSw HC.out.2.1; have c2 := cell_later hSw HC.out.2.2; clear hSw; go_simp <;> (first | rfl | exact gap_wrap _ _)
    (try simp only [Act.put, List.setIfInBounds_toArray, List.set_cons_zero, List.set_cons_succ])
    refine any_take (i := 6) (v := .int .i64 (gap m.exp n)) rfl (by kernel_rfl) (by kernel_rfl) (by kernel_rfl) (by exact fun _ _ _ h => h) (by rfl) ?_ hS ?_
    · intro W hSw; have c0 := cell_later hSw HC.out.1; have c1 := cell_later hSw HC.out.2.1; have c2 := cell_later hSw HC.out.2.2; clear hSw; go_simp <;> (exact gap_conv _ _)
    (try simp only [Act.put, List.setIfInBounds_toArray, List.set_cons_zero, List.set_cons_succ])
    refine any_take (i := 7) (v := ?_) rfl (by kernel_rfl) (by kernel_rfl) (by kernel_rfl) (by exact fun _ _ _ h => h) (by rfl) ?_ hS ?_
    rotate_left
    · ((intro W hSw; have c0 := cell_later hSw HC.out.1; have c1 := cell_later hSw HC.out.2.1; have c2 := cell_later hSw HC.out.2.2; clear hSw; go_simp) <;> with_reducible rfl)
    (try simp only [Act.put, List.setIfInBounds_toArray, List.set_cons_zero, List.set_cons_succ])
    refine any_take (i := 8) (v := ?_) rfl (by kernel_rfl) (by kernel_rfl) (by kernel_rfl) (by exact fun _ _ _ h => h) (by rfl) ?_ hS ?_
    rotate_left
    · ((intro W hSw; have c0 := cell_later hSw HC.out.1; have c1 := cell_later hSw HC.out.2.1; have c2 := cell_later hSw HC.out.2.2; clear hSw; go_simp) <;> with_reducible rfl)
    (try simp only [Act.put, List.setIfInBounds_toArray, List.set_cons_zero, List.set_cons_succ])
    refine any_take (i := 9) (v := ?_) rfl (by kernel_rfl) (by kernel_rfl) (by kernel_rfl) (by exact fun _ _ _ h => h) (by rfl) ?_ hS ?_
    rotate_left
    · ((intro W hSw; have c0 := cell_later hSw HC.out.1; have c1 := cell_later hSw HC.out.2.1; have c2 := cell_later hSw HC.out.2.2; clear hSw; go_simp) <;> with_reducible rfl)
    (try simp only [Act.put, List.setIfInBounds_toArray, List.set_cons_zero, List.set_cons_succ])
    refine any_take (i := 10) (v := ?_) rfl (by kernel_rfl) (by kernel_rfl) (by kernel_rfl) (by exact fun _ _ _ h => h) (by rfl) ?_ hS ?_
    rotate_left
    · ((intro W hSw; have c0 := cell_later hSw HC.out.1; have c1 := cell_later hSw HC.out.2.1; have c2 := cell_later hSw HC.out.2.2; clear hSw; go_simp) <;> with_reducible rfl)
    (try simp only [Act.put, List.setIfInBounds_toArray, List.set_cons_zero, List.set_cons_succ])
    refine any_take (i := 11) (v := ?_) rfl (by kernel_rfl) (by kernel_rfl) (by kernel_rfl) (by exact fun _ _ _ h => h) (by rfl) ?_ hS ?_
    rotate_left
    · ((intro W hSw; have c0 := cell_later hSw HC.out.1; have c1 := cell_later hSw HC.out.2.1; have c2 := cell_later hSw HC.out.2.2; clear hSw; go_simp) <;> with_reducible rfl)
    (try simp only [Act.put, List.setIfInBounds_toArray, List.set_cons_zero, List.set_cons_succ])
    refine any_take (i := 12) (v := ?_) rfl (by kernel_rfl) (by kernel_rfl) (by kernel_rfl) (by exact fun _ _ _ h => h) (by rfl) ?_ hS ?_
    rotate_left
    · ((intro W hSw; have c0 := cell_later hSw HC.out.1; have c1 := cell_later hSw HC.out.2.1; have c2 := cell_later hSw HC.out.2.2; clear hSw; go_simp) <;> with_reducible rfl)
    (try simp only [Act.put, List.setIfInBounds_toArray, List.set_cons_zero, List.set_cons_succ])
    refine any_take (i := 13) (v := ?_) rfl (by kernel_rfl) (by kernel_rfl) (by kernel_rfl) (by exact fun _ _ _ h => h) (by rfl) ?_ hS ?_
    rotate_left
    · ((intro W hSw; have c0 := cell_later hSw HC.out.1; have c1 := cell_later hSw HC.out.2.1; have c2 := cell_later hSw HC.out.2.2; clear hSw; go_simp) <;> with_reducible rfl)
    (try simp only [Act.put, List.setIfInBounds_toArray, List.set_cons_zero, List.set_cons_succ])
    refine any_take (i := 14) (v := ?_) rfl (by kernel_rfl) (by kernel_rfl) (by kernel_rfl) (by exact fun _ _ _ h => h) (by rfl) ?_ hS ?_
    rotate_left
    · ((intro W hSw; have c0 := cell_later hSw HC.out.1; have c1 := cell_later hSw HC.out.2.1; have c2 := cell_later hSw HC.out.2.2; clear hSw; go_simp) <;> with_reducible rfl)
    (try simp only [Act.put, List.setIfInBounds_toArray, List.set_cons_zero, List.set_cons_succ])
    refine any_take (i := 15) (v := .int .i64 ((m.size : Int) - m.busy)) rfl (by kernel_rfl) (by kernel_rfl) (by kernel_rfl) (by exact fun _ _ _ h => h) (by rfl) ?_ hS ?_
    · intro W hSw; have c0 := cell_later hSw HC.out.1; have c1 := cell_later hSw HC.out.2.1; have c2 := cell_later hSw HC.out.2.2; clear hSw; go_simp <;> (rw [IntKind.wrap_i64] <;> omega)
    (try simp only [Act.put, List.setIfInBounds_toArray, List.set_cons_zero, List.set_cons_succ])
    refine any_take (i := 16) (v := .bool false) rfl (by kernel_rfl) (by kernel_rfl) (by kernel_rfl) (by exact fun _ _ _ h => h) (by rfl) ?_ hS ?_
    · intro W hSw; have c0 := cell_later hSw HC.out.1; have c1 := cell_later hSw HC.out.2.1; have c2 := cell_later hSw HC.out.2.2; clear hSw; go_simp <;> (first | (rw [decide_eq_false (by omega)]) | (simp; omega))
    (try simp only [Act.put, List.setIfInBounds_toArray, List.set_cons_zero, List.set_cons_succ])
    refine any_take (i := 17) (v := ?_) rfl (by kernel_rfl) (by kernel_rfl) (by kernel_rfl) (by exact fun _ _ _ h => h) (by rfl) ?_ hS ?_
    rotate_left
    · ((intro W hSw; have c0 := cell_later hSw HC.out.1; have c1 := cell_later hSw HC.out.2.1; have c2 := cell_later hSw HC.out.2.2; clear hSw; go_simp) <;> with_reducible rfl)
    (try simp only [Act.put, List.setIfInBounds_toArray, List.set_cons_zero, List.set_cons_succ])
    refine any_take (i := 18) (v := ?_) rfl (by kernel_rfl) (by kernel_rfl) (by kernel_rfl) (by exact fun _ _ _ h => h) (by rfl) ?_ hS ?_
    rotate_left
    · ((intro W hSw; have c0 := cell_later hSw HC.out.1; have c1 := cell_later hSw HC.out.2.1; have c2 := cell_later hSw HC.out.2.2; clear hSw; go_simp) <;> with_reducible rfl)
    (try simp only [Act.put, List.setIfInBounds_toArray, List.set_cons_zero, List.set_cons_succ])
    refine any_take (i := 19) (v := ?_) rfl (by kernel_rfl) (by kernel_rfl) (by kernel_rfl) (by exact fun _ _ _ h => h) (by rfl) ?_ hS ?_
    rotate_left
    · ((intro W hSw; have c0 := cell_later hSw HC.out.1; have c1 := cell_later hSw HC.out.2.1; have c2 := cell_later hSw HC.out.2.2; clear hSw; go_simp) <;> with_reducible rfl)
    (try simp only [Act.put, List.setIfInBounds_toArray, List.set_cons_zero, List.set_cons_succ])
    refine any_one (i := 20) rfl (by kernel_rfl) (fun K hK => ?_)
    go_simp
    refine (Calls.mono (rnFind_any g p m n _ (HF.out.1.later hS) HF.out.2)) ?_
    rintro e _ ⟨rfl, rfl⟩
    go_wp2_with fail
    refine hK.out _ _ (hS) ?_
    clear hK K
    refine any_take (i := 21) (v := .bool true) rfl (by kernel_rfl) (by kernel_rfl) (by kernel_rfl) (by exact fun _ _ _ h => h) (by rfl) ?_ hS ?_
    · intro W hSw; have c0 := cell_later hSw HC.out.1; have c1 := cell_later hSw HC.out.2.1; have c2 := cell_later hSw HC.out.2.2; clear hSw; go_simp <;> (first | (rw [decide_eq_true (by omega)]) | (simp; omega))
    (try simp only [Act.put, List.setIfInBounds_toArray, List.set_cons_zero, List.set_cons_succ])
    refine any_take (i := 22) (v := ?_) rfl (by kernel_rfl) (by kernel_rfl) (by kernel_rfl) (by exact fun _ _ _ h => h) (by rfl) ?_ hS ?_
    rotate_left
    · ((intro W hSw; have c0 := cell_later hSw HC.out.1; have c1 := cell_later hSw HC.out.2.1; have c2 := cell_later hSw HC.out.2.2; clear hSw; go_simp) <;> with_reducible rfl)
    (try simp only [Act.put, List.setIfInBounds_toArray, List.set_cons_zero, List.set_cons_succ])
    refine wpAnyH_done (by kernel_rfl) ?_ _
    have FS : Hid _ := hS
    clear hS
    go_wp2
    go_ret
    exact ⟨rfl, FS.out⟩
  · have hr' : m.room n = false := by simpa using hr
    rw [hr'] at er
    have d0 := of_decide_eq_false er.symm
    clear er eh hr hr' h0 gb HG
    have HC : Hid _ := And.intro c0 (And.intro c1 c2)
    clear c0 c1 c2
    go_enter Try.func11, Try.ntmps11
    go_wp2_with fail
    refine wp_region_held_drew (S := fun W => Below w.heap.size w W) (by kernel_rfl) ((Below.refl _ _).drew) (fun hS => ?_)
    refine any_take (i := 0) (v := ?_) rfl (by kernel_rfl) (by kernel_rfl) (by kernel_rfl) (by exact fun _ _ _ h => h) (by rfl) ?_ hS ?_
    rotate_left
    · ((intro W hSw; have c0 := cell_later hSw HC.out.1; have c1 := cell_later hSw HC.out.2.1; have c2 := cell_later hSw HC.out.2.2; clear hSw; go_simp) <;> with_reducible rfl)
    (try simp only [Act.put, List.setIfInBounds_toArray, List.set_cons_zero, List.set_cons_succ])
    refine any_take (i := 1) (v := ?_) rfl (by kernel_rfl) (by kernel_rfl) (by kernel_rfl) (by exact fun _ _ _ h => h) (by rfl) ?_ hS ?_
    rotate_left
    · ((intro W hSw; have c0 := cell_later hSw HC.out.1; have c1 := cell_later hSw HC.out.2.1; have c2 := cell_later hSw HC.out.2.2; clear hSw; go_simp) <;> with_reducible rfl)
    (try simp only [Act.put, List.setIfInBounds_toArray, List.set_cons_zero, List.set_cons_succ])
    refine any_take (i := 2) (v := ?_) rfl (by kernel_rfl) (by kernel_rfl) (by kernel_rfl) (by exact fun _ _ _ h => h) (by rfl) ?_ hS ?_
    rotate_left
    · ((intro W hSw; have c0 := cell_later hSw HC.out.1; have c1 := cell_later hSw HC.out.2.1; have c2 := cell_later hSw HC.out.2.2; clear hSw; go_simp) <;> with_reducible rfl)
    (try simp only [Act.put, List.setIfInBounds_toArray, List.set_cons_zero, List.set_cons_succ])
    refine any_take (i := 3) (v := ?_) rfl (by kernel_rfl) (by kernel_rfl) (by kernel_rfl) (by exact fun _ _ _ h => h) (by rfl) ?_ hS ?_
    rotate_left
    · ((intro W hSw; have c0 := cell_later hSw HC.out.1; have c1 := cell_later hSw HC.out.2.1; have c2 := cell_later hSw HC.out.2.2; clear hSw; go_simp) <;> with_reducible rfl)
    (try simp only [Act.put, List.setIfInBounds_toArray, List.set_cons_zero, List.set_cons_succ])
    refine any_take (i := 4) (v := ?_) rfl (by kernel_rfl) (by kernel_rfl) (by kernel_rfl) (by exact fun _ _ _ h => h) (by rfl) ?_ hS ?_
    rotate_left
    · ((intro W hSw; have c0 := cell_later hSw HC.out.1; have c1 := cell_later hSw HC.out.2.1; have c2 := cell_later hSw HC.out.2.2; clear hSw; go_simp) <;> with_reducible rfl)
    (try simp only [Act.put, List.setIfInBounds_toArray, List.set_cons_zero, List.set_cons_succ])
    refine any_take (i := 5) (v := .int .u32 (gap m.exp n)) rfl (by kernel_rfl) (by kernel_rfl) (by kernel_rfl) (by exact fun _ _ _ h => h) (by rfl) ?_ hS ?_
    · intro W hSw; have c0 := cell_later hSw HC.out.1; have c1 := cell_later hSw HC.out.2.1; have c2 := cell_later hSw HC.out.2.2; clear hSw; go_simp <;> (first | rfl | exact gap_wrap _ _)
    (try simp only [Act.put, List.setIfInBounds_toArray, List.set_cons_zero, List.set_cons_succ])
    refine any_take (i := 6) (v := .int .i64 (gap m.exp n)) rfl (by kernel_rfl) (by kernel_rfl) (by kernel_rfl) (by exact fun _ _ _ h => h) (by rfl) ?_ hS ?_
    · intro W hSw; have c0 := cell_later hSw HC.out.1; have c1 := cell_later hSw HC.out.2.1; have c2 := cell_later hSw HC.out.2.2; clear hSw; go_simp <;> (exact gap_conv _ _)
    (try simp only [Act.put, List.setIfInBounds_toArray, List.set_cons_zero, List.set_cons_succ])
    refine any_take (i := 7) (v := ?_) rfl (by kernel_rfl) (by kernel_rfl) (by kernel_rfl) (by exact fun _ _ _ h => h) (by rfl) ?_ hS ?_
    rotate_left
    · ((intro W hSw; have c0 := cell_later hSw HC.out.1; have c1 := cell_later hSw HC.out.2.1; have c2 := cell_later hSw HC.out.2.2; clear hSw; go_simp) <;> with_reducible rfl)
    (try simp only [Act.put, List.setIfInBounds_toArray, List.set_cons_zero, List.set_cons_succ])
    refine any_take (i := 8) (v := ?_) rfl (by kernel_rfl) (by kernel_rfl) (by kernel_rfl) (by exact fun _ _ _ h => h) (by rfl) ?_ hS ?_
    rotate_left
    · ((intro W hSw; have c0 := cell_later hSw HC.out.1; have c1 := cell_later hSw HC.out.2.1; have c2 := cell_later hSw HC.out.2.2; clear hSw; go_simp) <;> with_reducible rfl)
    (try simp only [Act.put, List.setIfInBounds_toArray, List.set_cons_zero, List.set_cons_succ])
    refine any_take (i := 9) (v := ?_) rfl (by kernel_rfl) (by kernel_rfl) (by kernel_rfl) (by exact fun _ _ _ h => h) (by rfl) ?_ hS ?_
    rotate_left
    · ((intro W hSw; have c0 := cell_later hSw HC.out.1; have c1 := cell_later hSw HC.out.2.1; have c2 := cell_later hSw HC.out.2.2; clear hSw; go_simp) <;> with_reducible rfl)
    (try simp only [Act.put, List.setIfInBounds_toArray, List.set_cons_zero, List.set_cons_succ])
    refine any_take (i := 10) (v := ?_) rfl (by kernel_rfl) (by kernel_rfl) (by kernel_rfl) (by exact fun _ _ _ h => h) (by rfl) ?_ hS ?_
    rotate_left
    · ((intro W hSw; have c0 := cell_later hSw HC.out.1; have c1 := cell_later hSw HC.out.2.1; have c2 := cell_later hSw HC.out.2.2; clear hSw; go_simp) <;> with_reducible rfl)
    (try simp only [Act.put, List.setIfInBounds_toArray, List.set_cons_zero, List.set_cons_succ])
    refine any_take (i := 11) (v := ?_) rfl (by kernel_rfl) (by kernel_rfl) (by kernel_rfl) (by exact fun _ _ _ h => h) (by rfl) ?_ hS ?_
    rotate_left
    · ((intro W hSw; have c0 := cell_later hSw HC.out.1; have c1 := cell_later hSw HC.out.2.1; have c2 := cell_later hSw HC.out.2.2; clear hSw; go_simp) <;> with_reducible rfl)
    (try simp only [Act.put, List.setIfInBounds_toArray, List.set_cons_zero, List.set_cons_succ])
    refine any_take (i := 12) (v := ?_) rfl (by kernel_rfl) (by kernel_rfl) (by kernel_rfl) (by exact fun _ _ _ h => h) (by rfl) ?_ hS ?_
    rotate_left
    · ((intro W hSw; have c0 := cell_later hSw HC.out.1; have c1 := cell_later hSw HC.out.2.1; have c2 := cell_later hSw HC.out.2.2; clear hSw; go_simp) <;> with_reducible rfl)
    (try simp only [Act.put, List.setIfInBounds_toArray, List.set_cons_zero, List.set_cons_succ])
    refine any_take (i := 13) (v := ?_) rfl (by kernel_rfl) (by kernel_rfl) (by kernel_rfl) (by exact fun _ _ _ h => h) (by rfl) ?_ hS ?_
    rotate_left
    · ((intro W hSw; have c0 := cell_later hSw HC.out.1; have c1 := cell_later hSw HC.out.2.1; have c2 := cell_later hSw HC.out.2.2; clear hSw; go_simp) <;> with_reducible rfl)
    (try simp only [Act.put, List.setIfInBounds_toArray, List.set_cons_zero, List.set_cons_succ])
    refine any_take (i := 14) (v := ?_) rfl (by kernel_rfl) (by kernel_rfl) (by kernel_rfl) (by exact fun _ _ _ h => h) (by rfl) ?_ hS ?_
    rotate_left
    · ((intro W hSw; have c0 := cell_later hSw HC.out.1; have c1 := cell_later hSw HC.out.2.1; have c2 := cell_later hSw HC.out.2.2; clear hSw; go_simp) <;> with_reducible rfl)
    (try simp only [Act.put, List.setIfInBounds_toArray, List.set_cons_zero, List.set_cons_succ])
    refine any_take (i := 15) (v := .int .i64 ((m.size : Int) - m.busy)) rfl (by kernel_rfl) (by kernel_rfl) (by kernel_rfl) (by exact fun _ _ _ h => h) (by rfl) ?_ hS ?_
    · intro W hSw; have c0 := cell_later hSw HC.out.1; have c1 := cell_later hSw HC.out.2.1; have c2 := cell_later hSw HC.out.2.2; clear hSw; go_simp <;> (rw [IntKind.wrap_i64] <;> omega)
    (try simp only [Act.put, List.setIfInBounds_toArray, List.set_cons_zero, List.set_cons_succ])
    refine any_take (i := 16) (v := .bool true) rfl (by kernel_rfl) (by kernel_rfl) (by kernel_rfl) (by exact fun _ _ _ h => h) (by rfl) ?_ hS ?_
    · intro W hSw; have c0 := cell_later hSw HC.out.1; have c1 := cell_later hSw HC.out.2.1; have c2 := cell_later hSw HC.out.2.2; clear hSw; go_simp <;> (first | (rw [decide_eq_true (by omega)]) | (simp; omega))
    (try simp only [Act.put, List.setIfInBounds_toArray, List.set_cons_zero, List.set_cons_succ])
    refine any_take (i := 17) (v := ?_) rfl (by kernel_rfl) (by kernel_rfl) (by kernel_rfl) (by exact fun _ _ _ h => h) (by rfl) ?_ hS ?_
    rotate_left
    · ((intro W hSw; have c0 := cell_later hSw HC.out.1; have c1 := cell_later hSw HC.out.2.1; have c2 := cell_later hSw HC.out.2.2; clear hSw; go_simp) <;> with_reducible rfl)
    (try simp only [Act.put, List.setIfInBounds_toArray, List.set_cons_zero, List.set_cons_succ])
    refine any_skip (i := 18) rfl (by kernel_rfl) (by kernel_rfl) (by kernel_rfl) (by exact fun _ _ _ h => h) (by rfl) hS ?_
    (try simp only [Act.put, List.setIfInBounds_toArray, List.set_cons_zero, List.set_cons_succ])
    refine any_skip (i := 19) rfl (by kernel_rfl) (by kernel_rfl) (by kernel_rfl) (by exact fun _ _ _ h => h) (by rfl) hS ?_
    (try simp only [Act.put, List.setIfInBounds_toArray, List.set_cons_zero, List.set_cons_succ])
    refine any_skip (i := 20) rfl (by kernel_rfl) (by kernel_rfl) (by kernel_rfl) (by exact fun _ _ _ h => h) (by rfl) hS ?_
    (try simp only [Act.put, List.setIfInBounds_toArray, List.set_cons_zero, List.set_cons_succ])
    refine any_skip (i := 21) rfl (by kernel_rfl) (by kernel_rfl) (by kernel_rfl) (by exact fun _ _ _ h => h) (by rfl) hS ?_
    (try simp only [Act.put, List.setIfInBounds_toArray, List.set_cons_zero, List.set_cons_succ])
    refine any_take (i := 22) (v := ?_) rfl (by kernel_rfl) (by kernel_rfl) (by kernel_rfl) (by exact fun _ _ _ h => h) (by rfl) ?_ hS ?_
    rotate_left
    · ((intro W hSw; have c0 := cell_later hSw HC.out.1; have c1 := cell_later hSw HC.out.2.1; have c2 := cell_later hSw HC.out.2.2; clear hSw; go_simp) <;> with_reducible rfl)
    (try simp only [Act.put, List.setIfInBounds_toArray, List.set_cons_zero, List.set_cons_succ])
    refine wpAnyH_done (by kernel_rfl) ?_ _
    have FS : Hid _ := hS
    clear hS
    go_wp2
    go_ret
    exact ⟨rfl, FS.out⟩
/-- amid the loop -/
structure RrI (w : World) (g : Nat) (p : Wq) (m : Wn) (wr : World) (p' : Wq) (mr : Wn) (lr : List Cm) : Prop where
  st : Step w wr (rn g p m) (rn g p' (mr.waits lr))
  nn : ∀ c ∈ mr.held, c.2.1 = false
  ord : Wn.ord mr.held.length mr lr = Wn.ord m.held.length m []
  bz : mr.busy + mr.held.length = m.busy + m.held.length
  ln : lr.length + mr.held.length = m.held.length
  wt : mr.wait = m.wait
theorem rr_round {w wr : World} {g : Nat} {p p' : Wq} {m mr : Wn} {lr : List Cm} (H : RrI w g p m wr p' mr lr) (k : Nat) (hk : k < mr.held.length) (hix : ix mr.held mr.exp = some k) (hm : m.held.length + m.wait.length ≤ 20000) :
    ∃ b off cap wv a1 n1 c1 w2, Blk wr g 38 [.int .u32 (mr.exp.toNat : Int), .int .i64 mr.size, .int .i64 mr.busy, .slice (some ⟨b, off, none⟩) mr.held.length cap, wv] ∧ mr.held.length ≤ cap ∧ (∃ aw nw cw, wv = .slice aw nw cw) ∧ wr.cell? ⟨b, off + k * 2 + 1, none⟩ = some (.int .i64 mr.held[k].2.2) ∧
      (Builtin.append_ #[36, 36] 36 #[wv, .slice (some ⟨wr.heap.size, 0, none⟩) 1 1]).run Try.prog (wr.drew.alloc (.cells #[.int .i64 mr.held[k].2.2, .bool false] 59)) = .ok (.slice a1 n1 c1) w2 ∧
      Blk w2 g 38 [.int .u32 (mr.exp.toNat : Int), .int .i64 mr.size, .int .i64 mr.busy, .slice (some ⟨b, off, none⟩) mr.held.length cap, wv] ∧ w2.cell? ⟨b, off + k * 2 + 1, none⟩ = some (.int .i64 mr.held[k].2.2) ∧
      ∃ a4 n4 c4 w4, (Builtin.append_ #[35, 35] 35 #[.slice none 0 0, .slice (some ⟨b, off, none⟩) k cap]).run Try.prog (w2.setCell ⟨g, 4, none⟩ (.slice a1 n1 c1)) = .ok (.slice a4 n4 c4) w4 ∧
        w4.cell? ⟨g, 3, none⟩ = some (.slice (some ⟨b, off, none⟩) mr.held.length cap) ∧
        ∀ ad, (ad = ⟨b, off + (k + 1) * 2, none⟩ ∨ (k + 1 = cap ∧ ad = ⟨b, off, none⟩)) → ∃ a5 n5 c5 w5 p6, (Builtin.append_ #[35, 35] 35 #[.slice a4 n4 c4, .slice (some ad) (mr.held.length - (k + 1)) (cap - (k + 1))]).run Try.prog w4 = .ok (.slice a5 n5 c5) w5 ∧
          Blk w5 g 38 [.int .u32 (mr.exp.toNat : Int), .int .i64 mr.size, .int .i64 mr.busy, .slice (some ⟨b, off, none⟩) mr.held.length cap, .slice a1 n1 c1] ∧ n5 + 1 = mr.held.length ∧
          RrI w g p m (((w5.setCell ⟨g, 3, none⟩ (.slice a5 n5 c5)).setCell ⟨g, 2, none⟩ (.int .i64 ((mr.busy : Int) + 1))).setCell ⟨g, 0, none⟩ (.int .u32 (((mr.exp.toNat : Int) + 1) % 4294967296))) p6 (mr.pull k) (lr ++ [mr.held[k]]) := by
  obtain ⟨hv, wv, A, -⟩ := rn_put H.st.ok
  have hA : GSl kHeld wr hv p'.1 mr.held := A.held
  have hAB : Blk wr g 38 [.int .u32 (mr.exp.toNat : Int), .int .i64 mr.size, .int .i64 mr.busy, hv, wv] := A.blk
  have hT : GSl kTold wr wv p'.2 (mr.wait ++ lr) := A.wait
  obtain ⟨ah, cap, e, hcap, -, hcs⟩ := hA.cell kHeld_ok
  obtain ⟨b, off, ea, hq, hc⟩ := hcs k hk
  subst ea
  subst e
  obtain ⟨aw, cw, ew, -, -, -⟩ := hT.cell kTold_ok
  have hid : wr.cell? ⟨b, off + k * 2 + 1, none⟩ = some (.int .i64 mr.held[k].2.2) := hc 1 (by simp [kHeld])
  have hnn := H.nn mr.held[k] (List.getElem_mem _)
  have hlr := H.ln
  have bn : Below wr.heap.size wr (wr.drew.alloc (.cells #[.int .i64 mr.held[k].2.2, .bool false] 59)) := ((Below.refl _ _).drew).alloc (Nat.le_refl _) _
  have s1 := H.st.trans (Step.quiet H.st.ok bn)
  have hx1 : GAt kTold (wr.drew.alloc (.cells #[.int .i64 mr.held[k].2.2, .bool false] 59)) (.slice (some ⟨wr.heap.size, 0, none⟩) 1 1) [mr.held[k]] := new_one kTold_ok wr.drew mr.held[k] [.int .i64 mr.held[k].2.2, .bool false] (by simp [kTold, hnn])
  have ewl : (mr.waits lr).wait = mr.wait ++ lr := rfl
  obtain ⟨hv1, wv1, a1, n1, c1, w2, p2, A1, hr1, hg1, B2, hp2, s2⟩ := rn_tell (m' := mr.waits (lr ++ [mr.held[k]])) s1.ok hx1 (by rw [ewl, List.length_append, H.wt]; omega) rfl rfl rfl rfl (by show mr.wait ++ (lr ++ [mr.held[k]]) = mr.wait ++ lr ++ [mr.held[k]]; rw [List.append_assoc])
  have e4 : hv1 = .slice (some ⟨b, off, none⟩) mr.held.length cap ∧ wv1 = wv := by
    have h1 := A1.blk
    have h2 := hAB.laterB bn
    unfold Blk at h1 h2
    rw [h1] at h2
    simp at h2
    exact h2.2.2.2
  obtain ⟨rfl, rfl⟩ := e4
  have B2' : Blk w2 g 38 [.int .u32 (mr.exp.toNat : Int), .int .i64 mr.size, .int .i64 mr.busy, .slice (some ⟨b, off, none⟩) mr.held.length cap, wv1] := B2
  have ap1 := s1.ok.holds.1
  have hid2 : w2.cell? ⟨b, off + k * 2 + 1, none⟩ = some (.int .i64 mr.held[k].2.2) := by
    have h2 : GSl kHeld w2 (.slice (some ⟨b, off, none⟩) mr.held.length cap) p'.1 mr.held := (show GSl kHeld _ _ p'.1 mr.held from A1.held).same (fun i hi => hg1.block i ((show GSl kHeld _ _ p'.1 mr.held from A1.held).lt i hi) (fun e => ap1.c i hi e.symm))
    obtain ⟨ah, c9, e, -, -, hcs9⟩ := h2.cell kHeld_ok
    cases e
    obtain ⟨b9, off9, ea, -, hc9⟩ := hcs9 k hk
    cases ea
    exact hc9 1 (by simp [kHeld])
  refine ⟨b, off, cap, wv1, a1, n1, c1, w2, hAB, hcap, ⟨aw, _, cw, ew⟩, hid, hr1, B2', hid2, ?_⟩
  have s3 := s1.trans s2
  obtain ⟨hv3, wv3, A3, H3⟩ := rn_put s3.ok
  have B3 : Blk (w2.setCell ⟨g, 4, none⟩ (.slice a1 n1 c1)) g 38 [.int .u32 (mr.exp.toNat : Int), .int .i64 mr.size, .int .i64 mr.busy, .slice (some ⟨b, off, none⟩) mr.held.length cap, .slice a1 n1 c1] := B2'.set 4 _
  have e5 : hv3 = .slice (some ⟨b, off, none⟩) mr.held.length cap ∧ wv3 = .slice a1 n1 c1 := by
    have h1 := A3.blk
    have h2 := B3
    unfold Blk at h1 h2
    rw [h1] at h2
    simp at h2
    exact h2.2.2.2
  obtain ⟨rfl, rfl⟩ := e5
  generalize w2.setCell ⟨g, 4, none⟩ (.slice a1 n1 c1) = w3 at *
  have at3 : GAt kHeld w3 (.slice (some ⟨b, off, none⟩) mr.held.length cap) mr.held := GSl.at kHeld_ok A3.held
  obtain ⟨v4, w4, q4, hr4, ho4, hg4, hor4⟩ := (GSl.nil kHeld w3).append kHeld_ok (at3.front kHeld_ok rfl (Nat.le_of_lt hk)) (by rw [List.length_take]; simp; omega) 35
  obtain ⟨a4, c4, ev4, -, -, -⟩ := ho4.cell kHeld_ok
  subst ev4
  have b4 : Below w3.heap.size w3 w4 := grown_all hg4
  have at4 : GAt kHeld w4 (.slice (some ⟨b, off, none⟩) mr.held.length cap) mr.held := GSl.at kHeld_ok (GSl.later A3.held b4)
  refine ⟨a4, _, c4, w4, hr4, by rw [blk_at (B3.laterB b4)]; rfl, ?_⟩
  intro ad had
  have at5 : GAt kHeld w4 (.slice (some ad) (mr.held.length - (k + 1)) (cap - (k + 1))) (mr.held.drop (k + 1)) := by
    rcases had with rfl | ⟨e1, rfl⟩
    · exact at4.back kHeld_ok rfl hk
    · have e2 : mr.held.length = k + 1 := by omega
      have e3 : mr.held.drop (k + 1) = [] := List.drop_of_length_le (by omega)
      rw [e3, e2, Nat.sub_self]
      exact GAt.nothing _ _ _ _
  obtain ⟨v5, w5, q5, hr5, ho5, hg5, hor5⟩ := ho4.append kHeld_ok at5 (by rw [List.nil_append, List.length_take, List.length_drop]; omega) 35
  rw [List.nil_append, ← List.eraseIdx_eq_take_drop_succ] at ho5
  obtain ⟨a5, c5, ev5, -, -, -⟩ := ho5.cell kHeld_ok
  subst ev5
  have hle : (mr.held.eraseIdx k).length + 1 = mr.held.length := by rw [List.length_eraseIdx, if_pos hk]; omega
  have new4 : ∀ i, q4 = some i → w3.heap.size ≤ i := fun i hi => (hor4 i hi).elim (fun e => by cases e) (fun e => e)
  have new5 : ∀ i, q5 = some i → w3.heap.size ≤ i := fun i hi => (hor5 i hi).elim (new4 i) (fun e => Nat.le_trans b4.size e)
  have t5 : Turned (fun _ => False) w3 w5 := (turned_below b4).trans (turned_grown hg5 (fun i hi => .inr (new4 i hi)))
  have ap3 := s3.ok.holds.1
  have H5 : RnPut g p2 (q5, p2.2) (mr.waits (lr ++ [mr.held[k]])) w3 w5 (.slice (some ⟨b, off, none⟩) mr.held.length cap) (.slice a1 n1 c1) (.slice a5 (mr.held.eraseIdx k).length c5) (.slice a1 n1 c1) ((mr.pull k).waits (lr ++ [mr.held[k]])).held ((mr.pull k).waits (lr ++ [mr.held[k]])).wait :=
    ⟨s3.ok, A3.blk, t5.mono (fun _ h => h.elim), ho5, (show GSl kTold w3 _ p2.2 _ from A3.wait).turned t5 (fun _ _ h => h), fun i hi => .inr (new5 i hi), fun i hi => .inl hi, fun i h1 h2 => by
      have := (show GSl kTold w3 _ p2.2 _ from A3.wait).lt i h2
      have := new5 i h1
      omega⟩
  refine ⟨a5, _, c5, w5, (q5, p2.2), hr5, H5.blk5, hle, ?_⟩
  have e2 : (((mr.pull k).exp.toNat : Nat) : Int) = ((mr.exp.toNat : Int) + 1) % 4294967296 := by
    unfold Wn.pull
    simp only [BitVec.toNat_add, BitVec.toNat_ofNat]
    omega
  have e3 : (((mr.pull k).busy : Nat) : Int) = (mr.busy : Int) + 1 := by unfold Wn.pull; simp only; omega
  refine ⟨s3.trans (H5.done (m' := (mr.pull k).waits (lr ++ [mr.held[k]])) ?_ (grown_trans (grown_trans (grown_set _ g 3 _) (grown_set _ g 2 _)) (grown_set _ g 0 _))), fun c hc => H.nn c (List.mem_of_mem_eraseIdx hc), ?_, ?_, ?_, H.wt⟩
  · show Blk _ g _ [.int .u32 ((mr.pull k).exp.toNat : Int), .int .i64 (mr.pull k).size, .int .i64 (mr.pull k).busy, _, _]
    rw [e2, e3]
    exact ((H5.blk5.set 3 _).set 2 _).set 0 _
  · rw [← H.ord, ← hle, ord_go hix hk]; rfl
  · have := H.bz; show mr.busy + 1 + (mr.held.eraseIdx k).length = _; omega
  · show (lr ++ [mr.held[k]]).length + (mr.held.eraseIdx k).length = _; rw [List.length_append, List.length_singleton]; omega
theorem waits_nil (m : Wn) : m.waits [] = m := by unfold Wn.waits nowN; simp
theorem pull_exp (m : Wn) (k : Nat) : (((m.pull k).exp.toNat : Nat) : Int) = ((m.exp.toNat : Int) + 1) % 4294967296 := by
  unfold Wn.pull
  simp only [BitVec.toNat_add, BitVec.toNat_ofNat]
  omega
set_option maxHeartbeats 8000000 in
theorem rnCome_yes (g : Nat) (p : Wq) (m : Wn) (n : BitVec 32) (id : Int) (w : World) (h : (rn g p m).Ok w) (hw : m.Wf) (hf : ∀ c ∈ m.held, c.2.1 = false) (h0 : (m.room n && !m.has n) = true) :
    Calls Try.prog 11 #[.pointer (some ⟨g, 0, none⟩), .int .u32 (n.toNat : Int), .bool false, .int .i64 id] w fun e w' => e = .returned (.int .i64 0) ∧ ∃ p', Step w w' (rn g p m) (rn g p' (m.took (n, false, id))) := by
  obtain ⟨hn, hv, wv, hB, hH, -⟩ := h.holds
  have c0 := blk_at hB 0
  have c1 := blk_at hB 1
  have c2 := blk_at hB 2
  have c3 := blk_at hB 3
  simp only [List.getElem?_cons_succ, List.getElem?_cons_zero] at c0 c1 c2 c3
  have HF : Hid _ := And.intro h (show m.held.length ≤ 20000 by have := hw.few; omega)
  have e1 : ((m.size - m.busy : Nat) : Int) = (m.size : Int) - m.busy := by have := hw.room; omega
  have q3 : -9223372036854775808 ≤ (m.size : Int) - m.busy ∧ (m.size : Int) - m.busy ≤ 9223372036854775807 := by have := hw.room; have := hw.most; omega
  have eh := ixI_has m n
  have er : m.room n = decide (gap m.exp n < (m.size : Int) - m.busy) := by unfold Wn.room; rw [e1]
  simp only [Bool.and_eq_true, Bool.not_eq_true'] at h0
  rw [h0.1] at er
  rw [h0.2] at eh
  have d0 := of_decide_eq_true er.symm
  have d2 := of_decide_eq_false eh
  -- what is held then
  have bn : Below w.heap.size w (w.drew.alloc (.cells #[.int .u32 (n.toNat : Int), .int .i64 id] 62)) := ((Below.refl _ _).drew).alloc (Nat.le_refl _) _
  have s1 := Step.quiet h bn
  obtain ⟨hv1, wv1, a', n', c', w2, p3, A1, hr, B2, s2⟩ := rn_hold s1.ok (new_one kHeld_ok w.drew (n, false, id) [.int .u32 (n.toNat : Int), .int .i64 id] rfl) (by have := hw.few; omega)
  have e4 : hv1 = hv := by
    have h1 := A1.blk
    have h2 := hB.laterB bn
    unfold Blk at h1 h2
    rw [h1] at h2
    simp at h2
    exact h2.1
  subst e4
  obtain ⟨ah, ch, ev, -, -, -⟩ := hH.cell kHeld_ok
  subst ev
  have t3 := blk_at B2 3
  have f3 := blk_frozen B2 3
  have B3 := B2.set 3 (.slice a' n' c')
  simp only [List.set_cons_succ, List.set_cons_zero] at B3
  have t0 := blk_at B3 0
  simp only [List.getElem?_cons_succ, List.getElem?_cons_zero] at t3 t0
  have s3 := s1.trans s2
  have I3 : RrI (w2.setCell ⟨g, 3, none⟩ (.slice a' n' c')) g p3 (m.hold (n, false, id)) (w2.setCell ⟨g, 3, none⟩ (.slice a' n' c')) p3 (m.hold (n, false, id)) [] :=
    ⟨by rw [waits_nil]; exact Step.refl s3.ok, (fun c hc => by
      rcases List.mem_append.1 (show c ∈ m.held ++ [(n, false, id)] from hc) with hc | hc
      · exact hf c hc
      · rw [List.mem_singleton.1 hc]), rfl, rfl, by simp, rfl⟩
  have hfew := hw.few
  have e9 : (m.hold (n, false, id)).held.length = m.held.length + 1 := by simp [Wn.hold]
  have HQ : Hid _ := rnFind_any g p3 (m.hold (n, false, id)) m.exp _ s3.ok (by rw [e9]; omega)
  have HR : Hid _ := And.intro hr (And.intro s3 I3)
  have hm20 : (m.hold (n, false, id)).held.length + (m.hold (n, false, id)).wait.length ≤ 20000 := by rw [e9]; show m.held.length + 1 + m.wait.length ≤ 20000; omega
  have HM20 : Hid _ := And.intro hm20 (And.intro (show (m.hold (n, false, id)).busy ≤ 64 from by have := hw.room; have := hw.most; show m.busy ≤ 64; omega) e9)
  clear hB hn hH h e1 er eh h0 bn s1 s2 hr A1 B2 s3 I3 hfew e9 hm20 hw hf B3
  have HC : Hid _ := And.intro c0 (And.intro c1 c2)
  clear c0 c1 c2
  go_enter Try.func11, Try.ntmps11
  go_wp2_with fail
  refine wp_region_held_drew (S := fun W => Below w.heap.size w W) (by kernel_rfl) ((Below.refl _ _).drew) (fun hS => ?_)
  refine any_take (i := 0) (v := ?_) rfl (by kernel_rfl) (by kernel_rfl) (by kernel_rfl) (by exact fun _ _ _ h => h) (by rfl) ?_ hS ?_
  rotate_left
  · ((intro W hSw; have c0 := cell_later hSw HC.out.1; have c1 := cell_later hSw HC.out.2.1; have c2 := cell_later hSw HC.out.2.2; clear hSw; go_simp) <;> with_reducible rfl)
  (try simp only [Act.put, List.setIfInBounds_toArray, List.set_cons_zero, List.set_cons_succ])
  refine any_take (i := 1) (v := ?_) rfl (by kernel_rfl) (by kernel_rfl) (by kernel_rfl) (by exact fun _ _ _ h => h) (by rfl) ?_ hS ?_
  rotate_left
  · ((intro W hSw; have c0 := cell_later hSw HC.out.1; have c1 := cell_later hSw HC.out.2.1; have c2 := cell_later hSw HC.out.2.2; clear hSw; go_simp) <;> with_reducible rfl)
  (try simp only [Act.put, List.setIfInBounds_toArray, List.set_cons_zero, List.set_cons_succ])
  refine any_take (i := 2) (v := ?_) rfl (by kernel_rfl) (by kernel_rfl) (by kernel_rfl) (by exact fun _ _ _ h => h) (by rfl) ?_ hS ?_
  rotate_left
  · ((intro W hSw; have c0 := cell_later hSw HC.out.1; have c1 := cell_later hSw HC.out.2.1; have c2 := cell_later hSw HC.out.2.2; clear hSw; go_simp) <;> with_reducible rfl)
  (try simp only [Act.put, List.setIfInBounds_toArray, List.set_cons_zero, List.set_cons_succ])
  refine any_take (i := 3) (v := ?_) rfl (by kernel_rfl) (by kernel_rfl) (by kernel_rfl) (by exact fun _ _ _ h => h) (by rfl) ?_ hS ?_
  rotate_left
  · ((intro W hSw; have c0 := cell_later hSw HC.out.1; have c1 := cell_later hSw HC.out.2.1; have c2 := cell_later hSw HC.out.2.2; clear hSw; go_simp) <;> with_reducible rfl)
  (try simp only [Act.put, List.setIfInBounds_toArray, List.set_cons_zero, List.set_cons_succ])
  refine any_take (i := 4) (v := ?_) rfl (by kernel_rfl) (by kernel_rfl) (by kernel_rfl) (by exact fun _ _ _ h => h) (by rfl) ?_ hS ?_
  rotate_left
  · ((intro W hSw; have c0 := cell_later hSw HC.out.1; have c1 := cell_later hSw HC.out.2.1; have c2 := cell_later hSw HC.out.2.2; clear hSw; go_simp) <;> with_reducible rfl)
  (try simp only [Act.put, List.setIfInBounds_toArray, List.set_cons_zero, List.set_cons_succ])
  refine any_take (i := 5) (v := .int .u32 (gap m.exp n)) rfl (by kernel_rfl) (by kernel_rfl) (by kernel_rfl) (by exact fun _ _ _ h => h) (by rfl) ?_ hS ?_
  · intro W hSw; have c0 := cell_later hSw HC.out.1; have c1 := cell_later hSw HC.out.2.1; have c2 := cell_later hSw HC.out.2.2; clear hSw; go_simp <;> (first | rfl | exact gap_wrap _ _)
  (try simp only [Act.put, List.setIfInBounds_toArray, List.set_cons_zero, List.set_cons_succ])
  refine any_take (i := 6) (v := .int .i64 (gap m.exp n)) rfl (by kernel_rfl) (by kernel_rfl) (by kernel_rfl) (by exact fun _ _ _ h => h) (by rfl) ?_ hS ?_
  · intro W hSw; have c0 := cell_later hSw HC.out.1; have c1 := cell_later hSw HC.out.2.1; have c2 := cell_later hSw HC.out.2.2; clear hSw; go_simp <;> (exact gap_conv _ _)
  (try simp only [Act.put, List.setIfInBounds_toArray, List.set_cons_zero, List.set_cons_succ])
  refine any_take (i := 7) (v := ?_) rfl (by kernel_rfl) (by kernel_rfl) (by kernel_rfl) (by exact fun _ _ _ h => h) (by rfl) ?_ hS ?_
  rotate_left
  · ((intro W hSw; have c0 := cell_later hSw HC.out.1; have c1 := cell_later hSw HC.out.2.1; have c2 := cell_later hSw HC.out.2.2; clear hSw; go_simp) <;> with_reducible rfl)
  (try simp only [Act.put, List.setIfInBounds_toArray, List.set_cons_zero, List.set_cons_succ])
  refine any_take (i := 8) (v := ?_) rfl (by kernel_rfl) (by kernel_rfl) (by kernel_rfl) (by exact fun _ _ _ h => h) (by rfl) ?_ hS ?_
  rotate_left
  · ((intro W hSw; have c0 := cell_later hSw HC.out.1; have c1 := cell_later hSw HC.out.2.1; have c2 := cell_later hSw HC.out.2.2; clear hSw; go_simp) <;> with_reducible rfl)
  (try simp only [Act.put, List.setIfInBounds_toArray, List.set_cons_zero, List.set_cons_succ])
  refine any_take (i := 9) (v := ?_) rfl (by kernel_rfl) (by kernel_rfl) (by kernel_rfl) (by exact fun _ _ _ h => h) (by rfl) ?_ hS ?_
  rotate_left
  · ((intro W hSw; have c0 := cell_later hSw HC.out.1; have c1 := cell_later hSw HC.out.2.1; have c2 := cell_later hSw HC.out.2.2; clear hSw; go_simp) <;> with_reducible rfl)
  (try simp only [Act.put, List.setIfInBounds_toArray, List.set_cons_zero, List.set_cons_succ])
  refine any_take (i := 10) (v := ?_) rfl (by kernel_rfl) (by kernel_rfl) (by kernel_rfl) (by exact fun _ _ _ h => h) (by rfl) ?_ hS ?_
  rotate_left
  · ((intro W hSw; have c0 := cell_later hSw HC.out.1; have c1 := cell_later hSw HC.out.2.1; have c2 := cell_later hSw HC.out.2.2; clear hSw; go_simp) <;> with_reducible rfl)
  (try simp only [Act.put, List.setIfInBounds_toArray, List.set_cons_zero, List.set_cons_succ])
  refine any_take (i := 11) (v := ?_) rfl (by kernel_rfl) (by kernel_rfl) (by kernel_rfl) (by exact fun _ _ _ h => h) (by rfl) ?_ hS ?_
  rotate_left
  · ((intro W hSw; have c0 := cell_later hSw HC.out.1; have c1 := cell_later hSw HC.out.2.1; have c2 := cell_later hSw HC.out.2.2; clear hSw; go_simp) <;> with_reducible rfl)
  (try simp only [Act.put, List.setIfInBounds_toArray, List.set_cons_zero, List.set_cons_succ])
  refine any_take (i := 12) (v := ?_) rfl (by kernel_rfl) (by kernel_rfl) (by kernel_rfl) (by exact fun _ _ _ h => h) (by rfl) ?_ hS ?_
  rotate_left
  · ((intro W hSw; have c0 := cell_later hSw HC.out.1; have c1 := cell_later hSw HC.out.2.1; have c2 := cell_later hSw HC.out.2.2; clear hSw; go_simp) <;> with_reducible rfl)
  (try simp only [Act.put, List.setIfInBounds_toArray, List.set_cons_zero, List.set_cons_succ])
  refine any_take (i := 13) (v := ?_) rfl (by kernel_rfl) (by kernel_rfl) (by kernel_rfl) (by exact fun _ _ _ h => h) (by rfl) ?_ hS ?_
  rotate_left
  · ((intro W hSw; have c0 := cell_later hSw HC.out.1; have c1 := cell_later hSw HC.out.2.1; have c2 := cell_later hSw HC.out.2.2; clear hSw; go_simp) <;> with_reducible rfl)
  (try simp only [Act.put, List.setIfInBounds_toArray, List.set_cons_zero, List.set_cons_succ])
  refine any_take (i := 14) (v := ?_) rfl (by kernel_rfl) (by kernel_rfl) (by kernel_rfl) (by exact fun _ _ _ h => h) (by rfl) ?_ hS ?_
  rotate_left
  · ((intro W hSw; have c0 := cell_later hSw HC.out.1; have c1 := cell_later hSw HC.out.2.1; have c2 := cell_later hSw HC.out.2.2; clear hSw; go_simp) <;> with_reducible rfl)
  (try simp only [Act.put, List.setIfInBounds_toArray, List.set_cons_zero, List.set_cons_succ])
  refine any_take (i := 15) (v := .int .i64 ((m.size : Int) - m.busy)) rfl (by kernel_rfl) (by kernel_rfl) (by kernel_rfl) (by exact fun _ _ _ h => h) (by rfl) ?_ hS ?_
  · intro W hSw; have c0 := cell_later hSw HC.out.1; have c1 := cell_later hSw HC.out.2.1; have c2 := cell_later hSw HC.out.2.2; clear hSw; go_simp <;> (rw [IntKind.wrap_i64] <;> omega)
  (try simp only [Act.put, List.setIfInBounds_toArray, List.set_cons_zero, List.set_cons_succ])
  refine any_take (i := 16) (v := .bool false) rfl (by kernel_rfl) (by kernel_rfl) (by kernel_rfl) (by exact fun _ _ _ h => h) (by rfl) ?_ hS ?_
  · intro W hSw; have c0 := cell_later hSw HC.out.1; have c1 := cell_later hSw HC.out.2.1; have c2 := cell_later hSw HC.out.2.2; clear hSw; go_simp <;> (first | (rw [decide_eq_false (by omega)]) | (simp; omega))
  (try simp only [Act.put, List.setIfInBounds_toArray, List.set_cons_zero, List.set_cons_succ])
  refine any_take (i := 17) (v := ?_) rfl (by kernel_rfl) (by kernel_rfl) (by kernel_rfl) (by exact fun _ _ _ h => h) (by rfl) ?_ hS ?_
  rotate_left
  · ((intro W hSw; have c0 := cell_later hSw HC.out.1; have c1 := cell_later hSw HC.out.2.1; have c2 := cell_later hSw HC.out.2.2; clear hSw; go_simp) <;> with_reducible rfl)
  (try simp only [Act.put, List.setIfInBounds_toArray, List.set_cons_zero, List.set_cons_succ])
  refine any_take (i := 18) (v := ?_) rfl (by kernel_rfl) (by kernel_rfl) (by kernel_rfl) (by exact fun _ _ _ h => h) (by rfl) ?_ hS ?_
  rotate_left
  · ((intro W hSw; have c0 := cell_later hSw HC.out.1; have c1 := cell_later hSw HC.out.2.1; have c2 := cell_later hSw HC.out.2.2; clear hSw; go_simp) <;> with_reducible rfl)
  (try simp only [Act.put, List.setIfInBounds_toArray, List.set_cons_zero, List.set_cons_succ])
  refine any_take (i := 19) (v := ?_) rfl (by kernel_rfl) (by kernel_rfl) (by kernel_rfl) (by exact fun _ _ _ h => h) (by rfl) ?_ hS ?_
  rotate_left
  · ((intro W hSw; have c0 := cell_later hSw HC.out.1; have c1 := cell_later hSw HC.out.2.1; have c2 := cell_later hSw HC.out.2.2; clear hSw; go_simp) <;> with_reducible rfl)
  (try simp only [Act.put, List.setIfInBounds_toArray, List.set_cons_zero, List.set_cons_succ])
  refine any_one (i := 20) rfl (by kernel_rfl) (fun K hK => ?_)
  go_simp
  refine (Calls.mono (rnFind_any g p m n _ (HF.out.1.later hS) HF.out.2)) ?_
  rintro e _ ⟨rfl, rfl⟩
  go_wp2_with fail
  refine hK.out _ _ (hS) ?_
  clear hK K
  refine any_take (i := 21) (v := .bool false) rfl (by kernel_rfl) (by kernel_rfl) (by kernel_rfl) (by exact fun _ _ _ h => h) (by rfl) ?_ hS ?_
  · intro W hSw; have c0 := cell_later hSw HC.out.1; have c1 := cell_later hSw HC.out.2.1; have c2 := cell_later hSw HC.out.2.2; clear hSw; go_simp <;> (first | (rw [decide_eq_false (by omega)]) | (simp; omega))
  (try simp only [Act.put, List.setIfInBounds_toArray, List.set_cons_zero, List.set_cons_succ])
  refine any_take (i := 22) (v := ?_) rfl (by kernel_rfl) (by kernel_rfl) (by kernel_rfl) (by exact fun _ _ _ h => h) (by rfl) ?_ hS ?_
  rotate_left
  · ((intro W hSw; have c0 := cell_later hSw HC.out.1; have c1 := cell_later hSw HC.out.2.1; have c2 := cell_later hSw HC.out.2.2; clear hSw; go_simp) <;> with_reducible rfl)
  (try simp only [Act.put, List.setIfInBounds_toArray, List.set_cons_zero, List.set_cons_succ])
  refine wpAnyH_done (by kernel_rfl) ?_ _
  clear hS HC HF d0 d2 q3
  go_wp2_with (at_builtin; refine wpList_run_app rfl _ _ 35 35 rfl _ _ rfl rfl HR.out.1 ?_)
  refine (Calls.mono HQ.out) ?_
  rintro e w' ⟨rfl, hw'⟩
  obtain rfl := hw'.symm
  clear hw' HQ
  go_wp2_with fail
  generalize w2.setCell ⟨g, 3, none⟩ (.slice a' n' c') = w3 at *
  go_loopw [11] (fun kv wr => ∃ p' mr lr, kv = .int .i64 (ixI mr.held mr.exp) ∧ RrI w3 g p3 (m.hold (n, false, id)) wr p' mr lr) (fun _ wr => lenV ((wr.cell? ⟨g, 3, none⟩).getD (.bool false)))
  case atStart => exact ⟨_, _, _, rfl, HR.out.2.2⟩
  case round =>
    obtain ⟨p', mr, lr, rfl, hI⟩ := hrel
    have HI : Hid _ := hI
    clear hI
    cases hx : ix mr.held mr.exp with
    | none =>
      have e1 : ixI mr.held mr.exp = -1 := by unfold ixI; rw [hx]
      rw [e1]
      have e2 := (ord_stop (l := lr) hx mr.held.length).symm.trans HI.out.ord
      have F : Step w wr (rn g p m) (rn g p' (m.took (n, false, id))) := by
        have : m.took (n, false, id) = mr.waits lr := by
          unfold Wn.took
          rw [← HM20.out.2.2, ← e2]
        rw [this]
        exact HR.out.2.1.trans HI.out.st
      have HFn : Hid _ := F
      clear F e1 e2 hx HI HR HM20
      go_wp2
      go_ret
      exact ⟨rfl, by first | exact ⟨_, HFn.out⟩ | exact ⟨p'.1, p'.2, HFn.out⟩⟩
    | some k =>
      have e1 : ixI mr.held mr.exp = k := by unfold ixI; rw [hx]
      rw [e1]
      obtain ⟨hk, -⟩ := ix_at hx
      obtain ⟨b, off, cap, wv5, a1, n1, c1, w5, B0, hcap, ⟨aw, nw, cw, rfl⟩, hid, hr1, B5, hid5, a4, n4, c4, w6, hr4, t36, hfin⟩ := rr_round HI.out k hk hx HM20.out.1
      generalize mr.held[k] = x at *
      have hln := HI.out.ln
      have hbz := HI.out.bz
      have hbz2 := HM20.out.2.1
      have hm1 := HM20.out.1
      have x3 := blk_at B0 3
      have x4 := blk_at B0 4
      have y3 := blk_at B5 3
      have y4 := blk_at B5 4
      have g4 := blk_frozen B5 4
      have B55 := B5.set 4 (.slice a1 n1 c1)
      simp only [List.set_cons_succ, List.set_cons_zero] at B55
      have z3 := blk_at B55 3
      simp only [List.getElem?_cons_succ, List.getElem?_cons_zero] at x3 x4 y3 y4 z3
      have bn : Below wr.heap.size wr (wr.drew.alloc (.cells #[.int .i64 x.2.2, .bool false] 59)) := ((Below.refl _ _).drew).alloc (Nat.le_refl _) _
      have v3 := cell_later bn x3
      have v4 := cell_later bn x4
      have vd := cell_later bn hid
      have q1 : (k : Int) < (mr.held.length : Int) := by omega
      have q2 : (0 : Int) ≤ (k : Int) := by omega
      have q4 : (k : Int) ≤ (cap : Int) := by omega
      have q5 : (k : Int) + 1 ≤ (mr.held.length : Int) := by omega
      have q6 : (mr.held.length : Int) ≤ (cap : Int) := by omega
      have q7 : (0 : Int) ≤ (k : Int) + 1 := by omega
      have q8 : (k : Int) + 1 ≤ (cap : Int) := by omega
      have q9 : -9223372036854775808 ≤ (mr.busy : Int) + 1 ∧ (mr.busy : Int) + 1 ≤ 9223372036854775807 := by omega
      have q10 : (k : Int) + 1 ≤ 9223372036854775807 := by omega
      have pe := pull_exp mr k
      have HX : Hid _ := And.intro hr1 (And.intro hr4 (And.intro hfin pe))
      have HL : Hid _ := And.intro HI.out (show m.held.length + 1 + m.wait.length ≤ 20000 by have := HM20.out.2.2; rw [← this]; exact hm1)
      have h20 : (mr.pull k).held.length ≤ 20000 := by show (mr.held.eraseIdx k).length ≤ 20000; rw [List.length_eraseIdx, if_pos hk]; have := HM20.out.2.2; omega
      have H20 : Hid _ := h20
      have H03 : Hid _ := x3
      clear hr1 hr4 hfin pe hln hbz hbz2 hm1 B0 B5 B55 HI HR HM20 hx e1 bn h20
      go_wp2_with fail
      refine e_begin (S := fun W => W.cell? ⟨g, 4, none⟩ = some (.slice aw nw cw) ∧ W.cell? ⟨g, 3, none⟩ = some (.slice (some ⟨b, off, none⟩) mr.held.length cap) ∧ W.cell? ⟨b, off + k * 2 + 1, none⟩ = some (.int .i64 x.2.2)) 18 (by kernel_rfl) (⟨x4, x3, hid⟩) (fun hS => ?_)
      refine e_take (i := 0) (v := ?_) [16, 17, 18] rfl (by kernel_rfl) (by kernel_rfl) (by kernel_rfl) (by kernel_rfl) (by exact fun _ _ _ h => h) (by rfl) ?_ hS ?_
      rotate_left
      · ((intro W hSw; obtain ⟨r4, r3, rb⟩ := hSw; go_simp) <;> with_reducible rfl)
      (try simp only [Act.put, List.setIfInBounds_toArray, List.set_cons_zero, List.set_cons_succ])
      refine e_take (i := 1) (v := ?_) [2, 3, 4, 15, 18] rfl (by kernel_rfl) (by kernel_rfl) (by kernel_rfl) (by kernel_rfl) (by exact fun _ _ _ h => h) (by rfl) ?_ hS ?_
      rotate_left
      · ((intro W hSw; obtain ⟨r4, r3, rb⟩ := hSw; go_simp) <;> with_reducible rfl)
      (try simp only [Act.put, List.setIfInBounds_toArray, List.set_cons_zero, List.set_cons_succ])
      refine e_take (i := 2) (v := ?_) [3, 4, 15, 18] rfl (by kernel_rfl) (by kernel_rfl) (by kernel_rfl) (by kernel_rfl) (by exact fun _ _ _ h => h) (by rfl) ?_ hS ?_
      rotate_left
      · ((intro W hSw; obtain ⟨r4, r3, rb⟩ := hSw; go_simp) <;> with_reducible rfl)
      (try simp only [Act.put, List.setIfInBounds_toArray, List.set_cons_zero, List.set_cons_succ])
      refine e_take (i := 3) (v := ?_) [4, 15, 18] rfl (by kernel_rfl) (by kernel_rfl) (by kernel_rfl) (by kernel_rfl) (by exact fun _ _ _ h => h) (by rfl) ?_ hS ?_
      rotate_left
      · ((intro W hSw; obtain ⟨r4, r3, rb⟩ := hSw; go_simp) <;> with_reducible rfl)
      (try simp only [Act.put, List.setIfInBounds_toArray, List.set_cons_zero, List.set_cons_succ])
      refine e_take (i := 4) (v := ?_) [15, 18] rfl (by kernel_rfl) (by kernel_rfl) (by kernel_rfl) (by kernel_rfl) (by exact fun _ _ _ h => h) (by rfl) ?_ hS ?_
      rotate_left
      · ((intro W hSw; obtain ⟨r4, r3, rb⟩ := hSw; go_simp) <;> with_reducible rfl)
      (try simp only [Act.put, List.setIfInBounds_toArray, List.set_cons_zero, List.set_cons_succ])
      refine e_take (i := 5) (v := ?_) [6, 7, 8, 10, 11, 12, 13, 14, 15, 18] rfl (by kernel_rfl) (by kernel_rfl) (by kernel_rfl) (by kernel_rfl) (by exact fun _ _ _ h => h) (by rfl) ?_ hS ?_
      rotate_left
      · ((intro W hSw; obtain ⟨r4, r3, rb⟩ := hSw; go_simp) <;> with_reducible rfl)
      (try simp only [Act.put, List.setIfInBounds_toArray, List.set_cons_zero, List.set_cons_succ])
      refine e_take (i := 6) (v := ?_) [7, 8, 10, 11, 12, 13, 14, 15, 18] rfl (by kernel_rfl) (by kernel_rfl) (by kernel_rfl) (by kernel_rfl) (by exact fun _ _ _ h => h) (by rfl) ?_ hS ?_
      rotate_left
      · ((intro W hSw; obtain ⟨r4, r3, rb⟩ := hSw; go_simp) <;> with_reducible rfl)
      (try simp only [Act.put, List.setIfInBounds_toArray, List.set_cons_zero, List.set_cons_succ])
      refine e_take (i := 7) (v := ?_) [8, 10, 11, 12, 13, 14, 15, 18] rfl (by kernel_rfl) (by kernel_rfl) (by kernel_rfl) (by kernel_rfl) (by exact fun _ _ _ h => h) (by rfl) ?_ hS ?_
      rotate_left
      · ((intro W hSw; obtain ⟨r4, r3, rb⟩ := hSw; go_simp) <;> with_reducible rfl)
      (try simp only [Act.put, List.setIfInBounds_toArray, List.set_cons_zero, List.set_cons_succ])
      refine e_take (i := 8) (v := ?_) [10, 11, 12, 13, 14, 15, 18] rfl (by kernel_rfl) (by kernel_rfl) (by kernel_rfl) (by kernel_rfl) (by exact fun _ _ _ h => h) (by rfl) ?_ hS ?_
      rotate_left
      · ((intro W hSw; obtain ⟨r4, r3, rb⟩ := hSw; go_simp) <;> with_reducible rfl)
      (try simp only [Act.put, List.setIfInBounds_toArray, List.set_cons_zero, List.set_cons_succ])
      refine e_take (i := 9) (v := ?_) [10, 11, 12, 13, 14, 15, 18] rfl (by kernel_rfl) (by kernel_rfl) (by kernel_rfl) (by kernel_rfl) (by exact fun _ _ _ h => h) (by rfl) ?_ hS ?_
      rotate_left
      · ((intro W hSw; obtain ⟨r4, r3, rb⟩ := hSw; go_simp) <;> with_reducible rfl)
      (try simp only [Act.put, List.setIfInBounds_toArray, List.set_cons_zero, List.set_cons_succ])
      refine e_take (i := 10) (v := ?_) [11, 12, 13, 14, 15, 18] rfl (by kernel_rfl) (by kernel_rfl) (by kernel_rfl) (by kernel_rfl) (by exact fun _ _ _ h => h) (by rfl) ?_ hS ?_
      rotate_left
      · ((intro W hSw; obtain ⟨r4, r3, rb⟩ := hSw; go_simp) <;> with_reducible rfl)
      (try simp only [Act.put, List.setIfInBounds_toArray, List.set_cons_zero, List.set_cons_succ])
      refine e_take (i := 11) (v := ?_) [12, 13, 14, 15, 18] rfl (by kernel_rfl) (by kernel_rfl) (by kernel_rfl) (by kernel_rfl) (by exact fun _ _ _ h => h) (by rfl) ?_ hS ?_
      rotate_left
      · ((intro W hSw; obtain ⟨r4, r3, rb⟩ := hSw; go_simp) <;> with_reducible rfl)
      (try simp only [Act.put, List.setIfInBounds_toArray, List.set_cons_zero, List.set_cons_succ])
      refine e_take (i := 12) (v := ?_) [13, 14, 15, 18] rfl (by kernel_rfl) (by kernel_rfl) (by kernel_rfl) (by kernel_rfl) (by exact fun _ _ _ h => h) (by rfl) ?_ hS ?_
      rotate_left
      · ((intro W hSw; obtain ⟨r4, r3, rb⟩ := hSw; go_simp) <;> with_reducible rfl)
      (try simp only [Act.put, List.setIfInBounds_toArray, List.set_cons_zero, List.set_cons_succ])
      refine e_take (i := 13) (v := ?_) [14, 15, 18] rfl (by kernel_rfl) (by kernel_rfl) (by kernel_rfl) (by kernel_rfl) (by exact fun _ _ _ h => h) (by rfl) ?_ hS ?_
      rotate_left
      · ((intro W hSw; obtain ⟨r4, r3, rb⟩ := hSw; go_simp) <;> with_reducible rfl)
      (try simp only [Act.put, List.setIfInBounds_toArray, List.set_cons_zero, List.set_cons_succ])
      refine e_one (i := 14) rfl (by kernel_rfl) (fun K hK => ?_)
      go_simp
      refine hK.out _ _ ⟨v4, v3, vd⟩ (fun hS => ?_)
      clear hK K
      refine e_one (i := 15) rfl (by kernel_rfl) (fun K hK => ?_)
      refine step_run_app rfl (.tmp 99) (.tmp 109) 36 36 rfl _ _ (by simp [Act.eval]) (by simp [Act.eval]) HX.out.1 ?_
      refine hK.out _ _ ⟨y4, y3, hid5⟩ (fun hS => ?_)
      clear hK K
      (try simp only [Act.put, List.setIfInBounds_toArray, List.set_cons_zero, List.set_cons_succ])
      refine e_take (i := 16) (v := ?_) [17, 18] rfl (by kernel_rfl) (by kernel_rfl) (by kernel_rfl) (by kernel_rfl) (by exact fun _ _ _ h => h) (by rfl) ?_ hS ?_
      rotate_left
      · ((intro W hSw; obtain ⟨r4, r3, rb⟩ := hSw; go_simp) <;> with_reducible rfl)
      (try simp only [Act.put, List.setIfInBounds_toArray, List.set_cons_zero, List.set_cons_succ])
      refine e_take (i := 17) (v := ?_) [18] rfl (by kernel_rfl) (by kernel_rfl) (by kernel_rfl) (by kernel_rfl) (by exact fun _ _ _ h => h) (by rfl) ?_ hS ?_
      rotate_left
      · ((intro W hSw; obtain ⟨r4, r3, rb⟩ := hSw; go_simp) <;> with_reducible rfl)
      (try simp only [Act.put, List.setIfInBounds_toArray, List.set_cons_zero, List.set_cons_succ])
      clear hS
      refine e_last (z := 18) rfl (by kernel_rfl) (fun K hK => ?_)
      go_simp
      refine hK.out _ _ ?_
      clear hK K
      refine e_done (by kernel_rfl) ?_ _
      by_cases hcc : k + 1 = cap
      · generalize mr.held.length = L at *
        obtain rfl : L = k + 1 := by omega
        subst hcc
        have q11 : (k : Int) ≤ (k : Int) + 1 := by omega
        clear q1 q4 q5 q6 q8
        obtain ⟨a5, n5, c5, w7, p6, hr5, B7, hn5, I7⟩ := HX.out.2.2.1 ⟨b, off, none⟩ (.inr ⟨rfl, rfl⟩)
        rw [Nat.sub_self] at hr5
        have o0 := blk_at B7 0
        have o2 := blk_at B7 2
        have o3 := blk_at B7 3
        have j0 := blk_frozen B7 0
        have j2 := blk_frozen B7 2
        have j3 := blk_frozen B7 3
        simp only [List.getElem?_cons_succ, List.getElem?_cons_zero] at o0 o2 o3
        have BF := ((B7.set 3 (.slice a5 n5 c5)).set 2 (.int .i64 ((mr.busy : Int) + 1))).set 0 (.int .u32 (((mr.exp.toNat : Int) + 1) % 4294967296))
        have l3 := blk_at BF 3
        have l0 := blk_at BF 0
        simp only [List.set_cons_succ, List.set_cons_zero, List.getElem?_cons_succ, List.getElem?_cons_zero] at l3 l0
        have HQ := rnFind_any g p6 _ (mr.pull k).exp _ I7.st.ok (show (mr.pull k).held.length ≤ 20000 from H20.out)
        rw [HX.out.2.2.2] at HQ
        have HQ7 : Hid _ := HQ
        have HM7 : Hid _ := (show lenV (((((w7.setCell ⟨g, 3, none⟩ (.slice a5 n5 c5)).setCell ⟨g, 2, none⟩ (.int .i64 ((mr.busy : Int) + 1))).setCell ⟨g, 0, none⟩ (.int .u32 (((mr.exp.toNat : Int) + 1) % 4294967296))).cell? ⟨g, 3, none⟩).getD (.bool false)) < lenV ((wr.cell? ⟨g, 3, none⟩).getD (.bool false)) from by rw [l3, H03.out]; first | (show n5 < mr.held.length; omega) | (show n5 < k + 1; omega))
        have I77 : Hid _ := I7
        have HR5 : Hid _ := hr5
        have HR4 : Hid _ := HX.out.2.1
        clear HQ I7 hr5 B7 BF HX HL l3 hn5 H20 H03 v3 v4 vd y3 y4 x3 x4 hid hid5 g4
        generalize (mr.exp.toNat : Int) = ez at *
        generalize (mr.busy : Int) = bz at *
        go_wp2_with (at_builtin; first | (refine wpList_run_app rfl _ _ 35 35 rfl _ _ rfl rfl HR4.out ?_; clear HR4) | (refine wpList_run_app rfl _ _ 35 35 rfl _ _ rfl rfl HR5.out ?_; clear HR5))
        refine (Calls.mono HQ7.out) ?_
        rintro e w' ⟨rfl, hw'⟩
        obtain rfl := hw'.symm
        clear hw' HQ7
        go_wp2
        go_roundw
        case rel => exact ⟨p6, mr.pull k, _, rfl, I77.out⟩
        case measure => exact HM7.out
      · obtain ⟨a5, n5, c5, w7, p6, hr5, B7, hn5, I7⟩ := HX.out.2.2.1 ⟨b, off + (k + 1) * 2, none⟩ (.inl rfl)
        have o0 := blk_at B7 0
        have o2 := blk_at B7 2
        have o3 := blk_at B7 3
        have j0 := blk_frozen B7 0
        have j2 := blk_frozen B7 2
        have j3 := blk_frozen B7 3
        simp only [List.getElem?_cons_succ, List.getElem?_cons_zero] at o0 o2 o3
        have BF := ((B7.set 3 (.slice a5 n5 c5)).set 2 (.int .i64 ((mr.busy : Int) + 1))).set 0 (.int .u32 (((mr.exp.toNat : Int) + 1) % 4294967296))
        have l3 := blk_at BF 3
        have l0 := blk_at BF 0
        simp only [List.set_cons_succ, List.set_cons_zero, List.getElem?_cons_succ, List.getElem?_cons_zero] at l3 l0
        have HQ := rnFind_any g p6 _ (mr.pull k).exp _ I7.st.ok (show (mr.pull k).held.length ≤ 20000 from H20.out)
        rw [HX.out.2.2.2] at HQ
        have HQ7 : Hid _ := HQ
        have HM7 : Hid _ := (show lenV (((((w7.setCell ⟨g, 3, none⟩ (.slice a5 n5 c5)).setCell ⟨g, 2, none⟩ (.int .i64 ((mr.busy : Int) + 1))).setCell ⟨g, 0, none⟩ (.int .u32 (((mr.exp.toNat : Int) + 1) % 4294967296))).cell? ⟨g, 3, none⟩).getD (.bool false)) < lenV ((wr.cell? ⟨g, 3, none⟩).getD (.bool false)) from by rw [l3, H03.out]; first | (show n5 < mr.held.length; omega) | (show n5 < k + 1; omega))
        have I77 : Hid _ := I7
        have HR5 : Hid _ := hr5
        have HR4 : Hid _ := HX.out.2.1
        clear HQ I7 hr5 B7 BF HX HL l3 hn5 H20 H03 v3 v4 vd y3 y4 x3 x4 hid hid5 g4
        generalize (mr.exp.toNat : Int) = ez at *
        generalize (mr.busy : Int) = bz at *
        go_wp2_with (at_builtin; first | (refine wpList_run_app rfl _ _ 35 35 rfl _ _ rfl rfl HR4.out ?_; clear HR4) | (refine wpList_run_app rfl _ _ 35 35 rfl _ _ rfl rfl HR5.out ?_; clear HR5))
        refine (Calls.mono HQ7.out) ?_
        rintro e w' ⟨rfl, hw'⟩
        obtain rfl := hw'.symm
        clear hw' HQ7
        go_wp2
        go_roundw
        case rel => exact ⟨p6, mr.pull k, _, rfl, I77.out⟩
        case measure => exact HM7.out
end Go.Proofs.Ytmbnhagfihphiaa
