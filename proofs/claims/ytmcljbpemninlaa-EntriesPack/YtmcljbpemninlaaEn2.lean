/- Entries that can be; a log of none; what stands at a place. -/
import Derived.Test.YtmcljbpemninlaaEn1
namespace Go.Proofs.Ytmcljbpemninlaa
open Go.RowKit
set_option linter.unusedVariables false
set_option maxRecDepth 4000

set_option maxHeartbeats 400000 in
theorem isNumber_any (n : Int) (w : World) :
    Calls Try.prog 68 #[.int .i64 n] w fun e w' => e = .returned (.bool (numB n)) ∧ w = w' := by
  have HB : Hid (numB n = decide (0 ≤ n ∧ n ≤ 1099511627776)) := rfl
  by_cases c1 : 0 ≤ n
  · obtain ⟨M, hM⟩ : ∃ M : Int, M = 1099511627776 := ⟨_, rfl⟩
    go_enter Try.func68, Try.ntmps68
    go_wp2
    go_ret
    exact ⟨ret_bool (by rw [HB.out]; first | (refine decide_eq_decide.2 ?_; omega) | (refine (decide_eq_true ?_).symm; omega)), rfl⟩
  · go_enter Try.func68, Try.ntmps68
    go_wp2
    go_ret
    exact ⟨ret_bool (by rw [HB.out]; first | (refine decide_eq_decide.2 ?_; omega) | (refine (decide_eq_false ?_).symm; omega)), rfl⟩
set_option maxHeartbeats 400000 in
theorem isMask_any (n : Int) (w : World) :
    Calls Try.prog 53 #[.int .i64 n] w fun e w' => e = .returned (.bool (maskB n)) ∧ w = w' := by
  have HB : Hid (maskB n = decide (1 ≤ n ∧ n ≤ 31)) := rfl
  by_cases c1 : 1 ≤ n
  · go_enter Try.func53, Try.ntmps53
    go_wp2
    go_ret
    exact ⟨ret_bool (by rw [HB.out]; first | (refine decide_eq_decide.2 ?_; omega) | (refine (decide_eq_true ?_).symm; omega)), rfl⟩
  · go_enter Try.func53, Try.ntmps53
    go_wp2
    go_ret
    exact ⟨ret_bool (by rw [HB.out]; first | (refine decide_eq_decide.2 ?_; omega) | (refine (decide_eq_false ?_).symm; omega)), rfl⟩

/-- an entry as a value -/
def entV (e : Ent) (x : Option Addr) (c : Nat) : Value := .agg #[.int .i64 e.1, .int .i64 e.2.1, .slice x e.2.2.length c]
theorem box3_below (w : World) (x y z : Value) (T : TypeId) : Below w.heap.size w (w.alloc (.cells #[x, y, z] T)) := (Below.refl _ _).alloc (Nat.le_refl _) _
theorem box3_cells (w : World) (x y z : Value) (T : TypeId) : (w.alloc (.cells #[x, y, z] T)).cell? ⟨w.heap.size, 0, none⟩ = some x ∧ (w.alloc (.cells #[x, y, z] T)).cell? ⟨w.heap.size, 1, none⟩ = some y ∧ (w.alloc (.cells #[x, y, z] T)).cell? ⟨w.heap.size, 2, none⟩ = some z := by
  have h : Blk (w.alloc (.cells #[x, y, z] T)) w.heap.size T [x, y, z] := Blk.new' w _ _
  have f := fun i hi => h.cell (by simp [maxLen]) i hi
  exact ⟨f 0 (by simp), f 1 (by simp), f 2 (by simp)⟩
set_option maxHeartbeats 1000000 in
theorem canBe9_any (k t : Int) (l : List (BitVec 8)) (x : Option Addr) (c : Nat) (w : World) (hr : Row w x l) (hlen : l.length ≤ 140737488355328) :
    Calls Try.prog 21 #[.agg #[.int .i64 k, .int .i64 t, .slice x l.length c]] w fun e w' => e = .returned (.bool (canE (k, t, l))) ∧ Below w.heap.size w w' := by
  have b1 := box3_below w (.int .i64 k) (.int .i64 t) (.slice x l.length c) 24
  obtain ⟨c0, c1, c2⟩ := box3_cells w (.int .i64 k) (.int .i64 t) (.slice x l.length c) 24
  have r1 := hr.later b1
  have F : Hid _ := b1
  obtain ⟨R, hR⟩ : ∃ R, R = canE (k, t, l) := ⟨_, rfl⟩
  rw [← hR]
  unfold canE at hR
  simp only at hR
  clear b1 hr
  by_cases t1 : t < 1
  · have HR : Hid (R = false) := by rw [hR, decide_eq_false (p := 1 ≤ t ∧ t ≤ 1099511627776) (by omega)]; rfl
    clear hR r1
    go_enter Try.func21, Try.ntmps21
    go_wp2
    go_ret
    exact ⟨ret_bool HR.out.symm, F.out⟩
  · by_cases t2 : 1099511627776 < t
    · have HR : Hid (R = false) := by rw [hR, decide_eq_false (p := 1 ≤ t ∧ t ≤ 1099511627776) (by omega)]; rfl
      have q : decide (t > 1099511627776) = true := decide_eq_true t2
      clear hR r1 t2
      go_enter Try.func21, Try.ntmps21
      go_wp2
      go_ret
      exact ⟨ret_bool HR.out.symm, F.out⟩
    · have q : decide (t > 1099511627776) = false := decide_eq_false t2
      rw [decide_eq_true (p := 1 ≤ t ∧ t ≤ 1099511627776) (by omega)] at hR
      clear t2
      by_cases l1 : 4080 < l.length
      · have HR : Hid (R = false) := by rw [hR, decide_eq_false (p := l.length ≤ 4080) (by omega)]; rfl
        have q2 : decide ((l.length : Int) > 4080) = true := decide_eq_true (by omega)
        clear hR r1
        generalize (l.length : Int) = L at *
        go_enter Try.func21, Try.ntmps21
        go_wp2
        go_ret
        exact ⟨ret_bool HR.out.symm, F.out⟩
      · have q2 : decide ((l.length : Int) > 4080) = false := decide_eq_false (by omega)
        rw [decide_eq_true (p := l.length ≤ 4080) (by omega)] at hR
        by_cases k0 : k = 0
        · subst k0
          have HR : Hid (R = true) := by rw [hR]; rfl
          clear hR r1
          generalize (l.length : Int) = L at *
          go_enter Try.func21, Try.ntmps21
          go_wp2
          go_ret
          exact ⟨ret_bool HR.out.symm, F.out⟩
        · by_cases k1 : k = 1
          · subst k1
            have HR : Hid (R = true) := by rw [hR]; rfl
            clear hR r1
            generalize (l.length : Int) = L at *
            go_enter Try.func21, Try.ntmps21
            go_wp2
            go_ret
            exact ⟨ret_bool HR.out.symm, F.out⟩
          · rw [decide_eq_false (p := k = 0 ∨ k = 1) (by omega)] at hR
            by_cases k2 : k = 2
            · subst k2
              by_cases l2 : l.length = 1
              · have HR : Hid (R = maskB (bt l 0)) := by rw [hR, decide_eq_true l2]; exact (by simp : (true && true && (false || decide ((2 : Int) = 2) && (true && maskB (bt l 0)))) = maskB (bt l 0))
                obtain ⟨b, off, rfl, hc⟩ : ∃ b off, x = some ⟨b, off, none⟩ ∧ ∀ i, i < l.length → (w.alloc (.cells #[.int .i64 2, .int .i64 t, .slice x l.length c] 24)).cell? ⟨b, off + i, none⟩ = some (.int .u8 (bt l i)) := by
                  rcases r1 with e | h
                  · rw [e] at l2; simp at l2
                  · exact h
                have d0 := hc 0 (by omega)
                rw [Nat.add_zero] at d0
                have hb := bt_bd l 0
                rw [l2] at c2 d0 F c0 c1 q2 ⊢
                generalize bt l 0 = B at *
                clear hR hc hlen l1 l2 k0 k1
                go_enter Try.func21, Try.ntmps21
                go_wp2_with (go_at_call 53; refine (isMask_any B _).mono ?_; rintro e w' ⟨rfl, rfl⟩)
                go_ret
                exact ⟨ret_bool HR.out.symm, F.out⟩
              · have HR : Hid (R = false) := by rw [hR, decide_eq_false l2]; rfl
                have q3 : ((l.length : Int) == 1) = false := by rw [beq_eq_false_iff_ne]; omega
                have q4 : ¬ (l.length : Int) = 1 := by omega
                clear hR r1 hlen l1
                go_enter Try.func21, Try.ntmps21
                go_wp2
                go_ret
                exact ⟨ret_bool HR.out.symm, F.out⟩
            · have HR : Hid (R = false) := by rw [hR, decide_eq_false k2]; rfl
              clear hR r1 hlen l1
              go_enter Try.func21, Try.ntmps21
              go_wp2
              go_ret
              exact ⟨ret_bool HR.out.symm, F.out⟩

set_option maxHeartbeats 1000000 in
theorem partOf_any (k t : Int) (l : List (BitVec 8)) (x : Option Addr) (c : Nat) (w : World) (hr : Row w x l) (hc : canE (k, t, l) = true) :
    Calls Try.prog 85 #[.agg #[.int .i64 k, .int .i64 t, .slice x l.length c]] w fun e w' => e = .returned (pv (k, t, l)) ∧ Below w.heap.size w w' := by
  have b1 := box3_below w (.int .i64 k) (.int .i64 t) (.slice x l.length c) 24
  obtain ⟨c0, c1, c2⟩ := box3_cells w (.int .i64 k) (.int .i64 t) (.slice x l.length c) 24
  have r1 := hr.later b1
  have hk := canE_kind hc
  simp only at hk
  by_cases k2 : k = 2
  · subst k2
    have l2 : l.length = 1 := by omega
    have HP : Hid (pv (2, t, l) = .iface 146 (.agg #[.int .i64 t, .int .i64 (bt l 0)])) := by exact (show pv (2, t, l) = _ from if_pos rfl)
    obtain ⟨b, off, rfl, hcc⟩ : ∃ b off, x = some ⟨b, off, none⟩ ∧ ∀ i, i < l.length → (w.alloc (.cells #[.int .i64 2, .int .i64 t, .slice x l.length c] 24)).cell? ⟨b, off + i, none⟩ = some (.int .u8 (bt l i)) := by
      rcases r1 with e | h
      · rw [e] at l2; simp at l2
      · exact h
    have d0 := hcc 0 (by omega)
    rw [Nat.add_zero] at d0
    have hb := bt_bd l 0
    rw [l2] at c2 d0 c0 c1 b1 ⊢
    generalize bt l 0 = B at *
    have F : Hid _ := b1.drew
    clear hcc hk l2 b1 hr hc
    go_enter Try.func85, Try.ntmps85
    go_wp2_with fail
    go_region
    go_wp2
    go_ret
    exact ⟨by rw [HP.out]; rfl, F.out⟩
  · have HP : Hid (pv (k, t, l) = .iface 148 (.agg #[.int .i64 k, .int .i64 t, .string (str l)])) := by exact (show pv (k, t, l) = _ from if_neg k2)
    have hs := r1.str l.length c rfl
    have F : Hid _ := b1
    clear r1 b1 hr hc
    go_enter Try.func85, Try.ntmps85
    go_wp2
    go_ret
    exact ⟨by rw [HP.out]; rfl, F.out⟩
end Go.Proofs.Ytmcljbpemninlaa
