/- Whether an entry can be, by the document. -/
import Derived.Test.YtmcljbpemninlaaEp1
namespace Go.Proofs.Ytmcljbpemninlaa
open Go.RowKit
set_option linter.unusedVariables false
set_option maxRecDepth 4000

set_option maxHeartbeats 400000 in
theorem can9_any (n : Int) (w : World) :
    Calls Try.prog 56 #[.int .i64 n] w fun e w' => e = .returned (.bool (numB n)) ∧ w = w' := by
  have HB : Hid (numB n = decide (0 ≤ n ∧ n ≤ 1099511627776)) := rfl
  by_cases c1 : 0 ≤ n
  · obtain ⟨M, hM⟩ : ∃ M : Int, M = 1099511627776 := ⟨_, rfl⟩
    go_enter Try.func56, Try.ntmps56
    go_wp2
    go_ret
    exact ⟨ret_bool (by rw [HB.out]; first | (refine decide_eq_decide.2 ?_; omega) | (refine (decide_eq_true ?_).symm; omega)), rfl⟩
  · go_enter Try.func56, Try.ntmps56
    go_wp2
    go_ret
    exact ⟨ret_bool (by rw [HB.out]; first | (refine decide_eq_decide.2 ?_; omega) | (refine (decide_eq_false ?_).symm; omega)), rfl⟩
set_option maxHeartbeats 400000 in
theorem mask9_any (n : Int) (w : World) :
    Calls Try.prog 57 #[.int .i64 n] w fun e w' => e = .returned (.bool (maskB n)) ∧ w = w' := by
  have HB : Hid (maskB n = decide (1 ≤ n ∧ n ≤ 31)) := rfl
  by_cases c1 : 1 ≤ n
  · go_enter Try.func57, Try.ntmps57
    go_wp2
    go_ret
    exact ⟨ret_bool (by rw [HB.out]; first | (refine decide_eq_decide.2 ?_; omega) | (refine (decide_eq_true ?_).symm; omega)), rfl⟩
  · go_enter Try.func57, Try.ntmps57
    go_wp2
    go_ret
    exact ⟨ret_bool (by rw [HB.out]; first | (refine decide_eq_decide.2 ?_; omega) | (refine (decide_eq_false ?_).symm; omega)), rfl⟩
set_option maxHeartbeats 2000000 in
theorem right9_any (k t : Int) (l : List (BitVec 8)) (x : Option Addr) (c : Nat) (w : World) (hr : Row w x l) (hlen : l.length ≤ 140737488355328) :
    Calls Try.prog 25 #[.agg #[.int .i64 k, .int .i64 t, .slice x l.length c]] w fun e w' => e = .returned (.bool (canE (k, t, l))) ∧ Below w.heap.size w w' := by
  have b1 := box3_below w (.int .i64 k) (.int .i64 t) (.slice x l.length c) 24
  obtain ⟨c0, c1, c2⟩ := box3_cells w (.int .i64 k) (.int .i64 t) (.slice x l.length c) 24
  have r1 := hr.later b1
  have F : Hid _ := b1
  have hnum : Hid (numB t = decide (0 ≤ t ∧ t ≤ 1099511627776)) := rfl
  obtain ⟨R, hR⟩ : ∃ R, R = canE (k, t, l) := ⟨_, rfl⟩
  rw [← hR]
  unfold canE at hR
  simp only at hR
  clear b1 hr
  by_cases k0 : k < 0
  · have HR : Hid (R = false) := (by rw [hR, decide_eq_false (p := k = 0 ∨ k = 1) (by omega), decide_eq_false (p := k = 2) (by omega)]; simp : R = false)
    clear hR r1
    go_enter Try.func25, Try.ntmps25
    go_wp2
    go_ret
    exact ⟨ret_bool HR.out.symm, F.out⟩
  · by_cases k3 : 2 < k
    · have HR : Hid (R = false) := (by rw [hR, decide_eq_false (p := k = 0 ∨ k = 1) (by omega), decide_eq_false (p := k = 2) (by omega)]; simp : R = false)
      clear hR r1
      go_enter Try.func25, Try.ntmps25
      go_wp2
      go_ret
      exact ⟨ret_bool HR.out.symm, F.out⟩
    · by_cases t1 : t < 1
      · have HR : Hid (R = false) := by rw [hR, decide_eq_false (p := 1 ≤ t ∧ t ≤ 1099511627776) (by omega)]; rfl
        clear hR r1
        go_enter Try.func25, Try.ntmps25
        go_wp2
        go_ret
        exact ⟨ret_bool HR.out.symm, F.out⟩
      · by_cases t2 : 1099511627776 < t
        · have HR : Hid (R = false) := by rw [hR, decide_eq_false (p := 1 ≤ t ∧ t ≤ 1099511627776) (by omega)]; rfl
          have q : numB t = false := hnum.out.trans (decide_eq_false (by omega))
          have HC : Hid _ := can9_any t
          rw [q] at HC
          clear hR r1 t2 q
          go_enter Try.func25, Try.ntmps25
          go_wp2_with fail
          refine (HC.out _).mono ?_
          rintro e w2 ⟨rfl, rfl⟩
          go_wp2
          go_ret
          exact ⟨ret_bool HR.out.symm, F.out⟩
        · have q : numB t = true := hnum.out.trans (decide_eq_true (by omega))
          have HC : Hid _ := can9_any t
          rw [q] at HC
          rw [decide_eq_true (p := 1 ≤ t ∧ t ≤ 1099511627776) (by omega)] at hR
          clear t2 q
          by_cases l1 : 4080 < l.length
          · have HR : Hid (R = false) := by rw [hR, decide_eq_false (p := l.length ≤ 4080) (by omega)]; rfl
            have q2 : decide ((l.length : Int) > 4080) = true := decide_eq_true (by omega)
            clear hR r1
            generalize (l.length : Int) = L at *
            go_enter Try.func25, Try.ntmps25
            go_wp2_with fail
            refine (HC.out _).mono ?_
            rintro e w2 ⟨rfl, rfl⟩
            go_wp2
            go_ret
            exact ⟨ret_bool HR.out.symm, F.out⟩
          · have q2 : decide ((l.length : Int) > 4080) = false := decide_eq_false (by omega)
            rw [decide_eq_true (p := l.length ≤ 4080) (by omega)] at hR
            by_cases k2 : k = 2
            · subst k2
              by_cases l2 : l.length = 1
              · have HR : Hid (R = maskB (bt l 0)) := by rw [hR, decide_eq_true l2]; exact (by simp : (true && true && (decide ((2 : Int) = 0 ∨ (2 : Int) = 1) || decide ((2 : Int) = 2) && (true && maskB (bt l 0)))) = maskB (bt l 0))
                obtain ⟨b, off, rfl, hc⟩ : ∃ b off, x = some ⟨b, off, none⟩ ∧ ∀ i, i < l.length → (w.alloc (.cells #[.int .i64 2, .int .i64 t, .slice x l.length c] 24)).cell? ⟨b, off + i, none⟩ = some (.int .u8 (bt l i)) := by
                  rcases r1 with e | h
                  · rw [e] at l2; simp at l2
                  · exact h
                have d0 := hc 0 (by omega)
                rw [Nat.add_zero] at d0
                have hb := bt_bd l 0
                rw [l2] at c2 d0 F c0 c1 q2 ⊢
                generalize bt l 0 = B at *
                clear hR hc hlen l1 l2 k0 k3
                go_enter Try.func25, Try.ntmps25
                go_wp2_with fail
                refine (HC.out _).mono ?_
                rintro e w2 ⟨rfl, rfl⟩
                go_wp2_with (go_at_call 57; refine (mask9_any B _).mono ?_; rintro e w' ⟨rfl, rfl⟩)
                go_ret
                exact ⟨ret_bool HR.out.symm, F.out⟩
              · have HR : Hid (R = false) := by rw [hR, decide_eq_false l2]; exact (by simp : (true && true && (decide ((2 : Int) = 0 ∨ (2 : Int) = 1) || decide ((2 : Int) = 2) && (false && maskB (bt l 0)))) = false)
                have q3 : ((l.length : Int) == 1) = false := by rw [beq_eq_false_iff_ne]; omega
                have q4 : ¬ (l.length : Int) = 1 := by omega
                clear hR r1 l2 hlen l1
                go_enter Try.func25, Try.ntmps25
                go_wp2_with fail
                refine (HC.out _).mono ?_
                rintro e w2 ⟨rfl, rfl⟩
                go_wp2
                go_ret
                exact ⟨ret_bool HR.out.symm, F.out⟩
            · have HR : Hid (R = true) := by rw [hR, decide_eq_true (p := k = 0 ∨ k = 1) (by omega)]; rfl
              have q3 : (k == 2) = false := by rw [beq_eq_false_iff_ne]; exact k2
              clear hR r1
              generalize (l.length : Int) = L at *
              go_enter Try.func25, Try.ntmps25
              go_wp2_with fail
              refine (HC.out _).mono ?_
              rintro e w2 ⟨rfl, rfl⟩
              go_wp2
              go_ret
              exact ⟨ret_bool HR.out.symm, F.out⟩
end Go.Proofs.Ytmcljbpemninlaa
