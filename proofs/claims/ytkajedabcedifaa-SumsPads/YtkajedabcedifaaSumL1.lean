/- The walks of the laws on pads and on closed digests. -/
import Derived.Test.YtkajedabcedifaaSumW2
import Derived.Test.YtkajedabcedifaaWrap
namespace Go.Proofs.Ytkajedabcedifaa
open Go.RowKit

theorem pad_bounds (n : Int) : 0 ≤ padOf n ∧ padOf n < 4 := by unfold padOf; split <;> omega
theorem pad_full (n : Int) (h : ¬ n < 0) : (n + padOf n) % 4 = 0 := by unfold padOf; rw [if_neg h]; omega
theorem pad_again (n : Int) (h : ¬ n < 0) : padOf (n + padOf n) = 0 := by
  have h1 := pad_full n h
  have h2 := pad_bounds n
  unfold padOf at *
  rw [if_neg h] at *
  rw [if_neg (by omega)]; omega

set_option maxHeartbeats 400000 in
theorem sumsPads_walk (n : Int) (w : World) (hn : -9223372036854775808 ≤ n ∧ n ≤ 9223372036854775807) :
    Calls Try.prog 8 #[.int .i64 n] w fun e w' => e = .returned (.bool true) ∧ Below w.heap.size w w' := by
  obtain ⟨hn1, hn2⟩ := hn
  have hb := pad_bounds n
  by_cases h0 : n < 0
  · go_enter Try.func8, Try.ntmps8
    go_wp2_with (first | (go_at_call 18; refine (pad_any _ _).mono ?_; rintro e w' ⟨rfl, rfl⟩) | (go_at_call 23; refine (known_any _).mono ?_; rintro e w' ⟨rfl, hk⟩))
    go_ret
    exact ⟨rfl, by assumption⟩
  by_cases h1 : n > 1099511627776
  · go_enter Try.func8, Try.ntmps8
    go_wp2_with (first | (go_at_call 18; refine (pad_any _ _).mono ?_; rintro e w' ⟨rfl, rfl⟩) | (go_at_call 23; refine (known_any _).mono ?_; rintro e w' ⟨rfl, hk⟩))
    go_ret
    exact ⟨rfl, by assumption⟩
  · have hf := pad_full n h0
    have ha := pad_again n h0
    go_enter Try.func8, Try.ntmps8
    go_wp2_with (first | (go_at_call 18; refine (pad_any _ _).mono ?_; rintro e w' ⟨rfl, rfl⟩) | (go_at_call 23; refine (known_any _).mono ?_; rintro e w' ⟨rfl, hk⟩))
    go_ret
    exact ⟨rfl, by assumption⟩
end Go.Proofs.Ytkajedabcedifaa
