/- The walk of the law on lists that are added, one of them empty, and all ways together. -/
import Derived.Test.YtkajedabcedifaaSumL7
namespace Go.Proofs.Ytkajedabcedifaa
open Go.RowKit

theorem sum_none (a : Option Addr) (cap : Nat) (w : World) : Calls Try.prog 13 #[.slice a 0 cap] w fun e w' => e = .returned (.int .u32 0) ∧ w' = w :=
  sum_any a 0 cap [] w rfl (by decide) (.inl rfl)
theorem xor00 : bits .xor .u32 (0 : Int) 0 = 0 := by decide

set_option maxHeartbeats 2000000 in
theorem sumsAdd_za (a0 : Option Addr) (len0 cap0 : Nat) (l0 : List (BitVec 8)) (a1 : Option Addr) (len1 cap1 : Nat) (l1 : List (BitVec 8)) (a2 : Option Addr) (len2 cap2 : Nat) (l2 : List (BitVec 8)) (w : World)
    (A0 : Arg 140737488351232 w a0 len0 cap0 l0) (A1 : Arg 140737488351232 w a1 len1 cap1 l1) (A2 : Arg 140737488351232 w a2 len2 cap2 l2) (g1 : ¬ len1 < len0) (g2 : ¬ len2 < len0) (hpos : len0 = 0) :
    Calls Try.prog 7 #[.slice a0 len0 cap0, .slice a1 len1 cap1, .slice a2 len2 cap2] w fun e w' => e = .returned (.bool true) ∧ Below w.heap.size w w' := by
  obtain ⟨hl0, hle0, hbd0, hr0, -⟩ := A0
  obtain ⟨hl1, hle1, hbd1, hr1, -⟩ := A1
  obtain ⟨hl2, hle2, hbd2, hr2, -⟩ := A2
  clear hr0 hr1 hr2
  subst hpos
  have t1 : ¬ (len1 : Int) < (0 : Int) := by omega
  have t2 : ¬ (len2 : Int) < (0 : Int) := by omega
  have S4 : Hold [] w w.drew := Hold.start (by simp)
  have hx0 := xor00
  go_enter Try.func7, Try.ntmps7
  go_wp2_with fail
  refine wp_loop_rounds 1 ?_
  rw [rounds_succ]
  go_wp2_with fail
  go_region_held_law (fun W => Hold [] w W) (first | exact S4 | assumption | exact Hold.later (by assumption) hbR)
    (first
      | (go_at_call 13; refine (sum_none _ _ _).mono ?_; rintro e w' ⟨rfl, hw⟩; obtain rfl := hw.symm)
      | (go_at_call 23; refine (known_any _).mono ?_; rintro e w' ⟨rfl, hbR⟩))
  all_goals
    go_wp2
    go_ret
    exact ⟨rfl, Hold.below (Ps := []) (by assumption)⟩

set_option maxHeartbeats 2000000 in
theorem sumsAdd_zb (a0 : Option Addr) (len0 cap0 : Nat) (l0 : List (BitVec 8)) (a1 : Option Addr) (len1 cap1 : Nat) (l1 : List (BitVec 8)) (a2 : Option Addr) (len2 cap2 : Nat) (l2 : List (BitVec 8)) (w : World)
    (A0 : Arg 140737488351232 w a0 len0 cap0 l0) (A1 : Arg 140737488351232 w a1 len1 cap1 l1) (A2 : Arg 140737488351232 w a2 len2 cap2 l2) (g1 : len1 < len0) (g2 : ¬ len2 < len1) (hpos : len1 = 0) :
    Calls Try.prog 7 #[.slice a0 len0 cap0, .slice a1 len1 cap1, .slice a2 len2 cap2] w fun e w' => e = .returned (.bool true) ∧ Below w.heap.size w w' := by
  obtain ⟨hl0, hle0, hbd0, hr0, -⟩ := A0
  obtain ⟨hl1, hle1, hbd1, hr1, -⟩ := A1
  obtain ⟨hl2, hle2, hbd2, hr2, -⟩ := A2
  clear hr0 hr1 hr2
  subst hpos
  have t1 : (0 : Int) < (len0 : Int) := by omega
  have t2 : ¬ (len2 : Int) < (0 : Int) := by omega
  have S4 : Hold [] w w.drew := Hold.start (by simp)
  have hx0 := xor00
  go_enter Try.func7, Try.ntmps7
  go_wp2_with fail
  refine wp_loop_rounds 1 ?_
  rw [rounds_succ]
  go_wp2_with fail
  go_region_held_law (fun W => Hold [] w W) (first | exact S4 | assumption | exact Hold.later (by assumption) hbR)
    (first
      | (go_at_call 13; refine (sum_none _ _ _).mono ?_; rintro e w' ⟨rfl, hw⟩; obtain rfl := hw.symm)
      | (go_at_call 23; refine (known_any _).mono ?_; rintro e w' ⟨rfl, hbR⟩))
  all_goals
    go_wp2
    go_ret
    exact ⟨rfl, Hold.below (Ps := []) (by assumption)⟩

set_option maxHeartbeats 2000000 in
theorem sumsAdd_zc (a0 : Option Addr) (len0 cap0 : Nat) (l0 : List (BitVec 8)) (a1 : Option Addr) (len1 cap1 : Nat) (l1 : List (BitVec 8)) (a2 : Option Addr) (len2 cap2 : Nat) (l2 : List (BitVec 8)) (w : World)
    (A0 : Arg 140737488351232 w a0 len0 cap0 l0) (A1 : Arg 140737488351232 w a1 len1 cap1 l1) (A2 : Arg 140737488351232 w a2 len2 cap2 l2) (g1 : ¬ len1 < len0) (g2 : len2 < len0) (hpos : len2 = 0) :
    Calls Try.prog 7 #[.slice a0 len0 cap0, .slice a1 len1 cap1, .slice a2 len2 cap2] w fun e w' => e = .returned (.bool true) ∧ Below w.heap.size w w' := by
  obtain ⟨hl0, hle0, hbd0, hr0, -⟩ := A0
  obtain ⟨hl1, hle1, hbd1, hr1, -⟩ := A1
  obtain ⟨hl2, hle2, hbd2, hr2, -⟩ := A2
  clear hr0 hr1 hr2
  subst hpos
  have t1 : ¬ (len1 : Int) < (len0 : Int) := by omega
  have t2 : (0 : Int) < (len0 : Int) := by omega
  have S4 : Hold [] w w.drew := Hold.start (by simp)
  have hx0 := xor00
  go_enter Try.func7, Try.ntmps7
  go_wp2_with fail
  refine wp_loop_rounds 1 ?_
  rw [rounds_succ]
  go_wp2_with fail
  go_region_held_law (fun W => Hold [] w W) (first | exact S4 | assumption | exact Hold.later (by assumption) hbR)
    (first
      | (go_at_call 13; refine (sum_none _ _ _).mono ?_; rintro e w' ⟨rfl, hw⟩; obtain rfl := hw.symm)
      | (go_at_call 23; refine (known_any _).mono ?_; rintro e w' ⟨rfl, hbR⟩))
  all_goals
    go_wp2
    go_ret
    exact ⟨rfl, Hold.below (Ps := []) (by assumption)⟩

set_option maxHeartbeats 2000000 in
theorem sumsAdd_zd (a0 : Option Addr) (len0 cap0 : Nat) (l0 : List (BitVec 8)) (a1 : Option Addr) (len1 cap1 : Nat) (l1 : List (BitVec 8)) (a2 : Option Addr) (len2 cap2 : Nat) (l2 : List (BitVec 8)) (w : World)
    (A0 : Arg 140737488351232 w a0 len0 cap0 l0) (A1 : Arg 140737488351232 w a1 len1 cap1 l1) (A2 : Arg 140737488351232 w a2 len2 cap2 l2) (g1 : len1 < len0) (g2 : len2 < len1) (hpos : len2 = 0) :
    Calls Try.prog 7 #[.slice a0 len0 cap0, .slice a1 len1 cap1, .slice a2 len2 cap2] w fun e w' => e = .returned (.bool true) ∧ Below w.heap.size w w' := by
  obtain ⟨hl0, hle0, hbd0, hr0, -⟩ := A0
  obtain ⟨hl1, hle1, hbd1, hr1, -⟩ := A1
  obtain ⟨hl2, hle2, hbd2, hr2, -⟩ := A2
  clear hr0 hr1 hr2
  subst hpos
  have t1 : (len1 : Int) < (len0 : Int) := by omega
  have t2 : (0 : Int) < (len1 : Int) := by omega
  have S4 : Hold [] w w.drew := Hold.start (by simp)
  have hx0 := xor00
  go_enter Try.func7, Try.ntmps7
  go_wp2_with fail
  refine wp_loop_rounds 1 ?_
  rw [rounds_succ]
  go_wp2_with fail
  go_region_held_law (fun W => Hold [] w W) (first | exact S4 | assumption | exact Hold.later (by assumption) hbR)
    (first
      | (go_at_call 13; refine (sum_none _ _ _).mono ?_; rintro e w' ⟨rfl, hw⟩; obtain rfl := hw.symm)
      | (go_at_call 23; refine (known_any _).mono ?_; rintro e w' ⟨rfl, hbR⟩))
  all_goals
    go_wp2
    go_ret
    exact ⟨rfl, Hold.below (Ps := []) (by assumption)⟩

theorem Arg.some {B : Nat} {w : World} {a : Option Addr} {len cap : Nat} {l : List (BitVec 8)} (A : Arg B w a len cap l) (h : 0 < len) : ∃ b o, a = .some ⟨b, o, none⟩ := by
  rcases A.row with h0 | ⟨b, o, hb, _⟩
  · have := A.len_eq; subst h0; simp at this; omega
  · exact ⟨b, o, hb⟩

theorem sumsAdd_walk (a0 : Option Addr) (len0 cap0 : Nat) (l0 : List (BitVec 8)) (a1 : Option Addr) (len1 cap1 : Nat) (l1 : List (BitVec 8)) (a2 : Option Addr) (len2 cap2 : Nat) (l2 : List (BitVec 8)) (w : World)
    (A0 : Arg 140737488351232 w a0 len0 cap0 l0) (A1 : Arg 140737488351232 w a1 len1 cap1 l1) (A2 : Arg 140737488351232 w a2 len2 cap2 l2) :
    Calls Try.prog 7 #[.slice a0 len0 cap0, .slice a1 len1 cap1, .slice a2 len2 cap2] w fun e w' => e = .returned (.bool true) ∧ Below w.heap.size w w' := by
  by_cases g1 : len1 < len0
  · by_cases g2 : len2 < len1
    · by_cases h : len2 = 0
      · exact sumsAdd_zd _ _ _ _ _ _ _ _ _ _ _ _ w A0 A1 A2 g1 g2 h
      · obtain ⟨b0, o0, rfl⟩ := A0.some (by omega)
        obtain ⟨b1, o1, rfl⟩ := A1.some (by omega)
        obtain ⟨b2, o2, rfl⟩ := A2.some (by omega)
        exact sumsAdd_d b0 o0 len0 cap0 l0 b1 o1 len1 cap1 l1 b2 o2 len2 cap2 l2 w A0 A1 A2 g1 g2 (by omega)
    · by_cases h : len1 = 0
      · exact sumsAdd_zb _ _ _ _ _ _ _ _ _ _ _ _ w A0 A1 A2 g1 g2 h
      · obtain ⟨b0, o0, rfl⟩ := A0.some (by omega)
        obtain ⟨b1, o1, rfl⟩ := A1.some (by omega)
        obtain ⟨b2, o2, rfl⟩ := A2.some (by omega)
        exact sumsAdd_b b0 o0 len0 cap0 l0 b1 o1 len1 cap1 l1 b2 o2 len2 cap2 l2 w A0 A1 A2 g1 g2 (by omega)
  · by_cases g2 : len2 < len0
    · by_cases h : len2 = 0
      · exact sumsAdd_zc _ _ _ _ _ _ _ _ _ _ _ _ w A0 A1 A2 g1 g2 h
      · obtain ⟨b0, o0, rfl⟩ := A0.some (by omega)
        obtain ⟨b1, o1, rfl⟩ := A1.some (by omega)
        obtain ⟨b2, o2, rfl⟩ := A2.some (by omega)
        exact sumsAdd_c b0 o0 len0 cap0 l0 b1 o1 len1 cap1 l1 b2 o2 len2 cap2 l2 w A0 A1 A2 g1 g2 (by omega)
    · by_cases h : len0 = 0
      · exact sumsAdd_za _ _ _ _ _ _ _ _ _ _ _ _ w A0 A1 A2 g1 g2 h
      · obtain ⟨b0, o0, rfl⟩ := A0.some (by omega)
        obtain ⟨b1, o1, rfl⟩ := A1.some (by omega)
        obtain ⟨b2, o2, rfl⟩ := A2.some (by omega)
        exact sumsAdd_a b0 o0 len0 cap0 l0 b1 o1 len1 cap1 l1 b2 o2 len2 cap2 l2 w A0 A1 A2 g1 g2 (by omega)
end Go.Proofs.Ytkajedabcedifaa
