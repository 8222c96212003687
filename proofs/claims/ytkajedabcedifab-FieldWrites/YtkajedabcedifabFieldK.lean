/- What must come of fixed calls of field. -/
import Derived.Test.YtkajedabcedifabFieldW2
import Derived.Test.YtkajedabcedifabFieldR
namespace Go.Proofs.Ytkajedabcedifab
open Go.RowKit

theorem make3 (w : World) : (Instr.makeSlice 22 (.int .i64 3) (.int .i64 3)).run Try.prog w = .ok (.slice (some ⟨w.heap.size, 0, none⟩) 3 3) (w.alloc (.cells #[.int .u8 0, .int .u8 0, .int .u8 0] 5)) := by kernel_rfl
theorem known2_list : over [0#8, 0#8, 0#8] 1 (be 2 258#64) = [0#8, 1#8, 2#8] := by decide +kernel

set_option maxHeartbeats 400000 in
theorem known2_any (w : World) :
    Calls Try.prog 23 #[] w fun e w' => e = .returned (.bool true) ∧ Below w.heap.size w w' := by
  have hmk := make3
  go_enter Try.func23, Try.ntmps23
  go_wp2_with fail
  have hb0 : Below w.heap.size w (w.alloc (.cells #[.int .u8 0, .int .u8 0, .int .u8 0] 5)) := (Below.refl _ _).alloc (Nat.le_refl _) _
  refine (Put_yes (some ⟨w.heap.size, 0, none⟩) 3 3 [0#8, 0#8, 0#8] 1 2 258#64 _ rfl (by decide) (Row.newl _ _ _ _ _ rfl) (fun h => by cases h) (by decide) (by decide) (by decide) (by decide) (by decide)).mono ?_
  rintro e w1 ⟨v, rfl, ho, hb⟩
  rw [known2_list] at ho
  obtain ⟨a, cap, hv, hle, hm, hr, -, -⟩ := ho.open
  have hl3 : [0#8, 1#8, 2#8].length = 3 := rfl
  rw [hl3] at hv
  have hs := hr.str 3 cap rfl
  have hb' : Below w.heap.size w w1 := below_then hb0 hb
  have he : ((str [0#8, 1#8, 2#8]).toList == [0, 1, 2]) = true := by decide +kernel
  clear ho hb hmk hb0 hr hle hm hl3
  rw [hv]
  clear hv
  go_wp2_with (first
    | (go_at_call 29; refine (less_any 4294967295#32 0#32 _).mono ?_; rintro e w' ⟨rfl, hw⟩; obtain rfl := hw.symm; rw [show decide (0 < dst 4294967295#32 0#32) = true by decide])
    | (go_at_call 28; refine (dist_any 0#32 4294967295#32 _).mono ?_; rintro e w' ⟨rfl, hw⟩; obtain rfl := hw.symm; rw [show dst 0#32 4294967295#32 = -1 by decide])
    | (go_at_call 32; refine (in_any 4294967290#32 3#32 10 _ (by decide)).mono ?_; rintro e w' ⟨rfl, hw⟩; obtain rfl := hw.symm; rw [show decide (gap 4294967290#32 3#32 < 10) = true by decide]))
  go_ret
  exact ⟨rfl, hb'⟩
end Go.Proofs.Ytkajedabcedifab
