/- slices.Contains of bools; slices.Concat of bytes. -/
import Derived.Test.YtdagekciipfnoaaXCk9
import Derived.Lib.AppendZeros
namespace Go.Proofs.Ytdagekciipfnoaa
open Go.RowKit
set_option linter.unusedVariables false
set_option linter.unusedSimpArgs false
set_option maxRecDepth 4000

set_option maxHeartbeats 2000000 in
theorem indexB_any (t : Nat) (bs : List Bool) (w : World) (hB : Blk w t 4 (bs.map .bool)) (hl : bs.length ≤ 1000) :
    Calls Try.prog 41 #[.slice (some ⟨t, 0, none⟩) bs.length bs.length, .bool false] w fun e w' => (∃ i : Int, e = .returned (.int .i64 i) ∧ (decide (i ≥ 0) = bs.any (fun b => !b))) ∧ w' = w := by
  have HA : Hid (∀ k (h : k < bs.length), w.cell? ⟨t, k, none⟩ = some (.bool bs[k])) := fun k h => by rw [blk_at hB k, List.getElem?_map, List.getElem?_eq_getElem h]; rfl
  clear hB
  go_enter Try.func41, Try.ntmps41
  go_wp2_with fail
  go_loopw [8] (fun iv wr => ∃ (k : Nat), iv = .int .i64 k ∧ k ≤ bs.length ∧ (∀ x ∈ bs.take k, x = true) ∧ wr = w) (fun iv _ => bs.length - (intOf iv).toNat)
  case atStart => exact ⟨0, rfl, by omega, by simp, rfl⟩
  case round =>
    obtain ⟨k, rfl, hk, hno, rfl⟩ := hrel
    by_cases hlt : k < bs.length
    · have k1 := HA.out k hlt
      have q1 : (k : Int) < bs.length := by omega
      have hsn : bs.take (k + 1) = bs.take k ++ [bs[k]] := List.take_succ_eq_append_getElem hlt
      have hm : bs[k] ∈ bs := List.getElem_mem _
      generalize bs[k] = x at *
      have G : Hid _ := And.intro hno (And.intro hsn hm)
      clear hno hsn hm
      cases x with
      | false =>
        go_wp2
        go_ret
        refine ⟨⟨_, rfl, ?_⟩, rfl⟩
        rw [decide_eq_true (by omega)]
        exact (List.any_eq_true.2 ⟨false, G.out.2.2, rfl⟩).symm
      | true =>
        have F2 : Hid (∀ y ∈ bs.take (k + 1), y = true) := by
          rw [G.out.2.1]
          intro y hy
          rcases List.mem_append.1 hy with hy | hy
          · exact G.out.1 y hy
          · exact List.mem_singleton.1 hy
        clear G
        go_wp2
        go_roundw
        case rel => exact ⟨k + 1, by go_num, by omega, F2.out, by first | rfl | trivial⟩
        case measure => simp [intOf]; omega
    · obtain rfl : k = bs.length := by omega
      rw [List.take_length] at hno
      have G : Hid _ := And.intro hno trivial
      clear hno
      go_wp2
      go_ret
      refine ⟨⟨_, rfl, ?_⟩, rfl⟩
      rw [decide_eq_false (by omega)]
      symm
      rw [List.any_eq_false]
      intro x hx
      rw [G.out.1 x hx]; simp
set_option maxHeartbeats 2000000 in
theorem containsB_any (t : Nat) (bs : List Bool) (w : World) (hB : Blk w t 4 (bs.map .bool)) (hl : bs.length ≤ 1000) :
    Calls Try.prog 26 #[.slice (some ⟨t, 0, none⟩) bs.length bs.length, .bool false] w fun e w' => e = .returned (.bool (bs.any (fun b => !b))) ∧ w' = w := by
  have HI : Hid _ := indexB_any t bs w hB hl
  clear hB
  go_enter Try.func26, Try.ntmps26
  go_wp2_with fail
  refine (Calls.mono HI.out) ?_
  rintro e _ ⟨⟨i, rfl, hi⟩, rfl⟩
  have G : Hid _ := And.intro hi trivial
  clear hi HI
  go_wp2
  go_ret
  exact ⟨by rw [← G.out.1]; rfl, rfl⟩
theorem info_byte : (Try.prog.info? 5).map (fun i => (i.zero, i.size, i.bytes)) = some (some (.int .u8 0), 1, 1) := by kernel_rfl
theorem zeros_byte (n : Nat) : (Builtin.zeroCells (Value.int .u8 0).cells n).size = n := by simp [Builtin.zeroCells, Value.cells]
set_option maxHeartbeats 2000000 in
theorem growN_any (n : Nat) (w : World) (hn : n ≤ 1000000) :
    Calls Try.prog 42 #[.slice none 0 0, .int .i64 n] w fun e w' => ∃ z, e = .returned z ∧ Own w' w.heap.size z [] ∧ Below w.heap.size w w' := by
  by_cases h0 : 0 < n
  · obtain ⟨i0, hi, hz0, hz1, hz2⟩ := info_parts info_byte
    have R := fun ty => Lib.run_append_nil_zeros (P := Try.prog) w 22 3 ty 5 i0 (.int .u8 0) .i64 .i64 Try.underlying22 Try.underlying3 hi hz0 n h0 (by rw [hz1]; omega) (by omega) (by rw [hz2]; omega)
    have hge := grownCap_ge w n 0 5
    have hle := grownCap_le_maxLen w n 0 5 (by unfold maxLen; omega)
    generalize grownCap w n 0 5 = G at *
    have b1 : Below w.heap.size w (w.drew.alloc (.cells (Builtin.zeroCells (Value.int .u8 0).cells n ++ Builtin.zeroCells (Value.int .u8 0).cells (G - n)) 5)) := (Below.refl _ _).drew.alloc (Nat.le_refl _) _
    have o1 : Own (w.drew.alloc (.cells (Builtin.zeroCells (Value.int .u8 0).cells n ++ Builtin.zeroCells (Value.int .u8 0).cells (G - n)) 5)) w.heap.size (.slice (some ⟨w.heap.size, 0, none⟩) 0 G) [] := by
      have hb := Blk.new' w.drew 5 (Builtin.zeroCells (Value.int .u8 0).cells n ++ Builtin.zeroCells (Value.int .u8 0).cells (G - n)).toList
      unfold Blk at hb
      rw [Array.toArray_toList] at hb
      refine ⟨rfl, .inr ⟨w.heap.size, G, _, rfl, Nat.le_refl _, hb, Nat.zero_le _, hle, ?_, rfl⟩⟩
      rw [Array.size_append, zeros_byte, zeros_byte]; omega
    have HR : Hid _ := And.intro R (And.intro o1 b1)
    clear R o1 b1 hle
    have q1 : (0 : Int) < (n : Int) := by omega
    have q2 : ¬ (G = 0) := by omega
    have q3 : (n : Int) ≤ 1000000 := by omega
    go_enter Try.func42, Try.ntmps42
    go_wp2_with (at_builtin; refine Lib.wpList_append_run _ rfl _ _ _ _ rfl _ _ rfl rfl _ _ (HR.out.1 _) ?_)
    go_wp2
    go_ret
    exact ⟨_, rfl, HR.out.2⟩
  · obtain rfl : n = 0 := by omega
    go_enter Try.func42, Try.ntmps42
    go_wp2
    go_ret
    exact ⟨_, rfl, Own.nil _ _, Below.refl _ _⟩
end Go.Proofs.Ytdagekciipfnoaa

