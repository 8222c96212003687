/- sense: the document's Luns; known. -/
import Derived.Test.YthgiifeifinngaaSe3
namespace Go.Proofs.Ythgiifeifinngaa
open Go.RowKit
set_option linter.unusedVariables false
set_option linter.unusedSimpArgs false
set_option maxRecDepth 4000

theorem be_zero : be 4 (BitVec.ofInt 64 0) = List.replicate 4 0#8 := by decide
theorem ow_strs {w : World} {base : Nat} {v : Value} {l : List (BitVec 8)} (h : Own w base v l) : ∃ a len cap, v = .slice a len cap ∧ ∀ X, Below w.heap.size w X → (convert 22 9 (.slice a len cap)).run Try.prog X = .ok (.string (str l)) X := by
  obtain ⟨a, cap, hv, _, _, hr, _, _⟩ := h.open
  exact ⟨a, _, cap, hv, fun X hX => (hr.later hX).str _ _ rfl⟩
set_option maxHeartbeats 2000000 in
theorem rluns_any (n : Int) (w : World) :
    Calls Try.prog 21 #[.int .i64 n] w fun e w' => ∃ z, e = .returned (.tuple #[z, .int .i64 (lnE n)]) ∧ Own w' w.heap.size z (lnB n) ∧ Below w.heap.size w w' := by
  by_cases h1 : n < 1
  · have e1 : Hid (lnE n = 1 ∧ lnB n = []) := ln_no (by omega)
    go_enter Try.func21, Try.ntmps21
    go_wp2
    go_ret2
    refine ⟨.slice none 0 0, by rw [e1.out.1]; try rfl, ?_, Below.refl _ _⟩
    rw [e1.out.2]; exact Own.nil _ _
  · by_cases h2 : n > 3
    · have e1 : Hid (lnE n = 1 ∧ lnB n = []) := ln_no (by omega)
      go_enter Try.func21, Try.ntmps21
      go_wp2
      go_ret2
      refine ⟨.slice none 0 0, by rw [e1.out.1]; try rfl, ?_, Below.refl _ _⟩
      rw [e1.out.2]; exact Own.nil _ _
    · have h : fromB 1 n 3 = true := decide_eq_true ⟨by omega, by omega⟩
      have e1 : Hid (lnE n = 0 ∧ lnB n = (be 4 (BitVec.ofInt 64 (8 * n)) ++ be 4 (BitVec.ofInt 64 0)) ++ ubs n.toNat) := ⟨if_pos h, if_pos h⟩
      obtain ⟨N, rfl⟩ : ∃ N : Nat, n = N := ⟨n.toNat, by omega⟩
      rw [Int.toNat_natCast] at e1
      have hN : N ≤ 3 := by omega
      have v1 : IntKind.i64.wrap (8 * (N : Int)) = 8 * (N : Int) := by rw [IntKind.wrap_i64]; omega
      have d1 : decide ((N : Int) < 1) = false := decide_eq_false h1
      have d2 : decide ((N : Int) > 3) = false := decide_eq_false h2
      clear h
      have hmk : (Instr.makeSlice 22 (.int .i64 8) (.int .i64 8)).run Try.prog w = _ := seMake 8 (by omega) w
      have M0 := made_ow w 8 (by simp [maxLen])
      have bm : Below w.heap.size w (w.alloc (.cells (vals (List.replicate 8 0#8)).toArray 5)) := (Below.refl _ _).alloc (Nat.le_refl _) _
      generalize w.alloc (.cells (vals (List.replicate 8 0#8)).toArray 5) = w1 at *
      have M : Hid _ := And.intro M0 bm
      clear M0 bm
      obtain ⟨a1, c1, ea1, hle1, -, hr1, hn1, -⟩ := M.out.1.open
      have A : Hid _ := at_yes _ _ _ _ 0 4 (8 * (N : Int)) w1 (by simp) hle1 hr1 hn1 (by simp) (by omega) (by omega) (by simp) (fits_4 ⟨by omega, by omega⟩)
      cases ea1
      clear hle1 hr1 hn1
      go_enter Try.func21, Try.ntmps21
      go_wp2_with fail
      refine (Calls.mono A.out) ?_
      rintro e w2 ⟨y2, rfl, o2, b2⟩
      rw [over_8a, ← be_zero] at o2
      have G : Hid _ := And.intro (o2.lower M.out.2.size) (below_then M.out.2 b2)
      clear o2 b2 A M hmk
      go_wp2_with fail
      go_loopw [4, 5] (fun bv iv wr => ∃ k : Nat, k ≤ N ∧ iv = .int .i64 k ∧ Own wr w.heap.size bv ((be 4 (BitVec.ofInt 64 (8 * (N : Int))) ++ be 4 (BitVec.ofInt 64 0)) ++ ubs k) ∧ Below w.heap.size w wr) (fun _ iv _ => N - (intOf iv).toNat)
      case atStart => exact ⟨0, by omega, rfl, by have := G.out.1; simpa [ubs] using this, G.out.2⟩
      case round =>
        clear G
        obtain ⟨k, hk, rfl, ho, hb⟩ := hrel
        by_cases hlt : k < N
        · have B1 := Blk.new' wr 5 [.int .u8 0, .int .u8 (k : Int), .int .u8 0, .int .u8 0, .int .u8 0, .int .u8 0, .int .u8 0, .int .u8 0]
          have R2 := ub_blk (k := k) (by omega) B1
          have b2 : Below wr.heap.size wr (wr.alloc (.cells #[.int .u8 0, .int .u8 (k : Int), .int .u8 0, .int .u8 0, .int .u8 0, .int .u8 0, .int .u8 0, .int .u8 0] 5)) := (Below.refl _ _).alloc (Nat.le_refl _) _
          have q1 : (k : Int) < (N : Int) := by omega
          have HF : Hid _ := And.intro (ho.later b2) (And.intro R2 (below_then hb b2))
          have hul := ubs_len k
          clear ho hb R2 b2 B1
          go_wp2_with (at_builtin; refine wpList_append_bytes _ rfl _ _ rfl w.heap.size u4 _ rfl HF.out.1 (some ⟨wr.heap.size, 0, none⟩) 8 8 (ub k) rfl rfl HF.out.2.1 (fun h => by cases h) (by omega) (by simp [be4_len, hul]; omega) (Below.size HF.out.2.2) ?_)
          intro v' w' ho' hg'
          have hb' : Below w.heap.size w w' := (HF.out.2.2).grown hg' (Below.size HF.out.2.2) (own_block HF.out.1)
          have F : Hid (Own w' w.heap.size v' ((be 4 (BitVec.ofInt 64 (8 * (N : Int))) ++ be 4 (BitVec.ofInt 64 0)) ++ ubs (k + 1)) ∧ Below w.heap.size w w') := ⟨by rw [ubs, ← List.append_assoc]; exact ho', hb'⟩
          clear ho' hg' hb' HF hul
          go_wp2
          go_roundw
          case rel => exact ⟨k + 1, by omega, by go_num, F.out.1, F.out.2⟩
          case measure => simp [intOf]; omega
        · obtain rfl : k = N := by omega
          have F : Hid _ := And.intro ho hb
          clear ho hb
          go_wp2
          go_ret2
          refine ⟨_, by rw [e1.out.1]; rfl, ?_, F.out.2⟩
          rw [e1.out.2]; exact F.out.1
set_option maxHeartbeats 1000000 in
theorem known16_any (w : World) : Calls Try.prog 14 #[] w fun e w' => e = .returned (.bool true) ∧ Below w.heap.size w w' := by
  have K1 : Hid _ := data_yes 0 5 33 0 (.slice none 0 0) w (by decide) (by decide) (by decide)
  go_enter Try.func14, Try.ntmps14
  go_wp2_with fail
  refine (Calls.mono K1.out) ?_
  rintro e w1 ⟨z, rfl, o1, b1⟩
  obtain ⟨a1, c1, rfl, hle1, -, hr1, -, -⟩ := o1.open
  have J1 : Hid _ := And.intro hr1 b1
  clear o1 b1 hle1 hr1 K1
  have K2 : Hid _ := cap_any 8 w1
  go_wp2_with fail
  refine (Calls.mono K2.out) ?_
  rintro e w2 ⟨z, rfl, o2, b2⟩
  obtain ⟨a2, n2, c2, rfl, hs2⟩ := ow_strs o2
  have hs := hs2 w2 (Below.refl _ _)
  have hr2 := J1.out.1.later b2
  rcases hr2 with e0 | ⟨bb, off, rfl, hc⟩
  · exact absurd e0 (by decide)
  have hz0 := hc 0 (by decide)
  have hz2 := hc 2 (by decide)
  have hz7 := hc 7 (by decide)
  have hz12 := hc 12 (by decide)
  rw [show bt (senB 5 33 0) 0 = 112 by decide] at hz0
  rw [show bt (senB 5 33 0) 2 = 5 by decide] at hz2
  rw [show bt (senB 5 33 0) 7 = 10 by decide] at hz7
  rw [show bt (senB 5 33 0) 12 = 33 by decide] at hz12
  rw [show str (cpB 8) = { data := #[0, 0, 0, 7, 0, 0, 0, 64] } by decide] at hs
  have F : Hid _ := below_then J1.out.2 b2
  clear J1 K2 o2 b2 hs2 hc
  rw [show (senB 5 33 0).length = 18 from rfl]
  rw [show cpE 8 = 0 by decide]
  rw [Nat.add_zero] at hz0
  go_wp2
  go_ret
  exact ⟨rfl, F.out⟩
end Go.Proofs.Ythgiifeifinngaa
