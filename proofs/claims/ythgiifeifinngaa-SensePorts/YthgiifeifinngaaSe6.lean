/- sense: the document's Holder. -/
import Derived.Test.YthgiifeifinngaaSe5
namespace Go.Proofs.Ythgiifeifinngaa
open Go.RowKit
set_option linter.unusedVariables false
set_option linter.unusedSimpArgs false
set_option maxRecDepth 4000

theorem over_8c (x : BitVec 64) : over (List.replicate 8 0#8) 0 (be 8 x) = be 8 x := by
  simp [over, be8_len]
theorem hd_row {W : World} {g : Nat} {t : TypeId} {k : Int} (h : Blk W g t [.int .u8 0, .int .u8 0, .int .u8 0, .int .u8 0, .int .u8 0, .int .u8 (k % 256), .int .u8 0, .int .u8 0]) : Row W (some ⟨g, 0, none⟩) [0#8, 0#8, 0#8, 0#8, 0#8, b8 k, 0#8, 0#8] := by
  refine bk_row (t := t) ?_
  simpa [vals, b8_val] using h
set_option maxHeartbeats 1000000 in
theorem rholder_any (g t X : Int) (w : World) :
    Calls Try.prog 25 #[.int .i64 g, .int .u64 X, .int .i64 t] w fun e w' => ∃ z, e = .returned (.tuple #[z, .int .i64 (hdE g t)]) ∧ Own w' w.heap.size z (hdB g X t) ∧ Below w.heap.size w w' := by
  cases hg : genB g with
  | false =>
    have e1 := hd_no (g := g) (x := X) (t := t) (.inl hg)
    go_enter Try.func25, Try.ntmps25
    go_wp2_with fail
    refine (Calls.mono (rgen_any _ _)) ?_
    rintro e _ ⟨rfl, rfl⟩
    rw [hg]
    go_wp2
    go_ret2
    refine ⟨.slice none 0 0, by rw [e1.out.1]; try rfl, ?_, Below.refl _ _⟩
    rw [e1.out.2]; exact Own.nil _ _
  | true =>
    by_cases t1 : t < 0
    · have e1 := hd_no (g := g) (x := X) (t := t) (.inr (decide_eq_false (by omega)))
      go_enter Try.func25, Try.ntmps25
      go_wp2_with fail
      refine (Calls.mono (rgen_any _ _)) ?_
      rintro e _ ⟨rfl, rfl⟩
      rw [hg]
      go_wp2
      go_ret2
      refine ⟨.slice none 0 0, by rw [e1.out.1]; try rfl, ?_, Below.refl _ _⟩
      rw [e1.out.2]; exact Own.nil _ _
    · by_cases t2 : t > 8
      · have e1 := hd_no (g := g) (x := X) (t := t) (.inr (decide_eq_false (by omega)))
        go_enter Try.func25, Try.ntmps25
        go_wp2_with fail
        refine (Calls.mono (rgen_any _ _)) ?_
        rintro e _ ⟨rfl, rfl⟩
        rw [hg]
        go_wp2
        go_ret2
        refine ⟨.slice none 0 0, by rw [e1.out.1]; try rfl, ?_, Below.refl _ _⟩
        rw [e1.out.2]; exact Own.nil _ _
      · have ht : fromB 0 t 8 = true := decide_eq_true ⟨by omega, by omega⟩
        have HG : Hid (0 ≤ g ∧ g < 4294967296) := (of_decide_eq_true hg : 0 ≤ g ∧ g < 4294967296)
        have hE : Hid (hdE g t = 0) := if_pos ⟨hg, ht⟩
        have d1 : decide (t < 0) = false := decide_eq_false t1
        have d2 : decide (t > 8) = false := decide_eq_false t2
        clear t1 t2
        have hmM : (Instr.makeSlice 22 (.int .i64 8) (.int .i64 8)).run Try.prog w = _ := seMake 8 (by omega) w
        have NM := made_ow w 8 (by simp [maxLen])
        have bm : Below w.heap.size w (w.alloc (.cells (vals (List.replicate 8 0#8)).toArray 5)) := (Below.refl _ _).alloc (Nat.le_refl _) _
        generalize w.alloc (.cells (vals (List.replicate 8 0#8)).toArray 5) = w1 at *
        have M : Hid _ := And.intro NM bm
        clear NM bm
        obtain ⟨a1, c1, ea1, hle1, -, hr1, hn1, -⟩ := M.out.1.open
        have A : Hid _ := at_yes _ _ _ _ 0 4 g w1 (by simp) hle1 hr1 hn1 (by simp) (by omega) (by omega) (by simp) (fits_4 HG.out)
        cases ea1
        clear hle1 hr1 hn1
        by_cases h0 : t = 0
        · subst h0
          have hB : Hid (hdB g X 0 = be 4 (BitVec.ofInt 64 g) ++ List.replicate 4 0#8) := by unfold hdB; rw [if_pos ⟨hg, ht⟩, if_pos rfl]; rfl
          go_enter Try.func25, Try.ntmps25
          go_wp2_with fail
          refine (Calls.mono (rgen_any _ _)) ?_
          rintro e _ ⟨rfl, rfl⟩
          rw [hg]
          go_wp2_with fail
          refine (Calls.mono A.out) ?_
          rintro e w2 ⟨y2, rfl, o2, b2⟩
          rw [over_8a] at o2
          have G : Hid _ := And.intro (o2.lower M.out.2.size) (below_then M.out.2 b2)
          clear o2 b2 A M hmM
          go_wp2
          go_ret2
          refine ⟨_, by rw [hE.out]; rfl, ?_, G.out.2⟩
          rw [hB.out]; exact G.out.1
        · have hB : Hid (hdB g X t = ((be 4 (BitVec.ofInt 64 g) ++ be 4 (BitVec.ofInt 64 16)) ++ be 8 (BitVec.ofInt 64 (wrap64 X))) ++ [0#8, 0#8, 0#8, 0#8, 0#8, b8 t, 0#8, 0#8]) := by unfold hdB; rw [if_pos ⟨hg, ht⟩, if_neg h0]; rfl
          have d0 : (t == 0) = false := by simpa using h0
          clear h0
          go_enter Try.func25, Try.ntmps25
          go_wp2_with fail
          refine (Calls.mono (rgen_any _ _)) ?_
          rintro e _ ⟨rfl, rfl⟩
          rw [hg]
          go_wp2_with fail
          refine (Calls.mono A.out) ?_
          rintro e w2 ⟨y2, rfl, o2, b2⟩
          rw [over_8a] at o2
          obtain ⟨a2, c2, rfl, hle2, -, hr2, hn2, -⟩ := o2.open
          have A2 : Hid _ := at_yes _ _ _ _ 4 4 16 w2 rfl hle2 hr2 hn2 (by simp [be4_len]) (by omega) (by omega) (by simp [be4_len]) (fits_4 (by omega))
          have F : Hid _ := below_then M.out.2 b2
          clear hle2 hr2 hn2 o2 b2 A M hmM
          go_wp2_with fail
          refine (Calls.mono A2.out) ?_
          rintro e w3 ⟨y3, rfl, o3, b3⟩
          rw [over_8b] at o3
          have G : Hid _ := And.intro (o3.lower F.out.size) (below_then F.out b3)
          clear o3 b3 A2 F
          have hmM3 : (Instr.makeSlice 22 (.int .i64 8) (.int .i64 8)).run Try.prog w3 = _ := seMake 8 (by omega) w3
          have NM3 := made_ow w3 8 (by simp [maxLen])
          have bm : Below w3.heap.size w3 (w3.alloc (.cells (vals (List.replicate 8 0#8)).toArray 5)) := (Below.refl _ _).alloc (Nat.le_refl _) _
          generalize w3.alloc (.cells (vals (List.replicate 8 0#8)).toArray 5) = w4 at *
          have M3 : Hid _ := And.intro NM3 bm
          clear NM3 bm
          obtain ⟨a4, c4, ea4, hle4, -, hr4, hn4, -⟩ := M3.out.1.open
          have A4 : Hid _ := at_yes _ _ _ _ 0 8 (wrap64 X) w4 (by simp) hle4 hr4 hn4 (by simp) (by omega) (by omega) (by simp) (fits_8 _)
          cases ea4
          clear hle4 hr4 hn4
          go_wp2_with fail
          refine (Calls.mono A4.out) ?_
          rintro e w5 ⟨y5, rfl, o5, b5⟩
          rw [over_8c] at o5
          obtain ⟨a5, c5, rfl, hle5, -, hr5, hn5, -⟩ := o5.open
          have b35 := below_then M3.out.2 b5
          have HF : Hid _ := And.intro (G.out.1.later b35) (And.intro hr5 (below_then G.out.2 b35))
          rw [be8_len] at hle5 ⊢
          clear hr5 o5 b5 b35 A4 M3 hmM3 G
          go_wp2_with (at_builtin; refine wpList_append_bytes _ rfl _ _ rfl w.heap.size y3 _ rfl HF.out.1 a5 8 c5 (be 8 (BitVec.ofInt 64 (wrap64 X))) rfl (be8_len _) HF.out.2.1 hn5 hle5 (by simp [be4_len]) (Below.size HF.out.2.2) ?_)
          intro y6 w6 o6 g6
          have b6 : Below w.heap.size w w6 := (HF.out.2.2).grown g6 (Below.size HF.out.2.2) (own_block HF.out.1)
          have B1 := Blk.new' w6 5 [.int .u8 0, .int .u8 0, .int .u8 0, .int .u8 0, .int .u8 0, .int .u8 (t % 256), .int .u8 0, .int .u8 0]
          have b7 : Below w6.heap.size w6 (w6.alloc (.cells #[.int .u8 0, .int .u8 0, .int .u8 0, .int .u8 0, .int .u8 0, .int .u8 (t % 256), .int .u8 0, .int .u8 0] 5)) := (Below.refl _ _).alloc (Nat.le_refl _) _
          have HL : Hid _ := And.intro (o6.later b7) (And.intro (hd_row B1) (below_then b6 b7))
          clear HF o6 g6 b6 B1 b7 hle5 hn5
          go_wp2_with (at_builtin; refine wpList_append_bytes _ rfl _ _ rfl w.heap.size y6 _ rfl HL.out.1 (some ⟨w6.heap.size, 0, none⟩) 8 8 _ rfl rfl HL.out.2.1 (fun h => by cases h) (by omega) (by simp [be4_len, be8_len]) (Below.size HL.out.2.2) ?_)
          intro y7 w7 o7 g7
          have HZ : Hid _ := And.intro o7 ((HL.out.2.2).grown g7 (Below.size HL.out.2.2) (own_block HL.out.1))
          clear o7 g7 HL
          go_wp2
          go_ret2
          refine ⟨_, by rw [hE.out]; rfl, ?_, HZ.out.2⟩
          rw [hB.out]; exact HZ.out.1
end Go.Proofs.Ythgiifeifinngaa
