/- A log that is not there: EntriesNil's walk. -/
import Derived.Test.YtehbolkjgiedbaaEn20
import Derived.Test.YtehbolkjgiedbaaEnA
namespace Go.Proofs.Ytehbolkjgiedbaa
open Go.RowKit Go.Shelf
set_option linter.unusedVariables false
set_option maxRecDepth 4000

theorem enMembers_nil (n : Int) (w : World) :
    Calls Try.prog 18 #[.pointer none, .int .i64 n] w fun e w' => e = .returned (.int .i64 0) ∧ w = w' := by
  have HP := part_nil n w
  go_enter Try.func18, Try.ntmps18
  go_wp2_with fail
  refine wp_loop_rounds 1 ?_
  rw [rounds_succ]
  go_wp2_with (go_at_call 31; refine HP.mono ?_; rintro e w' ⟨rfl, rfl⟩)
  go_ret
  exact ⟨rfl, rfl⟩
theorem enChange_nil (w : World) :
    Calls Try.prog 22 #[.pointer none] w fun e w' => e = .returned (.int .i64 0) ∧ w = w' := by
  have HF := enFloor_nil w
  have HT := enTop_nil w
  go_enter Try.func22, Try.ntmps22
  go_wp2_with (first | (go_at_call 19; refine HF.mono ?_; rintro e w' ⟨rfl, rfl⟩) | (go_at_call 15; refine HT.mono ?_; rintro e w' ⟨rfl, rfl⟩))
  refine wp_loop_rounds 1 ?_
  rw [rounds_succ]
  go_wp2
  go_ret
  exact ⟨rfl, rfl⟩
theorem lawruns9_len (w : World) :
    Calls Try.prog 16 #[.pointer none] w fun e w' => ∃ a c, e = .returned (.slice a 0 c) ∧ Below w.heap.size w w' := by
  refine (lawruns9_nil w).mono ?_
  rintro e w' ⟨v, rfl, ho, hb⟩
  obtain ⟨a, c, rfl, -, -⟩ := RnOwn.open ho
  exact ⟨a, c, rfl, hb⟩
set_option maxHeartbeats 2000000 in
theorem entriesNil_walk (n : Int) (a : Option Addr) (len cap : Nat) (l : List Ent) (w : World) (hn : -9223372036854775808 ≤ n ∧ n ≤ 9223372036854775807) (A : l.length = len ∧ len ≤ cap ∧ len ≤ 140737488355328 ∧ EArgs w a l) :
    Calls Try.prog 6 #[.int .i64 n, .slice a len cap] w fun e w' => e = .returned (.bool true) ∧ Below w.heap.size w w' := by
  clear A
  go_enter Try.func6, Try.ntmps6
  go_wp2_with (first | (go_at_call 19; refine (enFloor_nil _).mono ?_; rintro e w' ⟨rfl, rfl⟩) | (go_at_call 15; refine (enTop_nil _).mono ?_; rintro e w' ⟨rfl, rfl⟩))
  refine (enAt_nil n w).mono ?_
  rintro e w1 ⟨rfl, b1⟩
  have b2 := box3_below w1 (.int .i64 0) (.int .i64 0) (.slice none 0 0) 48
  have H1 : Hid _ := below_then b1 b2
  clear b1 b2
  go_wp2_with (first | (go_at_call 10; refine (enWith_nil _ _ _ _).mono ?_; rintro e w' ⟨rfl, rfl⟩) | (go_at_call 21; refine (enUpto_nil _ _).mono ?_; rintro e w' ⟨rfl, rfl⟩) | (go_at_call 17; refine (enOver_nil _ _).mono ?_; rintro e w' ⟨rfl, rfl⟩))
  generalize w1.alloc (.cells #[.int .i64 0, .int .i64 0, .slice none 0 0] 48) = w2 at *
  refine (enJoin_nil n n a len cap w2).mono ?_
  rintro e w3 ⟨rfl, b3⟩
  simp only [joV, Option.map_none]
  have b4 := box5_below w3 (.pointer none) (.bool false) (.int .i64 0) (.int .i64 0) (.int .i64 0) 31
  have B4 : Blk (w3.alloc (.cells #[.pointer none, .bool false, .int .i64 0, .int .i64 0, .int .i64 0] 31)) w3.heap.size 31 [.pointer none, .bool false, .int .i64 0, .int .i64 0, .int .i64 0] := Blk.new' w3 _ _
  have H4 : Hid _ := And.intro (below_then (below_then H1.out b3) b4) B4
  clear b3 b4 B4 H1
  go_wp2_with (first | (go_at_call 13; refine (enTerm_nil _ _).mono ?_; rintro e w' ⟨rfl, rfl⟩) | (go_at_call 18; refine (enMembers_nil _ _).mono ?_; rintro e w' ⟨rfl, rfl⟩) | (go_at_call 22; refine (enChange_nil _).mono ?_; rintro e w' ⟨rfl, rfl⟩))
  generalize w3.alloc (.cells #[.pointer none, .bool false, .int .i64 0, .int .i64 0, .int .i64 0] 31) = w4 at *
  refine (lawruns9_len w4).mono ?_
  rintro e w5 ⟨ra, rc, rfl, b5⟩
  have H5 : Hid _ := And.intro (below_then H4.out.1 b5) (H4.out.2.laterB b5)
  clear H4 b5
  go_wp2_with fail
  refine (enSlice_nil n w5).mono ?_
  rintro e w6 ⟨rfl, b6⟩
  obtain ⟨⟨z0, z1, z2, z3, z4⟩, -⟩ := eblk5 (H5.out.2.laterB b6)
  have H6 : Hid _ := below_then H5.out.1 b6
  clear H5 b6
  go_wp2_with fail
  refine (known9_any w6).mono ?_
  rintro e w7 ⟨rfl, b7⟩
  have F : Hid _ := below_then H6.out b7
  clear H6 b7 z0 z1 z2 z3 z4
  go_wp2
  go_ret
  exact ⟨rfl, F.out⟩
end Go.Proofs.Ytehbolkjgiedbaa
