/- DedupNil. -/
import Derived.Test.YtfhcifkbkeihhaaDd18
import Derived.Test.YtfhcifkbkeihhaaOpA
namespace Go.Proofs.Ytfhcifkbkeihhaa
open Go.RowKit
set_option linter.unusedVariables false
set_option linter.unusedSimpArgs false
set_option maxRecDepth 8000

theorem same_zero (w : World) : Calls Try.prog 10 #[.agg #[.int .i64 0, .int .i64 0, .int .i64 0, .int .i64 0, .slice none 0 0], .agg #[.int .i64 0, .int .i64 0, .int .i64 0, .int .i64 0, .slice none 0 0]] w fun e w' => e = .returned (.bool true) ∧ Below w.heap.size w w' :=
  same_yes 0 0 0 0 none none 0 0 [] w (by simp) (.inl rfl) (.inl rfl)
set_option maxHeartbeats 8000000 in
theorem dedupNil_walk (k q n a b c d : Int) (l : List (BitVec 8)) (x : Option Addr) (cp : Nat) (w : World) (hB : I64 k ∧ I64 q ∧ I64 n ∧ I64 a ∧ I64 b ∧ I64 c ∧ I64 d ∧ DatOk w x l cp) :
    Calls Try.prog 4 #[.agg #[.int .i64 k, .int .i64 q, .int .i64 n, .int .i64 a, .int .i64 b, .int .i64 c, .int .i64 d, .slice x l.length cp]] w fun e w' => e = .returned (.bool true) ∧ Below w.heap.size w w' := by
  clear hB
  have b1 : Below w.heap.size w (w.alloc (.cells #[.int .i64 k, .int .i64 q, .int .i64 n, .int .i64 a, .int .i64 b, .int .i64 c, .int .i64 d, .slice x l.length cp] 37)) := (Below.refl _ _).alloc (Nat.le_refl _) _
  have A1 := Blk.new' w 37 [.int .i64 k, .int .i64 q, .int .i64 n, .int .i64 a, .int .i64 b, .int .i64 c, .int .i64 d, .slice x l.length cp]
  have HC : Hid _ := check_wrong none q n (w.alloc (.cells #[.int .i64 k, .int .i64 q, .int .i64 n, .int .i64 a, .int .i64 b, .int .i64 c, .int .i64 d, .slice x l.length cp] 37)) (.inl rfl)
  unfold zeroR at HC
  have n1 := blk_at A1 1
  have n2 := blk_at A1 2
  simp only [List.getElem?_cons_zero, List.getElem?_cons_succ] at n1 n2
  have H1 : Hid _ := And.intro b1 A1
  clear b1 A1
  go_enter Try.func4, Try.ntmps4
  go_wp2_with fail
  clear n1 n2
  generalize w.alloc (.cells #[.int .i64 k, .int .i64 q, .int .i64 n, .int .i64 a, .int .i64 b, .int .i64 c, .int .i64 d, .slice x l.length cp] 37) = w1 at *
  refine (Calls.mono HC.out) ?_
  rintro e w2 ⟨rfl, b2⟩
  have b3 : Below w2.heap.size w2 (w2.alloc (.cells #[.int .i64 0, .int .i64 0, .int .i64 0, .int .i64 0, .slice none 0 0] 24)) := (Below.refl _ _).alloc (Nat.le_refl _) _
  have R3 := Blk.new' w2 24 [.int .i64 0, .int .i64 0, .int .i64 0, .int .i64 0, .slice none 0 0]
  have b23 := below_then b2 b3
  have K0 : Hid _ := And.intro (below_then H1.out.1 b23) (H1.out.2.laterB b23)
  have r0 := blk_at R3 0
  have r1 := blk_at R3 1
  have r2 := blk_at R3 2
  have r3 := blk_at R3 3
  have r4 := blk_at R3 4
  simp only [List.getElem?_cons_zero, List.getElem?_cons_succ] at r0 r1 r2 r3 r4
  have T0 : Hid _ := same_zero (w2.alloc (.cells #[.int .i64 0, .int .i64 0, .int .i64 0, .int .i64 0, .slice none 0 0] 24))
  clear b2 b3 R3 b23 HC H1
  go_wp2_with fail
  clear r0 r1 r2 r3 r4
  generalize w2.alloc (.cells #[.int .i64 0, .int .i64 0, .int .i64 0, .int .i64 0, .slice none 0 0] 24) = v0 at *
  refine (Calls.mono T0.out) ?_
  rintro e v1 ⟨rfl, b1⟩
  have K1 : Hid _ := And.intro (below_then K0.out.1 b1) (K0.out.2.laterB b1)
  clear K0 T0 b1
  have T2 : Hid _ := put_nil q n a b c d (.slice x l.length cp) v1 rfl
  have n1 := blk_at K1.out.2 1
  have n2 := blk_at K1.out.2 2
  have n3 := blk_at K1.out.2 3
  have n4 := blk_at K1.out.2 4
  have n5 := blk_at K1.out.2 5
  have n6 := blk_at K1.out.2 6
  have n7 := blk_at K1.out.2 7
  simp only [List.getElem?_cons_zero, List.getElem?_cons_succ] at n1 n2 n3 n4 n5 n6 n7
  go_wp2_with fail
  clear n1 n2 n3 n4 n5 n6 n7
  refine (Calls.mono T2.out) ?_
  rintro e v2 ⟨rfl, b1⟩
  have K2 : Hid _ := And.intro (below_then K1.out.1 b1) (K1.out.2.laterB b1)
  clear K1 T2 b1
  have T3 : Hid _ := forget_nil q v2
  have n1 := blk_at K2.out.2 1
  have n2 := blk_at K2.out.2 2
  have n3 := blk_at K2.out.2 3
  have n4 := blk_at K2.out.2 4
  have n5 := blk_at K2.out.2 5
  have n6 := blk_at K2.out.2 6
  have n7 := blk_at K2.out.2 7
  simp only [List.getElem?_cons_zero, List.getElem?_cons_succ] at n1 n2 n3 n4 n5 n6 n7
  go_wp2_with fail
  clear n1 n2 n3 n4 n5 n6 n7
  refine (Calls.mono T3.out) ?_
  rintro e _ ⟨rfl, rfl⟩
  clear T3
  have T4 : Hid _ := last_nil q v2
  have n1 := blk_at K2.out.2 1
  have n2 := blk_at K2.out.2 2
  have n3 := blk_at K2.out.2 3
  have n4 := blk_at K2.out.2 4
  have n5 := blk_at K2.out.2 5
  have n6 := blk_at K2.out.2 6
  have n7 := blk_at K2.out.2 7
  simp only [List.getElem?_cons_zero, List.getElem?_cons_succ] at n1 n2 n3 n4 n5 n6 n7
  go_wp2_with fail
  clear n1 n2 n3 n4 n5 n6 n7
  refine (Calls.mono T4.out) ?_
  rintro e _ ⟨rfl, rfl⟩
  clear T4
  have T5 : Hid _ := len_nil q v2
  have n1 := blk_at K2.out.2 1
  have n2 := blk_at K2.out.2 2
  have n3 := blk_at K2.out.2 3
  have n4 := blk_at K2.out.2 4
  have n5 := blk_at K2.out.2 5
  have n6 := blk_at K2.out.2 6
  have n7 := blk_at K2.out.2 7
  simp only [List.getElem?_cons_zero, List.getElem?_cons_succ] at n1 n2 n3 n4 n5 n6 n7
  go_wp2_with fail
  clear n1 n2 n3 n4 n5 n6 n7
  refine (Calls.mono T5.out) ?_
  rintro e _ ⟨rfl, rfl⟩
  clear T5
  have T6 : Hid _ := bytes_nil v2
  have n1 := blk_at K2.out.2 1
  have n2 := blk_at K2.out.2 2
  have n3 := blk_at K2.out.2 3
  have n4 := blk_at K2.out.2 4
  have n5 := blk_at K2.out.2 5
  have n6 := blk_at K2.out.2 6
  have n7 := blk_at K2.out.2 7
  simp only [List.getElem?_cons_zero, List.getElem?_cons_succ] at n1 n2 n3 n4 n5 n6 n7
  go_wp2_with fail
  clear n1 n2 n3 n4 n5 n6 n7
  refine (Calls.mono T6.out) ?_
  rintro e _ ⟨rfl, rfl⟩
  clear T6
  have T7 : Hid _ := copy_nil v2
  have n1 := blk_at K2.out.2 1
  have n2 := blk_at K2.out.2 2
  have n3 := blk_at K2.out.2 3
  have n4 := blk_at K2.out.2 4
  have n5 := blk_at K2.out.2 5
  have n6 := blk_at K2.out.2 6
  have n7 := blk_at K2.out.2 7
  simp only [List.getElem?_cons_zero, List.getElem?_cons_succ] at n1 n2 n3 n4 n5 n6 n7
  go_wp2_with fail
  clear n1 n2 n3 n4 n5 n6 n7
  refine (Calls.mono T7.out) ?_
  rintro e _ ⟨rfl, rfl⟩
  clear T7
  have T8 : Hid _ := same_nil v2
  have n1 := blk_at K2.out.2 1
  have n2 := blk_at K2.out.2 2
  have n3 := blk_at K2.out.2 3
  have n4 := blk_at K2.out.2 4
  have n5 := blk_at K2.out.2 5
  have n6 := blk_at K2.out.2 6
  have n7 := blk_at K2.out.2 7
  simp only [List.getElem?_cons_zero, List.getElem?_cons_succ] at n1 n2 n3 n4 n5 n6 n7
  go_wp2_with fail
  clear n1 n2 n3 n4 n5 n6 n7
  refine (Calls.mono T8.out) ?_
  rintro e _ ⟨rfl, rfl⟩
  clear T8
  have T9 : Hid _ := ddNew_any v2
  have n1 := blk_at K2.out.2 1
  have n2 := blk_at K2.out.2 2
  have n3 := blk_at K2.out.2 3
  have n4 := blk_at K2.out.2 4
  have n5 := blk_at K2.out.2 5
  have n6 := blk_at K2.out.2 6
  have n7 := blk_at K2.out.2 7
  simp only [List.getElem?_cons_zero, List.getElem?_cons_succ] at n1 n2 n3 n4 n5 n6 n7
  go_wp2_with fail
  clear n1 n2 n3 n4 n5 n6 n7
  refine (Calls.mono T9.out) ?_
  rintro e v9 ⟨rfl, -, b1⟩
  have K9 : Hid _ := And.intro (below_then K2.out.1 b1) (K2.out.2.laterB b1)
  clear K2 T9 b1
  have T10 : Hid _ := same_not v2.heap.size v9
  have n1 := blk_at K9.out.2 1
  have n2 := blk_at K9.out.2 2
  have n3 := blk_at K9.out.2 3
  have n4 := blk_at K9.out.2 4
  have n5 := blk_at K9.out.2 5
  have n6 := blk_at K9.out.2 6
  have n7 := blk_at K9.out.2 7
  simp only [List.getElem?_cons_zero, List.getElem?_cons_succ] at n1 n2 n3 n4 n5 n6 n7
  go_wp2_with fail
  clear n1 n2 n3 n4 n5 n6 n7
  refine (Calls.mono T10.out) ?_
  rintro e _ ⟨rfl, rfl⟩
  clear T10
  have T11 : Hid _ := known12_any v9
  have n1 := blk_at K9.out.2 1
  have n2 := blk_at K9.out.2 2
  have n3 := blk_at K9.out.2 3
  have n4 := blk_at K9.out.2 4
  have n5 := blk_at K9.out.2 5
  have n6 := blk_at K9.out.2 6
  have n7 := blk_at K9.out.2 7
  simp only [List.getElem?_cons_zero, List.getElem?_cons_succ] at n1 n2 n3 n4 n5 n6 n7
  go_wp2_with fail
  clear n1 n2 n3 n4 n5 n6 n7
  refine (Calls.mono T11.out) ?_
  rintro e v11 ⟨rfl, b1⟩
  have F : Hid _ := below_then K9.out.1 b1
  clear K9 T11 b1
  go_wp2
  go_ret
  exact ⟨rfl, F.out⟩
end Go.Proofs.Ytfhcifkbkeihhaa

