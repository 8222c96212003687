/- A table that is new; two answers that are alike. -/
import Derived.Test.YtfhcifkbkeihhaaXDd11
namespace Go.Proofs.Ytfhcifkbkeihhaa
open Go.RowKit
set_option linter.unusedVariables false
set_option linter.unusedSimpArgs false
set_option maxRecDepth 4000

set_option maxHeartbeats 1000000 in
theorem same_yes (a b c d : Int) (x y : Option Addr) (cp cq : Nat) (l : List (BitVec 8)) (w : World) (hl : l.length ≤ 140737488351232) (hx : Row w x l) (hy : Row w y l) :
    Calls Try.prog 10 #[.agg #[.int .i64 a, .int .i64 b, .int .i64 c, .int .i64 d, .slice x l.length cp], .agg #[.int .i64 a, .int .i64 b, .int .i64 c, .int .i64 d, .slice y l.length cq]] w fun e w' => e = .returned (.bool true) ∧ Below w.heap.size w w' := by
  have b1 : Below w.heap.size w (w.alloc (.cells #[.int .i64 a, .int .i64 b, .int .i64 c, .int .i64 d, .slice x l.length cp] 24)) := (Below.refl _ _).alloc (Nat.le_refl _) _
  have A1 := Blk.new' w 24 [.int .i64 a, .int .i64 b, .int .i64 c, .int .i64 d, .slice x l.length cp]
  have b2 : Below (w.alloc (.cells #[.int .i64 a, .int .i64 b, .int .i64 c, .int .i64 d, .slice x l.length cp] 24)).heap.size (w.alloc (.cells #[.int .i64 a, .int .i64 b, .int .i64 c, .int .i64 d, .slice x l.length cp] 24)) ((w.alloc (.cells #[.int .i64 a, .int .i64 b, .int .i64 c, .int .i64 d, .slice x l.length cp] 24)).alloc (.cells #[.int .i64 a, .int .i64 b, .int .i64 c, .int .i64 d, .slice y l.length cq] 24)) := (Below.refl _ _).alloc (Nat.le_refl _) _
  have A2 := A1.laterB b2
  have B2 := Blk.new' (w.alloc (.cells #[.int .i64 a, .int .i64 b, .int .i64 c, .int .i64 d, .slice x l.length cp] 24)) 24 [.int .i64 a, .int .i64 b, .int .i64 c, .int .i64 d, .slice y l.length cq]
  rw [show (w.alloc (.cells #[.int .i64 a, .int .i64 b, .int .i64 c, .int .i64 d, .slice x l.length cp] 24)).heap.size = w.heap.size + 1 by simp] at B2
  have bb := below_then b1 b2
  have s1 := (hx.later bb).str l.length cp (by omega)
  have s2 := (hy.later bb).str l.length cq (by omega)
  have n0 := blk_at A2 0
  have m0 := blk_at B2 0
  have n1 := blk_at A2 1
  have m1 := blk_at B2 1
  have n2 := blk_at A2 2
  have m2 := blk_at B2 2
  have n3 := blk_at A2 3
  have m3 := blk_at B2 3
  have n4 := blk_at A2 4
  have m4 := blk_at B2 4
  simp only [List.getElem?_cons_zero, List.getElem?_cons_succ] at n0 n1 n2 n3 n4 m0 m1 m2 m3 m4
  have H : Hid _ := bb
  clear b1 A1 b2 A2 B2 bb hx hy
  go_enter Try.func10, Try.ntmps10
  go_wp2
  go_ret
  exact ⟨rfl, H.out⟩
set_option maxHeartbeats 1000000 in
theorem ddNew_any (w : World) : Calls Try.prog 22 #[] w fun e w' => e = .returned (.pointer (some ⟨w.heap.size, 0, none⟩)) ∧ Blk w' w.heap.size 73 (List.replicate 16 [Value.int .i64 0, Value.slice none 0 0]).flatten ∧ Below w.heap.size w w' := by
  have b1 : Below w.heap.size w (w.alloc (.cells (List.replicate 16 [Value.int .i64 0, Value.slice none 0 0]).flatten.toArray 73)) := (Below.refl _ _).alloc (Nat.le_refl _) _
  have A1 := Blk.new' w 73 (List.replicate 16 [Value.int .i64 0, Value.slice none 0 0]).flatten
  have H : Hid _ := And.intro A1 b1
  clear A1 b1
  go_enter Try.func22, Try.ntmps22
  go_wp2
  go_ret
  exact ⟨rfl, H.out.1, H.out.2⟩
end Go.Proofs.Ytfhcifkbkeihhaa

