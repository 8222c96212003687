/- The document's Same of two letters that are alike. -/
import Derived.Test.YtfcaaljehhibgaaXPdK
namespace Go.Proofs.Ytfcaaljehhibgaa
open Go.RowKit
set_option linter.unusedVariables false
set_option linter.unusedSimpArgs false
set_option maxRecDepth 8000

set_option maxHeartbeats 4000000 in
theorem pSame_yes (op fl b2 b3 lun tk w0 w1 w2 w3 w4 w5 w6 : Int) (now : Bool) (dx : Option Addr) (dn dc : Nat) (ex : Option Addr) (ec : Nat) (d : List (BitVec 8)) (w : World) (hdl : d.length = dn) (hdr : Row w dx d) (her : Row w ex d) :
    Calls Try.prog 16 #[.agg #[.int .i64 op, .bool now, .int .i64 fl, .int .i64 b2, .int .i64 b3, .int .u64 lun, .int .u32 tk, .int .u32 w0, .int .u32 w1, .int .u32 w2, .int .u32 w3, .int .u32 w4, .int .u32 w5, .int .u32 w6, .slice dx dn dc], .agg #[.int .i64 op, .bool now, .int .i64 fl, .int .i64 b2, .int .i64 b3, .int .u64 lun, .int .u32 tk, .int .u32 w0, .int .u32 w1, .int .u32 w2, .int .u32 w3, .int .u32 w4, .int .u32 w5, .int .u32 w6, .slice ex dn ec]] w fun e w' => e = .returned (.bool true) ∧ Below w.heap.size w w' := by
  have b0 : Below w.heap.size w (w.alloc (.cells #[.int .i64 op, .bool now, .int .i64 fl, .int .i64 b2, .int .i64 b3, .int .u64 lun, .int .u32 tk, .int .u32 w0, .int .u32 w1, .int .u32 w2, .int .u32 w3, .int .u32 w4, .int .u32 w5, .int .u32 w6, .slice dx dn dc] 50)) := (Below.refl _ _).alloc (Nat.le_refl _) _
  have N0 := Blk.new' w 50 [.int .i64 op, .bool now, .int .i64 fl, .int .i64 b2, .int .i64 b3, .int .u64 lun, .int .u32 tk, .int .u32 w0, .int .u32 w1, .int .u32 w2, .int .u32 w3, .int .u32 w4, .int .u32 w5, .int .u32 w6, .slice dx dn dc]
  have hz : (w.alloc (.cells #[.int .i64 op, .bool now, .int .i64 fl, .int .i64 b2, .int .i64 b3, .int .u64 lun, .int .u32 tk, .int .u32 w0, .int .u32 w1, .int .u32 w2, .int .u32 w3, .int .u32 w4, .int .u32 w5, .int .u32 w6, .slice dx dn dc] 50)).heap.size = w.heap.size + 1 := by simp
  have b1 : Below (w.alloc (.cells #[.int .i64 op, .bool now, .int .i64 fl, .int .i64 b2, .int .i64 b3, .int .u64 lun, .int .u32 tk, .int .u32 w0, .int .u32 w1, .int .u32 w2, .int .u32 w3, .int .u32 w4, .int .u32 w5, .int .u32 w6, .slice dx dn dc] 50)).heap.size (w.alloc (.cells #[.int .i64 op, .bool now, .int .i64 fl, .int .i64 b2, .int .i64 b3, .int .u64 lun, .int .u32 tk, .int .u32 w0, .int .u32 w1, .int .u32 w2, .int .u32 w3, .int .u32 w4, .int .u32 w5, .int .u32 w6, .slice dx dn dc] 50)) ((w.alloc (.cells #[.int .i64 op, .bool now, .int .i64 fl, .int .i64 b2, .int .i64 b3, .int .u64 lun, .int .u32 tk, .int .u32 w0, .int .u32 w1, .int .u32 w2, .int .u32 w3, .int .u32 w4, .int .u32 w5, .int .u32 w6, .slice dx dn dc] 50)).alloc (.cells #[.int .i64 op, .bool now, .int .i64 fl, .int .i64 b2, .int .i64 b3, .int .u64 lun, .int .u32 tk, .int .u32 w0, .int .u32 w1, .int .u32 w2, .int .u32 w3, .int .u32 w4, .int .u32 w5, .int .u32 w6, .slice ex dn ec] 50)) := (Below.refl _ _).alloc (Nat.le_refl _) _
  have N1 := Blk.new' (w.alloc (.cells #[.int .i64 op, .bool now, .int .i64 fl, .int .i64 b2, .int .i64 b3, .int .u64 lun, .int .u32 tk, .int .u32 w0, .int .u32 w1, .int .u32 w2, .int .u32 w3, .int .u32 w4, .int .u32 w5, .int .u32 w6, .slice dx dn dc] 50)) 50 [.int .i64 op, .bool now, .int .i64 fl, .int .i64 b2, .int .i64 b3, .int .u64 lun, .int .u32 tk, .int .u32 w0, .int .u32 w1, .int .u32 w2, .int .u32 w3, .int .u32 w4, .int .u32 w5, .int .u32 w6, .slice ex dn ec]
  rw [hz] at N1
  have N0 := N0.laterB b1
  have bb := below_then b0 b1
  have y0 := blk_at N0 0
  have y1 := blk_at N0 1
  have y2 := blk_at N0 2
  have y3 := blk_at N0 3
  have y4 := blk_at N0 4
  have y5 := blk_at N0 5
  have y6 := blk_at N0 6
  have y7 := blk_at N0 7
  have y8 := blk_at N0 8
  have y9 := blk_at N0 9
  have y10 := blk_at N0 10
  have y11 := blk_at N0 11
  have y12 := blk_at N0 12
  have y13 := blk_at N0 13
  have y14 := blk_at N0 14
  have z0 := blk_at N1 0
  have z1 := blk_at N1 1
  have z2 := blk_at N1 2
  have z3 := blk_at N1 3
  have z4 := blk_at N1 4
  have z5 := blk_at N1 5
  have z6 := blk_at N1 6
  have z7 := blk_at N1 7
  have z8 := blk_at N1 8
  have z9 := blk_at N1 9
  have z10 := blk_at N1 10
  have z11 := blk_at N1 11
  have z12 := blk_at N1 12
  have z13 := blk_at N1 13
  have z14 := blk_at N1 14
  simp only [List.getElem?_cons_zero, List.getElem?_cons_succ] at y0 z0 y1 z1 y2 z2 y3 z3 y4 z4 y5 z5 y6 z6 y7 z7 y8 z8 y9 z9 y10 z10 y11 z11 y12 z12 y13 z13 y14 z14
  have cs := Row.str (hdr.later bb) dn dc hdl
  have ct := Row.str (her.later bb) dn ec hdl
  have eq7 := equal_7 [w0, w1, w2, w3, w4, w5, w6] [w0, w1, w2, w3, w4, w5, w6] rfl rfl ((w.alloc (.cells #[.int .i64 op, .bool now, .int .i64 fl, .int .i64 b2, .int .i64 b3, .int .u64 lun, .int .u32 tk, .int .u32 w0, .int .u32 w1, .int .u32 w2, .int .u32 w3, .int .u32 w4, .int .u32 w5, .int .u32 w6, .slice dx dn dc] 50)).alloc (.cells #[.int .i64 op, .bool now, .int .i64 fl, .int .i64 b2, .int .i64 b3, .int .u64 lun, .int .u32 tk, .int .u32 w0, .int .u32 w1, .int .u32 w2, .int .u32 w3, .int .u32 w4, .int .u32 w5, .int .u32 w6, .slice ex dn ec] 50))
  rw [decide_eq_true rfl] at eq7
  simp only [iv32, List.map] at eq7
  have F : Hid _ := bb
  clear bb N0 N1 b0 b1 hz hdr her
  go_enter Try.func16, Try.ntmps16
  go_wp2
  go_ret
  exact ⟨by first | rfl | simp, F.out⟩
end Go.Proofs.Ytfcaaljehhibgaa

