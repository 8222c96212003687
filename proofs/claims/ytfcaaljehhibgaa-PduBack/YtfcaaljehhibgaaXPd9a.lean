/- pdu: Put. -/
import Derived.Test.YtfcaaljehhibgaaXPd5
import Derived.Test.YtfcaaljehhibgaaXPd8
import Derived.Test.YtfcaaljehhibgaaXCat
import Derived.Test.YtfcaaljehhibgaaXDraw
namespace Go.Proofs.Ytfcaaljehhibgaa
open Go.RowKit
set_option linter.unusedVariables false
set_option linter.unusedSimpArgs false
set_option maxRecDepth 4000

def isB (n : Int) : Bool := decide (0 ≤ n ∧ n ≤ 255)
def canP (op fl b2 b3 : Int) : Bool := decide (0 ≤ op ∧ op ≤ 63) && isB fl && isB b2 && isB b3
theorem pIsB_any (n : Int) (w : World) : Calls Try.prog 52 #[.int .i64 n] w fun e w' => e = .returned (.bool (isB n)) ∧ w' = w := by
  by_cases h1 : 0 ≤ n
  · by_cases h2 : n ≤ 255
    · have hE : Hid _ := show isB n = true from decide_eq_true ⟨h1, h2⟩
      go_enter Try.func52, Try.ntmps52
      go_wp2
      go_ret
      exact ⟨by rw [hE.out]; rfl, rfl⟩
    · have hE : Hid _ := show isB n = false from decide_eq_false (by omega)
      go_enter Try.func52, Try.ntmps52
      go_wp2
      go_ret
      exact ⟨by rw [hE.out]; rfl, rfl⟩
  · have hE : Hid _ := show isB n = false from decide_eq_false (by omega)
    go_enter Try.func52, Try.ntmps52
    go_wp2
    go_ret
    exact ⟨by rw [hE.out]; rfl, rfl⟩
set_option maxHeartbeats 4000000 in
theorem pPcan_any (op fl b2 b3 lun tk w0 w1 w2 w3 w4 w5 w6 : Int) (now : Bool) (dx : Option Addr) (dn dc : Nat) (w : World) :
    Calls Try.prog 37 #[.agg #[.int .i64 op, .bool now, .int .i64 fl, .int .i64 b2, .int .i64 b3, .int .u64 lun, .int .u32 tk, .int .u32 w0, .int .u32 w1, .int .u32 w2, .int .u32 w3, .int .u32 w4, .int .u32 w5, .int .u32 w6, .slice dx dn dc]] w fun e w' => e = .returned (.bool (canP op fl b2 b3)) ∧ Below w.heap.size w w' := by
  have b0 : Below w.heap.size w (w.alloc (.cells #[.int .i64 op, .bool now, .int .i64 fl, .int .i64 b2, .int .i64 b3, .int .u64 lun, .int .u32 tk, .int .u32 w0, .int .u32 w1, .int .u32 w2, .int .u32 w3, .int .u32 w4, .int .u32 w5, .int .u32 w6, .slice dx dn dc] 47)) := (Below.refl _ _).alloc (Nat.le_refl _) _
  have N0 := Blk.new' w 47 [.int .i64 op, .bool now, .int .i64 fl, .int .i64 b2, .int .i64 b3, .int .u64 lun, .int .u32 tk, .int .u32 w0, .int .u32 w1, .int .u32 w2, .int .u32 w3, .int .u32 w4, .int .u32 w5, .int .u32 w6, .slice dx dn dc]
  have y0 := blk_at N0 0
  have y2 := blk_at N0 2
  have y3 := blk_at N0 3
  have y4 := blk_at N0 4
  simp only [List.getElem?_cons_zero, List.getElem?_cons_succ] at y0 y2 y3 y4
  have F : Hid _ := b0
  clear b0 N0
  have H2 : Hid _ := pIsB_any fl (w.alloc (.cells #[.int .i64 op, .bool now, .int .i64 fl, .int .i64 b2, .int .i64 b3, .int .u64 lun, .int .u32 tk, .int .u32 w0, .int .u32 w1, .int .u32 w2, .int .u32 w3, .int .u32 w4, .int .u32 w5, .int .u32 w6, .slice dx dn dc] 47))
  have H3 : Hid _ := pIsB_any b2 (w.alloc (.cells #[.int .i64 op, .bool now, .int .i64 fl, .int .i64 b2, .int .i64 b3, .int .u64 lun, .int .u32 tk, .int .u32 w0, .int .u32 w1, .int .u32 w2, .int .u32 w3, .int .u32 w4, .int .u32 w5, .int .u32 w6, .slice dx dn dc] 47))
  have H4 : Hid _ := pIsB_any b3 (w.alloc (.cells #[.int .i64 op, .bool now, .int .i64 fl, .int .i64 b2, .int .i64 b3, .int .u64 lun, .int .u32 tk, .int .u32 w0, .int .u32 w1, .int .u32 w2, .int .u32 w3, .int .u32 w4, .int .u32 w5, .int .u32 w6, .slice dx dn dc] 47))
  by_cases o1 : 0 ≤ op
  · by_cases o2 : op ≤ 63
    · have HO : Hid _ := show decide (0 ≤ op ∧ op ≤ 63) = true from decide_eq_true ⟨o1, o2⟩
      cases h2 : isB fl
      · rw [h2] at H2
        have G2 : Hid _ := h2
        clear h2
        go_enter Try.func37, Try.ntmps37
        go_wp2_with fail
        refine (Calls.mono H2.out) ?_
        rintro e _ ⟨rfl, rfl⟩
        clear H2
        go_wp2
        go_ret
        refine ⟨?_, F.out⟩
        rw [show canP op fl b2 b3 = (decide (0 ≤ op ∧ op ≤ 63) && isB fl && isB b2 && isB b3) from rfl]
        simp [HO.out, G2.out]
      · rw [h2] at H2
        have G2 : Hid _ := h2
        clear h2
        cases h3 : isB b2
        · rw [h3] at H3
          have G3 : Hid _ := h3
          clear h3
          go_enter Try.func37, Try.ntmps37
          go_wp2_with fail
          refine (Calls.mono H2.out) ?_
          rintro e _ ⟨rfl, rfl⟩
          clear H2
          go_wp2_with fail
          refine (Calls.mono H3.out) ?_
          rintro e _ ⟨rfl, rfl⟩
          clear H3
          go_wp2
          go_ret
          refine ⟨?_, F.out⟩
          rw [show canP op fl b2 b3 = (decide (0 ≤ op ∧ op ≤ 63) && isB fl && isB b2 && isB b3) from rfl]
          simp [HO.out, G2.out, G3.out]
        · rw [h3] at H3
          have G3 : Hid _ := h3
          clear h3
          cases h4 : isB b3
          · rw [h4] at H4
            have G4 : Hid _ := h4
            clear h4
            go_enter Try.func37, Try.ntmps37
            go_wp2_with fail
            refine (Calls.mono H2.out) ?_
            rintro e _ ⟨rfl, rfl⟩
            clear H2
            go_wp2_with fail
            refine (Calls.mono H3.out) ?_
            rintro e _ ⟨rfl, rfl⟩
            clear H3
            go_wp2_with fail
            refine (Calls.mono H4.out) ?_
            rintro e _ ⟨rfl, rfl⟩
            clear H4
            go_wp2
            go_ret
            refine ⟨?_, F.out⟩
            rw [show canP op fl b2 b3 = (decide (0 ≤ op ∧ op ≤ 63) && isB fl && isB b2 && isB b3) from rfl]
            simp [HO.out, G2.out, G3.out, G4.out]
          · rw [h4] at H4
            have G4 : Hid _ := h4
            clear h4
            go_enter Try.func37, Try.ntmps37
            go_wp2_with fail
            refine (Calls.mono H2.out) ?_
            rintro e _ ⟨rfl, rfl⟩
            clear H2
            go_wp2_with fail
            refine (Calls.mono H3.out) ?_
            rintro e _ ⟨rfl, rfl⟩
            clear H3
            go_wp2_with fail
            refine (Calls.mono H4.out) ?_
            rintro e _ ⟨rfl, rfl⟩
            clear H4
            go_wp2
            go_ret
            refine ⟨?_, F.out⟩
            rw [show canP op fl b2 b3 = (decide (0 ≤ op ∧ op ≤ 63) && isB fl && isB b2 && isB b3) from rfl]
            simp [HO.out, G2.out, G3.out, G4.out]
    · have HO : Hid _ := show decide (0 ≤ op ∧ op ≤ 63) = false from decide_eq_false (by omega)
      go_enter Try.func37, Try.ntmps37
      go_wp2
      go_ret
      refine ⟨?_, F.out⟩
      rw [show canP op fl b2 b3 = (decide (0 ≤ op ∧ op ≤ 63) && isB fl && isB b2 && isB b3) from rfl]
      simp [HO.out]
  · have HO : Hid _ := show decide (0 ≤ op ∧ op ≤ 63) = false from decide_eq_false (by omega)
    go_enter Try.func37, Try.ntmps37
    go_wp2
    go_ret
    refine ⟨?_, F.out⟩
    rw [show canP op fl b2 b3 = (decide (0 ≤ op ∧ op ≤ 63) && isB fl && isB b2 && isB b3) from rfl]
    simp [HO.out]
/-- what lies in memory while a letter is written -/
structure PtS (w W : World) (ps os : List Value) : Prop where
  be : Below w.heap.size w W
  bp : Blk W w.heap.size 47 ps
  bo : Blk W (w.heap.size + 1) 29 os
theorem PtS.later {w W W' : World} {p o : List Value} (h : PtS w W p o) (b : Below W.heap.size W W') : PtS w W' p o := ⟨below_then h.be b, h.bp.laterB b, h.bo.laterB b⟩
set_option maxHeartbeats 4000000 in
theorem pPut_arg1 (op fl b2 b3 lun tk w0 w1 w2 w3 w4 w5 w6 : Int) (now : Bool) (dx : Option Addr) (dn dc : Nat) (hs ds : Bool) (mo : Int) (w : World) (ho : okO mo = false) :
    Calls Try.prog 21 #[.agg #[.int .i64 op, .bool now, .int .i64 fl, .int .i64 b2, .int .i64 b3, .int .u64 lun, .int .u32 tk, .int .u32 w0, .int .u32 w1, .int .u32 w2, .int .u32 w3, .int .u32 w4, .int .u32 w5, .int .u32 w6, .slice dx dn dc], .agg #[.bool hs, .bool ds, .int .i64 mo]] w fun e w' => e = .returned (.tuple #[.slice none 0 0, .int .i64 1]) ∧ Below w.heap.size w w' := by
  have b0 : Below w.heap.size w (w.alloc (.cells #[.int .i64 op, .bool now, .int .i64 fl, .int .i64 b2, .int .i64 b3, .int .u64 lun, .int .u32 tk, .int .u32 w0, .int .u32 w1, .int .u32 w2, .int .u32 w3, .int .u32 w4, .int .u32 w5, .int .u32 w6, .slice dx dn dc] 47)) := (Below.refl _ _).alloc (Nat.le_refl _) _
  have N0 := Blk.new' w 47 [.int .i64 op, .bool now, .int .i64 fl, .int .i64 b2, .int .i64 b3, .int .u64 lun, .int .u32 tk, .int .u32 w0, .int .u32 w1, .int .u32 w2, .int .u32 w3, .int .u32 w4, .int .u32 w5, .int .u32 w6, .slice dx dn dc]
  have hz : (w.alloc (.cells #[.int .i64 op, .bool now, .int .i64 fl, .int .i64 b2, .int .i64 b3, .int .u64 lun, .int .u32 tk, .int .u32 w0, .int .u32 w1, .int .u32 w2, .int .u32 w3, .int .u32 w4, .int .u32 w5, .int .u32 w6, .slice dx dn dc] 47)).heap.size = w.heap.size + 1 := by simp
  have b1 : Below (w.alloc (.cells #[.int .i64 op, .bool now, .int .i64 fl, .int .i64 b2, .int .i64 b3, .int .u64 lun, .int .u32 tk, .int .u32 w0, .int .u32 w1, .int .u32 w2, .int .u32 w3, .int .u32 w4, .int .u32 w5, .int .u32 w6, .slice dx dn dc] 47)).heap.size (w.alloc (.cells #[.int .i64 op, .bool now, .int .i64 fl, .int .i64 b2, .int .i64 b3, .int .u64 lun, .int .u32 tk, .int .u32 w0, .int .u32 w1, .int .u32 w2, .int .u32 w3, .int .u32 w4, .int .u32 w5, .int .u32 w6, .slice dx dn dc] 47)) ((w.alloc (.cells #[.int .i64 op, .bool now, .int .i64 fl, .int .i64 b2, .int .i64 b3, .int .u64 lun, .int .u32 tk, .int .u32 w0, .int .u32 w1, .int .u32 w2, .int .u32 w3, .int .u32 w4, .int .u32 w5, .int .u32 w6, .slice dx dn dc] 47)).alloc (.cells #[.bool hs, .bool ds, .int .i64 mo] 29)) := (Below.refl _ _).alloc (Nat.le_refl _) _
  have N1 := Blk.new' (w.alloc (.cells #[.int .i64 op, .bool now, .int .i64 fl, .int .i64 b2, .int .i64 b3, .int .u64 lun, .int .u32 tk, .int .u32 w0, .int .u32 w1, .int .u32 w2, .int .u32 w3, .int .u32 w4, .int .u32 w5, .int .u32 w6, .slice dx dn dc] 47)) 29 [.bool hs, .bool ds, .int .i64 mo]
  rw [hz] at N1
  have S0 : Hid (PtS w ((w.alloc (.cells #[.int .i64 op, .bool now, .int .i64 fl, .int .i64 b2, .int .i64 b3, .int .u64 lun, .int .u32 tk, .int .u32 w0, .int .u32 w1, .int .u32 w2, .int .u32 w3, .int .u32 w4, .int .u32 w5, .int .u32 w6, .slice dx dn dc] 47)).alloc (.cells #[.bool hs, .bool ds, .int .i64 mo] 29)) [.int .i64 op, .bool now, .int .i64 fl, .int .i64 b2, .int .i64 b3, .int .u64 lun, .int .u32 tk, .int .u32 w0, .int .u32 w1, .int .u32 w2, .int .u32 w3, .int .u32 w4, .int .u32 w5, .int .u32 w6, .slice dx dn dc] [.bool hs, .bool ds, .int .i64 mo]) := ⟨below_then b0 b1, N0.laterB b1, N1⟩
  clear b0 N0 hz b1 N1
  have lo := load_all size_op agg_op S0.out.bo
  have lp := load_all size_pd agg_pd S0.out.bp
  have HC : Hid _ := pcanBe_any hs ds mo ((w.alloc (.cells #[.int .i64 op, .bool now, .int .i64 fl, .int .i64 b2, .int .i64 b3, .int .u64 lun, .int .u32 tk, .int .u32 w0, .int .u32 w1, .int .u32 w2, .int .u32 w3, .int .u32 w4, .int .u32 w5, .int .u32 w6, .slice dx dn dc] 47)).alloc (.cells #[.bool hs, .bool ds, .int .i64 mo] 29))
  rw [ho] at HC
  go_enter Try.func21, Try.ntmps21
  go_wp2_with (first | (refine wpList_value rfl (exec_load rfl rfl lo) ?_) | (refine wpList_value rfl (exec_load rfl rfl lp) ?_))
  clear lo lp
  refine (Calls.mono HC.out) ?_
  generalize ((w.alloc (.cells #[.int .i64 op, .bool now, .int .i64 fl, .int .i64 b2, .int .i64 b3, .int .u64 lun, .int .u32 tk, .int .u32 w0, .int .u32 w1, .int .u32 w2, .int .u32 w3, .int .u32 w4, .int .u32 w5, .int .u32 w6, .slice dx dn dc] 47)).alloc (.cells #[.bool hs, .bool ds, .int .i64 mo] 29)) = u0 at *
  rintro e u1 ⟨rfl, b1⟩
  have S1 : Hid _ := S0.out.later b1
  clear HC S0 b1
  go_wp2
  go_ret2
  exact ⟨rfl, S1.out.be⟩
set_option maxHeartbeats 4000000 in
theorem pPut_arg2 (op fl b2 b3 lun tk w0 w1 w2 w3 w4 w5 w6 : Int) (now : Bool) (dx : Option Addr) (dn dc : Nat) (hs ds : Bool) (mo : Int) (w : World) (ho : okO mo = true) (hcp : canP op fl b2 b3 = false) :
    Calls Try.prog 21 #[.agg #[.int .i64 op, .bool now, .int .i64 fl, .int .i64 b2, .int .i64 b3, .int .u64 lun, .int .u32 tk, .int .u32 w0, .int .u32 w1, .int .u32 w2, .int .u32 w3, .int .u32 w4, .int .u32 w5, .int .u32 w6, .slice dx dn dc], .agg #[.bool hs, .bool ds, .int .i64 mo]] w fun e w' => e = .returned (.tuple #[.slice none 0 0, .int .i64 1]) ∧ Below w.heap.size w w' := by
  have b0 : Below w.heap.size w (w.alloc (.cells #[.int .i64 op, .bool now, .int .i64 fl, .int .i64 b2, .int .i64 b3, .int .u64 lun, .int .u32 tk, .int .u32 w0, .int .u32 w1, .int .u32 w2, .int .u32 w3, .int .u32 w4, .int .u32 w5, .int .u32 w6, .slice dx dn dc] 47)) := (Below.refl _ _).alloc (Nat.le_refl _) _
  have N0 := Blk.new' w 47 [.int .i64 op, .bool now, .int .i64 fl, .int .i64 b2, .int .i64 b3, .int .u64 lun, .int .u32 tk, .int .u32 w0, .int .u32 w1, .int .u32 w2, .int .u32 w3, .int .u32 w4, .int .u32 w5, .int .u32 w6, .slice dx dn dc]
  have hz : (w.alloc (.cells #[.int .i64 op, .bool now, .int .i64 fl, .int .i64 b2, .int .i64 b3, .int .u64 lun, .int .u32 tk, .int .u32 w0, .int .u32 w1, .int .u32 w2, .int .u32 w3, .int .u32 w4, .int .u32 w5, .int .u32 w6, .slice dx dn dc] 47)).heap.size = w.heap.size + 1 := by simp
  have b1 : Below (w.alloc (.cells #[.int .i64 op, .bool now, .int .i64 fl, .int .i64 b2, .int .i64 b3, .int .u64 lun, .int .u32 tk, .int .u32 w0, .int .u32 w1, .int .u32 w2, .int .u32 w3, .int .u32 w4, .int .u32 w5, .int .u32 w6, .slice dx dn dc] 47)).heap.size (w.alloc (.cells #[.int .i64 op, .bool now, .int .i64 fl, .int .i64 b2, .int .i64 b3, .int .u64 lun, .int .u32 tk, .int .u32 w0, .int .u32 w1, .int .u32 w2, .int .u32 w3, .int .u32 w4, .int .u32 w5, .int .u32 w6, .slice dx dn dc] 47)) ((w.alloc (.cells #[.int .i64 op, .bool now, .int .i64 fl, .int .i64 b2, .int .i64 b3, .int .u64 lun, .int .u32 tk, .int .u32 w0, .int .u32 w1, .int .u32 w2, .int .u32 w3, .int .u32 w4, .int .u32 w5, .int .u32 w6, .slice dx dn dc] 47)).alloc (.cells #[.bool hs, .bool ds, .int .i64 mo] 29)) := (Below.refl _ _).alloc (Nat.le_refl _) _
  have N1 := Blk.new' (w.alloc (.cells #[.int .i64 op, .bool now, .int .i64 fl, .int .i64 b2, .int .i64 b3, .int .u64 lun, .int .u32 tk, .int .u32 w0, .int .u32 w1, .int .u32 w2, .int .u32 w3, .int .u32 w4, .int .u32 w5, .int .u32 w6, .slice dx dn dc] 47)) 29 [.bool hs, .bool ds, .int .i64 mo]
  rw [hz] at N1
  have S0 : Hid (PtS w ((w.alloc (.cells #[.int .i64 op, .bool now, .int .i64 fl, .int .i64 b2, .int .i64 b3, .int .u64 lun, .int .u32 tk, .int .u32 w0, .int .u32 w1, .int .u32 w2, .int .u32 w3, .int .u32 w4, .int .u32 w5, .int .u32 w6, .slice dx dn dc] 47)).alloc (.cells #[.bool hs, .bool ds, .int .i64 mo] 29)) [.int .i64 op, .bool now, .int .i64 fl, .int .i64 b2, .int .i64 b3, .int .u64 lun, .int .u32 tk, .int .u32 w0, .int .u32 w1, .int .u32 w2, .int .u32 w3, .int .u32 w4, .int .u32 w5, .int .u32 w6, .slice dx dn dc] [.bool hs, .bool ds, .int .i64 mo]) := ⟨below_then b0 b1, N0.laterB b1, N1⟩
  clear b0 N0 hz b1 N1
  have lo := load_all size_op agg_op S0.out.bo
  have lp := load_all size_pd agg_pd S0.out.bp
  have HC : Hid _ := pcanBe_any hs ds mo ((w.alloc (.cells #[.int .i64 op, .bool now, .int .i64 fl, .int .i64 b2, .int .i64 b3, .int .u64 lun, .int .u32 tk, .int .u32 w0, .int .u32 w1, .int .u32 w2, .int .u32 w3, .int .u32 w4, .int .u32 w5, .int .u32 w6, .slice dx dn dc] 47)).alloc (.cells #[.bool hs, .bool ds, .int .i64 mo] 29))
  rw [ho] at HC
  go_enter Try.func21, Try.ntmps21
  go_wp2_with (first | (refine wpList_value rfl (exec_load rfl rfl lo) ?_) | (refine wpList_value rfl (exec_load rfl rfl lp) ?_))
  clear lo lp
  refine (Calls.mono HC.out) ?_
  generalize ((w.alloc (.cells #[.int .i64 op, .bool now, .int .i64 fl, .int .i64 b2, .int .i64 b3, .int .u64 lun, .int .u32 tk, .int .u32 w0, .int .u32 w1, .int .u32 w2, .int .u32 w3, .int .u32 w4, .int .u32 w5, .int .u32 w6, .slice dx dn dc] 47)).alloc (.cells #[.bool hs, .bool ds, .int .i64 mo] 29)) = u0 at *
  rintro e u1 ⟨rfl, b1⟩
  have S1 : Hid _ := S0.out.later b1
  clear HC S0 b1
  have p0 := blk_at S1.out.bp 0
  have p1 := blk_at S1.out.bp 1
  have p2 := blk_at S1.out.bp 2
  have p3 := blk_at S1.out.bp 3
  have p4 := blk_at S1.out.bp 4
  have p5 := blk_at S1.out.bp 5
  have p6 := blk_at S1.out.bp 6
  have p7 := blk_at S1.out.bp 7
  have p8 := blk_at S1.out.bp 8
  have p9 := blk_at S1.out.bp 9
  have p10 := blk_at S1.out.bp 10
  have p11 := blk_at S1.out.bp 11
  have p12 := blk_at S1.out.bp 12
  have p13 := blk_at S1.out.bp 13
  have p14 := blk_at S1.out.bp 14
  simp only [List.getElem?_cons_zero, List.getElem?_cons_succ] at p0 p1 p2 p3 p4 p5 p6 p7 p8 p9 p10 p11 p12 p13 p14
  have HC : Hid _ := pPcan_any op fl b2 b3 lun tk w0 w1 w2 w3 w4 w5 w6 now dx dn dc u1
  rw [hcp] at HC
  go_wp2_with fail
  clear p0 p1 p2 p3 p4 p5 p6 p7 p8 p9 p10 p11 p12 p13 p14
  refine (Calls.mono HC.out) ?_
  rintro e u2 ⟨rfl, b2'⟩
  have S2 : Hid _ := S1.out.later b2'
  clear HC S1 b2'
  go_wp2
  go_ret2
  exact ⟨rfl, S2.out.be⟩
set_option maxHeartbeats 4000000 in
theorem pPut_size (op fl b2 b3 lun tk w0 w1 w2 w3 w4 w5 w6 : Int) (now : Bool) (dx : Option Addr) (dn dc : Nat) (hs ds : Bool) (mo : Int) (w : World) (ho : okO mo = true) (hcp : canP op fl b2 b3 = true) (hsz : mo < (dn : Int)) :
    Calls Try.prog 21 #[.agg #[.int .i64 op, .bool now, .int .i64 fl, .int .i64 b2, .int .i64 b3, .int .u64 lun, .int .u32 tk, .int .u32 w0, .int .u32 w1, .int .u32 w2, .int .u32 w3, .int .u32 w4, .int .u32 w5, .int .u32 w6, .slice dx dn dc], .agg #[.bool hs, .bool ds, .int .i64 mo]] w fun e w' => e = .returned (.tuple #[.slice none 0 0, .int .i64 3]) ∧ Below w.heap.size w w' := by
  have b0 : Below w.heap.size w (w.alloc (.cells #[.int .i64 op, .bool now, .int .i64 fl, .int .i64 b2, .int .i64 b3, .int .u64 lun, .int .u32 tk, .int .u32 w0, .int .u32 w1, .int .u32 w2, .int .u32 w3, .int .u32 w4, .int .u32 w5, .int .u32 w6, .slice dx dn dc] 47)) := (Below.refl _ _).alloc (Nat.le_refl _) _
  have N0 := Blk.new' w 47 [.int .i64 op, .bool now, .int .i64 fl, .int .i64 b2, .int .i64 b3, .int .u64 lun, .int .u32 tk, .int .u32 w0, .int .u32 w1, .int .u32 w2, .int .u32 w3, .int .u32 w4, .int .u32 w5, .int .u32 w6, .slice dx dn dc]
  have hz : (w.alloc (.cells #[.int .i64 op, .bool now, .int .i64 fl, .int .i64 b2, .int .i64 b3, .int .u64 lun, .int .u32 tk, .int .u32 w0, .int .u32 w1, .int .u32 w2, .int .u32 w3, .int .u32 w4, .int .u32 w5, .int .u32 w6, .slice dx dn dc] 47)).heap.size = w.heap.size + 1 := by simp
  have b1 : Below (w.alloc (.cells #[.int .i64 op, .bool now, .int .i64 fl, .int .i64 b2, .int .i64 b3, .int .u64 lun, .int .u32 tk, .int .u32 w0, .int .u32 w1, .int .u32 w2, .int .u32 w3, .int .u32 w4, .int .u32 w5, .int .u32 w6, .slice dx dn dc] 47)).heap.size (w.alloc (.cells #[.int .i64 op, .bool now, .int .i64 fl, .int .i64 b2, .int .i64 b3, .int .u64 lun, .int .u32 tk, .int .u32 w0, .int .u32 w1, .int .u32 w2, .int .u32 w3, .int .u32 w4, .int .u32 w5, .int .u32 w6, .slice dx dn dc] 47)) ((w.alloc (.cells #[.int .i64 op, .bool now, .int .i64 fl, .int .i64 b2, .int .i64 b3, .int .u64 lun, .int .u32 tk, .int .u32 w0, .int .u32 w1, .int .u32 w2, .int .u32 w3, .int .u32 w4, .int .u32 w5, .int .u32 w6, .slice dx dn dc] 47)).alloc (.cells #[.bool hs, .bool ds, .int .i64 mo] 29)) := (Below.refl _ _).alloc (Nat.le_refl _) _
  have N1 := Blk.new' (w.alloc (.cells #[.int .i64 op, .bool now, .int .i64 fl, .int .i64 b2, .int .i64 b3, .int .u64 lun, .int .u32 tk, .int .u32 w0, .int .u32 w1, .int .u32 w2, .int .u32 w3, .int .u32 w4, .int .u32 w5, .int .u32 w6, .slice dx dn dc] 47)) 29 [.bool hs, .bool ds, .int .i64 mo]
  rw [hz] at N1
  have S0 : Hid (PtS w ((w.alloc (.cells #[.int .i64 op, .bool now, .int .i64 fl, .int .i64 b2, .int .i64 b3, .int .u64 lun, .int .u32 tk, .int .u32 w0, .int .u32 w1, .int .u32 w2, .int .u32 w3, .int .u32 w4, .int .u32 w5, .int .u32 w6, .slice dx dn dc] 47)).alloc (.cells #[.bool hs, .bool ds, .int .i64 mo] 29)) [.int .i64 op, .bool now, .int .i64 fl, .int .i64 b2, .int .i64 b3, .int .u64 lun, .int .u32 tk, .int .u32 w0, .int .u32 w1, .int .u32 w2, .int .u32 w3, .int .u32 w4, .int .u32 w5, .int .u32 w6, .slice dx dn dc] [.bool hs, .bool ds, .int .i64 mo]) := ⟨below_then b0 b1, N0.laterB b1, N1⟩
  clear b0 N0 hz b1 N1
  have lo := load_all size_op agg_op S0.out.bo
  have lp := load_all size_pd agg_pd S0.out.bp
  have HC : Hid _ := pcanBe_any hs ds mo ((w.alloc (.cells #[.int .i64 op, .bool now, .int .i64 fl, .int .i64 b2, .int .i64 b3, .int .u64 lun, .int .u32 tk, .int .u32 w0, .int .u32 w1, .int .u32 w2, .int .u32 w3, .int .u32 w4, .int .u32 w5, .int .u32 w6, .slice dx dn dc] 47)).alloc (.cells #[.bool hs, .bool ds, .int .i64 mo] 29))
  rw [ho] at HC
  go_enter Try.func21, Try.ntmps21
  go_wp2_with (first | (refine wpList_value rfl (exec_load rfl rfl lo) ?_) | (refine wpList_value rfl (exec_load rfl rfl lp) ?_))
  clear lo lp
  refine (Calls.mono HC.out) ?_
  generalize ((w.alloc (.cells #[.int .i64 op, .bool now, .int .i64 fl, .int .i64 b2, .int .i64 b3, .int .u64 lun, .int .u32 tk, .int .u32 w0, .int .u32 w1, .int .u32 w2, .int .u32 w3, .int .u32 w4, .int .u32 w5, .int .u32 w6, .slice dx dn dc] 47)).alloc (.cells #[.bool hs, .bool ds, .int .i64 mo] 29)) = u0 at *
  rintro e u1 ⟨rfl, b1⟩
  have S1 : Hid _ := S0.out.later b1
  clear HC S0 b1
  have p0 := blk_at S1.out.bp 0
  have p1 := blk_at S1.out.bp 1
  have p2 := blk_at S1.out.bp 2
  have p3 := blk_at S1.out.bp 3
  have p4 := blk_at S1.out.bp 4
  have p5 := blk_at S1.out.bp 5
  have p6 := blk_at S1.out.bp 6
  have p7 := blk_at S1.out.bp 7
  have p8 := blk_at S1.out.bp 8
  have p9 := blk_at S1.out.bp 9
  have p10 := blk_at S1.out.bp 10
  have p11 := blk_at S1.out.bp 11
  have p12 := blk_at S1.out.bp 12
  have p13 := blk_at S1.out.bp 13
  have p14 := blk_at S1.out.bp 14
  simp only [List.getElem?_cons_zero, List.getElem?_cons_succ] at p0 p1 p2 p3 p4 p5 p6 p7 p8 p9 p10 p11 p12 p13 p14
  have HC : Hid _ := pPcan_any op fl b2 b3 lun tk w0 w1 w2 w3 w4 w5 w6 now dx dn dc u1
  rw [hcp] at HC
  go_wp2_with fail
  clear p0 p1 p2 p3 p4 p5 p6 p7 p8 p9 p10 p11 p12 p13 p14
  refine (Calls.mono HC.out) ?_
  rintro e u2 ⟨rfl, b2'⟩
  have S2 : Hid _ := S1.out.later b2'
  clear HC S1 b2'
  have y14 := blk_at S2.out.bp 14
  have z2 := blk_at S2.out.bo 2
  simp only [List.getElem?_cons_zero, List.getElem?_cons_succ] at y14 z2
  go_wp2
  go_ret2
  exact ⟨rfl, S2.out.be⟩
theorem step_value {P : Program} {o : Oper} {a : Act} {w w' : World} {v : Value} {K : Act → World → Prop} {Q : Exit → Act → World → Prop} {E : Prop} {b : Bool} (hb : b = true) (h : (execOp a.eval o).run P w = .ok (.value v) w') (next : K (a.put o.dst v) w') : if b = true then Oper.wp P o a w K Q else E := by
  rw [if_pos hb]
  unfold Oper.wp
  rw [h]
  exact next
theorem exec_app {o : Oper} {a : Act} {w w' : World} {v' : Value} (s x : Operand) (t1 t2 : TypeId) (ho : o.op = .call { callee := .builtin .append, args := #[s, x], argTypes := #[t1, t2] }) (vs vx : Value) (hs : a.eval s = vs) (hx : a.eval x = vx) (hr : (Builtin.append_ #[t1, t2] o.type #[vs, vx]).run Try.prog w = .ok v' w') :
    (execOp a.eval o).run Try.prog w = .ok (.value v') w' := by
  unfold execOp
  simp only [ho, resolve, invoke, builtin, Sem.run_bind, Sem.run_pure, Result.andThen_ok, List.map_toArray, List.map_cons, List.map_nil, hs, hx, hr]
structure PtL (w W : World) (ps os cs : List Value) (lb : Nat) : Prop where
  s : PtS w W ps os
  bl : Blk W lb 69 cs
  l1 : w.heap.size + 1 < lb
theorem PtL.later {w W W' : World} {p o c : List Value} {lb : Nat} (h : PtL w W p o c lb) (b : Below W.heap.size W W') : PtL w W' p o c lb := ⟨h.s.later b, h.bl.laterB b, h.l1⟩
theorem PtL.put {w W : World} {p o c : List Value} {lb : Nat} (h : PtL w W p o c lb) (k : Nat) (v : Value) : PtL w (W.setCell ⟨lb, k, none⟩ v) p o (c.set k v) lb := by
  have t := turned_set W lb k v
  have := h.l1
  exact ⟨⟨h.s.be.trans (t.below _ h.s.be.size (fun k e => by omega)), h.s.bp.turned t (by omega), h.s.bo.turned t (by omega)⟩, h.bl.set k v, h.l1⟩
/-- bytes as a slice that is read -/
structure RowS (w : World) (base : Nat) (v : Value) (l : List (BitVec 8)) (lb : Nat) : Prop where
  ex : ∃ a c, v = .slice a l.length c ∧ Row w a l ∧ (a = none → c = 0) ∧ l.length ≤ c ∧ (∀ x, a = some x → x.block ≠ lb ∧ x.block < w.heap.size)
theorem RowS.later {w w' : World} {base : Nat} {v : Value} {l : List (BitVec 8)} {lb : Nat} (h : RowS w base v l lb) (b : Below w.heap.size w w') : RowS w' base v l lb := by
  obtain ⟨a, c, h1, h2, h3, h4, h5⟩ := h.ex
  exact ⟨a, c, h1, h2.later b, h3, h4, fun x hx => ⟨(h5 x hx).1, Nat.lt_of_lt_of_le (h5 x hx).2 b.size⟩⟩
theorem RowS.put {w : World} {base : Nat} {v : Value} {l : List (BitVec 8)} {lb : Nat} (h : RowS w base v l lb) (k : Nat) (u : Value) : RowS (w.setCell ⟨lb, k, none⟩ u) base v l lb := by
  obtain ⟨a, c, h1, h2, h3, h4, h5⟩ := h.ex
  have t := turned_set w lb k u
  exact ⟨a, c, h1, h2.same (fun x hx => t.block _ (h5 x hx).2 (h5 x hx).1), h3, h4, fun x hx => ⟨(h5 x hx).1, Nat.lt_of_lt_of_le (h5 x hx).2 t.size⟩⟩
theorem RowS.ofOwn {w : World} {base : Nat} {v : Value} {l : List (BitVec 8)} {lb : Nat} (h : Own w base v l) (hn : ∀ k, v.ownBlock = some k → k ≠ lb) : RowS w base v l lb := by
  have h0 := h
  obtain ⟨a, c, rfl, h1, -, h2, h3, h4⟩ := h.open
  refine ⟨a, c, rfl, h2, h3, h1, fun x hx => ?_⟩
  obtain ⟨g, rfl, -⟩ := h4 x hx
  subst hx
  exact ⟨hn g rfl, (World.ownsRow.lt h0 g rfl).2⟩
theorem RowS.nil (w : World) (base lb : Nat) : RowS w base (.slice none 0 0) [] lb := ⟨none, 0, rfl, .inl rfl, fun _ => rfl, Nat.le_refl _, fun x hx => by cases hx⟩
/-- the data with the 0 behind them -/
def bdy (d : List (BitVec 8)) : List (BitVec 8) := d ++ nulls (bodyN d.length - d.length)
def dgB (b : Bool) (l : List (BitVec 8)) : List (BitVec 8) := if b = true then Crc.bytes4 (Crc.sum l) else []
/-- a letter's bytes -/
def putB (hs ds : Bool) (H d : List (BitVec 8)) : List (BitVec 8) := H ++ (dgB hs H ++ (bdy d ++ dgB (ds && decide (0 < d.length)) (bdy d)))
end Go.Proofs.Ytfcaaljehhibgaa

/- pdu: Put, a letter that can be. -/
namespace Go.Proofs.Ytfcaaljehhibgaa
open Go.RowKit
set_option linter.unusedVariables false
set_option linter.unusedSimpArgs false
set_option maxRecDepth 4000
set_option maxHeartbeats 8000000 in
theorem pPut_yes (op fl b2 b3 lun tk w0 w1 w2 w3 w4 w5 w6 : Int) (now : Bool) (dx : Option Addr) (dn dc : Nat) (hs ds : Bool) (mo : Int) (d : List (BitVec 8)) (w : World) (ho : okO mo = true) (hcp : canP op fl b2 b3 = true) (hsz : (dn : Int) ≤ mo) (hop : 0 ≤ op ∧ op ≤ 63) (hfl : 0 ≤ fl ∧ fl ≤ 255) (hb2 : 0 ≤ b2 ∧ b2 ≤ 255) (hb3 : 0 ≤ b3 ∧ b3 ≤ 255) (htw : ∀ t ∈ [tk, w0, w1, w2, w3, w4, w5, w6], 0 ≤ t ∧ t < 4294967296) (hdl : d.length = dn) (hdc : dn ≤ dc) (hdn : dx = none → dc = 0) (hdm : dn ≤ 65536) (hdr : Row w dx d) :
    Calls Try.prog 21 #[.agg #[.int .i64 op, .bool now, .int .i64 fl, .int .i64 b2, .int .i64 b3, .int .u64 lun, .int .u32 tk, .int .u32 w0, .int .u32 w1, .int .u32 w2, .int .u32 w3, .int .u32 w4, .int .u32 w5, .int .u32 w6, .slice dx dn dc], .agg #[.bool hs, .bool ds, .int .i64 mo]] w fun e w' => ∃ z, e = .returned (.tuple #[z, .int .i64 0]) ∧ Own w' w.heap.size z (putB hs ds (pdH op now fl b2 b3 dn lun tk w0 w1 w2 w3 w4 w5 w6) d) ∧ Below w.heap.size w w' := by
  have b0 : Below w.heap.size w (w.alloc (.cells #[.int .i64 op, .bool now, .int .i64 fl, .int .i64 b2, .int .i64 b3, .int .u64 lun, .int .u32 tk, .int .u32 w0, .int .u32 w1, .int .u32 w2, .int .u32 w3, .int .u32 w4, .int .u32 w5, .int .u32 w6, .slice dx dn dc] 47)) := (Below.refl _ _).alloc (Nat.le_refl _) _
  have N0 := Blk.new' w 47 [.int .i64 op, .bool now, .int .i64 fl, .int .i64 b2, .int .i64 b3, .int .u64 lun, .int .u32 tk, .int .u32 w0, .int .u32 w1, .int .u32 w2, .int .u32 w3, .int .u32 w4, .int .u32 w5, .int .u32 w6, .slice dx dn dc]
  have hz : (w.alloc (.cells #[.int .i64 op, .bool now, .int .i64 fl, .int .i64 b2, .int .i64 b3, .int .u64 lun, .int .u32 tk, .int .u32 w0, .int .u32 w1, .int .u32 w2, .int .u32 w3, .int .u32 w4, .int .u32 w5, .int .u32 w6, .slice dx dn dc] 47)).heap.size = w.heap.size + 1 := by simp
  have b1 : Below (w.alloc (.cells #[.int .i64 op, .bool now, .int .i64 fl, .int .i64 b2, .int .i64 b3, .int .u64 lun, .int .u32 tk, .int .u32 w0, .int .u32 w1, .int .u32 w2, .int .u32 w3, .int .u32 w4, .int .u32 w5, .int .u32 w6, .slice dx dn dc] 47)).heap.size (w.alloc (.cells #[.int .i64 op, .bool now, .int .i64 fl, .int .i64 b2, .int .i64 b3, .int .u64 lun, .int .u32 tk, .int .u32 w0, .int .u32 w1, .int .u32 w2, .int .u32 w3, .int .u32 w4, .int .u32 w5, .int .u32 w6, .slice dx dn dc] 47)) ((w.alloc (.cells #[.int .i64 op, .bool now, .int .i64 fl, .int .i64 b2, .int .i64 b3, .int .u64 lun, .int .u32 tk, .int .u32 w0, .int .u32 w1, .int .u32 w2, .int .u32 w3, .int .u32 w4, .int .u32 w5, .int .u32 w6, .slice dx dn dc] 47)).alloc (.cells #[.bool hs, .bool ds, .int .i64 mo] 29)) := (Below.refl _ _).alloc (Nat.le_refl _) _
  have N1 := Blk.new' (w.alloc (.cells #[.int .i64 op, .bool now, .int .i64 fl, .int .i64 b2, .int .i64 b3, .int .u64 lun, .int .u32 tk, .int .u32 w0, .int .u32 w1, .int .u32 w2, .int .u32 w3, .int .u32 w4, .int .u32 w5, .int .u32 w6, .slice dx dn dc] 47)) 29 [.bool hs, .bool ds, .int .i64 mo]
  rw [hz] at N1
  have S0 : Hid (PtS w ((w.alloc (.cells #[.int .i64 op, .bool now, .int .i64 fl, .int .i64 b2, .int .i64 b3, .int .u64 lun, .int .u32 tk, .int .u32 w0, .int .u32 w1, .int .u32 w2, .int .u32 w3, .int .u32 w4, .int .u32 w5, .int .u32 w6, .slice dx dn dc] 47)).alloc (.cells #[.bool hs, .bool ds, .int .i64 mo] 29)) [.int .i64 op, .bool now, .int .i64 fl, .int .i64 b2, .int .i64 b3, .int .u64 lun, .int .u32 tk, .int .u32 w0, .int .u32 w1, .int .u32 w2, .int .u32 w3, .int .u32 w4, .int .u32 w5, .int .u32 w6, .slice dx dn dc] [.bool hs, .bool ds, .int .i64 mo]) := ⟨below_then b0 b1, N0.laterB b1, N1⟩
  clear b0 N0 hz b1 N1
  have lo := load_all size_op agg_op S0.out.bo
  have lp := load_all size_pd agg_pd S0.out.bp
  have HC : Hid _ := pcanBe_any hs ds mo ((w.alloc (.cells #[.int .i64 op, .bool now, .int .i64 fl, .int .i64 b2, .int .i64 b3, .int .u64 lun, .int .u32 tk, .int .u32 w0, .int .u32 w1, .int .u32 w2, .int .u32 w3, .int .u32 w4, .int .u32 w5, .int .u32 w6, .slice dx dn dc] 47)).alloc (.cells #[.bool hs, .bool ds, .int .i64 mo] 29))
  rw [ho] at HC
  go_enter Try.func21, Try.ntmps21
  go_wp2_with (first | (refine wpList_value rfl (exec_load rfl rfl lo) ?_) | (refine wpList_value rfl (exec_load rfl rfl lp) ?_))
  clear lo lp
  refine (Calls.mono HC.out) ?_
  generalize ((w.alloc (.cells #[.int .i64 op, .bool now, .int .i64 fl, .int .i64 b2, .int .i64 b3, .int .u64 lun, .int .u32 tk, .int .u32 w0, .int .u32 w1, .int .u32 w2, .int .u32 w3, .int .u32 w4, .int .u32 w5, .int .u32 w6, .slice dx dn dc] 47)).alloc (.cells #[.bool hs, .bool ds, .int .i64 mo] 29)) = u0 at *
  rintro e u1 ⟨rfl, b1⟩
  have S1 : Hid _ := S0.out.later b1
  clear HC S0 b1
  have p0 := blk_at S1.out.bp 0
  have p1 := blk_at S1.out.bp 1
  have p2 := blk_at S1.out.bp 2
  have p3 := blk_at S1.out.bp 3
  have p4 := blk_at S1.out.bp 4
  have p5 := blk_at S1.out.bp 5
  have p6 := blk_at S1.out.bp 6
  have p7 := blk_at S1.out.bp 7
  have p8 := blk_at S1.out.bp 8
  have p9 := blk_at S1.out.bp 9
  have p10 := blk_at S1.out.bp 10
  have p11 := blk_at S1.out.bp 11
  have p12 := blk_at S1.out.bp 12
  have p13 := blk_at S1.out.bp 13
  have p14 := blk_at S1.out.bp 14
  simp only [List.getElem?_cons_zero, List.getElem?_cons_succ] at p0 p1 p2 p3 p4 p5 p6 p7 p8 p9 p10 p11 p12 p13 p14
  have HC : Hid _ := pPcan_any op fl b2 b3 lun tk w0 w1 w2 w3 w4 w5 w6 now dx dn dc u1
  rw [hcp] at HC
  go_wp2_with fail
  clear p0 p1 p2 p3 p4 p5 p6 p7 p8 p9 p10 p11 p12 p13 p14
  refine (Calls.mono HC.out) ?_
  rintro e u2 ⟨rfl, b2'⟩
  have S2 : Hid _ := S1.out.later b2'
  clear HC S1 b2'
  have y14 := blk_at S2.out.bp 14
  have z2 := blk_at S2.out.bo 2
  simp only [List.getElem?_cons_zero, List.getElem?_cons_succ] at y14 z2
  have u1' : ¬ mo < (dn : Int) := by omega
  have NL := Blk.new' u2 69 [.slice none 0 0, .slice none 0 0, .slice none 0 0, .slice none 0 0]
  have ba : Below u2.heap.size u2 (u2.alloc (.cells #[.slice none 0 0, .slice none 0 0, .slice none 0 0, .slice none 0 0] 69)) := (Below.refl _ _).alloc (Nat.le_refl _) _
  have L0 : Hid (PtL w (u2.alloc (.cells #[.slice none 0 0, .slice none 0 0, .slice none 0 0, .slice none 0 0] 69)) [.int .i64 op, .bool now, .int .i64 fl, .int .i64 b2, .int .i64 b3, .int .u64 lun, .int .u32 tk, .int .u32 w0, .int .u32 w1, .int .u32 w2, .int .u32 w3, .int .u32 w4, .int .u32 w5, .int .u32 w6, .slice dx dn dc] [.bool hs, .bool ds, .int .i64 mo] [.slice none 0 0, .slice none 0 0, .slice none 0 0, .slice none 0 0] u2.heap.size) := ⟨S2.out.later ba, NL, by have := S2.out.bo.lt; omega⟩
  have HDL : Hid (∀ x, dx = some x → d ≠ [] → x.block < w.heap.size) := fun x hx h0 => by
    rcases hdr with q | ⟨bb, off, q1, hc⟩
    · exact absurd q h0
    · rw [q1] at hx; cases hx; exact World.block_lt_of_cell? w ⟨bb, off + 0, none⟩ (hc 0 (by cases d; exact absurd rfl h0; simp))
  have HD : Hid _ := And.intro (hdr.later (L0.out.s.be)) trivial
  have hb0 := ba.size
  have HH : Hid _ := phd_any op fl b2 b3 lun tk w0 w1 w2 w3 w4 w5 w6 now dx dn dc (u2.alloc (.cells #[.slice none 0 0, .slice none 0 0, .slice none 0 0, .slice none 0 0] 69)) hop hfl hb2 hb3 (by omega) htw
  have lp := load_all size_pd agg_pd L0.out.s.bp
  clear NL ba hdr S2
  go_wp2_with (refine wpList_value rfl (exec_load rfl rfl lp) ?_)
  clear lp y14 z2 u1'
  generalize hlb : u2.heap.size = lb at *
  generalize u2.alloc _ = u3 at *
  refine (Calls.mono HH.out) ?_
  rintro e u4 ⟨z0, rfl, oz, b4⟩
  have L1 := L0.out.later b4
  have R0 : RowS u4 0 z0 (pdH op now fl b2 b3 dn lun tk w0 w1 w2 w3 w4 w5 w6) lb := RowS.ofOwn (oz.lower (Nat.zero_le _)) (fun k hk => by have := (World.ownsRow.lt oz k hk).1; have := L0.out.bl.lt; omega)
  have hHH0 : (pdH op now fl b2 b3 dn lun tk w0 w1 w2 w3 w4 w5 w6).length ≤ 1000 := by unfold pdH; simp [be_length]
  obtain ⟨H, hH⟩ : ∃ H, H = pdH op now fl b2 b3 dn lun tk w0 w1 w2 w3 w4 w5 w6 := ⟨_, rfl⟩
  rw [← hH] at R0 hHH0
  have HH0 : Hid _ := hH
  clear hH
  have hHH : Hid _ := hHH0
  clear hHH0
  clear oz
  obtain ⟨a0, c0, hz0, -⟩ := R0.ex
  subst hz0
  have RD0 : Row (u4.setCell ⟨lb, 0, none⟩ (.slice a0 H.length c0)) dx d := by
    by_cases h0 : d = []
    · exact .inl h0
    · exact (HD.out.1.later b4).same (fun x hx => (turned_set u4 lb 0 _).block _ (by have := HDL.out x hx h0; have := L1.s.be.size; omega) (by have := HDL.out x hx h0; have := L1.l1; omega))
  have Z0 : Hid _ := And.intro (L1.put 0 (.slice a0 H.length c0)) (And.intro (R0.put 0 (.slice a0 H.length c0)) (And.intro trivial RD0))
  have k0 := blk_at L1.bl 0
  have f0 := blk_frozen L1.bl 0
  simp only [List.getElem?_cons_zero, List.getElem?_cons_succ] at k0
  clear L1 R0 b4 HH L0 HD RD0
  go_wp2_with fail
  clear k0 f0
  generalize u4.setCell _ _ = u5 at *
  refine e_begin (S := fun W => PtL w W [.int .i64 op, .bool now, .int .i64 fl, .int .i64 b2, .int .i64 b3, .int .u64 lun, .int .u32 tk, .int .u32 w0, .int .u32 w1, .int .u32 w2, .int .u32 w3, .int .u32 w4, .int .u32 w5, .int .u32 w6, .slice dx dn dc] [.bool hs, .bool ds, .int .i64 mo] [.slice a0 H.length c0, .slice none 0 0, .slice none 0 0, .slice none 0 0] lb ∧ RowS W 0 (.slice a0 H.length c0) H lb ∧ Row W dx d) 9 (by kernel_rfl) (show _ ∧ _ ∧ _ from ⟨Z0.out.1.later (Below.refl _ _).drew, Z0.out.2.1.later (Below.refl _ _).drew, Z0.out.2.2.2.later (Below.refl _ _).drew⟩) (fun hS => ?_)
  refine e_take (i := 0) (v := ?_) [1, 2, 7, 9] rfl (by kernel_rfl) (by kernel_rfl) (by kernel_rfl) (by kernel_rfl) (by exact fun _ _ _ h => h) (by rfl) ?_ hS ?_
  rotate_left
  · ((intro w hSw; (try dsimp only at hSw); go_simp) <;> with_reducible rfl)
  (try simp only [Act.put, List.setIfInBounds_toArray, List.set_cons_zero, List.set_cons_succ])
  refine e_take (i := 1) (v := .slice dx dn dc) [2, 7, 9] rfl (by kernel_rfl) (by kernel_rfl) (by kernel_rfl) (by kernel_rfl) (by exact fun _ _ _ h => h) (by rfl) ?_ hS ?_
  · intro W hSW; exact exec_load rfl rfl (load_1 agg_u8s (by rw [blk_at hSW.1.s.bp 14]; rfl))
  (try simp only [Act.put, List.setIfInBounds_toArray, List.set_cons_zero, List.set_cons_succ])
  refine e_take (i := 3) (v := ?_) [4, 5, 6, 7, 9] rfl (by kernel_rfl) (by kernel_rfl) (by kernel_rfl) (by kernel_rfl) (by exact fun _ _ _ h => h) (by rfl) ?_ hS ?_
  rotate_left
  · ((intro w hSw; (try dsimp only at hSw); go_simp) <;> with_reducible rfl)
  (try simp only [Act.put, List.setIfInBounds_toArray, List.set_cons_zero, List.set_cons_succ])
  refine e_take (i := 4) (v := .slice dx dn dc) [5, 6, 7, 9] rfl (by kernel_rfl) (by kernel_rfl) (by kernel_rfl) (by kernel_rfl) (by exact fun _ _ _ h => h) (by rfl) ?_ hS ?_
  · intro W hSW; exact exec_load rfl rfl (load_1 agg_u8s (by rw [blk_at hSW.1.s.bp 14]; rfl))
  (try simp only [Act.put, List.setIfInBounds_toArray, List.set_cons_zero, List.set_cons_succ])
  refine e_take (i := 5) (v := ?_) [6, 7, 9] rfl (by kernel_rfl) (by kernel_rfl) (by kernel_rfl) (by kernel_rfl) (by exact fun _ _ _ h => h) (by rfl) ?_ hS ?_
  rotate_left
  · ((intro w hSw; (try dsimp only at hSw); go_simp) <;> with_reducible rfl)
  (try simp only [Act.put, List.setIfInBounds_toArray, List.set_cons_zero, List.set_cons_succ])
  have hS0 := hS
  generalize u5.drew = x0 at *
  refine e_one (i := 2) rfl (by kernel_rfl) (fun K hK => ?_)
  go_simp
  refine (Calls.mono (Clone_any dx dn dc d _ hdl hdc (by omega) hS.2.2 hdn)) ?_
  rintro e x1 ⟨v1, rfl, o1, b1⟩
  have S1 := And.intro (hS.1.later b1) (And.intro (hS.2.1.later b1) (hS.2.2.later b1))
  clear hS
  go_wp2_with fail
  refine hK.out _ _ (S1) (fun hS => ?_)
  clear hK K
  have hpb := pad_body dn (by omega)
  have HPD := pad_any (dn : Int) x1
  rw [hpb.1] at HPD
  have HPd : Hid _ := HPD
  clear HPD
  refine e_one (i := 6) rfl (by kernel_rfl) (fun K hK => ?_)
  go_simp
  refine (Calls.mono HPd.out) ?_
  rintro e _ ⟨rfl, rfl⟩
  go_wp2_with fail
  refine hK.out _ _ hS (fun hS => ?_)
  clear hK K HPd
  obtain ⟨v2, x2, hrun, o2, g2⟩ := append_zeros o1 (bodyN dn - dn) (by omega) (by omega) b1.size 34
  have b2 : Below x0.heap.size x0 x2 := b1.grown g2 b1.size (own_block o1)
  have S2 := And.intro (hS0.1.later b2) (And.intro (hS0.2.1.later b2) (hS0.2.2.later b2))
  refine e_one (i := 7) rfl (by kernel_rfl) (fun K hK => ?_)
  refine step_value (by rfl) (exec_app _ _ _ _ rfl _ _ rfl rfl hrun) ?_
  refine hK.out _ _ S2 (fun hS => ?_)
  clear hK K hrun g2
  (try simp only [Act.put, List.setIfInBounds_toArray, List.set_cons_zero, List.set_cons_succ])
  refine e_take (i := 8) (v := ?_) [9] rfl (by kernel_rfl) (by kernel_rfl) (by kernel_rfl) (by kernel_rfl) (by exact fun _ _ _ h => h) (by rfl) ?_ hS ?_
  rotate_left
  · ((intro w hSw; (try dsimp only at hSw); go_simp) <;> with_reducible rfl)
  (try simp only [Act.put, List.setIfInBounds_toArray, List.set_cons_zero, List.set_cons_succ])
  have hbd : d ++ nulls (bodyN dn - dn) = bdy d := by unfold bdy; rw [hdl]
  rw [hbd] at o2
  have R2 : RowS x2 0 v2 (bdy d) lb := RowS.ofOwn (o2.lower (Nat.zero_le _)) (fun k hk => by have := (World.ownsRow.lt o2 k hk).1; have := hS0.1.bl.lt; omega)
  obtain ⟨a2, c2, hv2, -⟩ := R2.ex
  subst hv2
  have k2 := blk_at S2.1.bl 2
  have f2 := blk_frozen S2.1.bl 2
  simp only [List.getElem?_cons_zero, List.getElem?_cons_succ] at k2
  have LP := S2.1.put 2 (.slice a2 (bdy d).length c2)
  simp only [List.set_cons_zero, List.set_cons_succ] at LP
  have Z1 : Hid _ := And.intro LP (And.intro (S2.2.1.put 2 (.slice a2 (bdy d).length c2)) (R2.put 2 (.slice a2 (bdy d).length c2)))
  clear LP S2 R2 b2 o2 b1 o1 hS0 hbd
  clear hS
  refine e_last (z := 9) rfl (by kernel_rfl) (fun K hK => ?_)
  go_simp
  refine hK.out _ _ ?_
  clear hK K
  refine e_done (by kernel_rfl) ?_ _
  clear k2 f2
  generalize x2.setCell _ _ = u6 at *
  have hbl : (bdy d).length ≤ 65540 := by have := pad_body dn (by omega); unfold bdy nulls; rw [List.length_append, List.length_replicate, hdl]; omega
  have HG : Hid (∀ b, dgB b H = if b = true then Crc.bytes4 (Crc.sum H) else []) := fun b => rfl
  have hHl : H.length ≤ 1000 := hHH.out
  have b4len : Hid (∀ s, (Crc.bytes4 s).length = 4) := fun s => rfl
  clear Z0 hpb
  cases hs
  · by_cases hp : (ds && decide (0 < d.length)) = true
    · obtain ⟨rfl, hp0⟩ : ds = true ∧ 0 < d.length := by simpa using hp
      have hq : (0 : Int) < (dn : Int) := by omega
      have HPOSE : Hid _ := show decide (0 < d.length) = true from decide_eq_true hp0
      clear hp
      have zh := blk_at Z1.out.1.s.bo 0
      have zd := blk_at Z1.out.1.s.bo 1
      have yd := blk_at Z1.out.1.s.bp 14
      have kc0 := blk_at Z1.out.1.bl 0
      have kc1 := blk_at Z1.out.1.bl 1
      have fc1 := blk_frozen Z1.out.1.bl 1
      have kc2 := blk_at Z1.out.1.bl 2
      have kc3 := blk_at Z1.out.1.bl 3
      have fc3 := blk_frozen Z1.out.1.bl 3
      simp only [List.getElem?_cons_zero, List.getElem?_cons_succ] at zh zd yd kc0 kc1 kc2 kc3
      have Z : Hid _ := And.intro Z1.out.1 (And.intro Z1.out.2.1 (And.intro Z1.out.2.2 (And.intro (RowS.nil u6 0 lb) (RowS.nil u6 0 lb))))
      clear Z1
      have HD : Hid _ := Digest_row a2 (bdy d).length c2 (bdy d) u6 rfl (by unfold maxLen; omega) (by obtain ⟨x, y, e1, e2, -⟩ := Z.out.2.2.1.ex; cases e1; exact e2)
      go_wp2_with fail
      clear zh zd yd kc0 kc1 kc2 kc3 fc1 fc3
      refine (Calls.mono HD.out) ?_
      rintro e v7 ⟨D3, rfl, hB1, hB2, b7, hR, -⟩
      have LP := (Z.out.1.later b7)
      have hbl := Z.out.1.bl.lt
      have RD : RowS v7 0 (.slice (some ⟨D3, 0, none⟩) 4 4) (Crc.bytes4 (Crc.sum (bdy d))) lb := ⟨_, _, rfl, hR, fun h => (by cases h), Nat.le_refl _, fun x hx => by cases hx; exact ⟨by simp only; omega, hB2⟩⟩
      have LQ := LP.put 3 (.slice (some ⟨D3, 0, none⟩) 4 4)
      simp only [List.set_cons_zero, List.set_cons_succ] at LQ
      have k1' := blk_at LP.bl 3
      have f1' := blk_frozen LP.bl 3
      simp only [List.getElem?_cons_zero, List.getElem?_cons_succ] at k1'
      have ZN : Hid _ := And.intro LQ (And.intro ((Z.out.2.1.later b7).put 3 (.slice (some ⟨D3, 0, none⟩) 4 4)) (And.intro ((Z.out.2.2.1.later b7).put 3 (.slice (some ⟨D3, 0, none⟩) 4 4)) (And.intro ((Z.out.2.2.2.1.later b7).put 3 (.slice (some ⟨D3, 0, none⟩) 4 4)) (RD.put 3 (.slice (some ⟨D3, 0, none⟩) 4 4)))))
      have zh := blk_at LQ.s.bo 0
      have zd := blk_at LQ.s.bo 1
      have yd := blk_at LQ.s.bp 14
      have kc0 := blk_at LQ.bl 0
      have kc1 := blk_at LQ.bl 1
      have fc1 := blk_frozen LQ.bl 1
      have kc2 := blk_at LQ.bl 2
      have kc3 := blk_at LQ.bl 3
      have fc3 := blk_frozen LQ.bl 3
      simp only [List.getElem?_cons_zero, List.getElem?_cons_succ] at zh zd yd kc0 kc1 kc2 kc3
      clear HD LP LQ RD hR b7 hB1 hB2 Z hbl
      have Z := ZN
      clear ZN
      (try dsimp only)
      have Z2 : Hid _ := Z.out
      clear Z
      go_upto_region 12 with fail
      generalize v7.setCell _ _ = u7 at *
      clear k1' f1'
      have Z := Z2
      clear Z2
      have ZZ : Hid _ := Z.out
      clear Z
      have HE0 := concat_any lb [H, [], (bdy d), (Crc.bytes4 (Crc.sum (bdy d)))] [.slice a0 H.length c0, .slice none 0 0, .slice a2 (bdy d).length c2, .slice (some ⟨D3, 0, none⟩) 4 4] u7 ZZ.out.1.bl (fun k hk => by
        match k, hk with
        | 0, _ => obtain ⟨a, c, e1, e2, e3, e4, -⟩ := ZZ.out.2.1.ex; exact ⟨a, c, congrArg some e1, e2, e3, e4⟩
        | 1, _ => obtain ⟨a, c, e1, e2, e3, e4, -⟩ := ZZ.out.2.2.2.1.ex; exact ⟨a, c, congrArg some e1, e2, e3, e4⟩
        | 2, _ => obtain ⟨a, c, e1, e2, e3, e4, -⟩ := ZZ.out.2.2.1.ex; exact ⟨a, c, congrArg some e1, e2, e3, e4⟩
        | 3, _ => obtain ⟨a, c, e1, e2, e3, e4, -⟩ := ZZ.out.2.2.2.2.ex; exact ⟨a, c, congrArg some e1, e2, e3, e4⟩) (Nat.le_of_ble_eq_true rfl) (by simp only [List.flatten_cons, List.flatten_nil, List.length_append, List.length_nil, b4len.out]; omega)
      simp only [List.length_cons, List.length_nil, Nat.reduceAdd] at HE0
      have HE : Hid _ := HE0
      clear HE0
      go_wp2_with fail
      refine (Calls.mono HE.out) ?_
      rintro e u9 ⟨z, rfl, o9, b9⟩
      have G : Hid _ := And.intro (o9.lower ZZ.out.1.s.be.size) (below_then ZZ.out.1.s.be b9)
      clear HE o9 b9
      go_wp2
      go_ret2
      refine ⟨z, rfl, ?_, G.out.2⟩
      have hfl : putB false true H d = [H, [], (bdy d), (Crc.bytes4 (Crc.sum (bdy d)))].flatten := by simp only [putB, dgB, List.flatten_cons, List.flatten_nil, List.append_nil, List.nil_append, Bool.true_and, Bool.false_and, if_pos, if_neg, HPOSE.out, Bool.false_eq_true, if_false, if_true]
      rw [← HH0.out, hfl]
      exact G.out.1
    · cases ds
      · have HPOSE : Hid (decide (0 < d.length) = decide (0 < d.length)) := rfl
        clear hp
        have zh := blk_at Z1.out.1.s.bo 0
        have zd := blk_at Z1.out.1.s.bo 1
        have yd := blk_at Z1.out.1.s.bp 14
        have kc0 := blk_at Z1.out.1.bl 0
        have kc1 := blk_at Z1.out.1.bl 1
        have fc1 := blk_frozen Z1.out.1.bl 1
        have kc2 := blk_at Z1.out.1.bl 2
        have kc3 := blk_at Z1.out.1.bl 3
        have fc3 := blk_frozen Z1.out.1.bl 3
        simp only [List.getElem?_cons_zero, List.getElem?_cons_succ] at zh zd yd kc0 kc1 kc2 kc3
        have Z : Hid _ := And.intro Z1.out.1 (And.intro Z1.out.2.1 (And.intro Z1.out.2.2 (And.intro (RowS.nil u6 0 lb) (RowS.nil u6 0 lb))))
        clear Z1
        have ZZ : Hid _ := Z.out
        clear Z
        have HE0 := concat_any lb [H, [], (bdy d), []] [.slice a0 H.length c0, .slice none 0 0, .slice a2 (bdy d).length c2, .slice none 0 0] u6 ZZ.out.1.bl (fun k hk => by
          match k, hk with
          | 0, _ => obtain ⟨a, c, e1, e2, e3, e4, -⟩ := ZZ.out.2.1.ex; exact ⟨a, c, congrArg some e1, e2, e3, e4⟩
          | 1, _ => obtain ⟨a, c, e1, e2, e3, e4, -⟩ := ZZ.out.2.2.2.1.ex; exact ⟨a, c, congrArg some e1, e2, e3, e4⟩
          | 2, _ => obtain ⟨a, c, e1, e2, e3, e4, -⟩ := ZZ.out.2.2.1.ex; exact ⟨a, c, congrArg some e1, e2, e3, e4⟩
          | 3, _ => obtain ⟨a, c, e1, e2, e3, e4, -⟩ := ZZ.out.2.2.2.2.ex; exact ⟨a, c, congrArg some e1, e2, e3, e4⟩) (Nat.le_of_ble_eq_true rfl) (by simp only [List.flatten_cons, List.flatten_nil, List.length_append, List.length_nil, b4len.out]; omega)
        simp only [List.length_cons, List.length_nil, Nat.reduceAdd] at HE0
        have HE : Hid _ := HE0
        clear HE0
        go_wp2_with fail
        refine (Calls.mono HE.out) ?_
        rintro e u9 ⟨z, rfl, o9, b9⟩
        have G : Hid _ := And.intro (o9.lower ZZ.out.1.s.be.size) (below_then ZZ.out.1.s.be b9)
        clear HE o9 b9
        go_wp2
        go_ret2
        refine ⟨z, rfl, ?_, G.out.2⟩
        have hfl : putB false false H d = [H, [], (bdy d), []].flatten := by simp only [putB, dgB, List.flatten_cons, List.flatten_nil, List.append_nil, List.nil_append, Bool.true_and, Bool.false_and, if_pos, if_neg, HPOSE.out, Bool.false_eq_true, if_false, if_true]
        rw [← HH0.out, hfl]
        exact G.out.1
      · have hp0 : d.length = 0 := by simpa using hp
        have hq : ¬ (0 : Int) < (dn : Int) := by omega
        have HPOSE : Hid _ := show decide (0 < d.length) = false from decide_eq_false (by omega)
        clear hp
        have zh := blk_at Z1.out.1.s.bo 0
        have zd := blk_at Z1.out.1.s.bo 1
        have yd := blk_at Z1.out.1.s.bp 14
        have kc0 := blk_at Z1.out.1.bl 0
        have kc1 := blk_at Z1.out.1.bl 1
        have fc1 := blk_frozen Z1.out.1.bl 1
        have kc2 := blk_at Z1.out.1.bl 2
        have kc3 := blk_at Z1.out.1.bl 3
        have fc3 := blk_frozen Z1.out.1.bl 3
        simp only [List.getElem?_cons_zero, List.getElem?_cons_succ] at zh zd yd kc0 kc1 kc2 kc3
        have Z : Hid _ := And.intro Z1.out.1 (And.intro Z1.out.2.1 (And.intro Z1.out.2.2 (And.intro (RowS.nil u6 0 lb) (RowS.nil u6 0 lb))))
        clear Z1
        have ZZ : Hid _ := Z.out
        clear Z
        have HE0 := concat_any lb [H, [], (bdy d), []] [.slice a0 H.length c0, .slice none 0 0, .slice a2 (bdy d).length c2, .slice none 0 0] u6 ZZ.out.1.bl (fun k hk => by
          match k, hk with
          | 0, _ => obtain ⟨a, c, e1, e2, e3, e4, -⟩ := ZZ.out.2.1.ex; exact ⟨a, c, congrArg some e1, e2, e3, e4⟩
          | 1, _ => obtain ⟨a, c, e1, e2, e3, e4, -⟩ := ZZ.out.2.2.2.1.ex; exact ⟨a, c, congrArg some e1, e2, e3, e4⟩
          | 2, _ => obtain ⟨a, c, e1, e2, e3, e4, -⟩ := ZZ.out.2.2.1.ex; exact ⟨a, c, congrArg some e1, e2, e3, e4⟩
          | 3, _ => obtain ⟨a, c, e1, e2, e3, e4, -⟩ := ZZ.out.2.2.2.2.ex; exact ⟨a, c, congrArg some e1, e2, e3, e4⟩) (Nat.le_of_ble_eq_true rfl) (by simp only [List.flatten_cons, List.flatten_nil, List.length_append, List.length_nil, b4len.out]; omega)
        simp only [List.length_cons, List.length_nil, Nat.reduceAdd] at HE0
        have HE : Hid _ := HE0
        clear HE0
        go_wp2_with fail
        refine (Calls.mono HE.out) ?_
        rintro e u9 ⟨z, rfl, o9, b9⟩
        have G : Hid _ := And.intro (o9.lower ZZ.out.1.s.be.size) (below_then ZZ.out.1.s.be b9)
        clear HE o9 b9
        go_wp2
        go_ret2
        refine ⟨z, rfl, ?_, G.out.2⟩
        have hfl : putB false true H d = [H, [], (bdy d), []].flatten := by simp only [putB, dgB, List.flatten_cons, List.flatten_nil, List.append_nil, List.nil_append, Bool.true_and, Bool.false_and, if_pos, if_neg, HPOSE.out, Bool.false_eq_true, if_false, if_true]
        rw [← HH0.out, hfl]
        exact G.out.1
  · by_cases hp : (ds && decide (0 < d.length)) = true
    · obtain ⟨rfl, hp0⟩ : ds = true ∧ 0 < d.length := by simpa using hp
      have hq : (0 : Int) < (dn : Int) := by omega
      have HPOSE : Hid _ := show decide (0 < d.length) = true from decide_eq_true hp0
      clear hp
      have zh := blk_at Z1.out.1.s.bo 0
      have zd := blk_at Z1.out.1.s.bo 1
      have yd := blk_at Z1.out.1.s.bp 14
      have kc0 := blk_at Z1.out.1.bl 0
      have kc1 := blk_at Z1.out.1.bl 1
      have fc1 := blk_frozen Z1.out.1.bl 1
      have kc2 := blk_at Z1.out.1.bl 2
      have kc3 := blk_at Z1.out.1.bl 3
      have fc3 := blk_frozen Z1.out.1.bl 3
      simp only [List.getElem?_cons_zero, List.getElem?_cons_succ] at zh zd yd kc0 kc1 kc2 kc3
      have Z : Hid _ := And.intro Z1.out.1 (And.intro Z1.out.2.1 (And.intro Z1.out.2.2 (And.intro (RowS.nil u6 0 lb) (RowS.nil u6 0 lb))))
      clear Z1
      have HD : Hid _ := Digest_row a0 H.length c0 H u6 rfl (by unfold maxLen; omega) (by obtain ⟨x, y, e1, e2, -⟩ := Z.out.2.1.ex; cases e1; exact e2)
      go_wp2_with fail
      clear zh zd yd kc0 kc1 kc2 kc3 fc1 fc3
      refine (Calls.mono HD.out) ?_
      rintro e v7 ⟨D1, rfl, hB1, hB2, b7, hR, -⟩
      have LP := (Z.out.1.later b7)
      have hbl := Z.out.1.bl.lt
      have RD : RowS v7 0 (.slice (some ⟨D1, 0, none⟩) 4 4) (Crc.bytes4 (Crc.sum H)) lb := ⟨_, _, rfl, hR, fun h => (by cases h), Nat.le_refl _, fun x hx => by cases hx; exact ⟨by simp only; omega, hB2⟩⟩
      have LQ := LP.put 1 (.slice (some ⟨D1, 0, none⟩) 4 4)
      simp only [List.set_cons_zero, List.set_cons_succ] at LQ
      have k1' := blk_at LP.bl 1
      have f1' := blk_frozen LP.bl 1
      simp only [List.getElem?_cons_zero, List.getElem?_cons_succ] at k1'
      have ZN : Hid _ := And.intro LQ (And.intro ((Z.out.2.1.later b7).put 1 (.slice (some ⟨D1, 0, none⟩) 4 4)) (And.intro ((Z.out.2.2.1.later b7).put 1 (.slice (some ⟨D1, 0, none⟩) 4 4)) (And.intro (RD.put 1 (.slice (some ⟨D1, 0, none⟩) 4 4)) (RowS.nil (v7.setCell ⟨lb, 1, none⟩ (.slice (some ⟨D1, 0, none⟩) 4 4)) 0 lb))))
      have zh := blk_at LQ.s.bo 0
      have zd := blk_at LQ.s.bo 1
      have yd := blk_at LQ.s.bp 14
      have kc0 := blk_at LQ.bl 0
      have kc1 := blk_at LQ.bl 1
      have fc1 := blk_frozen LQ.bl 1
      have kc2 := blk_at LQ.bl 2
      have kc3 := blk_at LQ.bl 3
      have fc3 := blk_frozen LQ.bl 3
      simp only [List.getElem?_cons_zero, List.getElem?_cons_succ] at zh zd yd kc0 kc1 kc2 kc3
      clear HD LP LQ RD hR b7 hB1 hB2 Z hbl
      have Z := ZN
      clear ZN
      (try dsimp only)
      skip
      have Z2 : Hid _ := Z.out
      clear Z
      go_upto_region 10 with fail
      generalize v7.setCell _ _ = u7 at *
      clear k1' f1'
      have Z := Z2
      clear Z2
      have HD : Hid _ := Digest_row a2 (bdy d).length c2 (bdy d) u7 rfl (by unfold maxLen; omega) (by obtain ⟨x, y, e1, e2, -⟩ := Z.out.2.2.1.ex; cases e1; exact e2)
      go_wp2_with fail
      clear zh zd yd kc0 kc1 kc2 kc3 fc1 fc3
      refine (Calls.mono HD.out) ?_
      rintro e v8 ⟨D3, rfl, hB1, hB2, b7, hR, -⟩
      have LP := (Z.out.1.later b7)
      have hbl := Z.out.1.bl.lt
      have RD : RowS v8 0 (.slice (some ⟨D3, 0, none⟩) 4 4) (Crc.bytes4 (Crc.sum (bdy d))) lb := ⟨_, _, rfl, hR, fun h => (by cases h), Nat.le_refl _, fun x hx => by cases hx; exact ⟨by simp only; omega, hB2⟩⟩
      have LQ := LP.put 3 (.slice (some ⟨D3, 0, none⟩) 4 4)
      simp only [List.set_cons_zero, List.set_cons_succ] at LQ
      have k1' := blk_at LP.bl 3
      have f1' := blk_frozen LP.bl 3
      simp only [List.getElem?_cons_zero, List.getElem?_cons_succ] at k1'
      have ZN : Hid _ := And.intro LQ (And.intro ((Z.out.2.1.later b7).put 3 (.slice (some ⟨D3, 0, none⟩) 4 4)) (And.intro ((Z.out.2.2.1.later b7).put 3 (.slice (some ⟨D3, 0, none⟩) 4 4)) (And.intro ((Z.out.2.2.2.1.later b7).put 3 (.slice (some ⟨D3, 0, none⟩) 4 4)) (RD.put 3 (.slice (some ⟨D3, 0, none⟩) 4 4)))))
      have zh := blk_at LQ.s.bo 0
      have zd := blk_at LQ.s.bo 1
      have yd := blk_at LQ.s.bp 14
      have kc0 := blk_at LQ.bl 0
      have kc1 := blk_at LQ.bl 1
      have fc1 := blk_frozen LQ.bl 1
      have kc2 := blk_at LQ.bl 2
      have kc3 := blk_at LQ.bl 3
      have fc3 := blk_frozen LQ.bl 3
      simp only [List.getElem?_cons_zero, List.getElem?_cons_succ] at zh zd yd kc0 kc1 kc2 kc3
      clear HD LP LQ RD hR b7 hB1 hB2 Z hbl
      have Z := ZN
      clear ZN
      (try dsimp only)
      have Z2 : Hid _ := Z.out
      clear Z
      go_upto_region 12 with fail
      generalize v8.setCell _ _ = u8 at *
      clear k1' f1'
      have Z := Z2
      clear Z2
      have ZZ : Hid _ := Z.out
      clear Z
      have HE0 := concat_any lb [H, (Crc.bytes4 (Crc.sum H)), (bdy d), (Crc.bytes4 (Crc.sum (bdy d)))] [.slice a0 H.length c0, .slice (some ⟨D1, 0, none⟩) 4 4, .slice a2 (bdy d).length c2, .slice (some ⟨D3, 0, none⟩) 4 4] u8 ZZ.out.1.bl (fun k hk => by
        match k, hk with
        | 0, _ => obtain ⟨a, c, e1, e2, e3, e4, -⟩ := ZZ.out.2.1.ex; exact ⟨a, c, congrArg some e1, e2, e3, e4⟩
        | 1, _ => obtain ⟨a, c, e1, e2, e3, e4, -⟩ := ZZ.out.2.2.2.1.ex; exact ⟨a, c, congrArg some e1, e2, e3, e4⟩
        | 2, _ => obtain ⟨a, c, e1, e2, e3, e4, -⟩ := ZZ.out.2.2.1.ex; exact ⟨a, c, congrArg some e1, e2, e3, e4⟩
        | 3, _ => obtain ⟨a, c, e1, e2, e3, e4, -⟩ := ZZ.out.2.2.2.2.ex; exact ⟨a, c, congrArg some e1, e2, e3, e4⟩) (Nat.le_of_ble_eq_true rfl) (by simp only [List.flatten_cons, List.flatten_nil, List.length_append, List.length_nil, b4len.out]; omega)
      simp only [List.length_cons, List.length_nil, Nat.reduceAdd] at HE0
      have HE : Hid _ := HE0
      clear HE0
      go_wp2_with fail
      refine (Calls.mono HE.out) ?_
      rintro e u9 ⟨z, rfl, o9, b9⟩
      have G : Hid _ := And.intro (o9.lower ZZ.out.1.s.be.size) (below_then ZZ.out.1.s.be b9)
      clear HE o9 b9
      go_wp2
      go_ret2
      refine ⟨z, rfl, ?_, G.out.2⟩
      have hfl : putB true true H d = [H, (Crc.bytes4 (Crc.sum H)), (bdy d), (Crc.bytes4 (Crc.sum (bdy d)))].flatten := by simp only [putB, dgB, List.flatten_cons, List.flatten_nil, List.append_nil, List.nil_append, Bool.true_and, Bool.false_and, if_pos, if_neg, HPOSE.out, Bool.false_eq_true, if_false, if_true]
      rw [← HH0.out, hfl]
      exact G.out.1
    · cases ds
      · have HPOSE : Hid (decide (0 < d.length) = decide (0 < d.length)) := rfl
        clear hp
        have zh := blk_at Z1.out.1.s.bo 0
        have zd := blk_at Z1.out.1.s.bo 1
        have yd := blk_at Z1.out.1.s.bp 14
        have kc0 := blk_at Z1.out.1.bl 0
        have kc1 := blk_at Z1.out.1.bl 1
        have fc1 := blk_frozen Z1.out.1.bl 1
        have kc2 := blk_at Z1.out.1.bl 2
        have kc3 := blk_at Z1.out.1.bl 3
        have fc3 := blk_frozen Z1.out.1.bl 3
        simp only [List.getElem?_cons_zero, List.getElem?_cons_succ] at zh zd yd kc0 kc1 kc2 kc3
        have Z : Hid _ := And.intro Z1.out.1 (And.intro Z1.out.2.1 (And.intro Z1.out.2.2 (And.intro (RowS.nil u6 0 lb) (RowS.nil u6 0 lb))))
        clear Z1
        have HD : Hid _ := Digest_row a0 H.length c0 H u6 rfl (by unfold maxLen; omega) (by obtain ⟨x, y, e1, e2, -⟩ := Z.out.2.1.ex; cases e1; exact e2)
        go_wp2_with fail
        clear zh zd yd kc0 kc1 kc2 kc3 fc1 fc3
        refine (Calls.mono HD.out) ?_
        rintro e v7 ⟨D1, rfl, hB1, hB2, b7, hR, -⟩
        have LP := (Z.out.1.later b7)
        have hbl := Z.out.1.bl.lt
        have RD : RowS v7 0 (.slice (some ⟨D1, 0, none⟩) 4 4) (Crc.bytes4 (Crc.sum H)) lb := ⟨_, _, rfl, hR, fun h => (by cases h), Nat.le_refl _, fun x hx => by cases hx; exact ⟨by simp only; omega, hB2⟩⟩
        have LQ := LP.put 1 (.slice (some ⟨D1, 0, none⟩) 4 4)
        simp only [List.set_cons_zero, List.set_cons_succ] at LQ
        have k1' := blk_at LP.bl 1
        have f1' := blk_frozen LP.bl 1
        simp only [List.getElem?_cons_zero, List.getElem?_cons_succ] at k1'
        have ZN : Hid _ := And.intro LQ (And.intro ((Z.out.2.1.later b7).put 1 (.slice (some ⟨D1, 0, none⟩) 4 4)) (And.intro ((Z.out.2.2.1.later b7).put 1 (.slice (some ⟨D1, 0, none⟩) 4 4)) (And.intro (RD.put 1 (.slice (some ⟨D1, 0, none⟩) 4 4)) (RowS.nil (v7.setCell ⟨lb, 1, none⟩ (.slice (some ⟨D1, 0, none⟩) 4 4)) 0 lb))))
        have zh := blk_at LQ.s.bo 0
        have zd := blk_at LQ.s.bo 1
        have yd := blk_at LQ.s.bp 14
        have kc0 := blk_at LQ.bl 0
        have kc1 := blk_at LQ.bl 1
        have fc1 := blk_frozen LQ.bl 1
        have kc2 := blk_at LQ.bl 2
        have kc3 := blk_at LQ.bl 3
        have fc3 := blk_frozen LQ.bl 3
        simp only [List.getElem?_cons_zero, List.getElem?_cons_succ] at zh zd yd kc0 kc1 kc2 kc3
        clear HD LP LQ RD hR b7 hB1 hB2 Z hbl
        have Z := ZN
        clear ZN
        (try dsimp only)
        skip
        have Z2 : Hid _ := Z.out
        clear Z
        go_upto_region 10 with fail
        generalize v7.setCell _ _ = u7 at *
        clear k1' f1'
        have Z := Z2
        clear Z2
        have ZZ : Hid _ := Z.out
        clear Z
        have HE0 := concat_any lb [H, (Crc.bytes4 (Crc.sum H)), (bdy d), []] [.slice a0 H.length c0, .slice (some ⟨D1, 0, none⟩) 4 4, .slice a2 (bdy d).length c2, .slice none 0 0] u7 ZZ.out.1.bl (fun k hk => by
          match k, hk with
          | 0, _ => obtain ⟨a, c, e1, e2, e3, e4, -⟩ := ZZ.out.2.1.ex; exact ⟨a, c, congrArg some e1, e2, e3, e4⟩
          | 1, _ => obtain ⟨a, c, e1, e2, e3, e4, -⟩ := ZZ.out.2.2.2.1.ex; exact ⟨a, c, congrArg some e1, e2, e3, e4⟩
          | 2, _ => obtain ⟨a, c, e1, e2, e3, e4, -⟩ := ZZ.out.2.2.1.ex; exact ⟨a, c, congrArg some e1, e2, e3, e4⟩
          | 3, _ => obtain ⟨a, c, e1, e2, e3, e4, -⟩ := ZZ.out.2.2.2.2.ex; exact ⟨a, c, congrArg some e1, e2, e3, e4⟩) (Nat.le_of_ble_eq_true rfl) (by simp only [List.flatten_cons, List.flatten_nil, List.length_append, List.length_nil, b4len.out]; omega)
        simp only [List.length_cons, List.length_nil, Nat.reduceAdd] at HE0
        have HE : Hid _ := HE0
        clear HE0
        go_wp2_with fail
        refine (Calls.mono HE.out) ?_
        rintro e u9 ⟨z, rfl, o9, b9⟩
        have G : Hid _ := And.intro (o9.lower ZZ.out.1.s.be.size) (below_then ZZ.out.1.s.be b9)
        clear HE o9 b9
        go_wp2
        go_ret2
        refine ⟨z, rfl, ?_, G.out.2⟩
        have hfl : putB true false H d = [H, (Crc.bytes4 (Crc.sum H)), (bdy d), []].flatten := by simp only [putB, dgB, List.flatten_cons, List.flatten_nil, List.append_nil, List.nil_append, Bool.true_and, Bool.false_and, if_pos, if_neg, HPOSE.out, Bool.false_eq_true, if_false, if_true]
        rw [← HH0.out, hfl]
        exact G.out.1
      · have hp0 : d.length = 0 := by simpa using hp
        have hq : ¬ (0 : Int) < (dn : Int) := by omega
        have HPOSE : Hid _ := show decide (0 < d.length) = false from decide_eq_false (by omega)
        clear hp
        have zh := blk_at Z1.out.1.s.bo 0
        have zd := blk_at Z1.out.1.s.bo 1
        have yd := blk_at Z1.out.1.s.bp 14
        have kc0 := blk_at Z1.out.1.bl 0
        have kc1 := blk_at Z1.out.1.bl 1
        have fc1 := blk_frozen Z1.out.1.bl 1
        have kc2 := blk_at Z1.out.1.bl 2
        have kc3 := blk_at Z1.out.1.bl 3
        have fc3 := blk_frozen Z1.out.1.bl 3
        simp only [List.getElem?_cons_zero, List.getElem?_cons_succ] at zh zd yd kc0 kc1 kc2 kc3
        have Z : Hid _ := And.intro Z1.out.1 (And.intro Z1.out.2.1 (And.intro Z1.out.2.2 (And.intro (RowS.nil u6 0 lb) (RowS.nil u6 0 lb))))
        clear Z1
        have HD : Hid _ := Digest_row a0 H.length c0 H u6 rfl (by unfold maxLen; omega) (by obtain ⟨x, y, e1, e2, -⟩ := Z.out.2.1.ex; cases e1; exact e2)
        go_wp2_with fail
        clear zh zd yd kc0 kc1 kc2 kc3 fc1 fc3
        refine (Calls.mono HD.out) ?_
        rintro e v7 ⟨D1, rfl, hB1, hB2, b7, hR, -⟩
        have LP := (Z.out.1.later b7)
        have hbl := Z.out.1.bl.lt
        have RD : RowS v7 0 (.slice (some ⟨D1, 0, none⟩) 4 4) (Crc.bytes4 (Crc.sum H)) lb := ⟨_, _, rfl, hR, fun h => (by cases h), Nat.le_refl _, fun x hx => by cases hx; exact ⟨by simp only; omega, hB2⟩⟩
        have LQ := LP.put 1 (.slice (some ⟨D1, 0, none⟩) 4 4)
        simp only [List.set_cons_zero, List.set_cons_succ] at LQ
        have k1' := blk_at LP.bl 1
        have f1' := blk_frozen LP.bl 1
        simp only [List.getElem?_cons_zero, List.getElem?_cons_succ] at k1'
        have ZN : Hid _ := And.intro LQ (And.intro ((Z.out.2.1.later b7).put 1 (.slice (some ⟨D1, 0, none⟩) 4 4)) (And.intro ((Z.out.2.2.1.later b7).put 1 (.slice (some ⟨D1, 0, none⟩) 4 4)) (And.intro (RD.put 1 (.slice (some ⟨D1, 0, none⟩) 4 4)) (RowS.nil (v7.setCell ⟨lb, 1, none⟩ (.slice (some ⟨D1, 0, none⟩) 4 4)) 0 lb))))
        have zh := blk_at LQ.s.bo 0
        have zd := blk_at LQ.s.bo 1
        have yd := blk_at LQ.s.bp 14
        have kc0 := blk_at LQ.bl 0
        have kc1 := blk_at LQ.bl 1
        have fc1 := blk_frozen LQ.bl 1
        have kc2 := blk_at LQ.bl 2
        have kc3 := blk_at LQ.bl 3
        have fc3 := blk_frozen LQ.bl 3
        simp only [List.getElem?_cons_zero, List.getElem?_cons_succ] at zh zd yd kc0 kc1 kc2 kc3
        clear HD LP LQ RD hR b7 hB1 hB2 Z hbl
        have Z := ZN
        clear ZN
        (try dsimp only)
        skip
        have Z2 : Hid _ := Z.out
        clear Z
        go_upto_region 10 with fail
        generalize v7.setCell _ _ = u7 at *
        clear k1' f1'
        have Z := Z2
        clear Z2
        have ZZ : Hid _ := Z.out
        clear Z
        have HE0 := concat_any lb [H, (Crc.bytes4 (Crc.sum H)), (bdy d), []] [.slice a0 H.length c0, .slice (some ⟨D1, 0, none⟩) 4 4, .slice a2 (bdy d).length c2, .slice none 0 0] u7 ZZ.out.1.bl (fun k hk => by
          match k, hk with
          | 0, _ => obtain ⟨a, c, e1, e2, e3, e4, -⟩ := ZZ.out.2.1.ex; exact ⟨a, c, congrArg some e1, e2, e3, e4⟩
          | 1, _ => obtain ⟨a, c, e1, e2, e3, e4, -⟩ := ZZ.out.2.2.2.1.ex; exact ⟨a, c, congrArg some e1, e2, e3, e4⟩
          | 2, _ => obtain ⟨a, c, e1, e2, e3, e4, -⟩ := ZZ.out.2.2.1.ex; exact ⟨a, c, congrArg some e1, e2, e3, e4⟩
          | 3, _ => obtain ⟨a, c, e1, e2, e3, e4, -⟩ := ZZ.out.2.2.2.2.ex; exact ⟨a, c, congrArg some e1, e2, e3, e4⟩) (Nat.le_of_ble_eq_true rfl) (by simp only [List.flatten_cons, List.flatten_nil, List.length_append, List.length_nil, b4len.out]; omega)
        simp only [List.length_cons, List.length_nil, Nat.reduceAdd] at HE0
        have HE : Hid _ := HE0
        clear HE0
        go_wp2_with fail
        refine (Calls.mono HE.out) ?_
        rintro e u9 ⟨z, rfl, o9, b9⟩
        have G : Hid _ := And.intro (o9.lower ZZ.out.1.s.be.size) (below_then ZZ.out.1.s.be b9)
        clear HE o9 b9
        go_wp2
        go_ret2
        refine ⟨z, rfl, ?_, G.out.2⟩
        have hfl : putB true true H d = [H, (Crc.bytes4 (Crc.sum H)), (bdy d), []].flatten := by simp only [putB, dgB, List.flatten_cons, List.flatten_nil, List.append_nil, List.nil_append, Bool.true_and, Bool.false_and, if_pos, if_neg, HPOSE.out, Bool.false_eq_true, if_false, if_true]
        rw [← HH0.out, hfl]
        exact G.out.1
end Go.Proofs.Ytfcaaljehhibgaa

/- pdu: Put in all cases; how many bytes a letter has, and what its first bytes are. -/
namespace Go.Proofs.Ytfcaaljehhibgaa
open Go.RowKit
set_option linter.unusedVariables false
set_option linter.unusedSimpArgs false
set_option maxRecDepth 8000

def putE (mo : Int) (op fl b2 b3 : Int) (dn : Nat) : Int := if (okO mo && canP op fl b2 b3) = true then (if mo < (dn : Int) then 3 else 0) else 1
theorem canP_of {op fl b2 b3 : Int} (h : canP op fl b2 b3 = true) : (0 ≤ op ∧ op ≤ 63) ∧ (0 ≤ fl ∧ fl ≤ 255) ∧ (0 ≤ b2 ∧ b2 ≤ 255) ∧ (0 ≤ b3 ∧ b3 ≤ 255) := by
  unfold canP isB at h
  simp only [Bool.and_eq_true, decide_eq_true_eq] at h
  exact ⟨h.1.1.1, h.1.1.2, h.1.2, h.2⟩
theorem pPut_any (op fl b2 b3 lun tk w0 w1 w2 w3 w4 w5 w6 : Int) (now : Bool) (dx : Option Addr) (dn dc : Nat) (hs ds : Bool) (mo : Int) (d : List (BitVec 8)) (w : World) (htw : ∀ t ∈ [tk, w0, w1, w2, w3, w4, w5, w6], 0 ≤ t ∧ t < 4294967296) (hdl : d.length = dn) (hdc : dn ≤ dc) (hdn : dx = none → dc = 0) (hdr : Row w dx d) :
    Calls Try.prog 21 #[.agg #[.int .i64 op, .bool now, .int .i64 fl, .int .i64 b2, .int .i64 b3, .int .u64 lun, .int .u32 tk, .int .u32 w0, .int .u32 w1, .int .u32 w2, .int .u32 w3, .int .u32 w4, .int .u32 w5, .int .u32 w6, .slice dx dn dc], .agg #[.bool hs, .bool ds, .int .i64 mo]] w fun e w' => ∃ z, e = .returned (.tuple #[z, .int .i64 (putE mo op fl b2 b3 dn)]) ∧ Own w' w.heap.size z (if putE mo op fl b2 b3 dn = 0 then putB hs ds (pdH op now fl b2 b3 dn lun tk w0 w1 w2 w3 w4 w5 w6) d else []) ∧ Below w.heap.size w w' := by
  cases ho : okO mo
  · have e : putE mo op fl b2 b3 dn = 1 := by unfold putE; rw [ho]; rfl
    refine (pPut_arg1 op fl b2 b3 lun tk w0 w1 w2 w3 w4 w5 w6 now dx dn dc hs ds mo w ho).mono ?_
    rintro e' w' ⟨rfl, b⟩
    exact ⟨_, by rw [e], by rw [e, if_neg (by decide)]; exact Own.nil _ _, b⟩
  · cases hc : canP op fl b2 b3
    · have e : putE mo op fl b2 b3 dn = 1 := by unfold putE; rw [ho, hc]; rfl
      refine (pPut_arg2 op fl b2 b3 lun tk w0 w1 w2 w3 w4 w5 w6 now dx dn dc hs ds mo w ho hc).mono ?_
      rintro e' w' ⟨rfl, b⟩
      exact ⟨_, by rw [e], by rw [e, if_neg (by decide)]; exact Own.nil _ _, b⟩
    · by_cases hsz : mo < (dn : Int)
      · have e : putE mo op fl b2 b3 dn = 3 := by unfold putE; rw [ho, hc]; exact if_pos hsz
        refine (pPut_size op fl b2 b3 lun tk w0 w1 w2 w3 w4 w5 w6 now dx dn dc hs ds mo w ho hc hsz).mono ?_
        rintro e' w' ⟨rfl, b⟩
        exact ⟨_, by rw [e], by rw [e, if_neg (by decide)]; exact Own.nil _ _, b⟩
      · have e : putE mo op fl b2 b3 dn = 0 := by unfold putE; rw [ho, hc]; exact if_neg hsz
        have hmo : 48 ≤ mo ∧ mo ≤ 65536 := of_decide_eq_true ho
        obtain ⟨q0, q1, q2, q3⟩ := canP_of hc
        refine (pPut_yes op fl b2 b3 lun tk w0 w1 w2 w3 w4 w5 w6 now dx dn dc hs ds mo d w ho hc (by omega) q0 q1 q2 q3 htw hdl hdc hdn (by omega) hdr).mono ?_
        rintro e' w' ⟨z, rfl, o, b⟩
        exact ⟨z, by rw [e], by rw [e, if_pos rfl]; exact o, b⟩
theorem pdH_len (op : Int) (now : Bool) (fl b2 b3 : Int) (n : Nat) (lun tk w0 w1 w2 w3 w4 w5 w6 : Int) : (pdH op now fl b2 b3 n lun tk w0 w1 w2 w3 w4 w5 w6).length = 48 := by
  unfold pdH; simp [be_length]
theorem bdy_len (d : List (BitVec 8)) (h : d.length < 16777216) : (bdy d).length = bodyN d.length := by
  have := pad_body d.length h
  unfold bdy nulls; rw [List.length_append, List.length_replicate]; omega
theorem dgB_len (b : Bool) (l : List (BitVec 8)) : (dgB b l).length = dgN b := by unfold dgB dgN; cases b <;> rfl
theorem putB_len (hs ds : Bool) (H d : List (BitVec 8)) (hd : d.length < 16777216) : (putB hs ds H d).length = H.length + (dgN hs + (bodyN d.length + dgN (ds && decide (0 < d.length)))) := by
  unfold putB
  rw [List.length_append, List.length_append, List.length_append, dgB_len, bdy_len d hd, dgB_len]
theorem putB_at (hs ds : Bool) (H d : List (BitVec 8)) (i : Nat) (h : i < H.length) : bt (putB hs ds H d) i = bt H i := by
  unfold putB
  rw [bt_append, if_pos h]
theorem pdH_bytes (op : Int) (now : Bool) (fl b2 b3 : Int) (n : Nat) (lun tk w0 w1 w2 w3 w4 w5 w6 : Int) (hop : 0 ≤ op ∧ op ≤ 63) (hn : n < 16777216) :
    bt (pdH op now fl b2 b3 n lun tk w0 w1 w2 w3 w4 w5 w6) 0 < 128 ∧ bt (pdH op now fl b2 b3 n lun tk w0 w1 w2 w3 w4 w5 w6) 4 = 0 ∧ bt (pdH op now fl b2 b3 n lun tk w0 w1 w2 w3 w4 w5 w6) 5 * 65536 + bt (pdH op now fl b2 b3 n lun tk w0 w1 w2 w3 w4 w5 w6) 6 * 256 + bt (pdH op now fl b2 b3 n lun tk w0 w1 w2 w3 w4 w5 w6) 7 = (n : Int) := by
  have h0 : 0 ≤ fst7 op now ∧ fst7 op now < 128 := by unfold fst7; split <;> omega
  unfold pdH
  refine ⟨?_, ?_, ?_⟩
  · simp only [be, be8, bt, List.nil_append, List.append_assoc, List.drop, List.cons_append, List.getD_cons_zero, List.getD_cons_succ, Nat.sub_self, Nat.reduceSub]
    simp only [BitVec.toNat_setWidth, BitVec.toNat_ofInt]
    omega
  · simp only [be, be8, bt, List.nil_append, List.append_assoc, List.drop, List.cons_append, List.getD_cons_zero, List.getD_cons_succ, Nat.sub_self, Nat.reduceSub]
    decide
  · simp only [be, be8, bt, List.nil_append, List.append_assoc, List.drop, List.cons_append, List.getD_cons_zero, List.getD_cons_succ, Nat.sub_self, Nat.reduceSub]
    simp only [BitVec.toNat_setWidth, BitVec.toNat_ofInt, BitVec.toNat_ushiftRight, Nat.shiftRight_eq_div_pow]
    omega
end Go.Proofs.Ytfcaaljehhibgaa
