/- pdu: Put. -/
import Derived.Test.YtnnbpfjdkhoidaaXPd5
import Derived.Test.YtnnbpfjdkhoidaaXPd8
import Derived.Test.YtnnbpfjdkhoidaaXCat
import Derived.Test.YtnnbpfjdkhoidaaXDraw
namespace Go.Proofs.Ytnnbpfjdkhoidaa
open Go.RowKit
set_option linter.unusedVariables false
set_option linter.unusedSimpArgs false
set_option maxRecDepth 4000

def isB (n : Int) : Bool := decide (0 ≤ n ∧ n ≤ 255)
def canP (op fl b2 b3 : Int) : Bool := decide (0 ≤ op ∧ op ≤ 63) && isB fl && isB b2 && isB b3
theorem pIsB_any (n : Int) (w : World) : Calls Try.prog 49 #[.int .i64 n] w fun e w' => e = .returned (.bool (isB n)) ∧ w' = w := by
  by_cases h1 : 0 ≤ n
  · by_cases h2 : n ≤ 255
    · have hE : Hid _ := show isB n = true from decide_eq_true ⟨h1, h2⟩
      go_enter Try.func49, Try.ntmps49
      go_wp2
      go_ret
      exact ⟨by rw [hE.out]; rfl, rfl⟩
    · have hE : Hid _ := show isB n = false from decide_eq_false (by omega)
      go_enter Try.func49, Try.ntmps49
      go_wp2
      go_ret
      exact ⟨by rw [hE.out]; rfl, rfl⟩
  · have hE : Hid _ := show isB n = false from decide_eq_false (by omega)
    go_enter Try.func49, Try.ntmps49
    go_wp2
    go_ret
    exact ⟨by rw [hE.out]; rfl, rfl⟩
set_option maxHeartbeats 4000000 in
theorem pPcan_any (op fl b2 b3 lun tk w0 w1 w2 w3 w4 w5 w6 : Int) (now : Bool) (dx : Option Addr) (dn dc : Nat) (w : World) :
    Calls Try.prog 30 #[.agg #[.int .i64 op, .bool now, .int .i64 fl, .int .i64 b2, .int .i64 b3, .int .u64 lun, .int .u32 tk, .int .u32 w0, .int .u32 w1, .int .u32 w2, .int .u32 w3, .int .u32 w4, .int .u32 w5, .int .u32 w6, .slice dx dn dc]] w fun e w' => e = .returned (.bool (canP op fl b2 b3)) ∧ Below w.heap.size w w' := by
  have b0 : Below w.heap.size w (w.alloc (.cells #[.int .i64 op, .bool now, .int .i64 fl, .int .i64 b2, .int .i64 b3, .int .u64 lun, .int .u32 tk, .int .u32 w0, .int .u32 w1, .int .u32 w2, .int .u32 w3, .int .u32 w4, .int .u32 w5, .int .u32 w6, .slice dx dn dc] 33)) := (Below.refl _ _).alloc (Nat.le_refl _) _
  have N0 := Blk.new' w 33 [.int .i64 op, .bool now, .int .i64 fl, .int .i64 b2, .int .i64 b3, .int .u64 lun, .int .u32 tk, .int .u32 w0, .int .u32 w1, .int .u32 w2, .int .u32 w3, .int .u32 w4, .int .u32 w5, .int .u32 w6, .slice dx dn dc]
  have y0 := blk_at N0 0
  have y2 := blk_at N0 2
  have y3 := blk_at N0 3
  have y4 := blk_at N0 4
  simp only [List.getElem?_cons_zero, List.getElem?_cons_succ] at y0 y2 y3 y4
  have F : Hid _ := b0
  clear b0 N0
  have H2 : Hid _ := pIsB_any fl (w.alloc (.cells #[.int .i64 op, .bool now, .int .i64 fl, .int .i64 b2, .int .i64 b3, .int .u64 lun, .int .u32 tk, .int .u32 w0, .int .u32 w1, .int .u32 w2, .int .u32 w3, .int .u32 w4, .int .u32 w5, .int .u32 w6, .slice dx dn dc] 33))
  have H3 : Hid _ := pIsB_any b2 (w.alloc (.cells #[.int .i64 op, .bool now, .int .i64 fl, .int .i64 b2, .int .i64 b3, .int .u64 lun, .int .u32 tk, .int .u32 w0, .int .u32 w1, .int .u32 w2, .int .u32 w3, .int .u32 w4, .int .u32 w5, .int .u32 w6, .slice dx dn dc] 33))
  have H4 : Hid _ := pIsB_any b3 (w.alloc (.cells #[.int .i64 op, .bool now, .int .i64 fl, .int .i64 b2, .int .i64 b3, .int .u64 lun, .int .u32 tk, .int .u32 w0, .int .u32 w1, .int .u32 w2, .int .u32 w3, .int .u32 w4, .int .u32 w5, .int .u32 w6, .slice dx dn dc] 33))
  by_cases o1 : 0 ≤ op
  · by_cases o2 : op ≤ 63
    · have HO : Hid _ := show decide (0 ≤ op ∧ op ≤ 63) = true from decide_eq_true ⟨o1, o2⟩
      cases h2 : isB fl
      · rw [h2] at H2
        have G2 : Hid _ := h2
        clear h2
        go_enter Try.func30, Try.ntmps30
        go_wp2_with fail
        refine (Calls.mono H2.out) ?_
        rintro e _ ⟨rfl, rfl⟩
        clear H2
        go_wp2
        go_ret
        refine ⟨?_, F.out⟩
        rw [show canP op fl b2 b3 = (decide (0 ≤ op ∧ op ≤ 63) && isB fl && isB b2 && isB b3) from rfl]
        simp [HO.out, G2.out]
      · rw [h2] at H2
        have G2 : Hid _ := h2
        clear h2
        cases h3 : isB b2
        · rw [h3] at H3
          have G3 : Hid _ := h3
          clear h3
          go_enter Try.func30, Try.ntmps30
          go_wp2_with fail
          refine (Calls.mono H2.out) ?_
          rintro e _ ⟨rfl, rfl⟩
          clear H2
          go_wp2_with fail
          refine (Calls.mono H3.out) ?_
          rintro e _ ⟨rfl, rfl⟩
          clear H3
          go_wp2
          go_ret
          refine ⟨?_, F.out⟩
          rw [show canP op fl b2 b3 = (decide (0 ≤ op ∧ op ≤ 63) && isB fl && isB b2 && isB b3) from rfl]
          simp [HO.out, G2.out, G3.out]
        · rw [h3] at H3
          have G3 : Hid _ := h3
          clear h3
          cases h4 : isB b3
          · rw [h4] at H4
            have G4 : Hid _ := h4
            clear h4
            go_enter Try.func30, Try.ntmps30
            go_wp2_with fail
            refine (Calls.mono H2.out) ?_
            rintro e _ ⟨rfl, rfl⟩
            clear H2
            go_wp2_with fail
            refine (Calls.mono H3.out) ?_
            rintro e _ ⟨rfl, rfl⟩
            clear H3
            go_wp2_with fail
            refine (Calls.mono H4.out) ?_
            rintro e _ ⟨rfl, rfl⟩
            clear H4
            go_wp2
            go_ret
            refine ⟨?_, F.out⟩
            rw [show canP op fl b2 b3 = (decide (0 ≤ op ∧ op ≤ 63) && isB fl && isB b2 && isB b3) from rfl]
            simp [HO.out, G2.out, G3.out, G4.out]
          · rw [h4] at H4
            have G4 : Hid _ := h4
            clear h4
            go_enter Try.func30, Try.ntmps30
            go_wp2_with fail
            refine (Calls.mono H2.out) ?_
            rintro e _ ⟨rfl, rfl⟩
            clear H2
            go_wp2_with fail
            refine (Calls.mono H3.out) ?_
            rintro e _ ⟨rfl, rfl⟩
            clear H3
            go_wp2_with fail
            refine (Calls.mono H4.out) ?_
            rintro e _ ⟨rfl, rfl⟩
            clear H4
            go_wp2
            go_ret
            refine ⟨?_, F.out⟩
            rw [show canP op fl b2 b3 = (decide (0 ≤ op ∧ op ≤ 63) && isB fl && isB b2 && isB b3) from rfl]
            simp [HO.out, G2.out, G3.out, G4.out]
    · have HO : Hid _ := show decide (0 ≤ op ∧ op ≤ 63) = false from decide_eq_false (by omega)
      go_enter Try.func30, Try.ntmps30
      go_wp2
      go_ret
      refine ⟨?_, F.out⟩
      rw [show canP op fl b2 b3 = (decide (0 ≤ op ∧ op ≤ 63) && isB fl && isB b2 && isB b3) from rfl]
      simp [HO.out]
  · have HO : Hid _ := show decide (0 ≤ op ∧ op ≤ 63) = false from decide_eq_false (by omega)
    go_enter Try.func30, Try.ntmps30
    go_wp2
    go_ret
    refine ⟨?_, F.out⟩
    rw [show canP op fl b2 b3 = (decide (0 ≤ op ∧ op ≤ 63) && isB fl && isB b2 && isB b3) from rfl]
    simp [HO.out]
/-- what lies in memory while a letter is written -/
structure PtS (w W : World) (ps os : List Value) : Prop where
  be : Below w.heap.size w W
  bp : Blk W w.heap.size 33 ps
  bo : Blk W (w.heap.size + 1) 29 os
theorem PtS.later {w W W' : World} {p o : List Value} (h : PtS w W p o) (b : Below W.heap.size W W') : PtS w W' p o := ⟨below_then h.be b, h.bp.laterB b, h.bo.laterB b⟩
set_option maxHeartbeats 4000000 in
theorem pPut_arg1 (op fl b2 b3 lun tk w0 w1 w2 w3 w4 w5 w6 : Int) (now : Bool) (dx : Option Addr) (dn dc : Nat) (hs ds : Bool) (mo : Int) (w : World) (ho : okO mo = false) :
    Calls Try.prog 7 #[.agg #[.int .i64 op, .bool now, .int .i64 fl, .int .i64 b2, .int .i64 b3, .int .u64 lun, .int .u32 tk, .int .u32 w0, .int .u32 w1, .int .u32 w2, .int .u32 w3, .int .u32 w4, .int .u32 w5, .int .u32 w6, .slice dx dn dc], .agg #[.bool hs, .bool ds, .int .i64 mo]] w fun e w' => e = .returned (.tuple #[.slice none 0 0, .int .i64 1]) ∧ Below w.heap.size w w' := by
  have b0 : Below w.heap.size w (w.alloc (.cells #[.int .i64 op, .bool now, .int .i64 fl, .int .i64 b2, .int .i64 b3, .int .u64 lun, .int .u32 tk, .int .u32 w0, .int .u32 w1, .int .u32 w2, .int .u32 w3, .int .u32 w4, .int .u32 w5, .int .u32 w6, .slice dx dn dc] 33)) := (Below.refl _ _).alloc (Nat.le_refl _) _
  have N0 := Blk.new' w 33 [.int .i64 op, .bool now, .int .i64 fl, .int .i64 b2, .int .i64 b3, .int .u64 lun, .int .u32 tk, .int .u32 w0, .int .u32 w1, .int .u32 w2, .int .u32 w3, .int .u32 w4, .int .u32 w5, .int .u32 w6, .slice dx dn dc]
  have hz : (w.alloc (.cells #[.int .i64 op, .bool now, .int .i64 fl, .int .i64 b2, .int .i64 b3, .int .u64 lun, .int .u32 tk, .int .u32 w0, .int .u32 w1, .int .u32 w2, .int .u32 w3, .int .u32 w4, .int .u32 w5, .int .u32 w6, .slice dx dn dc] 33)).heap.size = w.heap.size + 1 := by simp
  have b1 : Below (w.alloc (.cells #[.int .i64 op, .bool now, .int .i64 fl, .int .i64 b2, .int .i64 b3, .int .u64 lun, .int .u32 tk, .int .u32 w0, .int .u32 w1, .int .u32 w2, .int .u32 w3, .int .u32 w4, .int .u32 w5, .int .u32 w6, .slice dx dn dc] 33)).heap.size (w.alloc (.cells #[.int .i64 op, .bool now, .int .i64 fl, .int .i64 b2, .int .i64 b3, .int .u64 lun, .int .u32 tk, .int .u32 w0, .int .u32 w1, .int .u32 w2, .int .u32 w3, .int .u32 w4, .int .u32 w5, .int .u32 w6, .slice dx dn dc] 33)) ((w.alloc (.cells #[.int .i64 op, .bool now, .int .i64 fl, .int .i64 b2, .int .i64 b3, .int .u64 lun, .int .u32 tk, .int .u32 w0, .int .u32 w1, .int .u32 w2, .int .u32 w3, .int .u32 w4, .int .u32 w5, .int .u32 w6, .slice dx dn dc] 33)).alloc (.cells #[.bool hs, .bool ds, .int .i64 mo] 29)) := (Below.refl _ _).alloc (Nat.le_refl _) _
  have N1 := Blk.new' (w.alloc (.cells #[.int .i64 op, .bool now, .int .i64 fl, .int .i64 b2, .int .i64 b3, .int .u64 lun, .int .u32 tk, .int .u32 w0, .int .u32 w1, .int .u32 w2, .int .u32 w3, .int .u32 w4, .int .u32 w5, .int .u32 w6, .slice dx dn dc] 33)) 29 [.bool hs, .bool ds, .int .i64 mo]
  rw [hz] at N1
  have S0 : Hid (PtS w ((w.alloc (.cells #[.int .i64 op, .bool now, .int .i64 fl, .int .i64 b2, .int .i64 b3, .int .u64 lun, .int .u32 tk, .int .u32 w0, .int .u32 w1, .int .u32 w2, .int .u32 w3, .int .u32 w4, .int .u32 w5, .int .u32 w6, .slice dx dn dc] 33)).alloc (.cells #[.bool hs, .bool ds, .int .i64 mo] 29)) [.int .i64 op, .bool now, .int .i64 fl, .int .i64 b2, .int .i64 b3, .int .u64 lun, .int .u32 tk, .int .u32 w0, .int .u32 w1, .int .u32 w2, .int .u32 w3, .int .u32 w4, .int .u32 w5, .int .u32 w6, .slice dx dn dc] [.bool hs, .bool ds, .int .i64 mo]) := ⟨below_then b0 b1, N0.laterB b1, N1⟩
  clear b0 N0 hz b1 N1
  have lo := load_all size_op agg_op S0.out.bo
  have lp := load_all size_pd agg_pd S0.out.bp
  have HC : Hid _ := pcanBe_any hs ds mo ((w.alloc (.cells #[.int .i64 op, .bool now, .int .i64 fl, .int .i64 b2, .int .i64 b3, .int .u64 lun, .int .u32 tk, .int .u32 w0, .int .u32 w1, .int .u32 w2, .int .u32 w3, .int .u32 w4, .int .u32 w5, .int .u32 w6, .slice dx dn dc] 33)).alloc (.cells #[.bool hs, .bool ds, .int .i64 mo] 29))
  rw [ho] at HC
  go_enter Try.func7, Try.ntmps7
  go_wp2_with (first | (refine wpList_value rfl (exec_load rfl rfl lo) ?_) | (refine wpList_value rfl (exec_load rfl rfl lp) ?_))
  clear lo lp
  refine (Calls.mono HC.out) ?_
  generalize ((w.alloc (.cells #[.int .i64 op, .bool now, .int .i64 fl, .int .i64 b2, .int .i64 b3, .int .u64 lun, .int .u32 tk, .int .u32 w0, .int .u32 w1, .int .u32 w2, .int .u32 w3, .int .u32 w4, .int .u32 w5, .int .u32 w6, .slice dx dn dc] 33)).alloc (.cells #[.bool hs, .bool ds, .int .i64 mo] 29)) = u0 at *
  rintro e u1 ⟨rfl, b1⟩
  have S1 : Hid _ := S0.out.later b1
  clear HC S0 b1
  go_wp2
  go_ret2
  exact ⟨rfl, S1.out.be⟩
set_option maxHeartbeats 4000000 in
theorem pPut_arg2 (op fl b2 b3 lun tk w0 w1 w2 w3 w4 w5 w6 : Int) (now : Bool) (dx : Option Addr) (dn dc : Nat) (hs ds : Bool) (mo : Int) (w : World) (ho : okO mo = true) (hcp : canP op fl b2 b3 = false) :
    Calls Try.prog 7 #[.agg #[.int .i64 op, .bool now, .int .i64 fl, .int .i64 b2, .int .i64 b3, .int .u64 lun, .int .u32 tk, .int .u32 w0, .int .u32 w1, .int .u32 w2, .int .u32 w3, .int .u32 w4, .int .u32 w5, .int .u32 w6, .slice dx dn dc], .agg #[.bool hs, .bool ds, .int .i64 mo]] w fun e w' => e = .returned (.tuple #[.slice none 0 0, .int .i64 1]) ∧ Below w.heap.size w w' := by
  have b0 : Below w.heap.size w (w.alloc (.cells #[.int .i64 op, .bool now, .int .i64 fl, .int .i64 b2, .int .i64 b3, .int .u64 lun, .int .u32 tk, .int .u32 w0, .int .u32 w1, .int .u32 w2, .int .u32 w3, .int .u32 w4, .int .u32 w5, .int .u32 w6, .slice dx dn dc] 33)) := (Below.refl _ _).alloc (Nat.le_refl _) _
  have N0 := Blk.new' w 33 [.int .i64 op, .bool now, .int .i64 fl, .int .i64 b2, .int .i64 b3, .int .u64 lun, .int .u32 tk, .int .u32 w0, .int .u32 w1, .int .u32 w2, .int .u32 w3, .int .u32 w4, .int .u32 w5, .int .u32 w6, .slice dx dn dc]
  have hz : (w.alloc (.cells #[.int .i64 op, .bool now, .int .i64 fl, .int .i64 b2, .int .i64 b3, .int .u64 lun, .int .u32 tk, .int .u32 w0, .int .u32 w1, .int .u32 w2, .int .u32 w3, .int .u32 w4, .int .u32 w5, .int .u32 w6, .slice dx dn dc] 33)).heap.size = w.heap.size + 1 := by simp
  have b1 : Below (w.alloc (.cells #[.int .i64 op, .bool now, .int .i64 fl, .int .i64 b2, .int .i64 b3, .int .u64 lun, .int .u32 tk, .int .u32 w0, .int .u32 w1, .int .u32 w2, .int .u32 w3, .int .u32 w4, .int .u32 w5, .int .u32 w6, .slice dx dn dc] 33)).heap.size (w.alloc (.cells #[.int .i64 op, .bool now, .int .i64 fl, .int .i64 b2, .int .i64 b3, .int .u64 lun, .int .u32 tk, .int .u32 w0, .int .u32 w1, .int .u32 w2, .int .u32 w3, .int .u32 w4, .int .u32 w5, .int .u32 w6, .slice dx dn dc] 33)) ((w.alloc (.cells #[.int .i64 op, .bool now, .int .i64 fl, .int .i64 b2, .int .i64 b3, .int .u64 lun, .int .u32 tk, .int .u32 w0, .int .u32 w1, .int .u32 w2, .int .u32 w3, .int .u32 w4, .int .u32 w5, .int .u32 w6, .slice dx dn dc] 33)).alloc (.cells #[.bool hs, .bool ds, .int .i64 mo] 29)) := (Below.refl _ _).alloc (Nat.le_refl _) _
  have N1 := Blk.new' (w.alloc (.cells #[.int .i64 op, .bool now, .int .i64 fl, .int .i64 b2, .int .i64 b3, .int .u64 lun, .int .u32 tk, .int .u32 w0, .int .u32 w1, .int .u32 w2, .int .u32 w3, .int .u32 w4, .int .u32 w5, .int .u32 w6, .slice dx dn dc] 33)) 29 [.bool hs, .bool ds, .int .i64 mo]
  rw [hz] at N1
  have S0 : Hid (PtS w ((w.alloc (.cells #[.int .i64 op, .bool now, .int .i64 fl, .int .i64 b2, .int .i64 b3, .int .u64 lun, .int .u32 tk, .int .u32 w0, .int .u32 w1, .int .u32 w2, .int .u32 w3, .int .u32 w4, .int .u32 w5, .int .u32 w6, .slice dx dn dc] 33)).alloc (.cells #[.bool hs, .bool ds, .int .i64 mo] 29)) [.int .i64 op, .bool now, .int .i64 fl, .int .i64 b2, .int .i64 b3, .int .u64 lun, .int .u32 tk, .int .u32 w0, .int .u32 w1, .int .u32 w2, .int .u32 w3, .int .u32 w4, .int .u32 w5, .int .u32 w6, .slice dx dn dc] [.bool hs, .bool ds, .int .i64 mo]) := ⟨below_then b0 b1, N0.laterB b1, N1⟩
  clear b0 N0 hz b1 N1
  have lo := load_all size_op agg_op S0.out.bo
  have lp := load_all size_pd agg_pd S0.out.bp
  have HC : Hid _ := pcanBe_any hs ds mo ((w.alloc (.cells #[.int .i64 op, .bool now, .int .i64 fl, .int .i64 b2, .int .i64 b3, .int .u64 lun, .int .u32 tk, .int .u32 w0, .int .u32 w1, .int .u32 w2, .int .u32 w3, .int .u32 w4, .int .u32 w5, .int .u32 w6, .slice dx dn dc] 33)).alloc (.cells #[.bool hs, .bool ds, .int .i64 mo] 29))
  rw [ho] at HC
  go_enter Try.func7, Try.ntmps7
  go_wp2_with (first | (refine wpList_value rfl (exec_load rfl rfl lo) ?_) | (refine wpList_value rfl (exec_load rfl rfl lp) ?_))
  clear lo lp
  refine (Calls.mono HC.out) ?_
  generalize ((w.alloc (.cells #[.int .i64 op, .bool now, .int .i64 fl, .int .i64 b2, .int .i64 b3, .int .u64 lun, .int .u32 tk, .int .u32 w0, .int .u32 w1, .int .u32 w2, .int .u32 w3, .int .u32 w4, .int .u32 w5, .int .u32 w6, .slice dx dn dc] 33)).alloc (.cells #[.bool hs, .bool ds, .int .i64 mo] 29)) = u0 at *
  rintro e u1 ⟨rfl, b1⟩
  have S1 : Hid _ := S0.out.later b1
  clear HC S0 b1
  have p0 := blk_at S1.out.bp 0
  have p1 := blk_at S1.out.bp 1
  have p2 := blk_at S1.out.bp 2
  have p3 := blk_at S1.out.bp 3
  have p4 := blk_at S1.out.bp 4
  have p5 := blk_at S1.out.bp 5
  have p6 := blk_at S1.out.bp 6
  have p7 := blk_at S1.out.bp 7
  have p8 := blk_at S1.out.bp 8
  have p9 := blk_at S1.out.bp 9
  have p10 := blk_at S1.out.bp 10
  have p11 := blk_at S1.out.bp 11
  have p12 := blk_at S1.out.bp 12
  have p13 := blk_at S1.out.bp 13
  have p14 := blk_at S1.out.bp 14
  simp only [List.getElem?_cons_zero, List.getElem?_cons_succ] at p0 p1 p2 p3 p4 p5 p6 p7 p8 p9 p10 p11 p12 p13 p14
  have HC : Hid _ := pPcan_any op fl b2 b3 lun tk w0 w1 w2 w3 w4 w5 w6 now dx dn dc u1
  rw [hcp] at HC
  go_wp2_with fail
  clear p0 p1 p2 p3 p4 p5 p6 p7 p8 p9 p10 p11 p12 p13 p14
  refine (Calls.mono HC.out) ?_
  rintro e u2 ⟨rfl, b2'⟩
  have S2 : Hid _ := S1.out.later b2'
  clear HC S1 b2'
  go_wp2
  go_ret2
  exact ⟨rfl, S2.out.be⟩
set_option maxHeartbeats 4000000 in
theorem pPut_size (op fl b2 b3 lun tk w0 w1 w2 w3 w4 w5 w6 : Int) (now : Bool) (dx : Option Addr) (dn dc : Nat) (hs ds : Bool) (mo : Int) (w : World) (ho : okO mo = true) (hcp : canP op fl b2 b3 = true) (hsz : mo < (dn : Int)) :
    Calls Try.prog 7 #[.agg #[.int .i64 op, .bool now, .int .i64 fl, .int .i64 b2, .int .i64 b3, .int .u64 lun, .int .u32 tk, .int .u32 w0, .int .u32 w1, .int .u32 w2, .int .u32 w3, .int .u32 w4, .int .u32 w5, .int .u32 w6, .slice dx dn dc], .agg #[.bool hs, .bool ds, .int .i64 mo]] w fun e w' => e = .returned (.tuple #[.slice none 0 0, .int .i64 3]) ∧ Below w.heap.size w w' := by
  have b0 : Below w.heap.size w (w.alloc (.cells #[.int .i64 op, .bool now, .int .i64 fl, .int .i64 b2, .int .i64 b3, .int .u64 lun, .int .u32 tk, .int .u32 w0, .int .u32 w1, .int .u32 w2, .int .u32 w3, .int .u32 w4, .int .u32 w5, .int .u32 w6, .slice dx dn dc] 33)) := (Below.refl _ _).alloc (Nat.le_refl _) _
  have N0 := Blk.new' w 33 [.int .i64 op, .bool now, .int .i64 fl, .int .i64 b2, .int .i64 b3, .int .u64 lun, .int .u32 tk, .int .u32 w0, .int .u32 w1, .int .u32 w2, .int .u32 w3, .int .u32 w4, .int .u32 w5, .int .u32 w6, .slice dx dn dc]
  have hz : (w.alloc (.cells #[.int .i64 op, .bool now, .int .i64 fl, .int .i64 b2, .int .i64 b3, .int .u64 lun, .int .u32 tk, .int .u32 w0, .int .u32 w1, .int .u32 w2, .int .u32 w3, .int .u32 w4, .int .u32 w5, .int .u32 w6, .slice dx dn dc] 33)).heap.size = w.heap.size + 1 := by simp
  have b1 : Below (w.alloc (.cells #[.int .i64 op, .bool now, .int .i64 fl, .int .i64 b2, .int .i64 b3, .int .u64 lun, .int .u32 tk, .int .u32 w0, .int .u32 w1, .int .u32 w2, .int .u32 w3, .int .u32 w4, .int .u32 w5, .int .u32 w6, .slice dx dn dc] 33)).heap.size (w.alloc (.cells #[.int .i64 op, .bool now, .int .i64 fl, .int .i64 b2, .int .i64 b3, .int .u64 lun, .int .u32 tk, .int .u32 w0, .int .u32 w1, .int .u32 w2, .int .u32 w3, .int .u32 w4, .int .u32 w5, .int .u32 w6, .slice dx dn dc] 33)) ((w.alloc (.cells #[.int .i64 op, .bool now, .int .i64 fl, .int .i64 b2, .int .i64 b3, .int .u64 lun, .int .u32 tk, .int .u32 w0, .int .u32 w1, .int .u32 w2, .int .u32 w3, .int .u32 w4, .int .u32 w5, .int .u32 w6, .slice dx dn dc] 33)).alloc (.cells #[.bool hs, .bool ds, .int .i64 mo] 29)) := (Below.refl _ _).alloc (Nat.le_refl _) _
  have N1 := Blk.new' (w.alloc (.cells #[.int .i64 op, .bool now, .int .i64 fl, .int .i64 b2, .int .i64 b3, .int .u64 lun, .int .u32 tk, .int .u32 w0, .int .u32 w1, .int .u32 w2, .int .u32 w3, .int .u32 w4, .int .u32 w5, .int .u32 w6, .slice dx dn dc] 33)) 29 [.bool hs, .bool ds, .int .i64 mo]
  rw [hz] at N1
  have S0 : Hid (PtS w ((w.alloc (.cells #[.int .i64 op, .bool now, .int .i64 fl, .int .i64 b2, .int .i64 b3, .int .u64 lun, .int .u32 tk, .int .u32 w0, .int .u32 w1, .int .u32 w2, .int .u32 w3, .int .u32 w4, .int .u32 w5, .int .u32 w6, .slice dx dn dc] 33)).alloc (.cells #[.bool hs, .bool ds, .int .i64 mo] 29)) [.int .i64 op, .bool now, .int .i64 fl, .int .i64 b2, .int .i64 b3, .int .u64 lun, .int .u32 tk, .int .u32 w0, .int .u32 w1, .int .u32 w2, .int .u32 w3, .int .u32 w4, .int .u32 w5, .int .u32 w6, .slice dx dn dc] [.bool hs, .bool ds, .int .i64 mo]) := ⟨below_then b0 b1, N0.laterB b1, N1⟩
  clear b0 N0 hz b1 N1
  have lo := load_all size_op agg_op S0.out.bo
  have lp := load_all size_pd agg_pd S0.out.bp
  have HC : Hid _ := pcanBe_any hs ds mo ((w.alloc (.cells #[.int .i64 op, .bool now, .int .i64 fl, .int .i64 b2, .int .i64 b3, .int .u64 lun, .int .u32 tk, .int .u32 w0, .int .u32 w1, .int .u32 w2, .int .u32 w3, .int .u32 w4, .int .u32 w5, .int .u32 w6, .slice dx dn dc] 33)).alloc (.cells #[.bool hs, .bool ds, .int .i64 mo] 29))
  rw [ho] at HC
  go_enter Try.func7, Try.ntmps7
  go_wp2_with (first | (refine wpList_value rfl (exec_load rfl rfl lo) ?_) | (refine wpList_value rfl (exec_load rfl rfl lp) ?_))
  clear lo lp
  refine (Calls.mono HC.out) ?_
  generalize ((w.alloc (.cells #[.int .i64 op, .bool now, .int .i64 fl, .int .i64 b2, .int .i64 b3, .int .u64 lun, .int .u32 tk, .int .u32 w0, .int .u32 w1, .int .u32 w2, .int .u32 w3, .int .u32 w4, .int .u32 w5, .int .u32 w6, .slice dx dn dc] 33)).alloc (.cells #[.bool hs, .bool ds, .int .i64 mo] 29)) = u0 at *
  rintro e u1 ⟨rfl, b1⟩
  have S1 : Hid _ := S0.out.later b1
  clear HC S0 b1
  have p0 := blk_at S1.out.bp 0
  have p1 := blk_at S1.out.bp 1
  have p2 := blk_at S1.out.bp 2
  have p3 := blk_at S1.out.bp 3
  have p4 := blk_at S1.out.bp 4
  have p5 := blk_at S1.out.bp 5
  have p6 := blk_at S1.out.bp 6
  have p7 := blk_at S1.out.bp 7
  have p8 := blk_at S1.out.bp 8
  have p9 := blk_at S1.out.bp 9
  have p10 := blk_at S1.out.bp 10
  have p11 := blk_at S1.out.bp 11
  have p12 := blk_at S1.out.bp 12
  have p13 := blk_at S1.out.bp 13
  have p14 := blk_at S1.out.bp 14
  simp only [List.getElem?_cons_zero, List.getElem?_cons_succ] at p0 p1 p2 p3 p4 p5 p6 p7 p8 p9 p10 p11 p12 p13 p14
  have HC : Hid _ := pPcan_any op fl b2 b3 lun tk w0 w1 w2 w3 w4 w5 w6 now dx dn dc u1
  rw [hcp] at HC
  go_wp2_with fail
  clear p0 p1 p2 p3 p4 p5 p6 p7 p8 p9 p10 p11 p12 p13 p14
  refine (Calls.mono HC.out) ?_
  rintro e u2 ⟨rfl, b2'⟩
  have S2 : Hid _ := S1.out.later b2'
  clear HC S1 b2'
  have y14 := blk_at S2.out.bp 14
  have z2 := blk_at S2.out.bo 2
  simp only [List.getElem?_cons_zero, List.getElem?_cons_succ] at y14 z2
  go_wp2
  go_ret2
  exact ⟨rfl, S2.out.be⟩
theorem step_value {P : Program} {o : Oper} {a : Act} {w w' : World} {v : Value} {K : Act → World → Prop} {Q : Exit → Act → World → Prop} {E : Prop} {b : Bool} (hb : b = true) (h : (execOp a.eval o).run P w = .ok (.value v) w') (next : K (a.put o.dst v) w') : if b = true then Oper.wp P o a w K Q else E := by
  rw [if_pos hb]
  unfold Oper.wp
  rw [h]
  exact next
theorem exec_app {o : Oper} {a : Act} {w w' : World} {v' : Value} (s x : Operand) (t1 t2 : TypeId) (ho : o.op = .call { callee := .builtin .append, args := #[s, x], argTypes := #[t1, t2] }) (vs vx : Value) (hs : a.eval s = vs) (hx : a.eval x = vx) (hr : (Builtin.append_ #[t1, t2] o.type #[vs, vx]).run Try.prog w = .ok v' w') :
    (execOp a.eval o).run Try.prog w = .ok (.value v') w' := by
  unfold execOp
  simp only [ho, resolve, invoke, builtin, Sem.run_bind, Sem.run_pure, Result.andThen_ok, List.map_toArray, List.map_cons, List.map_nil, hs, hx, hr]
structure PtL (w W : World) (ps os cs : List Value) (lb : Nat) : Prop where
  s : PtS w W ps os
  bl : Blk W lb 72 cs
  l1 : w.heap.size + 1 < lb
theorem PtL.later {w W W' : World} {p o c : List Value} {lb : Nat} (h : PtL w W p o c lb) (b : Below W.heap.size W W') : PtL w W' p o c lb := ⟨h.s.later b, h.bl.laterB b, h.l1⟩
theorem PtL.put {w W : World} {p o c : List Value} {lb : Nat} (h : PtL w W p o c lb) (k : Nat) (v : Value) : PtL w (W.setCell ⟨lb, k, none⟩ v) p o (c.set k v) lb := by
  have t := turned_set W lb k v
  have := h.l1
  exact ⟨⟨h.s.be.trans (t.below _ h.s.be.size (fun k e => by omega)), h.s.bp.turned t (by omega), h.s.bo.turned t (by omega)⟩, h.bl.set k v, h.l1⟩
/-- bytes as a slice that is read -/
structure RowS (w : World) (base : Nat) (v : Value) (l : List (BitVec 8)) (lb : Nat) : Prop where
  ex : ∃ a c, v = .slice a l.length c ∧ Row w a l ∧ (a = none → c = 0) ∧ l.length ≤ c ∧ (∀ x, a = some x → x.block ≠ lb ∧ x.block < w.heap.size)
theorem RowS.later {w w' : World} {base : Nat} {v : Value} {l : List (BitVec 8)} {lb : Nat} (h : RowS w base v l lb) (b : Below w.heap.size w w') : RowS w' base v l lb := by
  obtain ⟨a, c, h1, h2, h3, h4, h5⟩ := h.ex
  exact ⟨a, c, h1, h2.later b, h3, h4, fun x hx => ⟨(h5 x hx).1, Nat.lt_of_lt_of_le (h5 x hx).2 b.size⟩⟩
theorem RowS.put {w : World} {base : Nat} {v : Value} {l : List (BitVec 8)} {lb : Nat} (h : RowS w base v l lb) (k : Nat) (u : Value) : RowS (w.setCell ⟨lb, k, none⟩ u) base v l lb := by
  obtain ⟨a, c, h1, h2, h3, h4, h5⟩ := h.ex
  have t := turned_set w lb k u
  exact ⟨a, c, h1, h2.same (fun x hx => t.block _ (h5 x hx).2 (h5 x hx).1), h3, h4, fun x hx => ⟨(h5 x hx).1, Nat.lt_of_lt_of_le (h5 x hx).2 t.size⟩⟩
theorem RowS.ofOwn {w : World} {base : Nat} {v : Value} {l : List (BitVec 8)} {lb : Nat} (h : Own w base v l) (hn : ∀ k, v.ownBlock = some k → k ≠ lb) : RowS w base v l lb := by
  have h0 := h
  obtain ⟨a, c, rfl, h1, -, h2, h3, h4⟩ := h.open
  refine ⟨a, c, rfl, h2, h3, h1, fun x hx => ?_⟩
  obtain ⟨g, rfl, -⟩ := h4 x hx
  subst hx
  exact ⟨hn g rfl, (World.ownsRow.lt h0 g rfl).2⟩
theorem RowS.nil (w : World) (base lb : Nat) : RowS w base (.slice none 0 0) [] lb := ⟨none, 0, rfl, .inl rfl, fun _ => rfl, Nat.le_refl _, fun x hx => by cases hx⟩
/-- the data with the 0 behind them -/
def bdy (d : List (BitVec 8)) : List (BitVec 8) := d ++ nulls (bodyN d.length - d.length)
def dgB (b : Bool) (l : List (BitVec 8)) : List (BitVec 8) := if b = true then Crc.bytes4 (Crc.sum l) else []
/-- a letter's bytes -/
def putB (hs ds : Bool) (H d : List (BitVec 8)) : List (BitVec 8) := H ++ (dgB hs H ++ (bdy d ++ dgB (ds && decide (0 < d.length)) (bdy d)))
end Go.Proofs.Ytnnbpfjdkhoidaa

