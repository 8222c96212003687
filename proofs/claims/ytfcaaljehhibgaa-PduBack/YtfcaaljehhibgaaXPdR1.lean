/- pdu: the document's Put. -/
import Derived.Test.YtfcaaljehhibgaaXPd9a
import Derived.Test.YtfcaaljehhibgaaXPdL2
import Derived.Test.YtfcaaljehhibgaaXFieldX1
import Derived.Test.YtfcaaljehhibgaaXSumRef
import Derived.Test.YtfcaaljehhibgaaXKw
import Derived.Handy
namespace Go.Proofs.Ytfcaaljehhibgaa
open Go.RowKit
set_option linter.unusedVariables false
set_option linter.unusedSimpArgs false
set_option maxRecDepth 8000

/-- a writer, and blocks that stay as they are -/
structure RKW (w W : World) (g : Nat) (v : Value) (L : List (BitVec 8)) (bs : List (Nat × Nat × List Value)) : Prop where
  wr : WrAt W w.heap.size g 83 v L 0
  bl : Below w.heap.size w W
  bx : ∀ b ∈ bs, Blk W b.1 b.2.1 b.2.2
  ne : ∀ b ∈ bs, b.1 ≠ g ∧ ∀ j, v.ownBlock = some j → j ≠ b.1
theorem RKW.step {w W W' : World} {g : Nat} {v v' : Value} {L L' : List (BitVec 8)} {bs : List (Nat × Nat × List Value)} (h : RKW w W g v L bs) (hw : WrAt W' w.heap.size g 83 v' L' 0) (hn : Newer W v v') (ht : Turned (Mine g v) W W') : RKW w W' g v' L' bs := by
  refine ⟨hw, h.bl.trans (wrAt_below h.wr ht), fun b hb => ?_, fun b hb => ⟨(h.ne b hb).1, fun j hj => ?_⟩⟩
  · refine (h.bx b hb).turned ht ?_
    rintro (e | e)
    · exact (h.ne b hb).1 e
    · exact (h.ne b hb).2 _ e rfl
  · rcases hn j hj with e | e
    · exact (h.ne b hb).2 j e
    · have := (h.bx b hb).lt; omega
theorem RKW.later {w W W' : World} {g : Nat} {v : Value} {L : List (BitVec 8)} {bs : List (Nat × Nat × List Value)} (h : RKW w W g v L bs) (hb : Below W.heap.size W W') : RKW w W' g v L bs :=
  ⟨h.wr.stays (turned_below hb) (fun e => e) (fun _ _ e => e), below_then h.bl hb, fun b hbm => (h.bx b hbm).laterB hb, h.ne⟩
theorem RKW.less {w W : World} {g : Nat} {v : Value} {L : List (BitVec 8)} {bs bs' : List (Nat × Nat × List Value)} (h : RKW w W g v L bs) (hs : ∀ b ∈ bs', b ∈ bs) : RKW w W g v L bs' :=
  ⟨h.wr, h.bl, fun b hb => h.bx b (hs b hb), fun b hb => h.ne b (hs b hb)⟩
theorem RKW.own {w W : World} {g : Nat} {v : Value} {L : List (BitVec 8)} {bs : List (Nat × Nat × List Value)} (h : RKW w W g v L bs) : ∀ j, v.ownBlock = some j → w.heap.size ≤ j ∧ j < W.heap.size := fun j hj => by obtain ⟨_, ho, -⟩ := h.wr.own; exact World.ownsRow.lt ho j hj
/-- a block more -/
theorem RKW.new {w W : World} {g : Nat} {v : Value} {L : List (BitVec 8)} {bs : List (Nat × Nat × List Value)} (h : RKW w W g v L bs) (T : Nat) (xs : List Value) : RKW w (W.alloc (.cells xs.toArray T)) g v L ((W.heap.size, T, xs) :: bs) := by
  have hb : Below W.heap.size W (W.alloc (.cells xs.toArray T)) := (Below.refl _ _).alloc (Nat.le_refl _) _
  have h1 := h.later hb
  have hg := h.wr.blk.lt
  refine ⟨h1.wr, h1.bl, fun b hbm => ?_, fun b hbm => ?_⟩
  · rcases List.mem_cons.1 hbm with rfl | hbm
    · exact Blk.new' W T xs
    · exact h1.bx b hbm
  · rcases List.mem_cons.1 hbm with rfl | hbm
    · exact ⟨by simp only; omega, fun j hj e => by have := (h.own j hj).2; simp only at e; omega⟩
    · exact h1.ne b hbm
set_option maxHeartbeats 1000000 in
theorem rRight_any (hs ds : Bool) (mo : Int) (w : World) :
    Calls Try.prog 7 #[.agg #[.bool hs, .bool ds, .int .i64 mo]] w fun e w' => e = .returned (.bool (okO mo)) ∧ Below w.heap.size w w' := by
  have b0 : Below w.heap.size w (w.alloc (.cells #[.bool hs, .bool ds, .int .i64 mo] 23)) := (Below.refl _ _).alloc (Nat.le_refl _) _
  have N0 := Blk.new' w 23 [.bool hs, .bool ds, .int .i64 mo]
  have c2 := blk_at N0 2
  simp only [List.getElem?_cons_zero, List.getElem?_cons_succ] at c2
  have F : Hid _ := b0
  clear b0 N0
  by_cases h1 : 48 ≤ mo
  · by_cases h2 : mo ≤ 65536
    · have e : okO mo = true := decide_eq_true ⟨h1, h2⟩
      rw [e]
      clear e
      go_enter Try.func7, Try.ntmps7
      go_wp2
      go_ret
      exact ⟨rfl, F.out⟩
    · have e : okO mo = false := decide_eq_false (by omega)
      rw [e]
      clear e
      go_enter Try.func7, Try.ntmps7
      go_wp2
      go_ret
      exact ⟨rfl, F.out⟩
  · have e : okO mo = false := decide_eq_false (by omega)
    rw [e]
    clear e
    go_enter Try.func7, Try.ntmps7
    go_wp2
    go_ret
    exact ⟨rfl, F.out⟩
set_option maxHeartbeats 4000000 in
theorem rPut_arg (op fl b2 b3 lun tk w0 w1 w2 w3 w4 w5 w6 : Int) (now : Bool) (dx : Option Addr) (dn dc : Nat) (hs ds : Bool) (mo : Int) (d : List (BitVec 8)) (w : World) (h : okO mo = false ∨ canP op fl b2 b3 = false) :
    Calls Try.prog 24 #[.agg #[.int .i64 op, .bool now, .int .i64 fl, .int .i64 b2, .int .i64 b3, .int .u64 lun, .int .u32 tk, .int .u32 w0, .int .u32 w1, .int .u32 w2, .int .u32 w3, .int .u32 w4, .int .u32 w5, .int .u32 w6, .slice dx dn dc], .agg #[.bool hs, .bool ds, .int .i64 mo]] w fun e w' => e = .returned (.tuple #[.slice none 0 0, .int .i64 1]) ∧ Below w.heap.size w w' := by
  have b0 : Below w.heap.size w (w.alloc (.cells #[.int .i64 op, .bool now, .int .i64 fl, .int .i64 b2, .int .i64 b3, .int .u64 lun, .int .u32 tk, .int .u32 w0, .int .u32 w1, .int .u32 w2, .int .u32 w3, .int .u32 w4, .int .u32 w5, .int .u32 w6, .slice dx dn dc] 50)) := (Below.refl _ _).alloc (Nat.le_refl _) _
  have N0 := Blk.new' w 50 [.int .i64 op, .bool now, .int .i64 fl, .int .i64 b2, .int .i64 b3, .int .u64 lun, .int .u32 tk, .int .u32 w0, .int .u32 w1, .int .u32 w2, .int .u32 w3, .int .u32 w4, .int .u32 w5, .int .u32 w6, .slice dx dn dc]
  have hz : (w.alloc (.cells #[.int .i64 op, .bool now, .int .i64 fl, .int .i64 b2, .int .i64 b3, .int .u64 lun, .int .u32 tk, .int .u32 w0, .int .u32 w1, .int .u32 w2, .int .u32 w3, .int .u32 w4, .int .u32 w5, .int .u32 w6, .slice dx dn dc] 50)).heap.size = w.heap.size + 1 := by simp
  have b1 : Below (w.alloc (.cells #[.int .i64 op, .bool now, .int .i64 fl, .int .i64 b2, .int .i64 b3, .int .u64 lun, .int .u32 tk, .int .u32 w0, .int .u32 w1, .int .u32 w2, .int .u32 w3, .int .u32 w4, .int .u32 w5, .int .u32 w6, .slice dx dn dc] 50)).heap.size (w.alloc (.cells #[.int .i64 op, .bool now, .int .i64 fl, .int .i64 b2, .int .i64 b3, .int .u64 lun, .int .u32 tk, .int .u32 w0, .int .u32 w1, .int .u32 w2, .int .u32 w3, .int .u32 w4, .int .u32 w5, .int .u32 w6, .slice dx dn dc] 50)) ((w.alloc (.cells #[.int .i64 op, .bool now, .int .i64 fl, .int .i64 b2, .int .i64 b3, .int .u64 lun, .int .u32 tk, .int .u32 w0, .int .u32 w1, .int .u32 w2, .int .u32 w3, .int .u32 w4, .int .u32 w5, .int .u32 w6, .slice dx dn dc] 50)).alloc (.cells #[.bool hs, .bool ds, .int .i64 mo] 23)) := (Below.refl _ _).alloc (Nat.le_refl _) _
  have N1 := Blk.new' (w.alloc (.cells #[.int .i64 op, .bool now, .int .i64 fl, .int .i64 b2, .int .i64 b3, .int .u64 lun, .int .u32 tk, .int .u32 w0, .int .u32 w1, .int .u32 w2, .int .u32 w3, .int .u32 w4, .int .u32 w5, .int .u32 w6, .slice dx dn dc] 50)) 23 [.bool hs, .bool ds, .int .i64 mo]
  rw [hz] at N1
  have N0 := N0.laterB b1
  have bb := below_then b0 b1
  have HT : Hid _ := rRight_any hs ds mo ((w.alloc (.cells #[.int .i64 op, .bool now, .int .i64 fl, .int .i64 b2, .int .i64 b3, .int .u64 lun, .int .u32 tk, .int .u32 w0, .int .u32 w1, .int .u32 w2, .int .u32 w3, .int .u32 w4, .int .u32 w5, .int .u32 w6, .slice dx dn dc] 50)).alloc (.cells #[.bool hs, .bool ds, .int .i64 mo] 23))
  have o0 := blk_at N1 0
  have o1 := blk_at N1 1
  have o2 := blk_at N1 2
  simp only [List.getElem?_cons_zero, List.getElem?_cons_succ] at o0 o1 o2
  have X : Hid _ := And.intro bb (And.intro N0 N1)
  clear b0 N0 hz b1 N1 bb
  have F0 : Hid _ := h
  cases hok : okO mo
  · rw [hok] at HT
    go_enter Try.func24, Try.ntmps24
    go_wp2_with fail
    refine (Calls.mono HT.out) ?_
    rintro e u0 ⟨rfl, bR⟩
    have X0 : Hid _ := And.intro (below_then X.out.1 bR) (And.intro (X.out.2.1.laterB bR) (X.out.2.2.laterB bR))
    have y0 := blk_at X0.out.2.1 0
    have y2 := blk_at X0.out.2.1 2
    have y3 := blk_at X0.out.2.1 3
    have y4 := blk_at X0.out.2.1 4
    have y14 := blk_at X0.out.2.1 14
    have z0 := blk_at X0.out.2.2 0
    have z1 := blk_at X0.out.2.2 1
    have z2 := blk_at X0.out.2.2 2
    simp only [List.getElem?_cons_zero, List.getElem?_cons_succ] at y0 y2 y3 y4 y14 z0 z1 z2
    clear bR X HT o0 o1 o2
    clear h F0 hok
    go_wp2
    go_ret2
    exact ⟨by first | rfl | simp, X0.out.1⟩
  · rw [hok] at HT
    have hc : canP op fl b2 b3 = false := by rcases h with h | h; rw [hok] at h; cases h; exact h
    have hor : (op < 0) ∨ (¬ op < 0 ∧ 63 < op) ∨ (¬ op < 0 ∧ ¬ 63 < op ∧ fl < 0) ∨ (¬ op < 0 ∧ ¬ 63 < op ∧ ¬ fl < 0 ∧ 255 < fl) ∨ (¬ op < 0 ∧ ¬ 63 < op ∧ ¬ fl < 0 ∧ ¬ 255 < fl ∧ b2 < 0) ∨ (¬ op < 0 ∧ ¬ 63 < op ∧ ¬ fl < 0 ∧ ¬ 255 < fl ∧ ¬ b2 < 0 ∧ 255 < b2) ∨ (¬ op < 0 ∧ ¬ 63 < op ∧ ¬ fl < 0 ∧ ¬ 255 < fl ∧ ¬ b2 < 0 ∧ ¬ 255 < b2 ∧ b3 < 0) ∨ (¬ op < 0 ∧ ¬ 63 < op ∧ ¬ fl < 0 ∧ ¬ 255 < fl ∧ ¬ b2 < 0 ∧ ¬ 255 < b2 ∧ ¬ b3 < 0 ∧ 255 < b3) := by
      unfold canP isB at hc
      simp at hc
      omega
    clear hc hok h F0
    go_enter Try.func24, Try.ntmps24
    go_wp2_with fail
    refine (Calls.mono HT.out) ?_
    rintro e u0 ⟨rfl, bR⟩
    have X0 : Hid _ := And.intro (below_then X.out.1 bR) (And.intro (X.out.2.1.laterB bR) (X.out.2.2.laterB bR))
    have y0 := blk_at X0.out.2.1 0
    have y2 := blk_at X0.out.2.1 2
    have y3 := blk_at X0.out.2.1 3
    have y4 := blk_at X0.out.2.1 4
    have y14 := blk_at X0.out.2.1 14
    have z0 := blk_at X0.out.2.2 0
    have z1 := blk_at X0.out.2.2 1
    have z2 := blk_at X0.out.2.2 2
    simp only [List.getElem?_cons_zero, List.getElem?_cons_succ] at y0 y2 y3 y4 y14 z0 z1 z2
    clear bR X HT o0 o1 o2
    rcases hor with h | h | h | h | h | h | h | h
    · have k0 : op < 0 := by omega
      clear h
      go_wp2
      go_ret2
      exact ⟨by first | rfl | simp, X0.out.1⟩
    · have k0 : ¬ op < 0 := by omega
      have k1 : 63 < op := by omega
      clear h
      go_wp2
      go_ret2
      exact ⟨by first | rfl | simp, X0.out.1⟩
    · have k0 : ¬ op < 0 := by omega
      have k1 : ¬ 63 < op := by omega
      have k2 : fl < 0 := by omega
      clear h
      go_wp2
      go_ret2
      exact ⟨by first | rfl | simp, X0.out.1⟩
    · have k0 : ¬ op < 0 := by omega
      have k1 : ¬ 63 < op := by omega
      have k2 : ¬ fl < 0 := by omega
      have k3 : 255 < fl := by omega
      clear h
      go_wp2
      go_ret2
      exact ⟨by first | rfl | simp, X0.out.1⟩
    · have k0 : ¬ op < 0 := by omega
      have k1 : ¬ 63 < op := by omega
      have k2 : ¬ fl < 0 := by omega
      have k3 : ¬ 255 < fl := by omega
      have k4 : b2 < 0 := by omega
      clear h
      go_wp2
      go_ret2
      exact ⟨by first | rfl | simp, X0.out.1⟩
    · have k0 : ¬ op < 0 := by omega
      have k1 : ¬ 63 < op := by omega
      have k2 : ¬ fl < 0 := by omega
      have k3 : ¬ 255 < fl := by omega
      have k4 : ¬ b2 < 0 := by omega
      have k5 : 255 < b2 := by omega
      clear h
      go_wp2
      go_ret2
      exact ⟨by first | rfl | simp, X0.out.1⟩
    · have k0 : ¬ op < 0 := by omega
      have k1 : ¬ 63 < op := by omega
      have k2 : ¬ fl < 0 := by omega
      have k3 : ¬ 255 < fl := by omega
      have k4 : ¬ b2 < 0 := by omega
      have k5 : ¬ 255 < b2 := by omega
      have k6 : b3 < 0 := by omega
      clear h
      go_wp2
      go_ret2
      exact ⟨by first | rfl | simp, X0.out.1⟩
    · have k0 : ¬ op < 0 := by omega
      have k1 : ¬ 63 < op := by omega
      have k2 : ¬ fl < 0 := by omega
      have k3 : ¬ 255 < fl := by omega
      have k4 : ¬ b2 < 0 := by omega
      have k5 : ¬ 255 < b2 := by omega
      have k6 : ¬ b3 < 0 := by omega
      have k7 : 255 < b3 := by omega
      clear h
      go_wp2
      go_ret2
      exact ⟨by first | rfl | simp, X0.out.1⟩
set_option maxHeartbeats 4000000 in
theorem rPut_size (op fl b2 b3 lun tk w0 w1 w2 w3 w4 w5 w6 : Int) (now : Bool) (dx : Option Addr) (dn dc : Nat) (hs ds : Bool) (mo : Int) (d : List (BitVec 8)) (w : World) (ho : okO mo = true) (hcp : canP op fl b2 b3 = true) (hsz : mo < (dn : Int)) :
    Calls Try.prog 24 #[.agg #[.int .i64 op, .bool now, .int .i64 fl, .int .i64 b2, .int .i64 b3, .int .u64 lun, .int .u32 tk, .int .u32 w0, .int .u32 w1, .int .u32 w2, .int .u32 w3, .int .u32 w4, .int .u32 w5, .int .u32 w6, .slice dx dn dc], .agg #[.bool hs, .bool ds, .int .i64 mo]] w fun e w' => e = .returned (.tuple #[.slice none 0 0, .int .i64 3]) ∧ Below w.heap.size w w' := by
  have b0 : Below w.heap.size w (w.alloc (.cells #[.int .i64 op, .bool now, .int .i64 fl, .int .i64 b2, .int .i64 b3, .int .u64 lun, .int .u32 tk, .int .u32 w0, .int .u32 w1, .int .u32 w2, .int .u32 w3, .int .u32 w4, .int .u32 w5, .int .u32 w6, .slice dx dn dc] 50)) := (Below.refl _ _).alloc (Nat.le_refl _) _
  have N0 := Blk.new' w 50 [.int .i64 op, .bool now, .int .i64 fl, .int .i64 b2, .int .i64 b3, .int .u64 lun, .int .u32 tk, .int .u32 w0, .int .u32 w1, .int .u32 w2, .int .u32 w3, .int .u32 w4, .int .u32 w5, .int .u32 w6, .slice dx dn dc]
  have hz : (w.alloc (.cells #[.int .i64 op, .bool now, .int .i64 fl, .int .i64 b2, .int .i64 b3, .int .u64 lun, .int .u32 tk, .int .u32 w0, .int .u32 w1, .int .u32 w2, .int .u32 w3, .int .u32 w4, .int .u32 w5, .int .u32 w6, .slice dx dn dc] 50)).heap.size = w.heap.size + 1 := by simp
  have b1 : Below (w.alloc (.cells #[.int .i64 op, .bool now, .int .i64 fl, .int .i64 b2, .int .i64 b3, .int .u64 lun, .int .u32 tk, .int .u32 w0, .int .u32 w1, .int .u32 w2, .int .u32 w3, .int .u32 w4, .int .u32 w5, .int .u32 w6, .slice dx dn dc] 50)).heap.size (w.alloc (.cells #[.int .i64 op, .bool now, .int .i64 fl, .int .i64 b2, .int .i64 b3, .int .u64 lun, .int .u32 tk, .int .u32 w0, .int .u32 w1, .int .u32 w2, .int .u32 w3, .int .u32 w4, .int .u32 w5, .int .u32 w6, .slice dx dn dc] 50)) ((w.alloc (.cells #[.int .i64 op, .bool now, .int .i64 fl, .int .i64 b2, .int .i64 b3, .int .u64 lun, .int .u32 tk, .int .u32 w0, .int .u32 w1, .int .u32 w2, .int .u32 w3, .int .u32 w4, .int .u32 w5, .int .u32 w6, .slice dx dn dc] 50)).alloc (.cells #[.bool hs, .bool ds, .int .i64 mo] 23)) := (Below.refl _ _).alloc (Nat.le_refl _) _
  have N1 := Blk.new' (w.alloc (.cells #[.int .i64 op, .bool now, .int .i64 fl, .int .i64 b2, .int .i64 b3, .int .u64 lun, .int .u32 tk, .int .u32 w0, .int .u32 w1, .int .u32 w2, .int .u32 w3, .int .u32 w4, .int .u32 w5, .int .u32 w6, .slice dx dn dc] 50)) 23 [.bool hs, .bool ds, .int .i64 mo]
  rw [hz] at N1
  have N0 := N0.laterB b1
  have bb := below_then b0 b1
  have HT : Hid _ := rRight_any hs ds mo ((w.alloc (.cells #[.int .i64 op, .bool now, .int .i64 fl, .int .i64 b2, .int .i64 b3, .int .u64 lun, .int .u32 tk, .int .u32 w0, .int .u32 w1, .int .u32 w2, .int .u32 w3, .int .u32 w4, .int .u32 w5, .int .u32 w6, .slice dx dn dc] 50)).alloc (.cells #[.bool hs, .bool ds, .int .i64 mo] 23))
  have o0 := blk_at N1 0
  have o1 := blk_at N1 1
  have o2 := blk_at N1 2
  simp only [List.getElem?_cons_zero, List.getElem?_cons_succ] at o0 o1 o2
  have X : Hid _ := And.intro bb (And.intro N0 N1)
  clear b0 N0 hz b1 N1 bb
  rw [ho] at HT
  obtain ⟨q0, q1, q2, q3⟩ := canP_of hcp
  have k0 : ¬ op < 0 := by omega
  have k1 : ¬ 63 < op := by omega
  have k2 : ¬ fl < 0 := by omega
  have k3 : ¬ 255 < fl := by omega
  have k4 : ¬ b2 < 0 := by omega
  have k5 : ¬ 255 < b2 := by omega
  have k6 : ¬ b3 < 0 := by omega
  have k7 : ¬ 255 < b3 := by omega
  clear q0 q1 q2 q3 hcp ho
  go_enter Try.func24, Try.ntmps24
  go_wp2_with fail
  refine (Calls.mono HT.out) ?_
  rintro e u0 ⟨rfl, bR⟩
  have X0 : Hid _ := And.intro (below_then X.out.1 bR) (And.intro (X.out.2.1.laterB bR) (X.out.2.2.laterB bR))
  have y0 := blk_at X0.out.2.1 0
  have y2 := blk_at X0.out.2.1 2
  have y3 := blk_at X0.out.2.1 3
  have y4 := blk_at X0.out.2.1 4
  have y14 := blk_at X0.out.2.1 14
  have z0 := blk_at X0.out.2.2 0
  have z1 := blk_at X0.out.2.2 1
  have z2 := blk_at X0.out.2.2 2
  simp only [List.getElem?_cons_zero, List.getElem?_cons_succ] at y0 y2 y3 y4 y14 z0 z1 z2
  clear bR X HT o0 o1 o2
  go_wp2
  go_ret2
  exact ⟨by first | rfl | simp, X0.out.1⟩
theorem be4_split (n : Nat) (h : n < 16777216) : be 4 (BitVec.ofInt 64 (n : Int)) = be 1 (BitVec.ofInt 64 0) ++ be 3 (BitVec.ofInt 64 (n : Int)) := by
  have e : BitVec.ofInt 64 (n : Int) = BitVec.ofNat 64 n := rfl
  rw [e]
  unfold be be8
  simp
  apply BitVec.eq_of_toNat_eq
  simp
  omega
end Go.Proofs.Ytfcaaljehhibgaa

/- pdu: the document's Put of a letter that can be. -/
namespace Go.Proofs.Ytfcaaljehhibgaa
open Go.RowKit
set_option linter.unusedVariables false
set_option linter.unusedSimpArgs false
set_option maxRecDepth 8000

/-- bytes that are written, and data that are made longer -/
structure PtR (w W : World) (bd : Nat) (hs ds : Bool) (mo : Int) (bv : Value) (B : List (BitVec 8)) (dv : Value) (D : List (BitVec 8)) : Prop where
  b : Own W (w.heap.size + 2) bv B
  d : Own W bd dv D
  lt : ∀ k, bv.ownBlock = some k → k < bd
  bw : bd ≤ W.heap.size
  od : w.heap.size + 2 ≤ bd
  o : Blk W (w.heap.size + 1) 23 [.bool hs, .bool ds, .int .i64 mo]
  be : Below w.heap.size w W
/-- the data grow -/
theorem PtR.more {w W W' : World} {bd : Nat} {hs ds : Bool} {mo : Int} {bv dv dv' : Value} {B D D' : List (BitVec 8)} (h : PtR w W bd hs ds mo bv B dv D) (ho : Own W' bd dv' D') (hg : W.grownBy W' dv.ownBlock) : PtR w W' bd hs ds mo bv B dv' D' := by
  have hd : ∀ k, dv.ownBlock = some k → bd ≤ k := fun k hk => (World.ownsRow.lt h.d k hk).1
  have ho2 := h.od
  refine ⟨h.b.turned (turned_grown (R := fun k => dv.ownBlock = some k) hg (fun k e => e)) (fun k hk e => by have := h.lt k hk; have := hd k e; omega), ho, h.lt, Nat.le_trans h.bw hg.size, h.od, h.o.grown hg (fun e => by have := hd _ e.symm; omega), h.be.grown hg h.be.size (fun k hk => by have := hd k hk; omega)⟩
theorem PtR.later {w W W' : World} {bd : Nat} {hs ds : Bool} {mo : Int} {bv dv : Value} {B D : List (BitVec 8)} (h : PtR w W bd hs ds mo bv B dv D) (hb : Below W.heap.size W W') : PtR w W' bd hs ds mo bv B dv D :=
  ⟨h.b.later hb, h.d.later hb, h.lt, Nat.le_trans h.bw hb.size, h.od, h.o.laterB hb, below_then h.be hb⟩
/-- bytes that are written -/
structure PtB (w W : World) (hs ds : Bool) (mo : Int) (xs : List Value) (bv : Value) (B : List (BitVec 8)) : Prop where
  b : Own W (w.heap.size + 2) bv B
  o : Blk W (w.heap.size + 1) 23 [.bool hs, .bool ds, .int .i64 mo]
  p : Blk W w.heap.size 50 xs
  be : Below w.heap.size w W
theorem PtB.later {w W W' : World} {hs ds : Bool} {mo : Int} {xs : List Value} {bv : Value} {B : List (BitVec 8)} (h : PtB w W hs ds mo xs bv B) (hb : Below W.heap.size W W') : PtB w W' hs ds mo xs bv B :=
  ⟨h.b.later hb, h.o.laterB hb, h.p.laterB hb, below_then h.be hb⟩
theorem PtB.more {w W W' : World} {hs ds : Bool} {mo : Int} {xs : List Value} {bv bv' : Value} {B B' : List (BitVec 8)} (h : PtB w W hs ds mo xs bv B) (ho : Own W' (w.heap.size + 2) bv' B') (hg : W.grownBy W' bv.ownBlock) : PtB w W' hs ds mo xs bv' B' := by
  have hd : ∀ k, bv.ownBlock = some k → w.heap.size + 2 ≤ k := fun k hk => (World.ownsRow.lt h.b k hk).1
  exact ⟨ho, h.o.grown hg (fun e => by have := hd _ e.symm; omega), h.p.grown hg (fun e => by have := hd _ e.symm; omega), h.be.grown hg h.be.size (fun k hk => by have := hd k hk; omega)⟩
def lenV17 : Value → Nat
  | .slice _ n _ => n
  | _ => 0
theorem body_step (n j : Nat) (hj : j ≤ bodyN n - n) : ((n + j) % 4 = 0 ↔ j = bodyN n - n) := by unfold bodyN at *; omega
theorem nulls_succ (j : Nat) : nulls j ++ [0#8] = nulls (j + 1) := by unfold nulls; rw [List.replicate_succ']
set_option maxHeartbeats 16000000 in
theorem rqPut_yes (op fl b2 b3 lun tk w0 w1 w2 w3 w4 w5 w6 : Int) (now : Bool) (dx : Option Addr) (dn dc : Nat) (hs ds : Bool) (mo : Int) (d : List (BitVec 8)) (w : World) (ho : okO mo = true) (hcp : canP op fl b2 b3 = true) (hsz : (dn : Int) ≤ mo) (hdm : dn ≤ 65536) (htw : ∀ t ∈ [tk, w0, w1, w2, w3, w4, w5, w6], 0 ≤ t ∧ t < 4294967296) (hdl : d.length = dn) (hdc : dn ≤ dc) (hdn : dx = none → dc = 0) (hdr : Row w dx d) :
    Calls Try.prog 24 #[.agg #[.int .i64 op, .bool now, .int .i64 fl, .int .i64 b2, .int .i64 b3, .int .u64 lun, .int .u32 tk, .int .u32 w0, .int .u32 w1, .int .u32 w2, .int .u32 w3, .int .u32 w4, .int .u32 w5, .int .u32 w6, .slice dx dn dc], .agg #[.bool hs, .bool ds, .int .i64 mo]] w fun e w' => ∃ z, e = .returned (.tuple #[z, .int .i64 0]) ∧ Own w' w.heap.size z (putB hs ds (pdH op now fl b2 b3 dn lun tk w0 w1 w2 w3 w4 w5 w6) d) ∧ Below w.heap.size w w' := by
  cases now
  · have b0 : Below w.heap.size w (w.alloc (.cells #[.int .i64 op, .bool false, .int .i64 fl, .int .i64 b2, .int .i64 b3, .int .u64 lun, .int .u32 tk, .int .u32 w0, .int .u32 w1, .int .u32 w2, .int .u32 w3, .int .u32 w4, .int .u32 w5, .int .u32 w6, .slice dx dn dc] 50)) := (Below.refl _ _).alloc (Nat.le_refl _) _
    have N0 := Blk.new' w 50 [.int .i64 op, .bool false, .int .i64 fl, .int .i64 b2, .int .i64 b3, .int .u64 lun, .int .u32 tk, .int .u32 w0, .int .u32 w1, .int .u32 w2, .int .u32 w3, .int .u32 w4, .int .u32 w5, .int .u32 w6, .slice dx dn dc]
    have hz : (w.alloc (.cells #[.int .i64 op, .bool false, .int .i64 fl, .int .i64 b2, .int .i64 b3, .int .u64 lun, .int .u32 tk, .int .u32 w0, .int .u32 w1, .int .u32 w2, .int .u32 w3, .int .u32 w4, .int .u32 w5, .int .u32 w6, .slice dx dn dc] 50)).heap.size = w.heap.size + 1 := by simp
    have b1 : Below (w.alloc (.cells #[.int .i64 op, .bool false, .int .i64 fl, .int .i64 b2, .int .i64 b3, .int .u64 lun, .int .u32 tk, .int .u32 w0, .int .u32 w1, .int .u32 w2, .int .u32 w3, .int .u32 w4, .int .u32 w5, .int .u32 w6, .slice dx dn dc] 50)).heap.size (w.alloc (.cells #[.int .i64 op, .bool false, .int .i64 fl, .int .i64 b2, .int .i64 b3, .int .u64 lun, .int .u32 tk, .int .u32 w0, .int .u32 w1, .int .u32 w2, .int .u32 w3, .int .u32 w4, .int .u32 w5, .int .u32 w6, .slice dx dn dc] 50)) ((w.alloc (.cells #[.int .i64 op, .bool false, .int .i64 fl, .int .i64 b2, .int .i64 b3, .int .u64 lun, .int .u32 tk, .int .u32 w0, .int .u32 w1, .int .u32 w2, .int .u32 w3, .int .u32 w4, .int .u32 w5, .int .u32 w6, .slice dx dn dc] 50)).alloc (.cells #[.bool hs, .bool ds, .int .i64 mo] 23)) := (Below.refl _ _).alloc (Nat.le_refl _) _
    have N1 := Blk.new' (w.alloc (.cells #[.int .i64 op, .bool false, .int .i64 fl, .int .i64 b2, .int .i64 b3, .int .u64 lun, .int .u32 tk, .int .u32 w0, .int .u32 w1, .int .u32 w2, .int .u32 w3, .int .u32 w4, .int .u32 w5, .int .u32 w6, .slice dx dn dc] 50)) 23 [.bool hs, .bool ds, .int .i64 mo]
    rw [hz] at N1
    have N0 := N0.laterB b1
    have bb := below_then b0 b1
    have HT : Hid _ := rRight_any hs ds mo ((w.alloc (.cells #[.int .i64 op, .bool false, .int .i64 fl, .int .i64 b2, .int .i64 b3, .int .u64 lun, .int .u32 tk, .int .u32 w0, .int .u32 w1, .int .u32 w2, .int .u32 w3, .int .u32 w4, .int .u32 w5, .int .u32 w6, .slice dx dn dc] 50)).alloc (.cells #[.bool hs, .bool ds, .int .i64 mo] 23))
    have o0 := blk_at N1 0
    have o1 := blk_at N1 1
    have o2 := blk_at N1 2
    simp only [List.getElem?_cons_zero, List.getElem?_cons_succ] at o0 o1 o2
    have X : Hid _ := And.intro bb (And.intro N0 N1)
    clear b0 N0 hz b1 N1 bb
    rw [ho] at HT
    obtain ⟨q0, q1, q2, q3⟩ := canP_of hcp
    have k0 : ¬ op < 0 := by omega
    have k1 : ¬ 63 < op := by omega
    have k2 : ¬ fl < 0 := by omega
    have k3 : ¬ 255 < fl := by omega
    have k4 : ¬ b2 < 0 := by omega
    have k5 : ¬ 255 < b2 := by omega
    have k6 : ¬ b3 < 0 := by omega
    have k7 : ¬ 255 < b3 := by omega
    have HF : Hid ((0 ≤ fst7 op false ∧ fst7 op false < 256) ∧ (0 ≤ fl ∧ fl < 256) ∧ (0 ≤ b2 ∧ b2 < 256) ∧ (0 ≤ b3 ∧ b3 < 256) ∧ dn < 16777216 ∧ ∀ t ∈ [tk, w0, w1, w2, w3, w4, w5, w6], 0 ≤ t ∧ t < 4294967296) := ⟨by unfold fst7; split <;> omega, by omega, by omega, by omega, by omega, htw⟩
    have wrapTk : Hid (∀ t ∈ [tk, w0, w1, w2, w3, w4, w5, w6], IntKind.i64.wrap t = t) := fun t ht => by have := htw t ht; rw [IntKind.wrap_i64]; omega
    have HD : Hid _ := And.intro hdl (And.intro hdc (And.intro hdn (And.intro hdm hdr)))
    have hsz' : ¬ mo < (dn : Int) := by omega
    clear q0 q1 q2 q3 hcp ho htw hdl hdc hdn hdm hdr hsz
    go_enter Try.func24, Try.ntmps24
    go_wp2_with fail
    refine (Calls.mono HT.out) ?_
    rintro e u0 ⟨rfl, bR⟩
    have X0 : Hid _ := And.intro (below_then X.out.1 bR) (And.intro (X.out.2.1.laterB bR) (X.out.2.2.laterB bR))
    have y0 := blk_at X0.out.2.1 0
    have y2 := blk_at X0.out.2.1 2
    have y3 := blk_at X0.out.2.1 3
    have y4 := blk_at X0.out.2.1 4
    have y14 := blk_at X0.out.2.1 14
    have z0 := blk_at X0.out.2.2 0
    have z1 := blk_at X0.out.2.2 1
    have z2 := blk_at X0.out.2.2 2
    simp only [List.getElem?_cons_zero, List.getElem?_cons_succ] at y0 y2 y3 y4 y14 z0 z1 z2
    clear bR X HT o0 o1 o2
    have y1 := blk_at X0.out.2.1 1
    simp only [List.getElem?_cons_zero, List.getElem?_cons_succ] at y1
    have hf7 : op = fst7 op false := rfl
    have HF7 : Hid _ := hf7
    clear hf7
    have bW : Below u0.heap.size u0 (u0.alloc (.cells #[.slice none 0 0, .int .i64 0] 83)) := (Below.refl _ _).alloc (Nat.le_refl _) _
    have NW := Blk.new' u0 83 [.slice none 0 0, .int .i64 0]
    have hu := X0.out.2.2.lt
    have K0 : RKW w (u0.alloc (.cells #[.slice none 0 0, .int .i64 0] 83)) u0.heap.size (.slice none 0 0) [] [(w.heap.size, 50, [.int .i64 op, .bool false, .int .i64 fl, .int .i64 b2, .int .i64 b3, .int .u64 lun, .int .u32 tk, .int .u32 w0, .int .u32 w1, .int .u32 w2, .int .u32 w3, .int .u32 w4, .int .u32 w5, .int .u32 w6, .slice dx dn dc]), (w.heap.size + 1, 23, [.bool hs, .bool ds, .int .i64 mo])] := ⟨⟨NW, ⟨[], Own.nil _ _, fun _ => rfl⟩, X0.out.1.size, Nat.le_trans X0.out.1.size bW.size, by decide⟩, below_then X0.out.1 bW, (fun b hb => by simp only [List.mem_cons, List.not_mem_nil, or_false] at hb; rcases hb with rfl | rfl; exact X0.out.2.1.laterB bW; exact X0.out.2.2.laterB bW), (fun b hb => by simp only [List.mem_cons, List.not_mem_nil, or_false] at hb; rcases hb with rfl | rfl; exact ⟨by simp only; omega, fun j hj => by cases hj⟩; exact ⟨by simp only; omega, fun j hj => by cases hj⟩)⟩
    obtain ⟨M1, hM1⟩ : ∃ M : List (BitVec 8), M = [] := ⟨_, rfl⟩
    rw [← hM1] at K0
    have J1 : Hid _ := And.intro K0 (show M1.length = 0 from by rw [hM1]; rfl)
    have E1 : Hid _ := hM1
    have HNb : Hid _ := hu
    clear K0 hM1 bW NW X0 hu
    go_wp2_with fail
    clear y0 y1 y2 y3 y4 y14 z0 z1 z2
    (try rw [HF7.out])
    generalize (u0.alloc (.cells #[.slice none 0 0, .int .i64 0] 83)) = u1 at *
    generalize u0.heap.size = g at *
    have NN := rwNum_any w.heap.size g _ M1 0 1 (fst7 op false) u1 J1.out.1.wr (by have := J1.out.2; omega)
    rw [wrNum_go 1 (fst7 op false) (pwn_1 HF.out.1)] at NN
    rw [show Int.toNat 1 = 1 from rfl] at NN
    have HN : Hid _ := NN
    clear NN
    refine (Calls.mono HN.out) ?_
    rintro r u2 ⟨rfl, x2, W1, nw1, t1⟩
    have KK := J1.out.1.step W1 nw1 t1
    obtain ⟨M2, hM2⟩ : ∃ M, M = M1 ++ be 1 (BitVec.ofInt 64 (fst7 op false)) := ⟨_, rfl⟩
    rw [← hM2] at KK
    have J2 : Hid _ := And.intro KK (show M2.length = 1 from by rw [hM2, List.length_append, J1.out.2, be_length _ _ (by omega)])
    have E2 : Hid _ := hM2
    clear KK W1 nw1 t1 HN J1 hM2
    have y := blk_at (J2.out.1.bx _ (List.mem_cons_self ..)) 2
    simp only [List.getElem?_cons_zero, List.getElem?_cons_succ] at y
    have NN := rwNum_any w.heap.size g _ M2 0 1 (fl) u2 J2.out.1.wr (by have := J2.out.2; omega)
    rw [wrNum_go 1 (fl) (pwn_1 HF.out.2.1)] at NN
    rw [show Int.toNat 1 = 1 from rfl] at NN
    have HN : Hid _ := NN
    clear NN
    go_wp2_with fail
    refine (Calls.mono HN.out) ?_
    rintro r u3 ⟨rfl, x3, W1, nw1, t1⟩
    have KK := J2.out.1.step W1 nw1 t1
    obtain ⟨M3, hM3⟩ : ∃ M, M = M2 ++ be 1 (BitVec.ofInt 64 (fl)) := ⟨_, rfl⟩
    rw [← hM3] at KK
    have J3 : Hid _ := And.intro KK (show M3.length = 2 from by rw [hM3, List.length_append, J2.out.2, be_length _ _ (by omega)])
    have E3 : Hid _ := hM3
    clear KK W1 nw1 t1 HN J2 hM3
    clear y
    have y := blk_at (J3.out.1.bx _ (List.mem_cons_self ..)) 3
    simp only [List.getElem?_cons_zero, List.getElem?_cons_succ] at y
    have NN := rwNum_any w.heap.size g _ M3 0 1 (b2) u3 J3.out.1.wr (by have := J3.out.2; omega)
    rw [wrNum_go 1 (b2) (pwn_1 HF.out.2.2.1)] at NN
    rw [show Int.toNat 1 = 1 from rfl] at NN
    have HN : Hid _ := NN
    clear NN
    go_wp2_with fail
    refine (Calls.mono HN.out) ?_
    rintro r u4 ⟨rfl, x4, W1, nw1, t1⟩
    have KK := J3.out.1.step W1 nw1 t1
    obtain ⟨M4, hM4⟩ : ∃ M, M = M3 ++ be 1 (BitVec.ofInt 64 (b2)) := ⟨_, rfl⟩
    rw [← hM4] at KK
    have J4 : Hid _ := And.intro KK (show M4.length = 3 from by rw [hM4, List.length_append, J3.out.2, be_length _ _ (by omega)])
    have E4 : Hid _ := hM4
    clear KK W1 nw1 t1 HN J3 hM4
    clear y
    have y := blk_at (J4.out.1.bx _ (List.mem_cons_self ..)) 4
    simp only [List.getElem?_cons_zero, List.getElem?_cons_succ] at y
    have NN := rwNum_any w.heap.size g _ M4 0 1 (b3) u4 J4.out.1.wr (by have := J4.out.2; omega)
    rw [wrNum_go 1 (b3) (pwn_1 HF.out.2.2.2.1)] at NN
    rw [show Int.toNat 1 = 1 from rfl] at NN
    have HN : Hid _ := NN
    clear NN
    go_wp2_with fail
    refine (Calls.mono HN.out) ?_
    rintro r u5 ⟨rfl, x5, W1, nw1, t1⟩
    have KK := J4.out.1.step W1 nw1 t1
    obtain ⟨M5, hM5⟩ : ∃ M, M = M4 ++ be 1 (BitVec.ofInt 64 (b3)) := ⟨_, rfl⟩
    rw [← hM5] at KK
    have J5 : Hid _ := And.intro KK (show M5.length = 4 from by rw [hM5, List.length_append, J4.out.2, be_length _ _ (by omega)])
    have E5 : Hid _ := hM5
    clear KK W1 nw1 t1 HN J4 hM5
    clear y
    have y := blk_at (J5.out.1.bx _ (List.mem_cons_self ..)) 14
    simp only [List.getElem?_cons_zero, List.getElem?_cons_succ] at y
    have NN := rwNum_any w.heap.size g _ M5 0 4 ((dn : Int)) u5 J5.out.1.wr (by have := J5.out.2; omega)
    rw [wrNum_go 4 ((dn : Int)) (pwn_4 (by have := HF.out.2.2.2.2.1; omega))] at NN
    rw [show Int.toNat 4 = 4 from rfl] at NN
    have HN : Hid _ := NN
    clear NN
    go_wp2_with fail
    refine (Calls.mono HN.out) ?_
    rintro r u6 ⟨rfl, x6, W1, nw1, t1⟩
    have KK := J5.out.1.step W1 nw1 t1
    obtain ⟨M6, hM6⟩ : ∃ M, M = M5 ++ be 4 (BitVec.ofInt 64 ((dn : Int))) := ⟨_, rfl⟩
    rw [← hM6] at KK
    have J6 : Hid _ := And.intro KK (show M6.length = 8 from by rw [hM6, List.length_append, J5.out.2, be_length _ _ (by omega)])
    have E6 : Hid _ := hM6
    clear KK W1 nw1 t1 HN J5 hM6
    clear y
    have y := blk_at (J6.out.1.bx _ (List.mem_cons_self ..)) 5
    simp only [List.getElem?_cons_zero, List.getElem?_cons_succ] at y
    have NN := rwNum_any w.heap.size g _ M6 0 8 (wrap64 lun) u6 J6.out.1.wr (by have := J6.out.2; omega)
    rw [wrNum_go 8 (wrap64 lun) (pwn_8 _)] at NN
    rw [show Int.toNat 8 = 8 from rfl] at NN
    have HN : Hid _ := NN
    clear NN
    go_wp2_with fail
    refine (Calls.mono HN.out) ?_
    rintro r u7 ⟨rfl, x7, W1, nw1, t1⟩
    have KK := J6.out.1.step W1 nw1 t1
    obtain ⟨M7, hM7⟩ : ∃ M, M = M6 ++ be 8 (BitVec.ofInt 64 (wrap64 lun)) := ⟨_, rfl⟩
    rw [← hM7] at KK
    have J7 : Hid _ := And.intro KK (show M7.length = 16 from by rw [hM7, List.length_append, J6.out.2, be_length _ _ (by omega)])
    have E7 : Hid _ := hM7
    clear KK W1 nw1 t1 HN J6 hM7
    clear y
    have y := blk_at (J7.out.1.bx _ (List.mem_cons_self ..)) 6
    simp only [List.getElem?_cons_zero, List.getElem?_cons_succ] at y
    have v := wrapTk.out tk (by simp)
    have NN := rwNum_any w.heap.size g _ M7 0 4 (tk) u7 J7.out.1.wr (by have := J7.out.2; omega)
    rw [wrNum_go 4 (tk) (pwn_4 (HF.out.2.2.2.2.2 tk (by simp)))] at NN
    rw [show Int.toNat 4 = 4 from rfl] at NN
    have HN : Hid _ := NN
    clear NN
    go_wp2_with fail
    refine (Calls.mono HN.out) ?_
    rintro r u8 ⟨rfl, x8, W1, nw1, t1⟩
    have KK := J7.out.1.step W1 nw1 t1
    obtain ⟨M8, hM8⟩ : ∃ M, M = M7 ++ be 4 (BitVec.ofInt 64 (tk)) := ⟨_, rfl⟩
    rw [← hM8] at KK
    have J8 : Hid _ := And.intro KK (show M8.length = 20 from by rw [hM8, List.length_append, J7.out.2, be_length _ _ (by omega)])
    have E8 : Hid _ := hM8
    clear KK W1 nw1 t1 HN J7 hM8
    clear y v
    go_wp2_with fail
    refine wp_loop_rounds 8 ?_
    rw [rounds_succ]
    have v := wrapTk.out w0 (by simp)
    have y := blk_at (J8.out.1.bx _ (List.mem_cons_self ..)) 7
    simp only [List.getElem?_cons_zero, List.getElem?_cons_succ] at y
    have NN := rwNum_any w.heap.size g _ M8 0 4 (w0) u8 J8.out.1.wr (by have := J8.out.2; omega)
    rw [wrNum_go 4 (w0) (pwn_4 (HF.out.2.2.2.2.2 w0 (by simp)))] at NN
    rw [show Int.toNat 4 = 4 from rfl] at NN
    have HN : Hid _ := NN
    clear NN
    go_wp2_with fail
    refine (Calls.mono HN.out) ?_
    rintro r u9 ⟨rfl, x9, W1, nw1, t1⟩
    have KK := J8.out.1.step W1 nw1 t1
    obtain ⟨M9, hM9⟩ : ∃ M, M = M8 ++ be 4 (BitVec.ofInt 64 (w0)) := ⟨_, rfl⟩
    rw [← hM9] at KK
    have J9 : Hid _ := And.intro KK (show M9.length = 24 from by rw [hM9, List.length_append, J8.out.2, be_length _ _ (by omega)])
    have E9 : Hid _ := hM9
    clear KK W1 nw1 t1 HN J8 hM9
    clear y v
    go_wp2_with fail
    rw [rounds_succ]
    have v := wrapTk.out w1 (by simp)
    have y := blk_at (J9.out.1.bx _ (List.mem_cons_self ..)) 8
    simp only [List.getElem?_cons_zero, List.getElem?_cons_succ] at y
    have NN := rwNum_any w.heap.size g _ M9 0 4 (w1) u9 J9.out.1.wr (by have := J9.out.2; omega)
    rw [wrNum_go 4 (w1) (pwn_4 (HF.out.2.2.2.2.2 w1 (by simp)))] at NN
    rw [show Int.toNat 4 = 4 from rfl] at NN
    have HN : Hid _ := NN
    clear NN
    go_wp2_with fail
    refine (Calls.mono HN.out) ?_
    rintro r u10 ⟨rfl, x10, W1, nw1, t1⟩
    have KK := J9.out.1.step W1 nw1 t1
    obtain ⟨M10, hM10⟩ : ∃ M, M = M9 ++ be 4 (BitVec.ofInt 64 (w1)) := ⟨_, rfl⟩
    rw [← hM10] at KK
    have J10 : Hid _ := And.intro KK (show M10.length = 28 from by rw [hM10, List.length_append, J9.out.2, be_length _ _ (by omega)])
    have E10 : Hid _ := hM10
    clear KK W1 nw1 t1 HN J9 hM10
    clear y v
    go_wp2_with fail
    rw [rounds_succ]
    have v := wrapTk.out w2 (by simp)
    have y := blk_at (J10.out.1.bx _ (List.mem_cons_self ..)) 9
    simp only [List.getElem?_cons_zero, List.getElem?_cons_succ] at y
    have NN := rwNum_any w.heap.size g _ M10 0 4 (w2) u10 J10.out.1.wr (by have := J10.out.2; omega)
    rw [wrNum_go 4 (w2) (pwn_4 (HF.out.2.2.2.2.2 w2 (by simp)))] at NN
    rw [show Int.toNat 4 = 4 from rfl] at NN
    have HN : Hid _ := NN
    clear NN
    go_wp2_with fail
    refine (Calls.mono HN.out) ?_
    rintro r u11 ⟨rfl, x11, W1, nw1, t1⟩
    have KK := J10.out.1.step W1 nw1 t1
    obtain ⟨M11, hM11⟩ : ∃ M, M = M10 ++ be 4 (BitVec.ofInt 64 (w2)) := ⟨_, rfl⟩
    rw [← hM11] at KK
    have J11 : Hid _ := And.intro KK (show M11.length = 32 from by rw [hM11, List.length_append, J10.out.2, be_length _ _ (by omega)])
    have E11 : Hid _ := hM11
    clear KK W1 nw1 t1 HN J10 hM11
    clear y v
    go_wp2_with fail
    rw [rounds_succ]
    have v := wrapTk.out w3 (by simp)
    have y := blk_at (J11.out.1.bx _ (List.mem_cons_self ..)) 10
    simp only [List.getElem?_cons_zero, List.getElem?_cons_succ] at y
    have NN := rwNum_any w.heap.size g _ M11 0 4 (w3) u11 J11.out.1.wr (by have := J11.out.2; omega)
    rw [wrNum_go 4 (w3) (pwn_4 (HF.out.2.2.2.2.2 w3 (by simp)))] at NN
    rw [show Int.toNat 4 = 4 from rfl] at NN
    have HN : Hid _ := NN
    clear NN
    go_wp2_with fail
    refine (Calls.mono HN.out) ?_
    rintro r u12 ⟨rfl, x12, W1, nw1, t1⟩
    have KK := J11.out.1.step W1 nw1 t1
    obtain ⟨M12, hM12⟩ : ∃ M, M = M11 ++ be 4 (BitVec.ofInt 64 (w3)) := ⟨_, rfl⟩
    rw [← hM12] at KK
    have J12 : Hid _ := And.intro KK (show M12.length = 36 from by rw [hM12, List.length_append, J11.out.2, be_length _ _ (by omega)])
    have E12 : Hid _ := hM12
    clear KK W1 nw1 t1 HN J11 hM12
    clear y v
    go_wp2_with fail
    rw [rounds_succ]
    have v := wrapTk.out w4 (by simp)
    have y := blk_at (J12.out.1.bx _ (List.mem_cons_self ..)) 11
    simp only [List.getElem?_cons_zero, List.getElem?_cons_succ] at y
    have NN := rwNum_any w.heap.size g _ M12 0 4 (w4) u12 J12.out.1.wr (by have := J12.out.2; omega)
    rw [wrNum_go 4 (w4) (pwn_4 (HF.out.2.2.2.2.2 w4 (by simp)))] at NN
    rw [show Int.toNat 4 = 4 from rfl] at NN
    have HN : Hid _ := NN
    clear NN
    go_wp2_with fail
    refine (Calls.mono HN.out) ?_
    rintro r u13 ⟨rfl, x13, W1, nw1, t1⟩
    have KK := J12.out.1.step W1 nw1 t1
    obtain ⟨M13, hM13⟩ : ∃ M, M = M12 ++ be 4 (BitVec.ofInt 64 (w4)) := ⟨_, rfl⟩
    rw [← hM13] at KK
    have J13 : Hid _ := And.intro KK (show M13.length = 40 from by rw [hM13, List.length_append, J12.out.2, be_length _ _ (by omega)])
    have E13 : Hid _ := hM13
    clear KK W1 nw1 t1 HN J12 hM13
    clear y v
    go_wp2_with fail
    rw [rounds_succ]
    have v := wrapTk.out w5 (by simp)
    have y := blk_at (J13.out.1.bx _ (List.mem_cons_self ..)) 12
    simp only [List.getElem?_cons_zero, List.getElem?_cons_succ] at y
    have NN := rwNum_any w.heap.size g _ M13 0 4 (w5) u13 J13.out.1.wr (by have := J13.out.2; omega)
    rw [wrNum_go 4 (w5) (pwn_4 (HF.out.2.2.2.2.2 w5 (by simp)))] at NN
    rw [show Int.toNat 4 = 4 from rfl] at NN
    have HN : Hid _ := NN
    clear NN
    go_wp2_with fail
    refine (Calls.mono HN.out) ?_
    rintro r u14 ⟨rfl, x14, W1, nw1, t1⟩
    have KK := J13.out.1.step W1 nw1 t1
    obtain ⟨M14, hM14⟩ : ∃ M, M = M13 ++ be 4 (BitVec.ofInt 64 (w5)) := ⟨_, rfl⟩
    rw [← hM14] at KK
    have J14 : Hid _ := And.intro KK (show M14.length = 44 from by rw [hM14, List.length_append, J13.out.2, be_length _ _ (by omega)])
    have E14 : Hid _ := hM14
    clear KK W1 nw1 t1 HN J13 hM14
    clear y v
    go_wp2_with fail
    rw [rounds_succ]
    have v := wrapTk.out w6 (by simp)
    have y := blk_at (J14.out.1.bx _ (List.mem_cons_self ..)) 13
    simp only [List.getElem?_cons_zero, List.getElem?_cons_succ] at y
    have NN := rwNum_any w.heap.size g _ M14 0 4 (w6) u14 J14.out.1.wr (by have := J14.out.2; omega)
    rw [wrNum_go 4 (w6) (pwn_4 (HF.out.2.2.2.2.2 w6 (by simp)))] at NN
    rw [show Int.toNat 4 = 4 from rfl] at NN
    have HN : Hid _ := NN
    clear NN
    go_wp2_with fail
    refine (Calls.mono HN.out) ?_
    rintro r u15 ⟨rfl, x15, W1, nw1, t1⟩
    have KK := J14.out.1.step W1 nw1 t1
    obtain ⟨M15, hM15⟩ : ∃ M, M = M14 ++ be 4 (BitVec.ofInt 64 (w6)) := ⟨_, rfl⟩
    rw [← hM15] at KK
    have J15 : Hid _ := And.intro KK (show M15.length = 48 from by rw [hM15, List.length_append, J14.out.2, be_length _ _ (by omega)])
    have E15 : Hid _ := hM15
    clear KK W1 nw1 t1 HN J14 hM15
    clear y v
    go_wp2_with fail
    rw [rounds_succ]
    have HM : Hid _ := rwEnd_any w.heap.size g _ M15 0 u15 J15.out.1.wr (by have := J15.out.2; omega)
    go_wp2_with fail
    refine (Calls.mono HM.out) ?_
    rintro r we ⟨z, rfl, o5, b5⟩
    rw [show ∀ L, wrEnd L 0 = L from fun L => if_pos rfl] at o5
    have hall : M15 = pdH op false fl b2 b3 dn lun tk w0 w1 w2 w3 w4 w5 w6 := by
      rw [E15.out, E14.out, E13.out, E12.out, E11.out, E10.out, E9.out, E8.out, E7.out, E6.out, E5.out, E4.out, E3.out, E2.out, E1.out]
      rw [ofInt_wrap, be4_split dn (by have := HF.out.2.2.2.2.1; omega)]
      unfold pdH
      simp only [List.append_assoc, List.nil_append]
    have hHl : (pdH op false fl b2 b3 dn lun tk w0 w1 w2 w3 w4 w5 w6).length = 48 := pdH_len _ _ _ _ _ _ _ _ _ _ _ _ _ _ _
    rw [hall] at o5
    generalize hpH : pdH op false fl b2 b3 dn lun tk w0 w1 w2 w3 w4 w5 w6 = H at *
    have HPH : Hid _ := hpH
    clear hpH
    have hOb := J15.out.1.bx (w.heap.size + 1, 23, [.bool hs, .bool ds, .int .i64 mo]) (by simp)
    have hPb := J15.out.1.bx _ (List.mem_cons_self ..)
    have hlo2 : w.heap.size + 2 ≤ u15.heap.size := hOb.lt
    have G : Hid _ := And.intro (o5.lower hlo2) (And.intro (below_then J15.out.1.bl b5) (And.intro (hOb.laterB b5) (And.intro (hPb.laterB b5) hHl)))
    clear o5 b5 HM hall hOb hPb hHl hlo2 HF wrapTk E1 E2 E3 E4 E5 E6 E7 E8 E9 E10 E11 E12 E13 E14 E15 J15 HNb HF7 k0 k1 k2 k3 k4 k5 k6 k7 hsz'
    have Y0 : Hid _ := (⟨G.out.1, G.out.2.2.1, G.out.2.2.2.1, G.out.2.1⟩ : PtB w we hs ds mo [.int .i64 op, .bool false, .int .i64 fl, .int .i64 b2, .int .i64 b3, .int .u64 lun, .int .u32 tk, .int .u32 w0, .int .u32 w1, .int .u32 w2, .int .u32 w3, .int .u32 w4, .int .u32 w5, .int .u32 w6, .slice dx dn dc] z H)
    have HHl : Hid _ := G.out.2.2.2.2
    obtain ⟨zv, zc, hzv, hzl, -, hzr, hzn, -⟩ := Y0.out.b.open
    subst hzv
    have z0 := blk_at Y0.out.o 0
    simp only [List.getElem?_cons_zero, List.getElem?_cons_succ] at z0
    clear G
    go_upto_if 116 with fail
    go_cut [9] from 117 to 146 (fun bv wx => PtB w wx hs ds mo [.int .i64 op, .bool false, .int .i64 fl, .int .i64 b2, .int .i64 b3, .int .u64 lun, .int .u32 tk, .int .u32 w0, .int .u32 w1, .int .u32 w2, .int .u32 w3, .int .u32 w4, .int .u32 w5, .int .u32 w6, .slice dx dn dc] bv (H ++ dgB hs H))
    case first =>
      cases hs
      · have F : Hid _ := Y0.out
        clear Y0 hzl hzr hzn HD HHl
        go_wp2
        go_meet
        case rel => have e : H ++ dgB false H = H := by unfold dgB; simp
                    rw [e]; exact F.out
      · have HDg : Hid _ := rdigest_any zv H.length zc H we rfl (by have := HHl.out; unfold maxLen; omega) hzr
        have hl9 : H.length ≤ 100 := by have := HHl.out; omega
        clear hzl hzr hzn HHl HD
        go_wp2_with fail
        refine (Calls.mono HDg.out) ?_
        rintro e v1 ⟨B, rfl, hB, rB, bB⟩
        have Y1 : Hid _ := And.intro (Y0.out.later bB) rB
        clear bB rB hB HDg Y0
        go_wp2_with (at_builtin; refine wpList_append_bytes _ rfl _ _ rfl (w.heap.size + 2) _ H rfl Y1.out.1.b (some ⟨B, 0, none⟩) 4 4 (Crc.bytes4 (Crc.sum H)) rfl rfl Y1.out.2 (fun h => by cases h) (Nat.le_refl _) (by omega) (by have := Y1.out.1.o.lt; omega) ?_)
        intro v2 w9 ho2 hg2
        obtain ⟨a2, c2, hv2, -⟩ := ho2.open
        have F : Hid _ := Y1.out.1.more ho2 hg2
        subst hv2
        clear ho2 hg2 Y1
        go_wp2
        go_meet
        case rel => exact F.out
    case rest =>
    clear z0 Y0 hzl hzr hzn
    have Y1 : Hid _ := hcut
    clear hcut
    obtain ⟨bv2, bc2, hb2, -⟩ := Y1.out.b.open
    subst hb2
    have hB1 : (H ++ dgB hs H).length ≤ 60 := by rw [List.length_append, dgB_len]; have := dgN_le hs; have := HHl.out; omega
    have HB1 : Hid _ := hB1
    clear hB1
    generalize hBB : H ++ dgB hs H = B1 at *
    have HBB : Hid _ := hBB
    clear hBB
    have y14 := blk_at Y1.out.p 14
    simp only [List.getElem?_cons_zero, List.getElem?_cons_succ] at y14
    obtain ⟨hdl, hdc, hdn, hdm, hdr⟩ := HD.out
    have hdr1 := hdr.later Y1.out.be
    go_wp2_with (at_builtin; refine wpList_append_bytes _ rfl _ _ rfl wc.heap.size _ [] rfl (Own.nil _ _) dx dn dc d rfl hdl hdr1 hdn hdc (by simp; omega) (Nat.le_refl _) ?_)
    intro v2 wn2 ho2 hg2
    have hlt2 : ∀ k, (Value.slice bv2 B1.length bc2).ownBlock = some k → k < wc.heap.size := fun k hk => (World.ownsRow.lt Y1.out.b k hk).2
    have bg2 : Below wc.heap.size wc wn2 := grown_all hg2
    have Y2 := Y1.out.later bg2
    have R0 : Hid _ := (⟨Y2.b, ho2, hlt2, bg2.size, Y1.out.o.lt, Y2.o, Y2.be⟩ : PtR w wn2 wc.heap.size hs ds mo (.slice bv2 B1.length bc2) B1 v2 d)
    obtain ⟨a2, c2, hv2, -⟩ := ho2.open
    rw [hdl] at hv2
    subst hv2
    have HDL : Hid _ := And.intro hdl hdm
    have hdm2 : dn ≤ 65536 := hdm
    have HBC : Hid _ := Y1.out.o.lt
    have e0 : Hid _ := (show d ++ nulls 0 = d by simp [nulls])
    clear ho2 hg2 hlt2 bg2 Y2 Y1 y14 hdl hdc hdn hdm hdr hdr1 HD HHl
    generalize wc.heap.size = bd at *
    generalize hbl : B1.length = bl at *
    have HBL : Hid _ := hbl
    clear hbl
    go_wp2_with fail
    go_loopw [11] (fun dv wr => ∃ j, j ≤ bodyN dn - dn ∧ PtR w wr bd hs ds mo (.slice bv2 bl bc2) B1 dv (d ++ nulls j)) (fun dv _ => bodyN dn - lenV17 dv)
    case atStart => exact ⟨0, by omega, by rw [e0.out]; exact R0.out⟩
    case round =>
      clear R0
      obtain ⟨j, hj, hR⟩ := hrel
      obtain ⟨a3, c3, hv3, hl3, -, hr3, hn3, -⟩ := hR.d.open
      have hlj : (d ++ nulls j).length = dn + j := by rw [List.length_append, HDL.out.1]; simp [nulls]
      rw [hlj] at hv3 hl3
      subst hv3
      have hbs := body_step dn j hj
      by_cases hlt : j < bodyN dn - dn
      · have q1 : ¬ ((dn + j : Nat) : Int) % 4 = 0 := by omega
        have hbn := pad_body dn (by omega)
        have bn : Below wr.heap.size wr (wr.alloc (.cells #[.int .u8 0] 5)) := (Below.refl _ _).alloc (Nat.le_refl _) _
        have R1 : Hid _ := hR.later bn
        have HJ : Hid _ := And.intro hj (And.intro hbs (And.intro hlj hbn))
        clear hR bn hr3 hn3 hbs hlj hj hbn
        generalize hdj : dn + j = dj at *
        have HDJ : Hid _ := hdj
        clear hdj
        go_wp2_with (at_builtin; refine wpList_append_bytes _ rfl _ _ rfl bd _ (d ++ nulls j) rfl R1.out.d (some ⟨wr.heap.size, 0, none⟩) 1 1 [0#8] rfl rfl (Row.newl _ _ _ _ _ rfl) (fun h => by cases h) (Nat.le_refl _) (by rw [HJ.out.2.2.1]; have := HDJ.out; have := HJ.out.1; have := HJ.out.2.2.2; omega) R1.out.bw ?_)
        intro v5 wn5 ho5 hg5
        rw [nulls_succ] at ho5
        obtain ⟨a5, c5, hv5, -⟩ := ho5.open
        have hl5 : (d ++ nulls (j + 1)).length = dj + 1 := by have h1 := HJ.out.2.2.1; rw [List.length_append] at h1 ⊢; simp only [nulls, List.length_replicate] at h1 ⊢; omega
        have F : Hid _ := And.intro (R1.out.more ho5 hg5) hl5
        rw [hl5] at hv5
        subst hv5
        have hm5 : bodyN dn - (dj + 1) < bodyN dn - dj := by have := HDJ.out; have := HJ.out.2.2.2; omega
        have HM5 : Hid _ := hm5
        clear ho5 hg5 hl5 R1 hm5
        go_wp2
        go_roundw
        case rel => exact ⟨j + 1, by have := HJ.out.1; omega, F.out.1⟩
        case measure => simpa [lenV17] using HM5.out
      · have hje : j = bodyN dn - dn := by omega
        have eD : d ++ nulls j = bdy d := by unfold bdy; rw [HDL.out.1, hje]
        rw [eD] at hR hr3 hlj
        have q1 : ((dn + j : Nat) : Int) % 4 = 0 := by have := hbs.2 hje; omega
        have hbn := pad_body dn (by omega)
        have hdb : (dn + j = 0 ↔ dn = 0) := by unfold bodyN at hje; omega
        have hdk : dn + j ≤ 70000 := by omega
        generalize hdj : dn + j = dj at *
        have HDJ : Hid _ := And.intro hdj (And.intro hlj hdb)
        have HR : Hid _ := And.intro hR hr3
        clear hdj hlj hR hbs hje eD hr3 hlt hbn hj hdb
        go_wp2_with (at_builtin; refine wpList_append_bytes _ rfl _ _ rfl (w.heap.size + 2) _ B1 rfl HR.out.1.b a3 dj c3 (bdy d) rfl HDJ.out.2.1 HR.out.2 hn3 hl3 (by have := HB1.out; have := HBL.out; omega) (Nat.le_trans HR.out.1.od HR.out.1.bw) ?_)
        intro v6 wn6 ho6 hg6
        have hkb : ∀ k, (Value.slice bv2 bl bc2).ownBlock = some k → w.heap.size + 2 ≤ k ∧ k < bd := fun k hk => ⟨(World.ownsRow.lt HR.out.1.b k hk).1, HR.out.1.lt k hk⟩
        have hkd : ∀ k, (Value.slice a3 dj c3).ownBlock = some k → bd ≤ k := fun k hk => (World.ownsRow.lt HR.out.1.d k hk).1
        have d6 := HR.out.1.d.turned (turned_grown (R := fun k => (Value.slice bv2 bl bc2).ownBlock = some k) hg6 (fun k e => e)) (fun k hk e => by have := hkd k hk; have := (hkb k e).2; omega)
        have o6 := HR.out.1.o.grown hg6 (fun e => by have := (hkb _ e.symm).1; omega)
        have b6 := HR.out.1.be.grown hg6 HR.out.1.be.size (fun k hk => by have := (hkb k hk).1; omega)
        obtain ⟨a6, c6, hv6, hl6, -, hr6, hn6, -⟩ := ho6.open
        have z1 := blk_at o6 1
        simp only [List.getElem?_cons_zero, List.getElem?_cons_succ] at z1
        obtain ⟨a7, c7, hv7, hl7, -, hr7, hn7, -⟩ := d6.open
        rw [HDJ.out.2.1, Value.slice.injEq] at hv7
        obtain ⟨rfl, -, rfl⟩ := hv7
        have Z : Hid _ := And.intro ho6 (And.intro o6 (And.intro b6 hr7))
        have hbl6 : (B1 ++ bdy d).length = bl + dj := by rw [List.length_append, HDJ.out.2.1, HBL.out]
        rw [hbl6] at hv6 hl6
        have HB6 : Hid _ := hbl6
        subst hv6
        clear ho6 hg6 d6 o6 b6 hr6 hr7 HR hkb hkd hl7 hn7 hbl6 hl6 hn6
        have hcond : ∀ b : Bool, (ds && decide (0 < d.length)) = b → putB hs ds (pdH op false fl b2 b3 dn lun tk w0 w1 w2 w3 w4 w5 w6) d = B1 ++ bdy d ++ dgB b (bdy d) := fun b hb => by rw [HPH.out]; unfold putB; rw [hb, ← HBB.out]; simp only [List.append_assoc]
        have HCo : Hid _ := hcond
        clear hcond
        by_cases hds : ds = true ∧ 0 < dj
        · obtain ⟨rfl, hdp⟩ := hds
          have HP : Hid _ := HCo.out true (by rw [decide_eq_true (by have h1 := HDL.out.1; have h2 := HDJ.out.2.2; omega)]; rfl)
          have HDg : Hid _ := rdigest_any a3 dj c3 (bdy d) wn6 HDJ.out.2.1 (by unfold maxLen; omega) Z.out.2.2.2
          have hdp2 : (0 : Int) < (dj : Int) := by omega
          clear HCo hdp
          go_wp2_with fail
          refine (Calls.mono HDg.out) ?_
          rintro e wn7 ⟨B, rfl, hB, rB, bB⟩
          have Z7 : Hid _ := And.intro (Z.out.1.later bB) (And.intro (below_then Z.out.2.2.1 bB) (And.intro rB (Z.out.2.1.laterB bB).lt))
          clear bB rB hB HDg Z
          go_wp2_with (at_builtin; refine wpList_append_bytes _ rfl _ _ rfl (w.heap.size + 2) _ (B1 ++ bdy d) rfl Z7.out.1 (some ⟨B, 0, none⟩) 4 4 (Crc.bytes4 (Crc.sum (bdy d))) rfl rfl Z7.out.2.2.1 (fun h => by cases h) (Nat.le_refl _) (by rw [HB6.out]; have := HB1.out; have := HBL.out; omega) Z7.out.2.2.2 ?_)
          intro v8 wn8 ho8 hg8
          have hk8 : ∀ k, (Value.slice a6 (bl + dj) c6).ownBlock = some k → w.heap.size ≤ k := fun k hk => by have := (World.ownsRow.lt Z7.out.1 k hk).1; omega
          have F8 : Hid _ := And.intro (ho8.lower (Nat.le_add_right _ _)) (Z7.out.2.1.grown hg8 Z7.out.2.1.size hk8)
          obtain ⟨a8, c8, hv8, -⟩ := ho8.open
          subst hv8
          clear ho8 hg8 hk8 Z7
          go_wp2
          go_ret2
          refine ⟨_, rfl, ?_, F8.out.2⟩
          rw [HP.out]
          have := F8.out.1
          simpa [dgB, List.append_assoc] using this
        · have HP : Hid _ := HCo.out false (by cases ds; rfl; rw [decide_eq_false (by have h1 := HDL.out.1; have h2 := HDJ.out.2.2; have : ¬ 0 < dj := fun h => hds ⟨rfl, h⟩; omega)]; rfl)
          have F8 : Hid _ := And.intro (Z.out.1.lower (Nat.le_add_right _ _)) Z.out.2.2.1
          clear Z HCo
          cases ds
          · clear hds
            go_wp2
            go_ret2
            refine ⟨_, rfl, ?_, F8.out.2⟩
            rw [HP.out]
            have := F8.out.1
            simpa [dgB] using this
          · have hd0 : ¬ (0 : Int) < (dj : Int) := by have : ¬ 0 < dj := fun h => hds ⟨rfl, h⟩; omega
            clear hds
            go_wp2
            go_ret2
            refine ⟨_, rfl, ?_, F8.out.2⟩
            rw [HP.out]
            have := F8.out.1
            simpa [dgB] using this
  · have b0 : Below w.heap.size w (w.alloc (.cells #[.int .i64 op, .bool true, .int .i64 fl, .int .i64 b2, .int .i64 b3, .int .u64 lun, .int .u32 tk, .int .u32 w0, .int .u32 w1, .int .u32 w2, .int .u32 w3, .int .u32 w4, .int .u32 w5, .int .u32 w6, .slice dx dn dc] 50)) := (Below.refl _ _).alloc (Nat.le_refl _) _
    have N0 := Blk.new' w 50 [.int .i64 op, .bool true, .int .i64 fl, .int .i64 b2, .int .i64 b3, .int .u64 lun, .int .u32 tk, .int .u32 w0, .int .u32 w1, .int .u32 w2, .int .u32 w3, .int .u32 w4, .int .u32 w5, .int .u32 w6, .slice dx dn dc]
    have hz : (w.alloc (.cells #[.int .i64 op, .bool true, .int .i64 fl, .int .i64 b2, .int .i64 b3, .int .u64 lun, .int .u32 tk, .int .u32 w0, .int .u32 w1, .int .u32 w2, .int .u32 w3, .int .u32 w4, .int .u32 w5, .int .u32 w6, .slice dx dn dc] 50)).heap.size = w.heap.size + 1 := by simp
    have b1 : Below (w.alloc (.cells #[.int .i64 op, .bool true, .int .i64 fl, .int .i64 b2, .int .i64 b3, .int .u64 lun, .int .u32 tk, .int .u32 w0, .int .u32 w1, .int .u32 w2, .int .u32 w3, .int .u32 w4, .int .u32 w5, .int .u32 w6, .slice dx dn dc] 50)).heap.size (w.alloc (.cells #[.int .i64 op, .bool true, .int .i64 fl, .int .i64 b2, .int .i64 b3, .int .u64 lun, .int .u32 tk, .int .u32 w0, .int .u32 w1, .int .u32 w2, .int .u32 w3, .int .u32 w4, .int .u32 w5, .int .u32 w6, .slice dx dn dc] 50)) ((w.alloc (.cells #[.int .i64 op, .bool true, .int .i64 fl, .int .i64 b2, .int .i64 b3, .int .u64 lun, .int .u32 tk, .int .u32 w0, .int .u32 w1, .int .u32 w2, .int .u32 w3, .int .u32 w4, .int .u32 w5, .int .u32 w6, .slice dx dn dc] 50)).alloc (.cells #[.bool hs, .bool ds, .int .i64 mo] 23)) := (Below.refl _ _).alloc (Nat.le_refl _) _
    have N1 := Blk.new' (w.alloc (.cells #[.int .i64 op, .bool true, .int .i64 fl, .int .i64 b2, .int .i64 b3, .int .u64 lun, .int .u32 tk, .int .u32 w0, .int .u32 w1, .int .u32 w2, .int .u32 w3, .int .u32 w4, .int .u32 w5, .int .u32 w6, .slice dx dn dc] 50)) 23 [.bool hs, .bool ds, .int .i64 mo]
    rw [hz] at N1
    have N0 := N0.laterB b1
    have bb := below_then b0 b1
    have HT : Hid _ := rRight_any hs ds mo ((w.alloc (.cells #[.int .i64 op, .bool true, .int .i64 fl, .int .i64 b2, .int .i64 b3, .int .u64 lun, .int .u32 tk, .int .u32 w0, .int .u32 w1, .int .u32 w2, .int .u32 w3, .int .u32 w4, .int .u32 w5, .int .u32 w6, .slice dx dn dc] 50)).alloc (.cells #[.bool hs, .bool ds, .int .i64 mo] 23))
    have o0 := blk_at N1 0
    have o1 := blk_at N1 1
    have o2 := blk_at N1 2
    simp only [List.getElem?_cons_zero, List.getElem?_cons_succ] at o0 o1 o2
    have X : Hid _ := And.intro bb (And.intro N0 N1)
    clear b0 N0 hz b1 N1 bb
    rw [ho] at HT
    obtain ⟨q0, q1, q2, q3⟩ := canP_of hcp
    have k0 : ¬ op < 0 := by omega
    have k1 : ¬ 63 < op := by omega
    have k2 : ¬ fl < 0 := by omega
    have k3 : ¬ 255 < fl := by omega
    have k4 : ¬ b2 < 0 := by omega
    have k5 : ¬ 255 < b2 := by omega
    have k6 : ¬ b3 < 0 := by omega
    have k7 : ¬ 255 < b3 := by omega
    have HF : Hid ((0 ≤ fst7 op true ∧ fst7 op true < 256) ∧ (0 ≤ fl ∧ fl < 256) ∧ (0 ≤ b2 ∧ b2 < 256) ∧ (0 ≤ b3 ∧ b3 < 256) ∧ dn < 16777216 ∧ ∀ t ∈ [tk, w0, w1, w2, w3, w4, w5, w6], 0 ≤ t ∧ t < 4294967296) := ⟨by unfold fst7; split <;> omega, by omega, by omega, by omega, by omega, htw⟩
    have wrapTk : Hid (∀ t ∈ [tk, w0, w1, w2, w3, w4, w5, w6], IntKind.i64.wrap t = t) := fun t ht => by have := htw t ht; rw [IntKind.wrap_i64]; omega
    have HD : Hid _ := And.intro hdl (And.intro hdc (And.intro hdn (And.intro hdm hdr)))
    have hsz' : ¬ mo < (dn : Int) := by omega
    clear q0 q1 q2 q3 hcp ho htw hdl hdc hdn hdm hdr hsz
    go_enter Try.func24, Try.ntmps24
    go_wp2_with fail
    refine (Calls.mono HT.out) ?_
    rintro e u0 ⟨rfl, bR⟩
    have X0 : Hid _ := And.intro (below_then X.out.1 bR) (And.intro (X.out.2.1.laterB bR) (X.out.2.2.laterB bR))
    have y0 := blk_at X0.out.2.1 0
    have y2 := blk_at X0.out.2.1 2
    have y3 := blk_at X0.out.2.1 3
    have y4 := blk_at X0.out.2.1 4
    have y14 := blk_at X0.out.2.1 14
    have z0 := blk_at X0.out.2.2 0
    have z1 := blk_at X0.out.2.2 1
    have z2 := blk_at X0.out.2.2 2
    simp only [List.getElem?_cons_zero, List.getElem?_cons_succ] at y0 y2 y3 y4 y14 z0 z1 z2
    clear bR X HT o0 o1 o2
    have y1 := blk_at X0.out.2.1 1
    simp only [List.getElem?_cons_zero, List.getElem?_cons_succ] at y1
    have hf7 : op + 64 = fst7 op true := rfl
    have kf : -9223372036854775808 ≤ op + 64 ∧ op + 64 ≤ 9223372036854775807 := by omega
    have HF7 : Hid _ := hf7
    clear hf7
    have bW : Below u0.heap.size u0 (u0.alloc (.cells #[.slice none 0 0, .int .i64 0] 83)) := (Below.refl _ _).alloc (Nat.le_refl _) _
    have NW := Blk.new' u0 83 [.slice none 0 0, .int .i64 0]
    have hu := X0.out.2.2.lt
    have K0 : RKW w (u0.alloc (.cells #[.slice none 0 0, .int .i64 0] 83)) u0.heap.size (.slice none 0 0) [] [(w.heap.size, 50, [.int .i64 op, .bool true, .int .i64 fl, .int .i64 b2, .int .i64 b3, .int .u64 lun, .int .u32 tk, .int .u32 w0, .int .u32 w1, .int .u32 w2, .int .u32 w3, .int .u32 w4, .int .u32 w5, .int .u32 w6, .slice dx dn dc]), (w.heap.size + 1, 23, [.bool hs, .bool ds, .int .i64 mo])] := ⟨⟨NW, ⟨[], Own.nil _ _, fun _ => rfl⟩, X0.out.1.size, Nat.le_trans X0.out.1.size bW.size, by decide⟩, below_then X0.out.1 bW, (fun b hb => by simp only [List.mem_cons, List.not_mem_nil, or_false] at hb; rcases hb with rfl | rfl; exact X0.out.2.1.laterB bW; exact X0.out.2.2.laterB bW), (fun b hb => by simp only [List.mem_cons, List.not_mem_nil, or_false] at hb; rcases hb with rfl | rfl; exact ⟨by simp only; omega, fun j hj => by cases hj⟩; exact ⟨by simp only; omega, fun j hj => by cases hj⟩)⟩
    obtain ⟨M1, hM1⟩ : ∃ M : List (BitVec 8), M = [] := ⟨_, rfl⟩
    rw [← hM1] at K0
    have J1 : Hid _ := And.intro K0 (show M1.length = 0 from by rw [hM1]; rfl)
    have E1 : Hid _ := hM1
    have HNb : Hid _ := hu
    clear K0 hM1 bW NW X0 hu
    go_wp2_with fail
    clear y0 y1 y2 y3 y4 y14 z0 z1 z2
    (try rw [HF7.out])
    generalize (u0.alloc (.cells #[.slice none 0 0, .int .i64 0] 83)) = u1 at *
    generalize u0.heap.size = g at *
    have NN := rwNum_any w.heap.size g _ M1 0 1 (fst7 op true) u1 J1.out.1.wr (by have := J1.out.2; omega)
    rw [wrNum_go 1 (fst7 op true) (pwn_1 HF.out.1)] at NN
    rw [show Int.toNat 1 = 1 from rfl] at NN
    have HN : Hid _ := NN
    clear NN
    refine (Calls.mono HN.out) ?_
    rintro r u2 ⟨rfl, x2, W1, nw1, t1⟩
    have KK := J1.out.1.step W1 nw1 t1
    obtain ⟨M2, hM2⟩ : ∃ M, M = M1 ++ be 1 (BitVec.ofInt 64 (fst7 op true)) := ⟨_, rfl⟩
    rw [← hM2] at KK
    have J2 : Hid _ := And.intro KK (show M2.length = 1 from by rw [hM2, List.length_append, J1.out.2, be_length _ _ (by omega)])
    have E2 : Hid _ := hM2
    clear KK W1 nw1 t1 HN J1 hM2
    have y := blk_at (J2.out.1.bx _ (List.mem_cons_self ..)) 2
    simp only [List.getElem?_cons_zero, List.getElem?_cons_succ] at y
    have NN := rwNum_any w.heap.size g _ M2 0 1 (fl) u2 J2.out.1.wr (by have := J2.out.2; omega)
    rw [wrNum_go 1 (fl) (pwn_1 HF.out.2.1)] at NN
    rw [show Int.toNat 1 = 1 from rfl] at NN
    have HN : Hid _ := NN
    clear NN
    go_wp2_with fail
    refine (Calls.mono HN.out) ?_
    rintro r u3 ⟨rfl, x3, W1, nw1, t1⟩
    have KK := J2.out.1.step W1 nw1 t1
    obtain ⟨M3, hM3⟩ : ∃ M, M = M2 ++ be 1 (BitVec.ofInt 64 (fl)) := ⟨_, rfl⟩
    rw [← hM3] at KK
    have J3 : Hid _ := And.intro KK (show M3.length = 2 from by rw [hM3, List.length_append, J2.out.2, be_length _ _ (by omega)])
    have E3 : Hid _ := hM3
    clear KK W1 nw1 t1 HN J2 hM3
    clear y
    have y := blk_at (J3.out.1.bx _ (List.mem_cons_self ..)) 3
    simp only [List.getElem?_cons_zero, List.getElem?_cons_succ] at y
    have NN := rwNum_any w.heap.size g _ M3 0 1 (b2) u3 J3.out.1.wr (by have := J3.out.2; omega)
    rw [wrNum_go 1 (b2) (pwn_1 HF.out.2.2.1)] at NN
    rw [show Int.toNat 1 = 1 from rfl] at NN
    have HN : Hid _ := NN
    clear NN
    go_wp2_with fail
    refine (Calls.mono HN.out) ?_
    rintro r u4 ⟨rfl, x4, W1, nw1, t1⟩
    have KK := J3.out.1.step W1 nw1 t1
    obtain ⟨M4, hM4⟩ : ∃ M, M = M3 ++ be 1 (BitVec.ofInt 64 (b2)) := ⟨_, rfl⟩
    rw [← hM4] at KK
    have J4 : Hid _ := And.intro KK (show M4.length = 3 from by rw [hM4, List.length_append, J3.out.2, be_length _ _ (by omega)])
    have E4 : Hid _ := hM4
    clear KK W1 nw1 t1 HN J3 hM4
    clear y
    have y := blk_at (J4.out.1.bx _ (List.mem_cons_self ..)) 4
    simp only [List.getElem?_cons_zero, List.getElem?_cons_succ] at y
    have NN := rwNum_any w.heap.size g _ M4 0 1 (b3) u4 J4.out.1.wr (by have := J4.out.2; omega)
    rw [wrNum_go 1 (b3) (pwn_1 HF.out.2.2.2.1)] at NN
    rw [show Int.toNat 1 = 1 from rfl] at NN
    have HN : Hid _ := NN
    clear NN
    go_wp2_with fail
    refine (Calls.mono HN.out) ?_
    rintro r u5 ⟨rfl, x5, W1, nw1, t1⟩
    have KK := J4.out.1.step W1 nw1 t1
    obtain ⟨M5, hM5⟩ : ∃ M, M = M4 ++ be 1 (BitVec.ofInt 64 (b3)) := ⟨_, rfl⟩
    rw [← hM5] at KK
    have J5 : Hid _ := And.intro KK (show M5.length = 4 from by rw [hM5, List.length_append, J4.out.2, be_length _ _ (by omega)])
    have E5 : Hid _ := hM5
    clear KK W1 nw1 t1 HN J4 hM5
    clear y
    have y := blk_at (J5.out.1.bx _ (List.mem_cons_self ..)) 14
    simp only [List.getElem?_cons_zero, List.getElem?_cons_succ] at y
    have NN := rwNum_any w.heap.size g _ M5 0 4 ((dn : Int)) u5 J5.out.1.wr (by have := J5.out.2; omega)
    rw [wrNum_go 4 ((dn : Int)) (pwn_4 (by have := HF.out.2.2.2.2.1; omega))] at NN
    rw [show Int.toNat 4 = 4 from rfl] at NN
    have HN : Hid _ := NN
    clear NN
    go_wp2_with fail
    refine (Calls.mono HN.out) ?_
    rintro r u6 ⟨rfl, x6, W1, nw1, t1⟩
    have KK := J5.out.1.step W1 nw1 t1
    obtain ⟨M6, hM6⟩ : ∃ M, M = M5 ++ be 4 (BitVec.ofInt 64 ((dn : Int))) := ⟨_, rfl⟩
    rw [← hM6] at KK
    have J6 : Hid _ := And.intro KK (show M6.length = 8 from by rw [hM6, List.length_append, J5.out.2, be_length _ _ (by omega)])
    have E6 : Hid _ := hM6
    clear KK W1 nw1 t1 HN J5 hM6
    clear y
    have y := blk_at (J6.out.1.bx _ (List.mem_cons_self ..)) 5
    simp only [List.getElem?_cons_zero, List.getElem?_cons_succ] at y
    have NN := rwNum_any w.heap.size g _ M6 0 8 (wrap64 lun) u6 J6.out.1.wr (by have := J6.out.2; omega)
    rw [wrNum_go 8 (wrap64 lun) (pwn_8 _)] at NN
    rw [show Int.toNat 8 = 8 from rfl] at NN
    have HN : Hid _ := NN
    clear NN
    go_wp2_with fail
    refine (Calls.mono HN.out) ?_
    rintro r u7 ⟨rfl, x7, W1, nw1, t1⟩
    have KK := J6.out.1.step W1 nw1 t1
    obtain ⟨M7, hM7⟩ : ∃ M, M = M6 ++ be 8 (BitVec.ofInt 64 (wrap64 lun)) := ⟨_, rfl⟩
    rw [← hM7] at KK
    have J7 : Hid _ := And.intro KK (show M7.length = 16 from by rw [hM7, List.length_append, J6.out.2, be_length _ _ (by omega)])
    have E7 : Hid _ := hM7
    clear KK W1 nw1 t1 HN J6 hM7
    clear y
    have y := blk_at (J7.out.1.bx _ (List.mem_cons_self ..)) 6
    simp only [List.getElem?_cons_zero, List.getElem?_cons_succ] at y
    have v := wrapTk.out tk (by simp)
    have NN := rwNum_any w.heap.size g _ M7 0 4 (tk) u7 J7.out.1.wr (by have := J7.out.2; omega)
    rw [wrNum_go 4 (tk) (pwn_4 (HF.out.2.2.2.2.2 tk (by simp)))] at NN
    rw [show Int.toNat 4 = 4 from rfl] at NN
    have HN : Hid _ := NN
    clear NN
    go_wp2_with fail
    refine (Calls.mono HN.out) ?_
    rintro r u8 ⟨rfl, x8, W1, nw1, t1⟩
    have KK := J7.out.1.step W1 nw1 t1
    obtain ⟨M8, hM8⟩ : ∃ M, M = M7 ++ be 4 (BitVec.ofInt 64 (tk)) := ⟨_, rfl⟩
    rw [← hM8] at KK
    have J8 : Hid _ := And.intro KK (show M8.length = 20 from by rw [hM8, List.length_append, J7.out.2, be_length _ _ (by omega)])
    have E8 : Hid _ := hM8
    clear KK W1 nw1 t1 HN J7 hM8
    clear y v
    go_wp2_with fail
    refine wp_loop_rounds 8 ?_
    rw [rounds_succ]
    have v := wrapTk.out w0 (by simp)
    have y := blk_at (J8.out.1.bx _ (List.mem_cons_self ..)) 7
    simp only [List.getElem?_cons_zero, List.getElem?_cons_succ] at y
    have NN := rwNum_any w.heap.size g _ M8 0 4 (w0) u8 J8.out.1.wr (by have := J8.out.2; omega)
    rw [wrNum_go 4 (w0) (pwn_4 (HF.out.2.2.2.2.2 w0 (by simp)))] at NN
    rw [show Int.toNat 4 = 4 from rfl] at NN
    have HN : Hid _ := NN
    clear NN
    go_wp2_with fail
    refine (Calls.mono HN.out) ?_
    rintro r u9 ⟨rfl, x9, W1, nw1, t1⟩
    have KK := J8.out.1.step W1 nw1 t1
    obtain ⟨M9, hM9⟩ : ∃ M, M = M8 ++ be 4 (BitVec.ofInt 64 (w0)) := ⟨_, rfl⟩
    rw [← hM9] at KK
    have J9 : Hid _ := And.intro KK (show M9.length = 24 from by rw [hM9, List.length_append, J8.out.2, be_length _ _ (by omega)])
    have E9 : Hid _ := hM9
    clear KK W1 nw1 t1 HN J8 hM9
    clear y v
    go_wp2_with fail
    rw [rounds_succ]
    have v := wrapTk.out w1 (by simp)
    have y := blk_at (J9.out.1.bx _ (List.mem_cons_self ..)) 8
    simp only [List.getElem?_cons_zero, List.getElem?_cons_succ] at y
    have NN := rwNum_any w.heap.size g _ M9 0 4 (w1) u9 J9.out.1.wr (by have := J9.out.2; omega)
    rw [wrNum_go 4 (w1) (pwn_4 (HF.out.2.2.2.2.2 w1 (by simp)))] at NN
    rw [show Int.toNat 4 = 4 from rfl] at NN
    have HN : Hid _ := NN
    clear NN
    go_wp2_with fail
    refine (Calls.mono HN.out) ?_
    rintro r u10 ⟨rfl, x10, W1, nw1, t1⟩
    have KK := J9.out.1.step W1 nw1 t1
    obtain ⟨M10, hM10⟩ : ∃ M, M = M9 ++ be 4 (BitVec.ofInt 64 (w1)) := ⟨_, rfl⟩
    rw [← hM10] at KK
    have J10 : Hid _ := And.intro KK (show M10.length = 28 from by rw [hM10, List.length_append, J9.out.2, be_length _ _ (by omega)])
    have E10 : Hid _ := hM10
    clear KK W1 nw1 t1 HN J9 hM10
    clear y v
    go_wp2_with fail
    rw [rounds_succ]
    have v := wrapTk.out w2 (by simp)
    have y := blk_at (J10.out.1.bx _ (List.mem_cons_self ..)) 9
    simp only [List.getElem?_cons_zero, List.getElem?_cons_succ] at y
    have NN := rwNum_any w.heap.size g _ M10 0 4 (w2) u10 J10.out.1.wr (by have := J10.out.2; omega)
    rw [wrNum_go 4 (w2) (pwn_4 (HF.out.2.2.2.2.2 w2 (by simp)))] at NN
    rw [show Int.toNat 4 = 4 from rfl] at NN
    have HN : Hid _ := NN
    clear NN
    go_wp2_with fail
    refine (Calls.mono HN.out) ?_
    rintro r u11 ⟨rfl, x11, W1, nw1, t1⟩
    have KK := J10.out.1.step W1 nw1 t1
    obtain ⟨M11, hM11⟩ : ∃ M, M = M10 ++ be 4 (BitVec.ofInt 64 (w2)) := ⟨_, rfl⟩
    rw [← hM11] at KK
    have J11 : Hid _ := And.intro KK (show M11.length = 32 from by rw [hM11, List.length_append, J10.out.2, be_length _ _ (by omega)])
    have E11 : Hid _ := hM11
    clear KK W1 nw1 t1 HN J10 hM11
    clear y v
    go_wp2_with fail
    rw [rounds_succ]
    have v := wrapTk.out w3 (by simp)
    have y := blk_at (J11.out.1.bx _ (List.mem_cons_self ..)) 10
    simp only [List.getElem?_cons_zero, List.getElem?_cons_succ] at y
    have NN := rwNum_any w.heap.size g _ M11 0 4 (w3) u11 J11.out.1.wr (by have := J11.out.2; omega)
    rw [wrNum_go 4 (w3) (pwn_4 (HF.out.2.2.2.2.2 w3 (by simp)))] at NN
    rw [show Int.toNat 4 = 4 from rfl] at NN
    have HN : Hid _ := NN
    clear NN
    go_wp2_with fail
    refine (Calls.mono HN.out) ?_
    rintro r u12 ⟨rfl, x12, W1, nw1, t1⟩
    have KK := J11.out.1.step W1 nw1 t1
    obtain ⟨M12, hM12⟩ : ∃ M, M = M11 ++ be 4 (BitVec.ofInt 64 (w3)) := ⟨_, rfl⟩
    rw [← hM12] at KK
    have J12 : Hid _ := And.intro KK (show M12.length = 36 from by rw [hM12, List.length_append, J11.out.2, be_length _ _ (by omega)])
    have E12 : Hid _ := hM12
    clear KK W1 nw1 t1 HN J11 hM12
    clear y v
    go_wp2_with fail
    rw [rounds_succ]
    have v := wrapTk.out w4 (by simp)
    have y := blk_at (J12.out.1.bx _ (List.mem_cons_self ..)) 11
    simp only [List.getElem?_cons_zero, List.getElem?_cons_succ] at y
    have NN := rwNum_any w.heap.size g _ M12 0 4 (w4) u12 J12.out.1.wr (by have := J12.out.2; omega)
    rw [wrNum_go 4 (w4) (pwn_4 (HF.out.2.2.2.2.2 w4 (by simp)))] at NN
    rw [show Int.toNat 4 = 4 from rfl] at NN
    have HN : Hid _ := NN
    clear NN
    go_wp2_with fail
    refine (Calls.mono HN.out) ?_
    rintro r u13 ⟨rfl, x13, W1, nw1, t1⟩
    have KK := J12.out.1.step W1 nw1 t1
    obtain ⟨M13, hM13⟩ : ∃ M, M = M12 ++ be 4 (BitVec.ofInt 64 (w4)) := ⟨_, rfl⟩
    rw [← hM13] at KK
    have J13 : Hid _ := And.intro KK (show M13.length = 40 from by rw [hM13, List.length_append, J12.out.2, be_length _ _ (by omega)])
    have E13 : Hid _ := hM13
    clear KK W1 nw1 t1 HN J12 hM13
    clear y v
    go_wp2_with fail
    rw [rounds_succ]
    have v := wrapTk.out w5 (by simp)
    have y := blk_at (J13.out.1.bx _ (List.mem_cons_self ..)) 12
    simp only [List.getElem?_cons_zero, List.getElem?_cons_succ] at y
    have NN := rwNum_any w.heap.size g _ M13 0 4 (w5) u13 J13.out.1.wr (by have := J13.out.2; omega)
    rw [wrNum_go 4 (w5) (pwn_4 (HF.out.2.2.2.2.2 w5 (by simp)))] at NN
    rw [show Int.toNat 4 = 4 from rfl] at NN
    have HN : Hid _ := NN
    clear NN
    go_wp2_with fail
    refine (Calls.mono HN.out) ?_
    rintro r u14 ⟨rfl, x14, W1, nw1, t1⟩
    have KK := J13.out.1.step W1 nw1 t1
    obtain ⟨M14, hM14⟩ : ∃ M, M = M13 ++ be 4 (BitVec.ofInt 64 (w5)) := ⟨_, rfl⟩
    rw [← hM14] at KK
    have J14 : Hid _ := And.intro KK (show M14.length = 44 from by rw [hM14, List.length_append, J13.out.2, be_length _ _ (by omega)])
    have E14 : Hid _ := hM14
    clear KK W1 nw1 t1 HN J13 hM14
    clear y v
    go_wp2_with fail
    rw [rounds_succ]
    have v := wrapTk.out w6 (by simp)
    have y := blk_at (J14.out.1.bx _ (List.mem_cons_self ..)) 13
    simp only [List.getElem?_cons_zero, List.getElem?_cons_succ] at y
    have NN := rwNum_any w.heap.size g _ M14 0 4 (w6) u14 J14.out.1.wr (by have := J14.out.2; omega)
    rw [wrNum_go 4 (w6) (pwn_4 (HF.out.2.2.2.2.2 w6 (by simp)))] at NN
    rw [show Int.toNat 4 = 4 from rfl] at NN
    have HN : Hid _ := NN
    clear NN
    go_wp2_with fail
    refine (Calls.mono HN.out) ?_
    rintro r u15 ⟨rfl, x15, W1, nw1, t1⟩
    have KK := J14.out.1.step W1 nw1 t1
    obtain ⟨M15, hM15⟩ : ∃ M, M = M14 ++ be 4 (BitVec.ofInt 64 (w6)) := ⟨_, rfl⟩
    rw [← hM15] at KK
    have J15 : Hid _ := And.intro KK (show M15.length = 48 from by rw [hM15, List.length_append, J14.out.2, be_length _ _ (by omega)])
    have E15 : Hid _ := hM15
    clear KK W1 nw1 t1 HN J14 hM15
    clear y v
    go_wp2_with fail
    rw [rounds_succ]
    have HM : Hid _ := rwEnd_any w.heap.size g _ M15 0 u15 J15.out.1.wr (by have := J15.out.2; omega)
    go_wp2_with fail
    refine (Calls.mono HM.out) ?_
    rintro r we ⟨z, rfl, o5, b5⟩
    rw [show ∀ L, wrEnd L 0 = L from fun L => if_pos rfl] at o5
    have hall : M15 = pdH op true fl b2 b3 dn lun tk w0 w1 w2 w3 w4 w5 w6 := by
      rw [E15.out, E14.out, E13.out, E12.out, E11.out, E10.out, E9.out, E8.out, E7.out, E6.out, E5.out, E4.out, E3.out, E2.out, E1.out]
      rw [ofInt_wrap, be4_split dn (by have := HF.out.2.2.2.2.1; omega)]
      unfold pdH
      simp only [List.append_assoc, List.nil_append]
    have hHl : (pdH op true fl b2 b3 dn lun tk w0 w1 w2 w3 w4 w5 w6).length = 48 := pdH_len _ _ _ _ _ _ _ _ _ _ _ _ _ _ _
    rw [hall] at o5
    generalize hpH : pdH op true fl b2 b3 dn lun tk w0 w1 w2 w3 w4 w5 w6 = H at *
    have HPH : Hid _ := hpH
    clear hpH
    have hOb := J15.out.1.bx (w.heap.size + 1, 23, [.bool hs, .bool ds, .int .i64 mo]) (by simp)
    have hPb := J15.out.1.bx _ (List.mem_cons_self ..)
    have hlo2 : w.heap.size + 2 ≤ u15.heap.size := hOb.lt
    have G : Hid _ := And.intro (o5.lower hlo2) (And.intro (below_then J15.out.1.bl b5) (And.intro (hOb.laterB b5) (And.intro (hPb.laterB b5) hHl)))
    clear o5 b5 HM hall hOb hPb hHl hlo2 HF wrapTk E1 E2 E3 E4 E5 E6 E7 E8 E9 E10 E11 E12 E13 E14 E15 J15 HNb HF7 k0 k1 k2 k3 k4 k5 k6 k7 hsz' kf
    have Y0 : Hid _ := (⟨G.out.1, G.out.2.2.1, G.out.2.2.2.1, G.out.2.1⟩ : PtB w we hs ds mo [.int .i64 op, .bool true, .int .i64 fl, .int .i64 b2, .int .i64 b3, .int .u64 lun, .int .u32 tk, .int .u32 w0, .int .u32 w1, .int .u32 w2, .int .u32 w3, .int .u32 w4, .int .u32 w5, .int .u32 w6, .slice dx dn dc] z H)
    have HHl : Hid _ := G.out.2.2.2.2
    obtain ⟨zv, zc, hzv, hzl, -, hzr, hzn, -⟩ := Y0.out.b.open
    subst hzv
    have z0 := blk_at Y0.out.o 0
    simp only [List.getElem?_cons_zero, List.getElem?_cons_succ] at z0
    clear G
    go_upto_if 116 with fail
    go_cut [9] from 117 to 146 (fun bv wx => PtB w wx hs ds mo [.int .i64 op, .bool true, .int .i64 fl, .int .i64 b2, .int .i64 b3, .int .u64 lun, .int .u32 tk, .int .u32 w0, .int .u32 w1, .int .u32 w2, .int .u32 w3, .int .u32 w4, .int .u32 w5, .int .u32 w6, .slice dx dn dc] bv (H ++ dgB hs H))
    case first =>
      cases hs
      · have F : Hid _ := Y0.out
        clear Y0 hzl hzr hzn HD HHl
        go_wp2
        go_meet
        case rel => have e : H ++ dgB false H = H := by unfold dgB; simp
                    rw [e]; exact F.out
      · have HDg : Hid _ := rdigest_any zv H.length zc H we rfl (by have := HHl.out; unfold maxLen; omega) hzr
        have hl9 : H.length ≤ 100 := by have := HHl.out; omega
        clear hzl hzr hzn HHl HD
        go_wp2_with fail
        refine (Calls.mono HDg.out) ?_
        rintro e v1 ⟨B, rfl, hB, rB, bB⟩
        have Y1 : Hid _ := And.intro (Y0.out.later bB) rB
        clear bB rB hB HDg Y0
        go_wp2_with (at_builtin; refine wpList_append_bytes _ rfl _ _ rfl (w.heap.size + 2) _ H rfl Y1.out.1.b (some ⟨B, 0, none⟩) 4 4 (Crc.bytes4 (Crc.sum H)) rfl rfl Y1.out.2 (fun h => by cases h) (Nat.le_refl _) (by omega) (by have := Y1.out.1.o.lt; omega) ?_)
        intro v2 w9 ho2 hg2
        obtain ⟨a2, c2, hv2, -⟩ := ho2.open
        have F : Hid _ := Y1.out.1.more ho2 hg2
        subst hv2
        clear ho2 hg2 Y1
        go_wp2
        go_meet
        case rel => exact F.out
    case rest =>
    clear z0 Y0 hzl hzr hzn
    have Y1 : Hid _ := hcut
    clear hcut
    obtain ⟨bv2, bc2, hb2, -⟩ := Y1.out.b.open
    subst hb2
    have hB1 : (H ++ dgB hs H).length ≤ 60 := by rw [List.length_append, dgB_len]; have := dgN_le hs; have := HHl.out; omega
    have HB1 : Hid _ := hB1
    clear hB1
    generalize hBB : H ++ dgB hs H = B1 at *
    have HBB : Hid _ := hBB
    clear hBB
    have y14 := blk_at Y1.out.p 14
    simp only [List.getElem?_cons_zero, List.getElem?_cons_succ] at y14
    obtain ⟨hdl, hdc, hdn, hdm, hdr⟩ := HD.out
    have hdr1 := hdr.later Y1.out.be
    go_wp2_with (at_builtin; refine wpList_append_bytes _ rfl _ _ rfl wc.heap.size _ [] rfl (Own.nil _ _) dx dn dc d rfl hdl hdr1 hdn hdc (by simp; omega) (Nat.le_refl _) ?_)
    intro v2 wn2 ho2 hg2
    have hlt2 : ∀ k, (Value.slice bv2 B1.length bc2).ownBlock = some k → k < wc.heap.size := fun k hk => (World.ownsRow.lt Y1.out.b k hk).2
    have bg2 : Below wc.heap.size wc wn2 := grown_all hg2
    have Y2 := Y1.out.later bg2
    have R0 : Hid _ := (⟨Y2.b, ho2, hlt2, bg2.size, Y1.out.o.lt, Y2.o, Y2.be⟩ : PtR w wn2 wc.heap.size hs ds mo (.slice bv2 B1.length bc2) B1 v2 d)
    obtain ⟨a2, c2, hv2, -⟩ := ho2.open
    rw [hdl] at hv2
    subst hv2
    have HDL : Hid _ := And.intro hdl hdm
    have hdm2 : dn ≤ 65536 := hdm
    have HBC : Hid _ := Y1.out.o.lt
    have e0 : Hid _ := (show d ++ nulls 0 = d by simp [nulls])
    clear ho2 hg2 hlt2 bg2 Y2 Y1 y14 hdl hdc hdn hdm hdr hdr1 HD HHl
    generalize wc.heap.size = bd at *
    generalize hbl : B1.length = bl at *
    have HBL : Hid _ := hbl
    clear hbl
    go_wp2_with fail
    go_loopw [11] (fun dv wr => ∃ j, j ≤ bodyN dn - dn ∧ PtR w wr bd hs ds mo (.slice bv2 bl bc2) B1 dv (d ++ nulls j)) (fun dv _ => bodyN dn - lenV17 dv)
    case atStart => exact ⟨0, by omega, by rw [e0.out]; exact R0.out⟩
    case round =>
      clear R0
      obtain ⟨j, hj, hR⟩ := hrel
      obtain ⟨a3, c3, hv3, hl3, -, hr3, hn3, -⟩ := hR.d.open
      have hlj : (d ++ nulls j).length = dn + j := by rw [List.length_append, HDL.out.1]; simp [nulls]
      rw [hlj] at hv3 hl3
      subst hv3
      have hbs := body_step dn j hj
      by_cases hlt : j < bodyN dn - dn
      · have q1 : ¬ ((dn + j : Nat) : Int) % 4 = 0 := by omega
        have hbn := pad_body dn (by omega)
        have bn : Below wr.heap.size wr (wr.alloc (.cells #[.int .u8 0] 5)) := (Below.refl _ _).alloc (Nat.le_refl _) _
        have R1 : Hid _ := hR.later bn
        have HJ : Hid _ := And.intro hj (And.intro hbs (And.intro hlj hbn))
        clear hR bn hr3 hn3 hbs hlj hj hbn
        generalize hdj : dn + j = dj at *
        have HDJ : Hid _ := hdj
        clear hdj
        go_wp2_with (at_builtin; refine wpList_append_bytes _ rfl _ _ rfl bd _ (d ++ nulls j) rfl R1.out.d (some ⟨wr.heap.size, 0, none⟩) 1 1 [0#8] rfl rfl (Row.newl _ _ _ _ _ rfl) (fun h => by cases h) (Nat.le_refl _) (by rw [HJ.out.2.2.1]; have := HDJ.out; have := HJ.out.1; have := HJ.out.2.2.2; omega) R1.out.bw ?_)
        intro v5 wn5 ho5 hg5
        rw [nulls_succ] at ho5
        obtain ⟨a5, c5, hv5, -⟩ := ho5.open
        have hl5 : (d ++ nulls (j + 1)).length = dj + 1 := by have h1 := HJ.out.2.2.1; rw [List.length_append] at h1 ⊢; simp only [nulls, List.length_replicate] at h1 ⊢; omega
        have F : Hid _ := And.intro (R1.out.more ho5 hg5) hl5
        rw [hl5] at hv5
        subst hv5
        have hm5 : bodyN dn - (dj + 1) < bodyN dn - dj := by have := HDJ.out; have := HJ.out.2.2.2; omega
        have HM5 : Hid _ := hm5
        clear ho5 hg5 hl5 R1 hm5
        go_wp2
        go_roundw
        case rel => exact ⟨j + 1, by have := HJ.out.1; omega, F.out.1⟩
        case measure => simpa [lenV17] using HM5.out
      · have hje : j = bodyN dn - dn := by omega
        have eD : d ++ nulls j = bdy d := by unfold bdy; rw [HDL.out.1, hje]
        rw [eD] at hR hr3 hlj
        have q1 : ((dn + j : Nat) : Int) % 4 = 0 := by have := hbs.2 hje; omega
        have hbn := pad_body dn (by omega)
        have hdb : (dn + j = 0 ↔ dn = 0) := by unfold bodyN at hje; omega
        have hdk : dn + j ≤ 70000 := by omega
        generalize hdj : dn + j = dj at *
        have HDJ : Hid _ := And.intro hdj (And.intro hlj hdb)
        have HR : Hid _ := And.intro hR hr3
        clear hdj hlj hR hbs hje eD hr3 hlt hbn hj hdb
        go_wp2_with (at_builtin; refine wpList_append_bytes _ rfl _ _ rfl (w.heap.size + 2) _ B1 rfl HR.out.1.b a3 dj c3 (bdy d) rfl HDJ.out.2.1 HR.out.2 hn3 hl3 (by have := HB1.out; have := HBL.out; omega) (Nat.le_trans HR.out.1.od HR.out.1.bw) ?_)
        intro v6 wn6 ho6 hg6
        have hkb : ∀ k, (Value.slice bv2 bl bc2).ownBlock = some k → w.heap.size + 2 ≤ k ∧ k < bd := fun k hk => ⟨(World.ownsRow.lt HR.out.1.b k hk).1, HR.out.1.lt k hk⟩
        have hkd : ∀ k, (Value.slice a3 dj c3).ownBlock = some k → bd ≤ k := fun k hk => (World.ownsRow.lt HR.out.1.d k hk).1
        have d6 := HR.out.1.d.turned (turned_grown (R := fun k => (Value.slice bv2 bl bc2).ownBlock = some k) hg6 (fun k e => e)) (fun k hk e => by have := hkd k hk; have := (hkb k e).2; omega)
        have o6 := HR.out.1.o.grown hg6 (fun e => by have := (hkb _ e.symm).1; omega)
        have b6 := HR.out.1.be.grown hg6 HR.out.1.be.size (fun k hk => by have := (hkb k hk).1; omega)
        obtain ⟨a6, c6, hv6, hl6, -, hr6, hn6, -⟩ := ho6.open
        have z1 := blk_at o6 1
        simp only [List.getElem?_cons_zero, List.getElem?_cons_succ] at z1
        obtain ⟨a7, c7, hv7, hl7, -, hr7, hn7, -⟩ := d6.open
        rw [HDJ.out.2.1, Value.slice.injEq] at hv7
        obtain ⟨rfl, -, rfl⟩ := hv7
        have Z : Hid _ := And.intro ho6 (And.intro o6 (And.intro b6 hr7))
        have hbl6 : (B1 ++ bdy d).length = bl + dj := by rw [List.length_append, HDJ.out.2.1, HBL.out]
        rw [hbl6] at hv6 hl6
        have HB6 : Hid _ := hbl6
        subst hv6
        clear ho6 hg6 d6 o6 b6 hr6 hr7 HR hkb hkd hl7 hn7 hbl6 hl6 hn6
        have hcond : ∀ b : Bool, (ds && decide (0 < d.length)) = b → putB hs ds (pdH op true fl b2 b3 dn lun tk w0 w1 w2 w3 w4 w5 w6) d = B1 ++ bdy d ++ dgB b (bdy d) := fun b hb => by rw [HPH.out]; unfold putB; rw [hb, ← HBB.out]; simp only [List.append_assoc]
        have HCo : Hid _ := hcond
        clear hcond
        by_cases hds : ds = true ∧ 0 < dj
        · obtain ⟨rfl, hdp⟩ := hds
          have HP : Hid _ := HCo.out true (by rw [decide_eq_true (by have h1 := HDL.out.1; have h2 := HDJ.out.2.2; omega)]; rfl)
          have HDg : Hid _ := rdigest_any a3 dj c3 (bdy d) wn6 HDJ.out.2.1 (by unfold maxLen; omega) Z.out.2.2.2
          have hdp2 : (0 : Int) < (dj : Int) := by omega
          clear HCo hdp
          go_wp2_with fail
          refine (Calls.mono HDg.out) ?_
          rintro e wn7 ⟨B, rfl, hB, rB, bB⟩
          have Z7 : Hid _ := And.intro (Z.out.1.later bB) (And.intro (below_then Z.out.2.2.1 bB) (And.intro rB (Z.out.2.1.laterB bB).lt))
          clear bB rB hB HDg Z
          go_wp2_with (at_builtin; refine wpList_append_bytes _ rfl _ _ rfl (w.heap.size + 2) _ (B1 ++ bdy d) rfl Z7.out.1 (some ⟨B, 0, none⟩) 4 4 (Crc.bytes4 (Crc.sum (bdy d))) rfl rfl Z7.out.2.2.1 (fun h => by cases h) (Nat.le_refl _) (by rw [HB6.out]; have := HB1.out; have := HBL.out; omega) Z7.out.2.2.2 ?_)
          intro v8 wn8 ho8 hg8
          have hk8 : ∀ k, (Value.slice a6 (bl + dj) c6).ownBlock = some k → w.heap.size ≤ k := fun k hk => by have := (World.ownsRow.lt Z7.out.1 k hk).1; omega
          have F8 : Hid _ := And.intro (ho8.lower (Nat.le_add_right _ _)) (Z7.out.2.1.grown hg8 Z7.out.2.1.size hk8)
          obtain ⟨a8, c8, hv8, -⟩ := ho8.open
          subst hv8
          clear ho8 hg8 hk8 Z7
          go_wp2
          go_ret2
          refine ⟨_, rfl, ?_, F8.out.2⟩
          rw [HP.out]
          have := F8.out.1
          simpa [dgB, List.append_assoc] using this
        · have HP : Hid _ := HCo.out false (by cases ds; rfl; rw [decide_eq_false (by have h1 := HDL.out.1; have h2 := HDJ.out.2.2; have : ¬ 0 < dj := fun h => hds ⟨rfl, h⟩; omega)]; rfl)
          have F8 : Hid _ := And.intro (Z.out.1.lower (Nat.le_add_right _ _)) Z.out.2.2.1
          clear Z HCo
          cases ds
          · clear hds
            go_wp2
            go_ret2
            refine ⟨_, rfl, ?_, F8.out.2⟩
            rw [HP.out]
            have := F8.out.1
            simpa [dgB] using this
          · have hd0 : ¬ (0 : Int) < (dj : Int) := by have : ¬ 0 < dj := fun h => hds ⟨rfl, h⟩; omega
            clear hds
            go_wp2
            go_ret2
            refine ⟨_, rfl, ?_, F8.out.2⟩
            rw [HP.out]
            have := F8.out.1
            simpa [dgB] using this
end Go.Proofs.Ytfcaaljehhibgaa
