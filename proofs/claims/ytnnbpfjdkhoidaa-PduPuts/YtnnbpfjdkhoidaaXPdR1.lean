/- pdu: the document's Put. -/
import Derived.Test.YtnnbpfjdkhoidaaXPd9a
import Derived.Test.YtnnbpfjdkhoidaaXPdL2
import Derived.Test.YtnnbpfjdkhoidaaXFieldX3
import Derived.Test.YtnnbpfjdkhoidaaXSumRef
import Derived.Test.YtnnbpfjdkhoidaaXKw
namespace Go.Proofs.Ytnnbpfjdkhoidaa
open Go.RowKit
set_option linter.unusedVariables false
set_option linter.unusedSimpArgs false
set_option maxRecDepth 8000

/-- a writer, and blocks that stay as they are -/
structure RKW (w W : World) (g : Nat) (v : Value) (L : List (BitVec 8)) (bs : List (Nat × Nat × List Value)) : Prop where
  wr : WrAt W w.heap.size g 84 v L 0
  bl : Below w.heap.size w W
  bx : ∀ b ∈ bs, Blk W b.1 b.2.1 b.2.2
  ne : ∀ b ∈ bs, b.1 ≠ g ∧ ∀ j, v.ownBlock = some j → j ≠ b.1
theorem RKW.step {w W W' : World} {g : Nat} {v v' : Value} {L L' : List (BitVec 8)} {bs : List (Nat × Nat × List Value)} (h : RKW w W g v L bs) (hw : WrAt W' w.heap.size g 84 v' L' 0) (hn : Newer W v v') (ht : Turned (Mine g v) W W') : RKW w W' g v' L' bs := by
  refine ⟨hw, h.bl.trans (wrAt_below h.wr ht), fun b hb => ?_, fun b hb => ⟨(h.ne b hb).1, fun j hj => ?_⟩⟩
  · refine (h.bx b hb).turned ht ?_
    rintro (e | e)
    · exact (h.ne b hb).1 e
    · exact (h.ne b hb).2 _ e rfl
  · rcases hn j hj with e | e
    · exact (h.ne b hb).2 j e
    · have := (h.bx b hb).lt; omega
theorem RKW.later {w W W' : World} {g : Nat} {v : Value} {L : List (BitVec 8)} {bs : List (Nat × Nat × List Value)} (h : RKW w W g v L bs) (hb : Below W.heap.size W W') : RKW w W' g v L bs :=
  ⟨h.wr.stays (turned_below hb) (fun e => e) (fun _ _ e => e), below_then h.bl hb, fun b hbm => (h.bx b hbm).laterB hb, h.ne⟩
theorem RKW.less {w W : World} {g : Nat} {v : Value} {L : List (BitVec 8)} {bs bs' : List (Nat × Nat × List Value)} (h : RKW w W g v L bs) (hs : ∀ b ∈ bs', b ∈ bs) : RKW w W g v L bs' :=
  ⟨h.wr, h.bl, fun b hb => h.bx b (hs b hb), fun b hb => h.ne b (hs b hb)⟩
theorem RKW.own {w W : World} {g : Nat} {v : Value} {L : List (BitVec 8)} {bs : List (Nat × Nat × List Value)} (h : RKW w W g v L bs) : ∀ j, v.ownBlock = some j → w.heap.size ≤ j ∧ j < W.heap.size := fun j hj => by obtain ⟨_, ho, -⟩ := h.wr.own; exact World.ownsRow.lt ho j hj
/-- a block more -/
theorem RKW.new {w W : World} {g : Nat} {v : Value} {L : List (BitVec 8)} {bs : List (Nat × Nat × List Value)} (h : RKW w W g v L bs) (T : Nat) (xs : List Value) : RKW w (W.alloc (.cells xs.toArray T)) g v L ((W.heap.size, T, xs) :: bs) := by
  have hb : Below W.heap.size W (W.alloc (.cells xs.toArray T)) := (Below.refl _ _).alloc (Nat.le_refl _) _
  have h1 := h.later hb
  have hg := h.wr.blk.lt
  refine ⟨h1.wr, h1.bl, fun b hbm => ?_, fun b hbm => ?_⟩
  · rcases List.mem_cons.1 hbm with rfl | hbm
    · exact Blk.new' W T xs
    · exact h1.bx b hbm
  · rcases List.mem_cons.1 hbm with rfl | hbm
    · exact ⟨by simp only; omega, fun j hj e => by have := (h.own j hj).2; simp only at e; omega⟩
    · exact h1.ne b hbm
set_option maxHeartbeats 1000000 in
theorem rRight_any (hs ds : Bool) (mo : Int) (w : World) :
    Calls Try.prog 20 #[.agg #[.bool hs, .bool ds, .int .i64 mo]] w fun e w' => e = .returned (.bool (okO mo)) ∧ Below w.heap.size w w' := by
  have b0 : Below w.heap.size w (w.alloc (.cells #[.bool hs, .bool ds, .int .i64 mo] 46)) := (Below.refl _ _).alloc (Nat.le_refl _) _
  have N0 := Blk.new' w 46 [.bool hs, .bool ds, .int .i64 mo]
  have c2 := blk_at N0 2
  simp only [List.getElem?_cons_zero, List.getElem?_cons_succ] at c2
  have F : Hid _ := b0
  clear b0 N0
  by_cases h1 : 48 ≤ mo
  · by_cases h2 : mo ≤ 65536
    · have e : okO mo = true := decide_eq_true ⟨h1, h2⟩
      rw [e]
      clear e
      go_enter Try.func20, Try.ntmps20
      go_wp2
      go_ret
      exact ⟨rfl, F.out⟩
    · have e : okO mo = false := decide_eq_false (by omega)
      rw [e]
      clear e
      go_enter Try.func20, Try.ntmps20
      go_wp2
      go_ret
      exact ⟨rfl, F.out⟩
  · have e : okO mo = false := decide_eq_false (by omega)
    rw [e]
    clear e
    go_enter Try.func20, Try.ntmps20
    go_wp2
    go_ret
    exact ⟨rfl, F.out⟩
set_option maxHeartbeats 4000000 in
theorem rPut_arg (op fl b2 b3 lun tk w0 w1 w2 w3 w4 w5 w6 : Int) (now : Bool) (dx : Option Addr) (dn dc : Nat) (hs ds : Bool) (mo : Int) (d : List (BitVec 8)) (w : World) (h : okO mo = false ∨ canP op fl b2 b3 = false) :
    Calls Try.prog 18 #[.agg #[.int .i64 op, .bool now, .int .i64 fl, .int .i64 b2, .int .i64 b3, .int .u64 lun, .int .u32 tk, .int .u32 w0, .int .u32 w1, .int .u32 w2, .int .u32 w3, .int .u32 w4, .int .u32 w5, .int .u32 w6, .slice dx dn dc], .agg #[.bool hs, .bool ds, .int .i64 mo]] w fun e w' => e = .returned (.tuple #[.slice none 0 0, .int .i64 1]) ∧ Below w.heap.size w w' := by
  have b0 : Below w.heap.size w (w.alloc (.cells #[.int .i64 op, .bool now, .int .i64 fl, .int .i64 b2, .int .i64 b3, .int .u64 lun, .int .u32 tk, .int .u32 w0, .int .u32 w1, .int .u32 w2, .int .u32 w3, .int .u32 w4, .int .u32 w5, .int .u32 w6, .slice dx dn dc] 27)) := (Below.refl _ _).alloc (Nat.le_refl _) _
  have N0 := Blk.new' w 27 [.int .i64 op, .bool now, .int .i64 fl, .int .i64 b2, .int .i64 b3, .int .u64 lun, .int .u32 tk, .int .u32 w0, .int .u32 w1, .int .u32 w2, .int .u32 w3, .int .u32 w4, .int .u32 w5, .int .u32 w6, .slice dx dn dc]
  have hz : (w.alloc (.cells #[.int .i64 op, .bool now, .int .i64 fl, .int .i64 b2, .int .i64 b3, .int .u64 lun, .int .u32 tk, .int .u32 w0, .int .u32 w1, .int .u32 w2, .int .u32 w3, .int .u32 w4, .int .u32 w5, .int .u32 w6, .slice dx dn dc] 27)).heap.size = w.heap.size + 1 := by simp
  have b1 : Below (w.alloc (.cells #[.int .i64 op, .bool now, .int .i64 fl, .int .i64 b2, .int .i64 b3, .int .u64 lun, .int .u32 tk, .int .u32 w0, .int .u32 w1, .int .u32 w2, .int .u32 w3, .int .u32 w4, .int .u32 w5, .int .u32 w6, .slice dx dn dc] 27)).heap.size (w.alloc (.cells #[.int .i64 op, .bool now, .int .i64 fl, .int .i64 b2, .int .i64 b3, .int .u64 lun, .int .u32 tk, .int .u32 w0, .int .u32 w1, .int .u32 w2, .int .u32 w3, .int .u32 w4, .int .u32 w5, .int .u32 w6, .slice dx dn dc] 27)) ((w.alloc (.cells #[.int .i64 op, .bool now, .int .i64 fl, .int .i64 b2, .int .i64 b3, .int .u64 lun, .int .u32 tk, .int .u32 w0, .int .u32 w1, .int .u32 w2, .int .u32 w3, .int .u32 w4, .int .u32 w5, .int .u32 w6, .slice dx dn dc] 27)).alloc (.cells #[.bool hs, .bool ds, .int .i64 mo] 46)) := (Below.refl _ _).alloc (Nat.le_refl _) _
  have N1 := Blk.new' (w.alloc (.cells #[.int .i64 op, .bool now, .int .i64 fl, .int .i64 b2, .int .i64 b3, .int .u64 lun, .int .u32 tk, .int .u32 w0, .int .u32 w1, .int .u32 w2, .int .u32 w3, .int .u32 w4, .int .u32 w5, .int .u32 w6, .slice dx dn dc] 27)) 46 [.bool hs, .bool ds, .int .i64 mo]
  rw [hz] at N1
  have N0 := N0.laterB b1
  have bb := below_then b0 b1
  have HT : Hid _ := rRight_any hs ds mo ((w.alloc (.cells #[.int .i64 op, .bool now, .int .i64 fl, .int .i64 b2, .int .i64 b3, .int .u64 lun, .int .u32 tk, .int .u32 w0, .int .u32 w1, .int .u32 w2, .int .u32 w3, .int .u32 w4, .int .u32 w5, .int .u32 w6, .slice dx dn dc] 27)).alloc (.cells #[.bool hs, .bool ds, .int .i64 mo] 46))
  have o0 := blk_at N1 0
  have o1 := blk_at N1 1
  have o2 := blk_at N1 2
  simp only [List.getElem?_cons_zero, List.getElem?_cons_succ] at o0 o1 o2
  have X : Hid _ := And.intro bb (And.intro N0 N1)
  clear b0 N0 hz b1 N1 bb
  have F0 : Hid _ := h
  cases hok : okO mo
  · rw [hok] at HT
    go_enter Try.func18, Try.ntmps18
    go_wp2_with fail
    refine (Calls.mono HT.out) ?_
    rintro e u0 ⟨rfl, bR⟩
    have X0 : Hid _ := And.intro (below_then X.out.1 bR) (And.intro (X.out.2.1.laterB bR) (X.out.2.2.laterB bR))
    have y0 := blk_at X0.out.2.1 0
    have y2 := blk_at X0.out.2.1 2
    have y3 := blk_at X0.out.2.1 3
    have y4 := blk_at X0.out.2.1 4
    have y14 := blk_at X0.out.2.1 14
    have z0 := blk_at X0.out.2.2 0
    have z1 := blk_at X0.out.2.2 1
    have z2 := blk_at X0.out.2.2 2
    simp only [List.getElem?_cons_zero, List.getElem?_cons_succ] at y0 y2 y3 y4 y14 z0 z1 z2
    clear bR X HT o0 o1 o2
    clear h F0 hok
    go_wp2
    go_ret2
    exact ⟨by first | rfl | simp, X0.out.1⟩
  · rw [hok] at HT
    have hc : canP op fl b2 b3 = false := by rcases h with h | h; rw [hok] at h; cases h; exact h
    have hor : (op < 0) ∨ (¬ op < 0 ∧ 63 < op) ∨ (¬ op < 0 ∧ ¬ 63 < op ∧ fl < 0) ∨ (¬ op < 0 ∧ ¬ 63 < op ∧ ¬ fl < 0 ∧ 255 < fl) ∨ (¬ op < 0 ∧ ¬ 63 < op ∧ ¬ fl < 0 ∧ ¬ 255 < fl ∧ b2 < 0) ∨ (¬ op < 0 ∧ ¬ 63 < op ∧ ¬ fl < 0 ∧ ¬ 255 < fl ∧ ¬ b2 < 0 ∧ 255 < b2) ∨ (¬ op < 0 ∧ ¬ 63 < op ∧ ¬ fl < 0 ∧ ¬ 255 < fl ∧ ¬ b2 < 0 ∧ ¬ 255 < b2 ∧ b3 < 0) ∨ (¬ op < 0 ∧ ¬ 63 < op ∧ ¬ fl < 0 ∧ ¬ 255 < fl ∧ ¬ b2 < 0 ∧ ¬ 255 < b2 ∧ ¬ b3 < 0 ∧ 255 < b3) := by
      unfold canP isB at hc
      simp at hc
      omega
    clear hc hok h F0
    go_enter Try.func18, Try.ntmps18
    go_wp2_with fail
    refine (Calls.mono HT.out) ?_
    rintro e u0 ⟨rfl, bR⟩
    have X0 : Hid _ := And.intro (below_then X.out.1 bR) (And.intro (X.out.2.1.laterB bR) (X.out.2.2.laterB bR))
    have y0 := blk_at X0.out.2.1 0
    have y2 := blk_at X0.out.2.1 2
    have y3 := blk_at X0.out.2.1 3
    have y4 := blk_at X0.out.2.1 4
    have y14 := blk_at X0.out.2.1 14
    have z0 := blk_at X0.out.2.2 0
    have z1 := blk_at X0.out.2.2 1
    have z2 := blk_at X0.out.2.2 2
    simp only [List.getElem?_cons_zero, List.getElem?_cons_succ] at y0 y2 y3 y4 y14 z0 z1 z2
    clear bR X HT o0 o1 o2
    rcases hor with h | h | h | h | h | h | h | h
    · have k0 : op < 0 := by omega
      clear h
      go_wp2
      go_ret2
      exact ⟨by first | rfl | simp, X0.out.1⟩
    · have k0 : ¬ op < 0 := by omega
      have k1 : 63 < op := by omega
      clear h
      go_wp2
      go_ret2
      exact ⟨by first | rfl | simp, X0.out.1⟩
    · have k0 : ¬ op < 0 := by omega
      have k1 : ¬ 63 < op := by omega
      have k2 : fl < 0 := by omega
      clear h
      go_wp2
      go_ret2
      exact ⟨by first | rfl | simp, X0.out.1⟩
    · have k0 : ¬ op < 0 := by omega
      have k1 : ¬ 63 < op := by omega
      have k2 : ¬ fl < 0 := by omega
      have k3 : 255 < fl := by omega
      clear h
      go_wp2
      go_ret2
      exact ⟨by first | rfl | simp, X0.out.1⟩
    · have k0 : ¬ op < 0 := by omega
      have k1 : ¬ 63 < op := by omega
      have k2 : ¬ fl < 0 := by omega
      have k3 : ¬ 255 < fl := by omega
      have k4 : b2 < 0 := by omega
      clear h
      go_wp2
      go_ret2
      exact ⟨by first | rfl | simp, X0.out.1⟩
    · have k0 : ¬ op < 0 := by omega
      have k1 : ¬ 63 < op := by omega
      have k2 : ¬ fl < 0 := by omega
      have k3 : ¬ 255 < fl := by omega
      have k4 : ¬ b2 < 0 := by omega
      have k5 : 255 < b2 := by omega
      clear h
      go_wp2
      go_ret2
      exact ⟨by first | rfl | simp, X0.out.1⟩
    · have k0 : ¬ op < 0 := by omega
      have k1 : ¬ 63 < op := by omega
      have k2 : ¬ fl < 0 := by omega
      have k3 : ¬ 255 < fl := by omega
      have k4 : ¬ b2 < 0 := by omega
      have k5 : ¬ 255 < b2 := by omega
      have k6 : b3 < 0 := by omega
      clear h
      go_wp2
      go_ret2
      exact ⟨by first | rfl | simp, X0.out.1⟩
    · have k0 : ¬ op < 0 := by omega
      have k1 : ¬ 63 < op := by omega
      have k2 : ¬ fl < 0 := by omega
      have k3 : ¬ 255 < fl := by omega
      have k4 : ¬ b2 < 0 := by omega
      have k5 : ¬ 255 < b2 := by omega
      have k6 : ¬ b3 < 0 := by omega
      have k7 : 255 < b3 := by omega
      clear h
      go_wp2
      go_ret2
      exact ⟨by first | rfl | simp, X0.out.1⟩
set_option maxHeartbeats 4000000 in
theorem rPut_size (op fl b2 b3 lun tk w0 w1 w2 w3 w4 w5 w6 : Int) (now : Bool) (dx : Option Addr) (dn dc : Nat) (hs ds : Bool) (mo : Int) (d : List (BitVec 8)) (w : World) (ho : okO mo = true) (hcp : canP op fl b2 b3 = true) (hsz : mo < (dn : Int)) :
    Calls Try.prog 18 #[.agg #[.int .i64 op, .bool now, .int .i64 fl, .int .i64 b2, .int .i64 b3, .int .u64 lun, .int .u32 tk, .int .u32 w0, .int .u32 w1, .int .u32 w2, .int .u32 w3, .int .u32 w4, .int .u32 w5, .int .u32 w6, .slice dx dn dc], .agg #[.bool hs, .bool ds, .int .i64 mo]] w fun e w' => e = .returned (.tuple #[.slice none 0 0, .int .i64 3]) ∧ Below w.heap.size w w' := by
  have b0 : Below w.heap.size w (w.alloc (.cells #[.int .i64 op, .bool now, .int .i64 fl, .int .i64 b2, .int .i64 b3, .int .u64 lun, .int .u32 tk, .int .u32 w0, .int .u32 w1, .int .u32 w2, .int .u32 w3, .int .u32 w4, .int .u32 w5, .int .u32 w6, .slice dx dn dc] 27)) := (Below.refl _ _).alloc (Nat.le_refl _) _
  have N0 := Blk.new' w 27 [.int .i64 op, .bool now, .int .i64 fl, .int .i64 b2, .int .i64 b3, .int .u64 lun, .int .u32 tk, .int .u32 w0, .int .u32 w1, .int .u32 w2, .int .u32 w3, .int .u32 w4, .int .u32 w5, .int .u32 w6, .slice dx dn dc]
  have hz : (w.alloc (.cells #[.int .i64 op, .bool now, .int .i64 fl, .int .i64 b2, .int .i64 b3, .int .u64 lun, .int .u32 tk, .int .u32 w0, .int .u32 w1, .int .u32 w2, .int .u32 w3, .int .u32 w4, .int .u32 w5, .int .u32 w6, .slice dx dn dc] 27)).heap.size = w.heap.size + 1 := by simp
  have b1 : Below (w.alloc (.cells #[.int .i64 op, .bool now, .int .i64 fl, .int .i64 b2, .int .i64 b3, .int .u64 lun, .int .u32 tk, .int .u32 w0, .int .u32 w1, .int .u32 w2, .int .u32 w3, .int .u32 w4, .int .u32 w5, .int .u32 w6, .slice dx dn dc] 27)).heap.size (w.alloc (.cells #[.int .i64 op, .bool now, .int .i64 fl, .int .i64 b2, .int .i64 b3, .int .u64 lun, .int .u32 tk, .int .u32 w0, .int .u32 w1, .int .u32 w2, .int .u32 w3, .int .u32 w4, .int .u32 w5, .int .u32 w6, .slice dx dn dc] 27)) ((w.alloc (.cells #[.int .i64 op, .bool now, .int .i64 fl, .int .i64 b2, .int .i64 b3, .int .u64 lun, .int .u32 tk, .int .u32 w0, .int .u32 w1, .int .u32 w2, .int .u32 w3, .int .u32 w4, .int .u32 w5, .int .u32 w6, .slice dx dn dc] 27)).alloc (.cells #[.bool hs, .bool ds, .int .i64 mo] 46)) := (Below.refl _ _).alloc (Nat.le_refl _) _
  have N1 := Blk.new' (w.alloc (.cells #[.int .i64 op, .bool now, .int .i64 fl, .int .i64 b2, .int .i64 b3, .int .u64 lun, .int .u32 tk, .int .u32 w0, .int .u32 w1, .int .u32 w2, .int .u32 w3, .int .u32 w4, .int .u32 w5, .int .u32 w6, .slice dx dn dc] 27)) 46 [.bool hs, .bool ds, .int .i64 mo]
  rw [hz] at N1
  have N0 := N0.laterB b1
  have bb := below_then b0 b1
  have HT : Hid _ := rRight_any hs ds mo ((w.alloc (.cells #[.int .i64 op, .bool now, .int .i64 fl, .int .i64 b2, .int .i64 b3, .int .u64 lun, .int .u32 tk, .int .u32 w0, .int .u32 w1, .int .u32 w2, .int .u32 w3, .int .u32 w4, .int .u32 w5, .int .u32 w6, .slice dx dn dc] 27)).alloc (.cells #[.bool hs, .bool ds, .int .i64 mo] 46))
  have o0 := blk_at N1 0
  have o1 := blk_at N1 1
  have o2 := blk_at N1 2
  simp only [List.getElem?_cons_zero, List.getElem?_cons_succ] at o0 o1 o2
  have X : Hid _ := And.intro bb (And.intro N0 N1)
  clear b0 N0 hz b1 N1 bb
  rw [ho] at HT
  obtain ⟨q0, q1, q2, q3⟩ := canP_of hcp
  have k0 : ¬ op < 0 := by omega
  have k1 : ¬ 63 < op := by omega
  have k2 : ¬ fl < 0 := by omega
  have k3 : ¬ 255 < fl := by omega
  have k4 : ¬ b2 < 0 := by omega
  have k5 : ¬ 255 < b2 := by omega
  have k6 : ¬ b3 < 0 := by omega
  have k7 : ¬ 255 < b3 := by omega
  clear q0 q1 q2 q3 hcp ho
  go_enter Try.func18, Try.ntmps18
  go_wp2_with fail
  refine (Calls.mono HT.out) ?_
  rintro e u0 ⟨rfl, bR⟩
  have X0 : Hid _ := And.intro (below_then X.out.1 bR) (And.intro (X.out.2.1.laterB bR) (X.out.2.2.laterB bR))
  have y0 := blk_at X0.out.2.1 0
  have y2 := blk_at X0.out.2.1 2
  have y3 := blk_at X0.out.2.1 3
  have y4 := blk_at X0.out.2.1 4
  have y14 := blk_at X0.out.2.1 14
  have z0 := blk_at X0.out.2.2 0
  have z1 := blk_at X0.out.2.2 1
  have z2 := blk_at X0.out.2.2 2
  simp only [List.getElem?_cons_zero, List.getElem?_cons_succ] at y0 y2 y3 y4 y14 z0 z1 z2
  clear bR X HT o0 o1 o2
  go_wp2
  go_ret2
  exact ⟨by first | rfl | simp, X0.out.1⟩
theorem be4_split (n : Nat) (h : n < 16777216) : be 4 (BitVec.ofInt 64 (n : Int)) = be 1 (BitVec.ofInt 64 0) ++ be 3 (BitVec.ofInt 64 (n : Int)) := by
  have e : BitVec.ofInt 64 (n : Int) = BitVec.ofNat 64 n := rfl
  rw [e]
  unfold be be8
  simp
  apply BitVec.eq_of_toNat_eq
  simp
  omega
end Go.Proofs.Ytnnbpfjdkhoidaa

