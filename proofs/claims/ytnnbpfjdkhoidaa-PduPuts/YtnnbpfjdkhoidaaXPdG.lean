/- caissonlaw17: given, opts. -/
import Derived.Test.YtnnbpfjdkhoidaaXPdL1
namespace Go.Proofs.Ytnnbpfjdkhoidaa
open Go.RowKit
set_option linter.unusedVariables false
set_option linter.unusedSimpArgs false
set_option maxRecDepth 8000

set_option maxHeartbeats 4000000 in
theorem popts_any (hs ds : Bool) (mo : Int) (w : World) :
    Calls Try.prog 15 #[.agg #[.bool hs, .bool ds, .int .i64 mo]] w fun e w' => e = .returned (.agg #[.bool hs, .bool ds, .int .i64 mo]) ∧ Below w.heap.size w w' := by
  have b0 : Below w.heap.size w (w.alloc (.cells #[.bool hs, .bool ds, .int .i64 mo] 46)) := (Below.refl _ _).alloc (Nat.le_refl _) _
  have N0 := Blk.new' w 46 [.bool hs, .bool ds, .int .i64 mo]
  have hz : (w.alloc (.cells #[.bool hs, .bool ds, .int .i64 mo] 46)).heap.size = w.heap.size + 1 := by simp
  have b1 : Below (w.alloc (.cells #[.bool hs, .bool ds, .int .i64 mo] 46)).heap.size (w.alloc (.cells #[.bool hs, .bool ds, .int .i64 mo] 46)) ((w.alloc (.cells #[.bool hs, .bool ds, .int .i64 mo] 46)).alloc (.cells #[.bool false, .bool false, .int .i64 0] 29)) := (Below.refl _ _).alloc (Nat.le_refl _) _
  have N1 := Blk.new' (w.alloc (.cells #[.bool hs, .bool ds, .int .i64 mo] 46)) 29 [.bool false, .bool false, .int .i64 0]
  rw [hz] at N1
  have N0 := N0.laterB b1
  have bb := below_then b0 b1
  have y0 := blk_at N0 0
  have y1 := blk_at N0 1
  have y2 := blk_at N0 2
  simp only [List.getElem?_cons_zero, List.getElem?_cons_succ] at y0 y1 y2
  have st := store_all (T := 29) (vs := [.bool hs, .bool ds, .int .i64 mo]) size_op N1 rfl (fun u hu => by simp at hu; rcases hu with rfl | rfl | rfl <;> rfl)
  obtain ⟨B9, g9⟩ := N1.whole (vs := [.bool hs, .bool ds, .int .i64 mo]) rfl
  have bw := bb.trans ((turned_grown (R := fun k => k = w.heap.size + 1) g9 (fun k hk => by cases hk; rfl)).below _ bb.size (fun k e => by omega))
  obtain ⟨w9, hw9⟩ : ∃ w9, w9 = ((w.alloc (.cells #[.bool hs, .bool ds, .int .i64 mo] 46)).alloc (.cells #[.bool false, .bool false, .int .i64 0] 29)).setCells (w.heap.size + 1) 0 [.bool hs, .bool ds, .int .i64 mo] := ⟨_, rfl⟩
  rw [← hw9] at st B9 bw
  have G : Hid _ := And.intro B9 bw
  clear hw9 g9 B9 bw bb N0 N1 b0 b1 hz
  go_enter Try.func15, Try.ntmps15
  go_wp2_with (refine wpList_skip rfl (exec_store rfl rfl rfl st) ?_)
  clear st y0 y1 y2
  have y0 := blk_at G.out.1 0
  have y1 := blk_at G.out.1 1
  have y2 := blk_at G.out.1 2
  simp only [List.getElem?_cons_zero, List.getElem?_cons_succ] at y0 y1 y2
  refine bodyPost_ret (v := .agg #[.bool hs, .bool ds, .int .i64 mo]) (by simp [results, Try.results15, go_sem, y0, y1, y2]) rfl ?_
  exact ⟨rfl, G.out.2⟩
set_option maxHeartbeats 4000000 in
theorem pgiven_any (op fl b2 b3 lun tk w0 w1 w2 w3 w4 w5 w6 : Int) (now : Bool) (dx : Option Addr) (dn dc : Nat) (d : List (BitVec 8)) (w : World) (hdl : d.length = dn) (hdc : dn ≤ dc) (hdn : dx = none → dc = 0) (hdm : dn ≤ 140737488351232) (hdr : Row w dx d) :
    Calls Try.prog 8 #[.agg #[.int .i64 op, .bool now, .int .i64 fl, .int .i64 b2, .int .i64 b3, .int .u64 lun, .int .u32 tk, .int .u32 w0, .int .u32 w1, .int .u32 w2, .int .u32 w3, .int .u32 w4, .int .u32 w5, .int .u32 w6, .slice dx dn dc]] w fun e w' => ∃ zx zc, e = .returned (.agg #[.int .i64 op, .bool now, .int .i64 fl, .int .i64 b2, .int .i64 b3, .int .u64 lun, .int .u32 tk, .int .u32 w0, .int .u32 w1, .int .u32 w2, .int .u32 w3, .int .u32 w4, .int .u32 w5, .int .u32 w6, .slice zx dn zc]) ∧ Own w' w.heap.size (.slice zx dn zc) d ∧ Below w.heap.size w w' := by
  have b0 : Below w.heap.size w (w.alloc (.cells #[.int .i64 op, .bool now, .int .i64 fl, .int .i64 b2, .int .i64 b3, .int .u64 lun, .int .u32 tk, .int .u32 w0, .int .u32 w1, .int .u32 w2, .int .u32 w3, .int .u32 w4, .int .u32 w5, .int .u32 w6, .slice dx dn dc] 27)) := (Below.refl _ _).alloc (Nat.le_refl _) _
  have N0 := Blk.new' w 27 [.int .i64 op, .bool now, .int .i64 fl, .int .i64 b2, .int .i64 b3, .int .u64 lun, .int .u32 tk, .int .u32 w0, .int .u32 w1, .int .u32 w2, .int .u32 w3, .int .u32 w4, .int .u32 w5, .int .u32 w6, .slice dx dn dc]
  have hz : (w.alloc (.cells #[.int .i64 op, .bool now, .int .i64 fl, .int .i64 b2, .int .i64 b3, .int .u64 lun, .int .u32 tk, .int .u32 w0, .int .u32 w1, .int .u32 w2, .int .u32 w3, .int .u32 w4, .int .u32 w5, .int .u32 w6, .slice dx dn dc] 27)).heap.size = w.heap.size + 1 := by simp
  have b1 : Below (w.alloc (.cells #[.int .i64 op, .bool now, .int .i64 fl, .int .i64 b2, .int .i64 b3, .int .u64 lun, .int .u32 tk, .int .u32 w0, .int .u32 w1, .int .u32 w2, .int .u32 w3, .int .u32 w4, .int .u32 w5, .int .u32 w6, .slice dx dn dc] 27)).heap.size (w.alloc (.cells #[.int .i64 op, .bool now, .int .i64 fl, .int .i64 b2, .int .i64 b3, .int .u64 lun, .int .u32 tk, .int .u32 w0, .int .u32 w1, .int .u32 w2, .int .u32 w3, .int .u32 w4, .int .u32 w5, .int .u32 w6, .slice dx dn dc] 27)) ((w.alloc (.cells #[.int .i64 op, .bool now, .int .i64 fl, .int .i64 b2, .int .i64 b3, .int .u64 lun, .int .u32 tk, .int .u32 w0, .int .u32 w1, .int .u32 w2, .int .u32 w3, .int .u32 w4, .int .u32 w5, .int .u32 w6, .slice dx dn dc] 27)).alloc (.cells #[.int .i64 0, .bool false, .int .i64 0, .int .i64 0, .int .i64 0, .int .u64 0, .int .u32 0, .int .u32 0, .int .u32 0, .int .u32 0, .int .u32 0, .int .u32 0, .int .u32 0, .int .u32 0, .slice none 0 0] 33)) := (Below.refl _ _).alloc (Nat.le_refl _) _
  have N1 := Blk.new' (w.alloc (.cells #[.int .i64 op, .bool now, .int .i64 fl, .int .i64 b2, .int .i64 b3, .int .u64 lun, .int .u32 tk, .int .u32 w0, .int .u32 w1, .int .u32 w2, .int .u32 w3, .int .u32 w4, .int .u32 w5, .int .u32 w6, .slice dx dn dc] 27)) 33 [.int .i64 0, .bool false, .int .i64 0, .int .i64 0, .int .i64 0, .int .u64 0, .int .u32 0, .int .u32 0, .int .u32 0, .int .u32 0, .int .u32 0, .int .u32 0, .int .u32 0, .int .u32 0, .slice none 0 0]
  rw [hz] at N1
  have N0 := N0.laterB b1
  have bb := below_then b0 b1
  have hz2 : ((w.alloc (.cells #[.int .i64 op, .bool now, .int .i64 fl, .int .i64 b2, .int .i64 b3, .int .u64 lun, .int .u32 tk, .int .u32 w0, .int .u32 w1, .int .u32 w2, .int .u32 w3, .int .u32 w4, .int .u32 w5, .int .u32 w6, .slice dx dn dc] 27)).alloc (.cells #[.int .i64 0, .bool false, .int .i64 0, .int .i64 0, .int .i64 0, .int .u64 0, .int .u32 0, .int .u32 0, .int .u32 0, .int .u32 0, .int .u32 0, .int .u32 0, .int .u32 0, .int .u32 0, .slice none 0 0] 33)).heap.size = w.heap.size + 2 := by simp
  have lm : (Instr.loadAt 24 (.pointer (some ⟨w.heap.size, 7, none⟩))).run Try.prog ((w.alloc (.cells #[.int .i64 op, .bool now, .int .i64 fl, .int .i64 b2, .int .i64 b3, .int .u64 lun, .int .u32 tk, .int .u32 w0, .int .u32 w1, .int .u32 w2, .int .u32 w3, .int .u32 w4, .int .u32 w5, .int .u32 w6, .slice dx dn dc] 27)).alloc (.cells #[.int .i64 0, .bool false, .int .i64 0, .int .i64 0, .int .i64 0, .int .u64 0, .int .u32 0, .int .u32 0, .int .u32 0, .int .u32 0, .int .u32 0, .int .u32 0, .int .u32 0, .int .u32 0, .slice none 0 0] 33)) = .ok (.agg #[.int .u32 w0, .int .u32 w1, .int .u32 w2, .int .u32 w3, .int .u32 w4, .int .u32 w5, .int .u32 w6]) ((w.alloc (.cells #[.int .i64 op, .bool now, .int .i64 fl, .int .i64 b2, .int .i64 b3, .int .u64 lun, .int .u32 tk, .int .u32 w0, .int .u32 w1, .int .u32 w2, .int .u32 w3, .int .u32 w4, .int .u32 w5, .int .u32 w6, .slice dx dn dc] 27)).alloc (.cells #[.int .i64 0, .bool false, .int .i64 0, .int .i64 0, .int .i64 0, .int .u64 0, .int .u32 0, .int .u32 0, .int .u32 0, .int .u32 0, .int .u32 0, .int .u32 0, .int .u32 0, .int .u32 0, .slice none 0 0] 33)) := load_mid (T := 24) (xs := [.int .u32 w0, .int .u32 w1, .int .u32 w2, .int .u32 w3, .int .u32 w4, .int .u32 w5, .int .u32 w6]) sz_a7 agg_a7 [.int .i64 op, .bool now, .int .i64 fl, .int .i64 b2, .int .i64 b3, .int .u64 lun, .int .u32 tk] (ys := [.slice dx dn dc]) N0
  have y0 := blk_at N0 0
  have y1 := blk_at N0 1
  have y2 := blk_at N0 2
  have y3 := blk_at N0 3
  have y4 := blk_at N0 4
  have y5 := blk_at N0 5
  have y6 := blk_at N0 6
  simp only [List.getElem?_cons_zero, List.getElem?_cons_succ] at y0 y1 y2 y3 y4 y5 y6
  obtain ⟨u2, st, B2, b2'⟩ := newP ((w.alloc (.cells #[.int .i64 op, .bool now, .int .i64 fl, .int .i64 b2, .int .i64 b3, .int .u64 lun, .int .u32 tk, .int .u32 w0, .int .u32 w1, .int .u32 w2, .int .u32 w3, .int .u32 w4, .int .u32 w5, .int .u32 w6, .slice dx dn dc] 27)).alloc (.cells #[.int .i64 0, .bool false, .int .i64 0, .int .i64 0, .int .i64 0, .int .u64 0, .int .u32 0, .int .u32 0, .int .u32 0, .int .u32 0, .int .u32 0, .int .u32 0, .int .u32 0, .int .u32 0, .slice none 0 0] 33)) [.int .i64 op, .bool now, .int .i64 fl, .int .i64 b2, .int .i64 b3, .int .u64 lun, .int .u32 tk, .int .u32 w0, .int .u32 w1, .int .u32 w2, .int .u32 w3, .int .u32 w4, .int .u32 w5, .int .u32 w6, .slice none 0 0] rfl (fun u hu => by simp at hu; rcases hu with rfl | rfl | rfl | rfl | rfl | rfl | rfl | rfl | rfl | rfl | rfl | rfl | rfl | rfl | rfl <;> rfl)
  rw [hz2] at st B2
  have N0 := N0.laterB b2'
  have N1 := N1.laterB b2'
  have bb := below_then bb b2'
  have z8 := blk_at B2 14
  have f8 := blk_frozen B2 14
  have q8 := blk_at N0 14
  simp only [List.getElem?_cons_zero, List.getElem?_cons_succ] at z8 q8
  have X : Hid _ := And.intro bb (And.intro N0 (And.intro N1 B2))
  have HR : Hid _ := And.intro (hdr.later bb) trivial
  clear bb N0 N1 B2 b2' b0 b1 hz hdr
  go_enter Try.func8, Try.ntmps8
  go_wp2_with (first | (refine wpList_value rfl (exec_load rfl rfl lm) ?_) | (refine wpList_skip rfl (exec_store rfl rfl rfl st) ?_) | (at_builtin; refine wpList_append_bytes u2 rfl _ _ rfl (w.heap.size + 3) (.slice none 0 0) [] rfl (Own.nil _ _) dx dn dc d rfl hdl HR.out.1 hdn hdc (by simp; omega) (by have := X.out.2.2.2.lt; omega) ?_))
  clear lm st y0 y1 y2 y3 y4 y5 y6 z8 f8 q8
  intro v' u3 ov hg
  have bk : Below u2.heap.size u2 u3 := ⟨hg.os, hg.tape, hg.output, hg.size, fun k hk => hg.block k hk (by intro e; cases e)⟩
  obtain ⟨zx, zc, hv, -⟩ := ov.open
  subst hv
  rw [hdl]
  have B3 := X.out.2.2.2.laterB bk
  have c14 := blk_at B3 14
  have f14 := blk_frozen B3 14
  simp only [List.getElem?_cons_zero, List.getElem?_cons_succ] at c14
  have B4 := B3.set 14 (.slice zx dn zc)
  simp only [List.set_cons_zero, List.set_cons_succ] at B4
  have t4 := turned_set u3 (w.heap.size + 2) 14 (.slice zx dn zc)
  have N4 := (X.out.2.2.1.laterB bk).turned t4 (by omega)
  have bz := below_then X.out.1 bk
  have bb4 := bz.trans (t4.below _ bz.size (fun k e => by omega))
  rw [hdl] at ov
  have O4 := ov.same (fun k hk => t4.block k (World.ownsRow.lt ov k hk).2 (by have := (World.ownsRow.lt ov k hk).1; omega))
  have ld := load_all size_pd agg_pd B4
  have st := store_all (T := 33) (vs := [.int .i64 op, .bool now, .int .i64 fl, .int .i64 b2, .int .i64 b3, .int .u64 lun, .int .u32 tk, .int .u32 w0, .int .u32 w1, .int .u32 w2, .int .u32 w3, .int .u32 w4, .int .u32 w5, .int .u32 w6, .slice zx dn zc]) size_pd N4 rfl (fun u hu => by simp at hu; rcases hu with rfl | rfl | rfl | rfl | rfl | rfl | rfl | rfl | rfl | rfl | rfl | rfl | rfl | rfl | rfl <;> rfl)
  obtain ⟨B9, g9⟩ := N4.whole (vs := [.int .i64 op, .bool now, .int .i64 fl, .int .i64 b2, .int .i64 b3, .int .u64 lun, .int .u32 tk, .int .u32 w0, .int .u32 w1, .int .u32 w2, .int .u32 w3, .int .u32 w4, .int .u32 w5, .int .u32 w6, .slice zx dn zc]) rfl
  have t9 := turned_grown (R := fun k => k = w.heap.size + 1) g9 (fun k hk => by cases hk; rfl)
  have bb9 := bb4.trans (t9.below _ bb4.size (fun k e => by omega))
  have O9 := O4.same (fun k hk => t9.block k (World.ownsRow.lt O4 k hk).2 (by have := (World.ownsRow.lt O4 k hk).1; omega))
  obtain ⟨w9, hw9⟩ : ∃ w9, w9 = (u3.setCell ⟨w.heap.size + 2, 14, none⟩ (.slice zx dn zc)).setCells (w.heap.size + 1) 0 [.int .i64 op, .bool now, .int .i64 fl, .int .i64 b2, .int .i64 b3, .int .u64 lun, .int .u32 tk, .int .u32 w0, .int .u32 w1, .int .u32 w2, .int .u32 w3, .int .u32 w4, .int .u32 w5, .int .u32 w6, .slice zx dn zc] := ⟨_, rfl⟩
  rw [← hw9] at st B9 bb9 O9
  have G : Hid _ := And.intro B9 (And.intro bb9 O9)
  clear hw9 g9 t9 B9 bb9 O9 O4 bb4 bz N4 t4 B4 B3 ov bk hg X HR
  go_wp2_with (first | (refine wpList_value rfl (exec_load rfl rfl ld) ?_) | (refine wpList_skip rfl (exec_store rfl rfl rfl st) ?_))
  clear ld st c14 f14
  have y0 := blk_at G.out.1 0
  have y1 := blk_at G.out.1 1
  have y2 := blk_at G.out.1 2
  have y3 := blk_at G.out.1 3
  have y4 := blk_at G.out.1 4
  have y5 := blk_at G.out.1 5
  have y6 := blk_at G.out.1 6
  have y7 := blk_at G.out.1 7
  have y8 := blk_at G.out.1 8
  have y9 := blk_at G.out.1 9
  have y10 := blk_at G.out.1 10
  have y11 := blk_at G.out.1 11
  have y12 := blk_at G.out.1 12
  have y13 := blk_at G.out.1 13
  have y14 := blk_at G.out.1 14
  simp only [List.getElem?_cons_zero, List.getElem?_cons_succ] at y0 y1 y2 y3 y4 y5 y6 y7 y8 y9 y10 y11 y12 y13 y14
  refine bodyPost_ret (v := .agg #[.int .i64 op, .bool now, .int .i64 fl, .int .i64 b2, .int .i64 b3, .int .u64 lun, .int .u32 tk, .int .u32 w0, .int .u32 w1, .int .u32 w2, .int .u32 w3, .int .u32 w4, .int .u32 w5, .int .u32 w6, .slice zx dn zc]) (by simp [results, Try.results8, go_sem, y0, y1, y2, y3, y4, y5, y6, y7, y8, y9, y10, y11, y12, y13, y14]) rfl ?_
  exact ⟨zx, zc, rfl, G.out.2.2.lower (by omega), G.out.2.1⟩
end Go.Proofs.Ytnnbpfjdkhoidaa

