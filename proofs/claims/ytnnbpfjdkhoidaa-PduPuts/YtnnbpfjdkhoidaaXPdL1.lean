/- pdu: taken; Same of nothing; Set of nil. -/
import Derived.Test.YtnnbpfjdkhoidaaXPdK
import Derived.ChangeKeysEq
namespace Go.Proofs.Ytnnbpfjdkhoidaa
open Go.RowKit
set_option linter.unusedVariables false
set_option linter.unusedSimpArgs false
set_option maxRecDepth 8000

def iv32 (l : List Int) : List Value := l.map (Value.int .u32)
theorem iv32_at (l : List Int) (i : Nat) (h : i < l.length) : (iv32 l)[i]? = some (.int .u32 (l.getD i 0)) := by
  unfold iv32; rw [List.getElem?_map, List.getElem?_eq_getElem h, List.getD, List.getElem?_eq_getElem h]; rfl
theorem plain_u32 : Try.prog.plainKey 23 = true := by kernel_rfl
theorem cells_u32 : Try.prog.cellsOf 23 = 1 := by kernel_rfl
theorem eqItems_32 (a b : List Int) (w : World) : ∀ (L : List Nat), (∀ i ∈ L, i < a.length ∧ i < b.length) →
    (Op.eqItems 9999 23 1 (iv32 a).toArray (iv32 b).toArray L).run Try.prog w = .ok (L.all (fun i => decide (a.getD i 0 = b.getD i 0))) w
  | [], _ => rfl
  | i :: L, h => by
    obtain ⟨h1, h2⟩ := h i (by simp)
    have p1 : (part 23 (iv32 a).toArray (i * 1)).run Try.prog w = .ok (.int .u32 (a.getD i 0)) w := run_part_plain w plain_u32 (by rw [Nat.mul_one]; simpa using iv32_at a i h1)
    have p2 : (part 23 (iv32 b).toArray (i * 1)).run Try.prog w = .ok (.int .u32 (b.getD i 0)) w := run_part_plain w plain_u32 (by rw [Nat.mul_one]; simpa using iv32_at b i h2)
    have he := run_equalIn_int (P := Try.prog) w 9998 23 .u32 .u32 (a.getD i 0) (b.getD i 0) Try.underlying23
    have ih := eqItems_32 a b w L (fun j hj => h j (List.mem_cons_of_mem _ hj))
    simp only [Op.eqItems, Sem.run_bind, p1, p2, he, Result.andThen_ok, List.all_cons]
    generalize a.getD i 0 = x at *
    generalize b.getD i 0 = y at *
    by_cases e : x = y
    · simp [e, ih]
    · have : (x == y) = false := by simpa using e
      simp [this, e]
theorem equal_7 (a b : List Int) (ha : a.length = 7) (hb : b.length = 7) (w : World) :
    (Op.equalIn 10000 24 (.agg (iv32 a).toArray) (.agg (iv32 b).toArray)).run Try.prog w = .ok (decide (a = b)) w := by
  obtain ⟨i, hi, -⟩ := Option.map_eq_some_iff.1 sz_u32
  rw [run_equalIn_array w 9999 (e := 23) (n := 7) (i := i) _ _ und_a7 hi, cells_u32, eqItems_32 a b w (List.range 7) (fun i hi => by have := List.mem_range.1 hi; omega)]
  congr 1
  rw [Bool.eq_iff_iff, List.all_eq_true]
  simp only [decide_eq_true_eq, List.mem_range]
  refine ⟨fun h => List.ext_getElem (by omega) (fun i h1 h2 => ?_), fun h i _ => by rw [h]⟩
  have := h i (by omega)
  rw [List.getD, List.getD, List.getElem?_eq_getElem h1, List.getElem?_eq_getElem h2] at this
  simpa using this
theorem size_q : (Try.prog.info? 27).map (·.size) = some 15 := by kernel_rfl
set_option maxHeartbeats 4000000 in
theorem ptaken_any (op fl b2 b3 lun tk w0 w1 w2 w3 w4 w5 w6 : Int) (now : Bool) (dx : Option Addr) (dn dc : Nat) (w : World) :
    Calls Try.prog 17 #[.agg #[.int .i64 op, .bool now, .int .i64 fl, .int .i64 b2, .int .i64 b3, .int .u64 lun, .int .u32 tk, .int .u32 w0, .int .u32 w1, .int .u32 w2, .int .u32 w3, .int .u32 w4, .int .u32 w5, .int .u32 w6, .slice dx dn dc]] w fun e w' => e = .returned (.agg #[.int .i64 op, .bool now, .int .i64 fl, .int .i64 b2, .int .i64 b3, .int .u64 lun, .int .u32 tk, .int .u32 w0, .int .u32 w1, .int .u32 w2, .int .u32 w3, .int .u32 w4, .int .u32 w5, .int .u32 w6, .slice dx dn dc]) ∧ Below w.heap.size w w' := by
  have b0 : Below w.heap.size w (w.alloc (.cells #[.int .i64 op, .bool now, .int .i64 fl, .int .i64 b2, .int .i64 b3, .int .u64 lun, .int .u32 tk, .int .u32 w0, .int .u32 w1, .int .u32 w2, .int .u32 w3, .int .u32 w4, .int .u32 w5, .int .u32 w6, .slice dx dn dc] 33)) := (Below.refl _ _).alloc (Nat.le_refl _) _
  have N0 := Blk.new' w 33 [.int .i64 op, .bool now, .int .i64 fl, .int .i64 b2, .int .i64 b3, .int .u64 lun, .int .u32 tk, .int .u32 w0, .int .u32 w1, .int .u32 w2, .int .u32 w3, .int .u32 w4, .int .u32 w5, .int .u32 w6, .slice dx dn dc]
  have hz : (w.alloc (.cells #[.int .i64 op, .bool now, .int .i64 fl, .int .i64 b2, .int .i64 b3, .int .u64 lun, .int .u32 tk, .int .u32 w0, .int .u32 w1, .int .u32 w2, .int .u32 w3, .int .u32 w4, .int .u32 w5, .int .u32 w6, .slice dx dn dc] 33)).heap.size = w.heap.size + 1 := by simp
  have b1 : Below (w.alloc (.cells #[.int .i64 op, .bool now, .int .i64 fl, .int .i64 b2, .int .i64 b3, .int .u64 lun, .int .u32 tk, .int .u32 w0, .int .u32 w1, .int .u32 w2, .int .u32 w3, .int .u32 w4, .int .u32 w5, .int .u32 w6, .slice dx dn dc] 33)).heap.size (w.alloc (.cells #[.int .i64 op, .bool now, .int .i64 fl, .int .i64 b2, .int .i64 b3, .int .u64 lun, .int .u32 tk, .int .u32 w0, .int .u32 w1, .int .u32 w2, .int .u32 w3, .int .u32 w4, .int .u32 w5, .int .u32 w6, .slice dx dn dc] 33)) ((w.alloc (.cells #[.int .i64 op, .bool now, .int .i64 fl, .int .i64 b2, .int .i64 b3, .int .u64 lun, .int .u32 tk, .int .u32 w0, .int .u32 w1, .int .u32 w2, .int .u32 w3, .int .u32 w4, .int .u32 w5, .int .u32 w6, .slice dx dn dc] 33)).alloc (.cells #[.int .i64 0, .bool false, .int .i64 0, .int .i64 0, .int .i64 0, .int .u64 0, .int .u32 0, .int .u32 0, .int .u32 0, .int .u32 0, .int .u32 0, .int .u32 0, .int .u32 0, .int .u32 0, .slice none 0 0] 27)) := (Below.refl _ _).alloc (Nat.le_refl _) _
  have N1 := Blk.new' (w.alloc (.cells #[.int .i64 op, .bool now, .int .i64 fl, .int .i64 b2, .int .i64 b3, .int .u64 lun, .int .u32 tk, .int .u32 w0, .int .u32 w1, .int .u32 w2, .int .u32 w3, .int .u32 w4, .int .u32 w5, .int .u32 w6, .slice dx dn dc] 33)) 27 [.int .i64 0, .bool false, .int .i64 0, .int .i64 0, .int .i64 0, .int .u64 0, .int .u32 0, .int .u32 0, .int .u32 0, .int .u32 0, .int .u32 0, .int .u32 0, .int .u32 0, .int .u32 0, .slice none 0 0]
  rw [hz] at N1
  have N0 := N0.laterB b1
  have bb := below_then b0 b1
  have lm : (Instr.loadAt 24 (.pointer (some ⟨w.heap.size, 7, none⟩))).run Try.prog ((w.alloc (.cells #[.int .i64 op, .bool now, .int .i64 fl, .int .i64 b2, .int .i64 b3, .int .u64 lun, .int .u32 tk, .int .u32 w0, .int .u32 w1, .int .u32 w2, .int .u32 w3, .int .u32 w4, .int .u32 w5, .int .u32 w6, .slice dx dn dc] 33)).alloc (.cells #[.int .i64 0, .bool false, .int .i64 0, .int .i64 0, .int .i64 0, .int .u64 0, .int .u32 0, .int .u32 0, .int .u32 0, .int .u32 0, .int .u32 0, .int .u32 0, .int .u32 0, .int .u32 0, .slice none 0 0] 27)) = .ok (.agg #[.int .u32 w0, .int .u32 w1, .int .u32 w2, .int .u32 w3, .int .u32 w4, .int .u32 w5, .int .u32 w6]) ((w.alloc (.cells #[.int .i64 op, .bool now, .int .i64 fl, .int .i64 b2, .int .i64 b3, .int .u64 lun, .int .u32 tk, .int .u32 w0, .int .u32 w1, .int .u32 w2, .int .u32 w3, .int .u32 w4, .int .u32 w5, .int .u32 w6, .slice dx dn dc] 33)).alloc (.cells #[.int .i64 0, .bool false, .int .i64 0, .int .i64 0, .int .i64 0, .int .u64 0, .int .u32 0, .int .u32 0, .int .u32 0, .int .u32 0, .int .u32 0, .int .u32 0, .int .u32 0, .int .u32 0, .slice none 0 0] 27)) := load_mid (T := 24) (xs := [.int .u32 w0, .int .u32 w1, .int .u32 w2, .int .u32 w3, .int .u32 w4, .int .u32 w5, .int .u32 w6]) sz_a7 agg_a7 [.int .i64 op, .bool now, .int .i64 fl, .int .i64 b2, .int .i64 b3, .int .u64 lun, .int .u32 tk] (ys := [.slice dx dn dc]) N0
  have y0 := blk_at N0 0
  have y1 := blk_at N0 1
  have y2 := blk_at N0 2
  have y3 := blk_at N0 3
  have y4 := blk_at N0 4
  have y5 := blk_at N0 5
  have y6 := blk_at N0 6
  have y14 := blk_at N0 14
  simp only [List.getElem?_cons_zero, List.getElem?_cons_succ] at y0 y1 y2 y3 y4 y5 y6 y14
  have st := store_all (T := 27) (vs := [.int .i64 op, .bool now, .int .i64 fl, .int .i64 b2, .int .i64 b3, .int .u64 lun, .int .u32 tk, .int .u32 w0, .int .u32 w1, .int .u32 w2, .int .u32 w3, .int .u32 w4, .int .u32 w5, .int .u32 w6, .slice dx dn dc]) size_q N1 rfl (fun u hu => by simp at hu; rcases hu with rfl | rfl | rfl | rfl | rfl | rfl | rfl | rfl | rfl | rfl | rfl | rfl | rfl | rfl | rfl <;> rfl)
  obtain ⟨B9, g9⟩ := N1.whole (vs := [.int .i64 op, .bool now, .int .i64 fl, .int .i64 b2, .int .i64 b3, .int .u64 lun, .int .u32 tk, .int .u32 w0, .int .u32 w1, .int .u32 w2, .int .u32 w3, .int .u32 w4, .int .u32 w5, .int .u32 w6, .slice dx dn dc]) rfl
  have bw := bb.trans ((turned_grown (R := fun k => k = w.heap.size + 1) g9 (fun k hk => by cases hk; rfl)).below _ bb.size (fun k e => by omega))
  obtain ⟨w9, hw9⟩ : ∃ w9, w9 = ((w.alloc (.cells #[.int .i64 op, .bool now, .int .i64 fl, .int .i64 b2, .int .i64 b3, .int .u64 lun, .int .u32 tk, .int .u32 w0, .int .u32 w1, .int .u32 w2, .int .u32 w3, .int .u32 w4, .int .u32 w5, .int .u32 w6, .slice dx dn dc] 33)).alloc (.cells #[.int .i64 0, .bool false, .int .i64 0, .int .i64 0, .int .i64 0, .int .u64 0, .int .u32 0, .int .u32 0, .int .u32 0, .int .u32 0, .int .u32 0, .int .u32 0, .int .u32 0, .int .u32 0, .slice none 0 0] 27)).setCells (w.heap.size + 1) 0 [.int .i64 op, .bool now, .int .i64 fl, .int .i64 b2, .int .i64 b3, .int .u64 lun, .int .u32 tk, .int .u32 w0, .int .u32 w1, .int .u32 w2, .int .u32 w3, .int .u32 w4, .int .u32 w5, .int .u32 w6, .slice dx dn dc] := ⟨_, rfl⟩
  rw [← hw9] at st B9 bw
  have G : Hid _ := And.intro B9 bw
  clear hw9 g9 B9 bw bb N0 N1 b0 b1 hz
  go_enter Try.func17, Try.ntmps17
  go_wp2_with (first | (refine wpList_value rfl (exec_load rfl rfl lm) ?_) | (refine wpList_skip rfl (exec_store rfl rfl rfl st) ?_))
  clear lm st y0 y1 y2 y3 y4 y5 y6 y14
  have y0 := blk_at G.out.1 0
  have y1 := blk_at G.out.1 1
  have y2 := blk_at G.out.1 2
  have y3 := blk_at G.out.1 3
  have y4 := blk_at G.out.1 4
  have y5 := blk_at G.out.1 5
  have y6 := blk_at G.out.1 6
  have y7 := blk_at G.out.1 7
  have y8 := blk_at G.out.1 8
  have y9 := blk_at G.out.1 9
  have y10 := blk_at G.out.1 10
  have y11 := blk_at G.out.1 11
  have y12 := blk_at G.out.1 12
  have y13 := blk_at G.out.1 13
  have y14 := blk_at G.out.1 14
  simp only [List.getElem?_cons_zero, List.getElem?_cons_succ] at y0 y1 y2 y3 y4 y5 y6 y7 y8 y9 y10 y11 y12 y13 y14
  refine bodyPost_ret (v := .agg #[.int .i64 op, .bool now, .int .i64 fl, .int .i64 b2, .int .i64 b3, .int .u64 lun, .int .u32 tk, .int .u32 w0, .int .u32 w1, .int .u32 w2, .int .u32 w3, .int .u32 w4, .int .u32 w5, .int .u32 w6, .slice dx dn dc]) (by simp [results, Try.results17, go_sem, y0, y1, y2, y3, y4, y5, y6, y7, y8, y9, y10, y11, y12, y13, y14]) rfl ?_
  exact ⟨rfl, G.out.2⟩
set_option maxHeartbeats 4000000 in
theorem pSame_zero (w : World) :
    Calls Try.prog 16 #[.agg #[.int .i64 0, .bool false, .int .i64 0, .int .i64 0, .int .i64 0, .int .u64 0, .int .u32 0, .int .u32 0, .int .u32 0, .int .u32 0, .int .u32 0, .int .u32 0, .int .u32 0, .int .u32 0, .slice none 0 0], .agg #[.int .i64 0, .bool false, .int .i64 0, .int .i64 0, .int .i64 0, .int .u64 0, .int .u32 0, .int .u32 0, .int .u32 0, .int .u32 0, .int .u32 0, .int .u32 0, .int .u32 0, .int .u32 0, .slice none 0 0]] w fun e w' => e = .returned (.bool true) ∧ Below w.heap.size w w' := by
  have b0 : Below w.heap.size w (w.alloc (.cells #[.int .i64 0, .bool false, .int .i64 0, .int .i64 0, .int .i64 0, .int .u64 0, .int .u32 0, .int .u32 0, .int .u32 0, .int .u32 0, .int .u32 0, .int .u32 0, .int .u32 0, .int .u32 0, .slice none 0 0] 27)) := (Below.refl _ _).alloc (Nat.le_refl _) _
  have N0 := Blk.new' w 27 [.int .i64 0, .bool false, .int .i64 0, .int .i64 0, .int .i64 0, .int .u64 0, .int .u32 0, .int .u32 0, .int .u32 0, .int .u32 0, .int .u32 0, .int .u32 0, .int .u32 0, .int .u32 0, .slice none 0 0]
  have hz : (w.alloc (.cells #[.int .i64 0, .bool false, .int .i64 0, .int .i64 0, .int .i64 0, .int .u64 0, .int .u32 0, .int .u32 0, .int .u32 0, .int .u32 0, .int .u32 0, .int .u32 0, .int .u32 0, .int .u32 0, .slice none 0 0] 27)).heap.size = w.heap.size + 1 := by simp
  have b1 : Below (w.alloc (.cells #[.int .i64 0, .bool false, .int .i64 0, .int .i64 0, .int .i64 0, .int .u64 0, .int .u32 0, .int .u32 0, .int .u32 0, .int .u32 0, .int .u32 0, .int .u32 0, .int .u32 0, .int .u32 0, .slice none 0 0] 27)).heap.size (w.alloc (.cells #[.int .i64 0, .bool false, .int .i64 0, .int .i64 0, .int .i64 0, .int .u64 0, .int .u32 0, .int .u32 0, .int .u32 0, .int .u32 0, .int .u32 0, .int .u32 0, .int .u32 0, .int .u32 0, .slice none 0 0] 27)) ((w.alloc (.cells #[.int .i64 0, .bool false, .int .i64 0, .int .i64 0, .int .i64 0, .int .u64 0, .int .u32 0, .int .u32 0, .int .u32 0, .int .u32 0, .int .u32 0, .int .u32 0, .int .u32 0, .int .u32 0, .slice none 0 0] 27)).alloc (.cells #[.int .i64 0, .bool false, .int .i64 0, .int .i64 0, .int .i64 0, .int .u64 0, .int .u32 0, .int .u32 0, .int .u32 0, .int .u32 0, .int .u32 0, .int .u32 0, .int .u32 0, .int .u32 0, .slice none 0 0] 27)) := (Below.refl _ _).alloc (Nat.le_refl _) _
  have N1 := Blk.new' (w.alloc (.cells #[.int .i64 0, .bool false, .int .i64 0, .int .i64 0, .int .i64 0, .int .u64 0, .int .u32 0, .int .u32 0, .int .u32 0, .int .u32 0, .int .u32 0, .int .u32 0, .int .u32 0, .int .u32 0, .slice none 0 0] 27)) 27 [.int .i64 0, .bool false, .int .i64 0, .int .i64 0, .int .i64 0, .int .u64 0, .int .u32 0, .int .u32 0, .int .u32 0, .int .u32 0, .int .u32 0, .int .u32 0, .int .u32 0, .int .u32 0, .slice none 0 0]
  rw [hz] at N1
  have N0 := N0.laterB b1
  have bb := below_then b0 b1
  have y0 := blk_at N0 0
  have y1 := blk_at N0 1
  have y2 := blk_at N0 2
  have y3 := blk_at N0 3
  have y4 := blk_at N0 4
  have y5 := blk_at N0 5
  have y6 := blk_at N0 6
  have y7 := blk_at N0 7
  have y8 := blk_at N0 8
  have y9 := blk_at N0 9
  have y10 := blk_at N0 10
  have y11 := blk_at N0 11
  have y12 := blk_at N0 12
  have y13 := blk_at N0 13
  have y14 := blk_at N0 14
  have z0 := blk_at N1 0
  have z1 := blk_at N1 1
  have z2 := blk_at N1 2
  have z3 := blk_at N1 3
  have z4 := blk_at N1 4
  have z5 := blk_at N1 5
  have z6 := blk_at N1 6
  have z7 := blk_at N1 7
  have z8 := blk_at N1 8
  have z9 := blk_at N1 9
  have z10 := blk_at N1 10
  have z11 := blk_at N1 11
  have z12 := blk_at N1 12
  have z13 := blk_at N1 13
  have z14 := blk_at N1 14
  simp only [List.getElem?_cons_zero, List.getElem?_cons_succ] at y0 z0 y1 z1 y2 z2 y3 z3 y4 z4 y5 z5 y6 z6 y7 z7 y8 z8 y9 z9 y10 z10 y11 z11 y12 z12 y13 z13 y14 z14
  have cs := Row.str (w := ((w.alloc (.cells #[.int .i64 0, .bool false, .int .i64 0, .int .i64 0, .int .i64 0, .int .u64 0, .int .u32 0, .int .u32 0, .int .u32 0, .int .u32 0, .int .u32 0, .int .u32 0, .int .u32 0, .int .u32 0, .slice none 0 0] 27)).alloc (.cells #[.int .i64 0, .bool false, .int .i64 0, .int .i64 0, .int .i64 0, .int .u64 0, .int .u32 0, .int .u32 0, .int .u32 0, .int .u32 0, .int .u32 0, .int .u32 0, .int .u32 0, .int .u32 0, .slice none 0 0] 27))) (a := none) (l := []) (.inl rfl) 0 0 rfl
  have F : Hid _ := bb
  clear bb N0 N1 b0 b1 hz
  have eq7 := equal_7 [0, 0, 0, 0, 0, 0, 0] [0, 0, 0, 0, 0, 0, 0] rfl rfl ((w.alloc (.cells #[.int .i64 0, .bool false, .int .i64 0, .int .i64 0, .int .i64 0, .int .u64 0, .int .u32 0, .int .u32 0, .int .u32 0, .int .u32 0, .int .u32 0, .int .u32 0, .int .u32 0, .int .u32 0, .slice none 0 0] 27)).alloc (.cells #[.int .i64 0, .bool false, .int .i64 0, .int .i64 0, .int .i64 0, .int .u64 0, .int .u32 0, .int .u32 0, .int .u32 0, .int .u32 0, .int .u32 0, .int .u32 0, .int .u32 0, .int .u32 0, .slice none 0 0] 27))
  rw [decide_eq_true rfl] at eq7
  simp only [iv32, List.map] at eq7
  go_enter Try.func16, Try.ntmps16
  go_wp2
  go_ret
  exact ⟨by first | rfl | simp, F.out⟩
set_option maxHeartbeats 4000000 in
theorem pSet_nil (hs ds : Bool) (mo : Int) (w : World) :
    Calls Try.prog 26 #[.pointer none, .agg #[.bool hs, .bool ds, .int .i64 mo]] w fun e w' => e = .returned (.int .i64 2) ∧ Below w.heap.size w w' := by
  have F : Hid (Below w.heap.size w (w.alloc (.cells #[.bool hs, .bool ds, .int .i64 mo] 29))) := (Below.refl _ _).alloc (Nat.le_refl _) _
  go_enter Try.func26, Try.ntmps26
  go_wp2
  go_ret
  exact ⟨by first | rfl | simp, F.out⟩

end Go.Proofs.Ytnnbpfjdkhoidaa

