/- sense: the program's Inquiry. -/
import Derived.Test.YtncplnejoppekaaDoorSi2
namespace Go.Proofs.YtncplnejoppekaaDoor
open Go.RowKit
set_option linter.unusedVariables false
set_option linter.unusedSimpArgs false
set_option maxRecDepth 8000

/-- a page of vital data -/
def pgB (pg : Nat) (l : List (BitVec 8)) (s : Bool) (n : Nat) : List (BitVec 8) := over [0#8, BitVec.ofNat 8 pg, 0#8, 0#8] 2 (be 2 (BitVec.ofNat 64 (hasB l [] s n).length)) ++ hasB l [] s n
/-- what is told of a unit, by page -/
def inqR (vit : Bool) (pg lun : Int) : List (BitVec 8) × Int :=
  if fromB 0 lun 255 then
    if vit then
      if pg = 0 then (pgB 0 pgh1 false lun.toNat, 0) else if pg = 128 then (pgB 128 [] true lun.toNat, 0) else if pg = 131 then (pgB 131 pgh3 true lun.toNat, 0) else ([], 11)
    else if pg = 0 then (hasB pgh0 namesS.data.toList false lun.toNat, 0) else ([], 11)
  else ([], 1)
theorem pg_cell {w : World} {x0 c0 x1 c1 x3 c3} {t : TypeId} {f : Nat × Nat} (h : w.heap[0]? = some (.cells (pgC x0 c0 x1 c1 x3 c3).toArray t f)) (i : Nat) : w.cell? ⟨0, i, none⟩ = (pgC x0 c0 x1 c1 x3 c3)[i]? := by
  simp [World.cell?, h]
theorem agg_pg (w : World) : (isAgg 32).run Tryd.prog w = .ok true w := by
  unfold isAgg
  rw [Sem.run_bind, run_underlying Tryd.underlying32 w]
  rfl
theorem size_pg : (Tryd.prog.info? 32).map (·.size) = some 20 := by kernel_rfl
theorem load_pg {w : World} {x0 c0 x1 c1 x3 c3} {t : TypeId} {f : Nat × Nat} (h : w.heap[0]? = some (.cells (pgC x0 c0 x1 c1 x3 c3).toArray t f)) : (Instr.loadAt 32 (.pointer (some ⟨0, 0, none⟩))).run Tryd.prog w = .ok (.agg (pgC x0 c0 x1 c1 x3 c3).toArray) w := by
  have h2 : (loadCells ⟨0, 0, none⟩ (pgC x0 c0 x1 c1 x3 c3).length).run Tryd.prog w = .ok (pgC x0 c0 x1 c1 x3 c3).toArray w := run_loadCells_list (P := Tryd.prog) w ⟨0, 0, none⟩ (pgC x0 c0 x1 c1 x3 c3) (fun j v hj => by
    rw [opn_add, Nat.zero_add, pg_cell h j, hj])
  obtain ⟨i, hi, hz⟩ := Option.map_eq_some_iff.1 size_pg
  have hl : (pgC x0 c0 x1 c1 x3 c3).length = 20 := rfl
  rw [hl] at h2
  simp [Instr.loadAt, Instr.sureAddr, loadVar, Sem.run_bind, agg_pg w, sizeOf, typeInfo, hi, hz, h2]
theorem exec_load16 {P : Program} {w : World} {o : Oper} {a : Act} {t : TypeId} {x : Operand} (ho : o.op = .load t x) {p u : Value} (hx : a.eval x = p) (h : (Instr.loadAt t p).run P w = .ok u w) : (execOp a.eval o).run P w = .ok (.value u) w := by
  simp [execOp, ho, hx, h, Result.andThen]
theorem exec_index16 {P : Program} {w : World} {a : Act} {o : Oper} {t : TypeId} {x y : Operand} (ho : o.op = .index t x y) {p q u : Value} (hx : a.eval x = p) (hy : a.eval y = q) (h : (Instr.index t p q).run P w = .ok u w) : (execOp a.eval o).run P w = .ok (.value u) w := by
  simp [execOp, ho, hx, hy, h, Result.andThen]
set_option maxHeartbeats 8000000 in
theorem tInq_A (lun : Int) (w : World) (hP : PowS w) (hT : PgT w) (hl : fromB 0 lun 255 = true) :
    Calls Tryd.prog 4 #[.bool false, .int .i64 0, .int .i64 lun] w fun e w' => ∃ v, e = .returned (.tuple #[v, .int .i64 (inqR false 0 lun).2]) ∧ Own w' w.heap.size v (inqR false 0 lun).1 ∧ Below w.heap.size w w' := by
  obtain ⟨n, hn, rfl⟩ : ∃ n : Nat, n ≤ 255 ∧ lun = (n : Int) := ⟨lun.toNat, by have h := hl; unfold fromB at h; simp at h; omega, by have h := hl; unfold fromB at h; simp at h; omega⟩
  have HR : Hid (inqR false 0 (n : Int) = (hasB pgh0 namesS.data.toList false n, 0)) := (by unfold inqR; rw [if_pos hl]; simp : inqR false 0 (n : Int) = (hasB pgh0 namesS.data.toList false n, 0))
  rw [HR.out]
  clear HR
  simp only
  obtain ⟨x0, c0, x1, c1, x3, c3, ⟨tt, ff, hh⟩, hd0, hd1, hd3⟩ := hT.cells
  have HD : Hid _ := And.intro hP (And.intro hn (And.intro hd0 (And.intro hd1 hd3)))
  clear hd0 hd1 hd3 hP hn hT
  have HLd : Hid _ := load_pg hh
  clear hh
  go_enter Tryd.func4, Tryd.ntmps4
  go_wp2_with fail
  refine (Calls.mono (isFrom_any _ _ _ _)) ?_
  rintro e _ ⟨rfl, rfl⟩
  rw [hl]
  go_wp2_with (refine wpList_value16 rfl (exec_load16 rfl rfl HLd.out) ?_)
  clear HLd
  go_loopw [14] (fun iv wr => ∃ k : Nat, iv = .int .i64 (k : Int) ∧ k ≤ 0 ∧ Below w.heap.size w wr) (fun iv _ => 5 - (intOf iv).toNat)
  case atStart => exact ⟨0, rfl, by omega, Below.refl _ _⟩
  case round =>
    obtain ⟨k, rfl, hk, hB⟩ := hrel
    have hk2 : k = 0 := by omega
    rcases hk2 with rfl
    · have hix : ∀ W, (Instr.index 32 (.agg (pgC x0 c0 x1 c1 x3 c3).toArray) (.int .i64 ((0 : Nat) : Int))).run Tryd.prog W = .ok (.agg #[.bool false, .int .i64 0, .slice x0 8 c0, .string namesS, .bool false]) W := fun W => by kernel_rfl
      have N1 := Blk.new' wr 31 [.bool false, .int .i64 0, .slice x0 8 c0, .string namesS, .bool false]
      have bn1 : Below wr.heap.size wr (wr.alloc (.cells #[.bool false, .int .i64 0, .slice x0 8 c0, .string namesS, .bool false] 31)) := (Below.refl _ _).alloc (Nat.le_refl _) _
      obtain ⟨u1, hu1⟩ : ∃ y, y = wr.alloc (.cells #[.bool false, .int .i64 0, .slice x0 8 c0, .string namesS, .bool false] 31) := ⟨_, rfl⟩
      rw [← hu1] at N1 bn1
      obtain ⟨g, hg⟩ : ∃ y, y = wr.heap.size := ⟨_, rfl⟩
      rw [← hg] at N1
      have H1 : Hid _ := And.intro (below_then hB bn1) N1
      clear N1 bn1 hB hk
      go_upto_region 6 with (refine wpList_value16 rfl (exec_index16 rfl rfl rfl (hix _)) ?_)
      clear hix
      rw [← hu1, ← hg]
      clear hu1 hg
      have z0 := bk_at H1.out.2 0
      have z1 := bk_at H1.out.2 1
      have z2 := bk_at H1.out.2 2
      have z3 := bk_at H1.out.2 3
      have z4 := bk_at H1.out.2 4
      simp only [List.getElem?_cons_zero, List.getElem?_cons_succ] at z0 z1 z2 z3 z4
      have HC : Hid _ := tRow_ff 0 n x0 c0 8 pgh0 namesS u1 (HD.out.1.later H1.out.1) (HD.out.2.2.1.later H1.out.1) rfl (by decide) (by decide) (by omega) HD.out.2.1
      go_wp2_with fail
      refine (Calls.mono HC.out) ?_
      rintro e u2 ⟨v, rfl, O2, b2⟩
      have F : Hid _ := And.intro (O2.lower H1.out.1.size) (below_then H1.out.1 b2)
      clear HC O2 b2 H1 z0 z1 z2 z3 z4
      go_wp2
      refine bodyPost_ret (v := .tuple #[v, .int .i64 0]) (by first | rfl | simp [results, Tryd.results4, go_sem]) rfl ?_
      exact ⟨_, rfl, F.out.1, F.out.2⟩
set_option maxHeartbeats 8000000 in
theorem tInq_B (pg lun : Int) (w : World) (hP : PowS w) (hT : PgT w) (h0 : ¬ pg = 0) (hl : fromB 0 lun 255 = true) :
    Calls Tryd.prog 4 #[.bool false, .int .i64 pg, .int .i64 lun] w fun e w' => ∃ v, e = .returned (.tuple #[v, .int .i64 (inqR false pg lun).2]) ∧ Own w' w.heap.size v (inqR false pg lun).1 ∧ Below w.heap.size w w' := by
  obtain ⟨n, hn, rfl⟩ : ∃ n : Nat, n ≤ 255 ∧ lun = (n : Int) := ⟨lun.toNat, by have h := hl; unfold fromB at h; simp at h; omega, by have h := hl; unfold fromB at h; simp at h; omega⟩
  have HR : Hid (inqR false pg (n : Int) = ([], 11)) := (by unfold inqR; rw [if_pos hl]; simp [h0] : inqR false pg (n : Int) = ([], 11))
  rw [HR.out]
  clear HR
  simp only
  obtain ⟨x0, c0, x1, c1, x3, c3, ⟨tt, ff, hh⟩, hd0, hd1, hd3⟩ := hT.cells
  have HD : Hid _ := And.intro hP (And.intro hn (And.intro hd0 (And.intro hd1 hd3)))
  clear hd0 hd1 hd3 hP hn hT
  have HLd : Hid _ := load_pg hh
  clear hh
  go_enter Tryd.func4, Tryd.ntmps4
  go_wp2_with fail
  refine (Calls.mono (isFrom_any _ _ _ _)) ?_
  rintro e _ ⟨rfl, rfl⟩
  rw [hl]
  go_wp2_with (refine wpList_value16 rfl (exec_load16 rfl rfl HLd.out) ?_)
  clear HLd
  go_loopw [14] (fun iv wr => ∃ k : Nat, iv = .int .i64 (k : Int) ∧ k ≤ 4 ∧ Below w.heap.size w wr) (fun iv _ => 5 - (intOf iv).toNat)
  case atStart => exact ⟨0, rfl, by omega, Below.refl _ _⟩
  case round =>
    obtain ⟨k, rfl, hk, hB⟩ := hrel
    have hk2 : k = 0 ∨ k = 1 ∨ k = 2 ∨ k = 3 ∨ k = 4 := by omega
    rcases hk2 with rfl | rfl | rfl | rfl | rfl
    · have hix : ∀ W, (Instr.index 32 (.agg (pgC x0 c0 x1 c1 x3 c3).toArray) (.int .i64 ((0 : Nat) : Int))).run Tryd.prog W = .ok (.agg #[.bool false, .int .i64 0, .slice x0 8 c0, .string namesS, .bool false]) W := fun W => by kernel_rfl
      have N1 := Blk.new' wr 31 [.bool false, .int .i64 0, .slice x0 8 c0, .string namesS, .bool false]
      have bn1 : Below wr.heap.size wr (wr.alloc (.cells #[.bool false, .int .i64 0, .slice x0 8 c0, .string namesS, .bool false] 31)) := (Below.refl _ _).alloc (Nat.le_refl _) _
      obtain ⟨u1, hu1⟩ : ∃ y, y = wr.alloc (.cells #[.bool false, .int .i64 0, .slice x0 8 c0, .string namesS, .bool false] 31) := ⟨_, rfl⟩
      rw [← hu1] at N1 bn1
      obtain ⟨g, hg⟩ : ∃ y, y = wr.heap.size := ⟨_, rfl⟩
      rw [← hg] at N1
      have H1 : Hid _ := And.intro (below_then hB bn1) N1
      clear N1 bn1 hB hk
      go_upto_region 6 with (refine wpList_value16 rfl (exec_index16 rfl rfl rfl (hix _)) ?_)
      clear hix
      rw [← hu1, ← hg]
      clear hu1 hg
      have z0 := bk_at H1.out.2 0
      have z1 := bk_at H1.out.2 1
      have z2 := bk_at H1.out.2 2
      have z3 := bk_at H1.out.2 3
      have z4 := bk_at H1.out.2 4
      simp only [List.getElem?_cons_zero, List.getElem?_cons_succ] at z0 z1 z2 z3 z4
      have e0 : ((0 : Int) == pg) = false := by simp; omega
      have F : Hid _ := H1.out.1
      clear H1
      go_wp2
      go_roundw
      case rel => exact ⟨1, by first | rfl | go_num, by omega, F.out⟩
      case measure => simp [intOf]
    · have hix : ∀ W, (Instr.index 32 (.agg (pgC x0 c0 x1 c1 x3 c3).toArray) (.int .i64 ((1 : Nat) : Int))).run Tryd.prog W = .ok (.agg #[.bool true, .int .i64 0, .slice x1 3 c1, .string ⟨#[]⟩, .bool false]) W := fun W => by kernel_rfl
      have N1 := Blk.new' wr 31 [.bool true, .int .i64 0, .slice x1 3 c1, .string ⟨#[]⟩, .bool false]
      have bn1 : Below wr.heap.size wr (wr.alloc (.cells #[.bool true, .int .i64 0, .slice x1 3 c1, .string ⟨#[]⟩, .bool false] 31)) := (Below.refl _ _).alloc (Nat.le_refl _) _
      obtain ⟨u1, hu1⟩ : ∃ y, y = wr.alloc (.cells #[.bool true, .int .i64 0, .slice x1 3 c1, .string ⟨#[]⟩, .bool false] 31) := ⟨_, rfl⟩
      rw [← hu1] at N1 bn1
      obtain ⟨g, hg⟩ : ∃ y, y = wr.heap.size := ⟨_, rfl⟩
      rw [← hg] at N1
      have H1 : Hid _ := And.intro (below_then hB bn1) N1
      clear N1 bn1 hB hk
      go_upto_region 6 with (refine wpList_value16 rfl (exec_index16 rfl rfl rfl (hix _)) ?_)
      clear hix
      rw [← hu1, ← hg]
      clear hu1 hg
      have z0 := bk_at H1.out.2 0
      have z1 := bk_at H1.out.2 1
      have z2 := bk_at H1.out.2 2
      have z3 := bk_at H1.out.2 3
      have z4 := bk_at H1.out.2 4
      simp only [List.getElem?_cons_zero, List.getElem?_cons_succ] at z0 z1 z2 z3 z4
      have F : Hid _ := H1.out.1
      clear H1
      go_wp2
      go_roundw
      case rel => exact ⟨2, by first | rfl | go_num, by omega, F.out⟩
      case measure => simp [intOf]
    · have hix : ∀ W, (Instr.index 32 (.agg (pgC x0 c0 x1 c1 x3 c3).toArray) (.int .i64 ((2 : Nat) : Int))).run Tryd.prog W = .ok (.agg #[.bool true, .int .i64 128, .slice none 0 0, .string ⟨#[]⟩, .bool true]) W := fun W => by kernel_rfl
      have N1 := Blk.new' wr 31 [.bool true, .int .i64 128, .slice none 0 0, .string ⟨#[]⟩, .bool true]
      have bn1 : Below wr.heap.size wr (wr.alloc (.cells #[.bool true, .int .i64 128, .slice none 0 0, .string ⟨#[]⟩, .bool true] 31)) := (Below.refl _ _).alloc (Nat.le_refl _) _
      obtain ⟨u1, hu1⟩ : ∃ y, y = wr.alloc (.cells #[.bool true, .int .i64 128, .slice none 0 0, .string ⟨#[]⟩, .bool true] 31) := ⟨_, rfl⟩
      rw [← hu1] at N1 bn1
      obtain ⟨g, hg⟩ : ∃ y, y = wr.heap.size := ⟨_, rfl⟩
      rw [← hg] at N1
      have H1 : Hid _ := And.intro (below_then hB bn1) N1
      clear N1 bn1 hB hk
      go_upto_region 6 with (refine wpList_value16 rfl (exec_index16 rfl rfl rfl (hix _)) ?_)
      clear hix
      rw [← hu1, ← hg]
      clear hu1 hg
      have z0 := bk_at H1.out.2 0
      have z1 := bk_at H1.out.2 1
      have z2 := bk_at H1.out.2 2
      have z3 := bk_at H1.out.2 3
      have z4 := bk_at H1.out.2 4
      simp only [List.getElem?_cons_zero, List.getElem?_cons_succ] at z0 z1 z2 z3 z4
      have F : Hid _ := H1.out.1
      clear H1
      go_wp2
      go_roundw
      case rel => exact ⟨3, by first | rfl | go_num, by omega, F.out⟩
      case measure => simp [intOf]
    · have hix : ∀ W, (Instr.index 32 (.agg (pgC x0 c0 x1 c1 x3 c3).toArray) (.int .i64 ((3 : Nat) : Int))).run Tryd.prog W = .ok (.agg #[.bool true, .int .i64 131, .slice x3 4 c3, .string ⟨#[]⟩, .bool true]) W := fun W => by kernel_rfl
      have N1 := Blk.new' wr 31 [.bool true, .int .i64 131, .slice x3 4 c3, .string ⟨#[]⟩, .bool true]
      have bn1 : Below wr.heap.size wr (wr.alloc (.cells #[.bool true, .int .i64 131, .slice x3 4 c3, .string ⟨#[]⟩, .bool true] 31)) := (Below.refl _ _).alloc (Nat.le_refl _) _
      obtain ⟨u1, hu1⟩ : ∃ y, y = wr.alloc (.cells #[.bool true, .int .i64 131, .slice x3 4 c3, .string ⟨#[]⟩, .bool true] 31) := ⟨_, rfl⟩
      rw [← hu1] at N1 bn1
      obtain ⟨g, hg⟩ : ∃ y, y = wr.heap.size := ⟨_, rfl⟩
      rw [← hg] at N1
      have H1 : Hid _ := And.intro (below_then hB bn1) N1
      clear N1 bn1 hB hk
      go_upto_region 6 with (refine wpList_value16 rfl (exec_index16 rfl rfl rfl (hix _)) ?_)
      clear hix
      rw [← hu1, ← hg]
      clear hu1 hg
      have z0 := bk_at H1.out.2 0
      have z1 := bk_at H1.out.2 1
      have z2 := bk_at H1.out.2 2
      have z3 := bk_at H1.out.2 3
      have z4 := bk_at H1.out.2 4
      simp only [List.getElem?_cons_zero, List.getElem?_cons_succ] at z0 z1 z2 z3 z4
      have F : Hid _ := H1.out.1
      clear H1
      go_wp2
      go_roundw
      case rel => exact ⟨4, by first | rfl | go_num, by omega, F.out⟩
      case measure => simp [intOf]
    · have F : Hid _ := hB
      clear hB hk
      go_wp2
      refine bodyPost_ret (v := .tuple #[.slice none 0 0, .int .i64 11]) (by first | rfl | simp [results, Tryd.results4, go_sem]) rfl ?_
      exact ⟨_, rfl, Own.nil _ _, F.out⟩
set_option maxHeartbeats 8000000 in
theorem tInq_C (lun : Int) (w : World) (hP : PowS w) (hT : PgT w) (hl : fromB 0 lun 255 = true) :
    Calls Tryd.prog 4 #[.bool true, .int .i64 0, .int .i64 lun] w fun e w' => ∃ v, e = .returned (.tuple #[v, .int .i64 (inqR true 0 lun).2]) ∧ Own w' w.heap.size v (inqR true 0 lun).1 ∧ Below w.heap.size w w' := by
  obtain ⟨n, hn, rfl⟩ : ∃ n : Nat, n ≤ 255 ∧ lun = (n : Int) := ⟨lun.toNat, by have h := hl; unfold fromB at h; simp at h; omega, by have h := hl; unfold fromB at h; simp at h; omega⟩
  have HR : Hid (inqR true 0 (n : Int) = (pgB 0 pgh1 false n, 0)) := (by unfold inqR; rw [if_pos hl]; simp : inqR true 0 (n : Int) = (pgB 0 pgh1 false n, 0))
  rw [HR.out]
  clear HR
  simp only
  obtain ⟨x0, c0, x1, c1, x3, c3, ⟨tt, ff, hh⟩, hd0, hd1, hd3⟩ := hT.cells
  have HD : Hid _ := And.intro hP (And.intro hn (And.intro hd0 (And.intro hd1 hd3)))
  clear hd0 hd1 hd3 hP hn hT
  have HLd : Hid _ := load_pg hh
  clear hh
  go_enter Tryd.func4, Tryd.ntmps4
  go_wp2_with fail
  refine (Calls.mono (isFrom_any _ _ _ _)) ?_
  rintro e _ ⟨rfl, rfl⟩
  rw [hl]
  go_wp2_with (refine wpList_value16 rfl (exec_load16 rfl rfl HLd.out) ?_)
  clear HLd
  go_loopw [14] (fun iv wr => ∃ k : Nat, iv = .int .i64 (k : Int) ∧ k ≤ 1 ∧ Below w.heap.size w wr) (fun iv _ => 5 - (intOf iv).toNat)
  case atStart => exact ⟨0, rfl, by omega, Below.refl _ _⟩
  case round =>
    obtain ⟨k, rfl, hk, hB⟩ := hrel
    have hk2 : k = 0 ∨ k = 1 := by omega
    rcases hk2 with rfl | rfl
    · have hix : ∀ W, (Instr.index 32 (.agg (pgC x0 c0 x1 c1 x3 c3).toArray) (.int .i64 ((0 : Nat) : Int))).run Tryd.prog W = .ok (.agg #[.bool false, .int .i64 0, .slice x0 8 c0, .string namesS, .bool false]) W := fun W => by kernel_rfl
      have N1 := Blk.new' wr 31 [.bool false, .int .i64 0, .slice x0 8 c0, .string namesS, .bool false]
      have bn1 : Below wr.heap.size wr (wr.alloc (.cells #[.bool false, .int .i64 0, .slice x0 8 c0, .string namesS, .bool false] 31)) := (Below.refl _ _).alloc (Nat.le_refl _) _
      obtain ⟨u1, hu1⟩ : ∃ y, y = wr.alloc (.cells #[.bool false, .int .i64 0, .slice x0 8 c0, .string namesS, .bool false] 31) := ⟨_, rfl⟩
      rw [← hu1] at N1 bn1
      obtain ⟨g, hg⟩ : ∃ y, y = wr.heap.size := ⟨_, rfl⟩
      rw [← hg] at N1
      have H1 : Hid _ := And.intro (below_then hB bn1) N1
      clear N1 bn1 hB hk
      go_upto_region 6 with (refine wpList_value16 rfl (exec_index16 rfl rfl rfl (hix _)) ?_)
      clear hix
      rw [← hu1, ← hg]
      clear hu1 hg
      have z0 := bk_at H1.out.2 0
      have z1 := bk_at H1.out.2 1
      have z2 := bk_at H1.out.2 2
      have z3 := bk_at H1.out.2 3
      have z4 := bk_at H1.out.2 4
      simp only [List.getElem?_cons_zero, List.getElem?_cons_succ] at z0 z1 z2 z3 z4
      have F : Hid _ := H1.out.1
      clear H1
      go_wp2
      go_roundw
      case rel => exact ⟨1, by first | rfl | go_num, by omega, F.out⟩
      case measure => simp [intOf]
    · have hix : ∀ W, (Instr.index 32 (.agg (pgC x0 c0 x1 c1 x3 c3).toArray) (.int .i64 ((1 : Nat) : Int))).run Tryd.prog W = .ok (.agg #[.bool true, .int .i64 0, .slice x1 3 c1, .string ⟨#[]⟩, .bool false]) W := fun W => by kernel_rfl
      have N1 := Blk.new' wr 31 [.bool true, .int .i64 0, .slice x1 3 c1, .string ⟨#[]⟩, .bool false]
      have bn1 : Below wr.heap.size wr (wr.alloc (.cells #[.bool true, .int .i64 0, .slice x1 3 c1, .string ⟨#[]⟩, .bool false] 31)) := (Below.refl _ _).alloc (Nat.le_refl _) _
      obtain ⟨u1, hu1⟩ : ∃ y, y = wr.alloc (.cells #[.bool true, .int .i64 0, .slice x1 3 c1, .string ⟨#[]⟩, .bool false] 31) := ⟨_, rfl⟩
      rw [← hu1] at N1 bn1
      obtain ⟨g, hg⟩ : ∃ y, y = wr.heap.size := ⟨_, rfl⟩
      rw [← hg] at N1
      have H1 : Hid _ := And.intro (below_then hB bn1) N1
      clear N1 bn1 hB hk
      go_upto_region 6 with (refine wpList_value16 rfl (exec_index16 rfl rfl rfl (hix _)) ?_)
      clear hix
      rw [← hu1, ← hg]
      clear hu1 hg
      have z0 := bk_at H1.out.2 0
      have z1 := bk_at H1.out.2 1
      have z2 := bk_at H1.out.2 2
      have z3 := bk_at H1.out.2 3
      have z4 := bk_at H1.out.2 4
      simp only [List.getElem?_cons_zero, List.getElem?_cons_succ] at z0 z1 z2 z3 z4
      have HC : Hid _ := tRow_tf 0 n x1 c1 3 pgh1 ⟨#[]⟩ u1 (HD.out.1.later H1.out.1) (HD.out.2.2.2.1.later H1.out.1) rfl (by decide) (by decide) (by omega) HD.out.2.1
      go_wp2_with fail
      refine (Calls.mono HC.out) ?_
      rintro e u2 ⟨v, rfl, O2, b2⟩
      have F : Hid _ := And.intro (O2.lower H1.out.1.size) (below_then H1.out.1 b2)
      clear HC O2 b2 H1 z0 z1 z2 z3 z4
      go_wp2
      refine bodyPost_ret (v := .tuple #[v, .int .i64 0]) (by first | rfl | simp [results, Tryd.results4, go_sem]) rfl ?_
      exact ⟨_, rfl, F.out.1, F.out.2⟩
set_option maxHeartbeats 8000000 in
theorem tInq_D (lun : Int) (w : World) (hP : PowS w) (hT : PgT w) (hl : fromB 0 lun 255 = true) :
    Calls Tryd.prog 4 #[.bool true, .int .i64 128, .int .i64 lun] w fun e w' => ∃ v, e = .returned (.tuple #[v, .int .i64 (inqR true 128 lun).2]) ∧ Own w' w.heap.size v (inqR true 128 lun).1 ∧ Below w.heap.size w w' := by
  obtain ⟨n, hn, rfl⟩ : ∃ n : Nat, n ≤ 255 ∧ lun = (n : Int) := ⟨lun.toNat, by have h := hl; unfold fromB at h; simp at h; omega, by have h := hl; unfold fromB at h; simp at h; omega⟩
  have HR : Hid (inqR true 128 (n : Int) = (pgB 128 [] true n, 0)) := (by unfold inqR; rw [if_pos hl]; simp : inqR true 128 (n : Int) = (pgB 128 [] true n, 0))
  rw [HR.out]
  clear HR
  simp only
  obtain ⟨x0, c0, x1, c1, x3, c3, ⟨tt, ff, hh⟩, hd0, hd1, hd3⟩ := hT.cells
  have HD : Hid _ := And.intro hP (And.intro hn (And.intro hd0 (And.intro hd1 hd3)))
  clear hd0 hd1 hd3 hP hn hT
  have HLd : Hid _ := load_pg hh
  clear hh
  go_enter Tryd.func4, Tryd.ntmps4
  go_wp2_with fail
  refine (Calls.mono (isFrom_any _ _ _ _)) ?_
  rintro e _ ⟨rfl, rfl⟩
  rw [hl]
  go_wp2_with (refine wpList_value16 rfl (exec_load16 rfl rfl HLd.out) ?_)
  clear HLd
  go_loopw [14] (fun iv wr => ∃ k : Nat, iv = .int .i64 (k : Int) ∧ k ≤ 2 ∧ Below w.heap.size w wr) (fun iv _ => 5 - (intOf iv).toNat)
  case atStart => exact ⟨0, rfl, by omega, Below.refl _ _⟩
  case round =>
    obtain ⟨k, rfl, hk, hB⟩ := hrel
    have hk2 : k = 0 ∨ k = 1 ∨ k = 2 := by omega
    rcases hk2 with rfl | rfl | rfl
    · have hix : ∀ W, (Instr.index 32 (.agg (pgC x0 c0 x1 c1 x3 c3).toArray) (.int .i64 ((0 : Nat) : Int))).run Tryd.prog W = .ok (.agg #[.bool false, .int .i64 0, .slice x0 8 c0, .string namesS, .bool false]) W := fun W => by kernel_rfl
      have N1 := Blk.new' wr 31 [.bool false, .int .i64 0, .slice x0 8 c0, .string namesS, .bool false]
      have bn1 : Below wr.heap.size wr (wr.alloc (.cells #[.bool false, .int .i64 0, .slice x0 8 c0, .string namesS, .bool false] 31)) := (Below.refl _ _).alloc (Nat.le_refl _) _
      obtain ⟨u1, hu1⟩ : ∃ y, y = wr.alloc (.cells #[.bool false, .int .i64 0, .slice x0 8 c0, .string namesS, .bool false] 31) := ⟨_, rfl⟩
      rw [← hu1] at N1 bn1
      obtain ⟨g, hg⟩ : ∃ y, y = wr.heap.size := ⟨_, rfl⟩
      rw [← hg] at N1
      have H1 : Hid _ := And.intro (below_then hB bn1) N1
      clear N1 bn1 hB hk
      go_upto_region 6 with (refine wpList_value16 rfl (exec_index16 rfl rfl rfl (hix _)) ?_)
      clear hix
      rw [← hu1, ← hg]
      clear hu1 hg
      have z0 := bk_at H1.out.2 0
      have z1 := bk_at H1.out.2 1
      have z2 := bk_at H1.out.2 2
      have z3 := bk_at H1.out.2 3
      have z4 := bk_at H1.out.2 4
      simp only [List.getElem?_cons_zero, List.getElem?_cons_succ] at z0 z1 z2 z3 z4
      have F : Hid _ := H1.out.1
      clear H1
      go_wp2
      go_roundw
      case rel => exact ⟨1, by first | rfl | go_num, by omega, F.out⟩
      case measure => simp [intOf]
    · have hix : ∀ W, (Instr.index 32 (.agg (pgC x0 c0 x1 c1 x3 c3).toArray) (.int .i64 ((1 : Nat) : Int))).run Tryd.prog W = .ok (.agg #[.bool true, .int .i64 0, .slice x1 3 c1, .string ⟨#[]⟩, .bool false]) W := fun W => by kernel_rfl
      have N1 := Blk.new' wr 31 [.bool true, .int .i64 0, .slice x1 3 c1, .string ⟨#[]⟩, .bool false]
      have bn1 : Below wr.heap.size wr (wr.alloc (.cells #[.bool true, .int .i64 0, .slice x1 3 c1, .string ⟨#[]⟩, .bool false] 31)) := (Below.refl _ _).alloc (Nat.le_refl _) _
      obtain ⟨u1, hu1⟩ : ∃ y, y = wr.alloc (.cells #[.bool true, .int .i64 0, .slice x1 3 c1, .string ⟨#[]⟩, .bool false] 31) := ⟨_, rfl⟩
      rw [← hu1] at N1 bn1
      obtain ⟨g, hg⟩ : ∃ y, y = wr.heap.size := ⟨_, rfl⟩
      rw [← hg] at N1
      have H1 : Hid _ := And.intro (below_then hB bn1) N1
      clear N1 bn1 hB hk
      go_upto_region 6 with (refine wpList_value16 rfl (exec_index16 rfl rfl rfl (hix _)) ?_)
      clear hix
      rw [← hu1, ← hg]
      clear hu1 hg
      have z0 := bk_at H1.out.2 0
      have z1 := bk_at H1.out.2 1
      have z2 := bk_at H1.out.2 2
      have z3 := bk_at H1.out.2 3
      have z4 := bk_at H1.out.2 4
      simp only [List.getElem?_cons_zero, List.getElem?_cons_succ] at z0 z1 z2 z3 z4
      have F : Hid _ := H1.out.1
      clear H1
      go_wp2
      go_roundw
      case rel => exact ⟨2, by first | rfl | go_num, by omega, F.out⟩
      case measure => simp [intOf]
    · have hix : ∀ W, (Instr.index 32 (.agg (pgC x0 c0 x1 c1 x3 c3).toArray) (.int .i64 ((2 : Nat) : Int))).run Tryd.prog W = .ok (.agg #[.bool true, .int .i64 128, .slice none 0 0, .string ⟨#[]⟩, .bool true]) W := fun W => by kernel_rfl
      have N1 := Blk.new' wr 31 [.bool true, .int .i64 128, .slice none 0 0, .string ⟨#[]⟩, .bool true]
      have bn1 : Below wr.heap.size wr (wr.alloc (.cells #[.bool true, .int .i64 128, .slice none 0 0, .string ⟨#[]⟩, .bool true] 31)) := (Below.refl _ _).alloc (Nat.le_refl _) _
      obtain ⟨u1, hu1⟩ : ∃ y, y = wr.alloc (.cells #[.bool true, .int .i64 128, .slice none 0 0, .string ⟨#[]⟩, .bool true] 31) := ⟨_, rfl⟩
      rw [← hu1] at N1 bn1
      obtain ⟨g, hg⟩ : ∃ y, y = wr.heap.size := ⟨_, rfl⟩
      rw [← hg] at N1
      have H1 : Hid _ := And.intro (below_then hB bn1) N1
      clear N1 bn1 hB hk
      go_upto_region 6 with (refine wpList_value16 rfl (exec_index16 rfl rfl rfl (hix _)) ?_)
      clear hix
      rw [← hu1, ← hg]
      clear hu1 hg
      have z0 := bk_at H1.out.2 0
      have z1 := bk_at H1.out.2 1
      have z2 := bk_at H1.out.2 2
      have z3 := bk_at H1.out.2 3
      have z4 := bk_at H1.out.2 4
      simp only [List.getElem?_cons_zero, List.getElem?_cons_succ] at z0 z1 z2 z3 z4
      have HC : Hid _ := tRow_tt 128 n none 0 0 [] ⟨#[]⟩ u1 (HD.out.1.later H1.out.1) ⟨.inl rfl, Nat.le_refl _, fun _ => rfl⟩ rfl (by decide) (by decide) (by omega) HD.out.2.1
      go_wp2_with fail
      refine (Calls.mono HC.out) ?_
      rintro e u2 ⟨v, rfl, O2, b2⟩
      have F : Hid _ := And.intro (O2.lower H1.out.1.size) (below_then H1.out.1 b2)
      clear HC O2 b2 H1 z0 z1 z2 z3 z4
      go_wp2
      refine bodyPost_ret (v := .tuple #[v, .int .i64 0]) (by first | rfl | simp [results, Tryd.results4, go_sem]) rfl ?_
      exact ⟨_, rfl, F.out.1, F.out.2⟩
set_option maxHeartbeats 8000000 in
theorem tInq_E (lun : Int) (w : World) (hP : PowS w) (hT : PgT w) (hl : fromB 0 lun 255 = true) :
    Calls Tryd.prog 4 #[.bool true, .int .i64 131, .int .i64 lun] w fun e w' => ∃ v, e = .returned (.tuple #[v, .int .i64 (inqR true 131 lun).2]) ∧ Own w' w.heap.size v (inqR true 131 lun).1 ∧ Below w.heap.size w w' := by
  obtain ⟨n, hn, rfl⟩ : ∃ n : Nat, n ≤ 255 ∧ lun = (n : Int) := ⟨lun.toNat, by have h := hl; unfold fromB at h; simp at h; omega, by have h := hl; unfold fromB at h; simp at h; omega⟩
  have HR : Hid (inqR true 131 (n : Int) = (pgB 131 pgh3 true n, 0)) := (by unfold inqR; rw [if_pos hl]; simp : inqR true 131 (n : Int) = (pgB 131 pgh3 true n, 0))
  rw [HR.out]
  clear HR
  simp only
  obtain ⟨x0, c0, x1, c1, x3, c3, ⟨tt, ff, hh⟩, hd0, hd1, hd3⟩ := hT.cells
  have HD : Hid _ := And.intro hP (And.intro hn (And.intro hd0 (And.intro hd1 hd3)))
  clear hd0 hd1 hd3 hP hn hT
  have HLd : Hid _ := load_pg hh
  clear hh
  go_enter Tryd.func4, Tryd.ntmps4
  go_wp2_with fail
  refine (Calls.mono (isFrom_any _ _ _ _)) ?_
  rintro e _ ⟨rfl, rfl⟩
  rw [hl]
  go_wp2_with (refine wpList_value16 rfl (exec_load16 rfl rfl HLd.out) ?_)
  clear HLd
  go_loopw [14] (fun iv wr => ∃ k : Nat, iv = .int .i64 (k : Int) ∧ k ≤ 3 ∧ Below w.heap.size w wr) (fun iv _ => 5 - (intOf iv).toNat)
  case atStart => exact ⟨0, rfl, by omega, Below.refl _ _⟩
  case round =>
    obtain ⟨k, rfl, hk, hB⟩ := hrel
    have hk2 : k = 0 ∨ k = 1 ∨ k = 2 ∨ k = 3 := by omega
    rcases hk2 with rfl | rfl | rfl | rfl
    · have hix : ∀ W, (Instr.index 32 (.agg (pgC x0 c0 x1 c1 x3 c3).toArray) (.int .i64 ((0 : Nat) : Int))).run Tryd.prog W = .ok (.agg #[.bool false, .int .i64 0, .slice x0 8 c0, .string namesS, .bool false]) W := fun W => by kernel_rfl
      have N1 := Blk.new' wr 31 [.bool false, .int .i64 0, .slice x0 8 c0, .string namesS, .bool false]
      have bn1 : Below wr.heap.size wr (wr.alloc (.cells #[.bool false, .int .i64 0, .slice x0 8 c0, .string namesS, .bool false] 31)) := (Below.refl _ _).alloc (Nat.le_refl _) _
      obtain ⟨u1, hu1⟩ : ∃ y, y = wr.alloc (.cells #[.bool false, .int .i64 0, .slice x0 8 c0, .string namesS, .bool false] 31) := ⟨_, rfl⟩
      rw [← hu1] at N1 bn1
      obtain ⟨g, hg⟩ : ∃ y, y = wr.heap.size := ⟨_, rfl⟩
      rw [← hg] at N1
      have H1 : Hid _ := And.intro (below_then hB bn1) N1
      clear N1 bn1 hB hk
      go_upto_region 6 with (refine wpList_value16 rfl (exec_index16 rfl rfl rfl (hix _)) ?_)
      clear hix
      rw [← hu1, ← hg]
      clear hu1 hg
      have z0 := bk_at H1.out.2 0
      have z1 := bk_at H1.out.2 1
      have z2 := bk_at H1.out.2 2
      have z3 := bk_at H1.out.2 3
      have z4 := bk_at H1.out.2 4
      simp only [List.getElem?_cons_zero, List.getElem?_cons_succ] at z0 z1 z2 z3 z4
      have F : Hid _ := H1.out.1
      clear H1
      go_wp2
      go_roundw
      case rel => exact ⟨1, by first | rfl | go_num, by omega, F.out⟩
      case measure => simp [intOf]
    · have hix : ∀ W, (Instr.index 32 (.agg (pgC x0 c0 x1 c1 x3 c3).toArray) (.int .i64 ((1 : Nat) : Int))).run Tryd.prog W = .ok (.agg #[.bool true, .int .i64 0, .slice x1 3 c1, .string ⟨#[]⟩, .bool false]) W := fun W => by kernel_rfl
      have N1 := Blk.new' wr 31 [.bool true, .int .i64 0, .slice x1 3 c1, .string ⟨#[]⟩, .bool false]
      have bn1 : Below wr.heap.size wr (wr.alloc (.cells #[.bool true, .int .i64 0, .slice x1 3 c1, .string ⟨#[]⟩, .bool false] 31)) := (Below.refl _ _).alloc (Nat.le_refl _) _
      obtain ⟨u1, hu1⟩ : ∃ y, y = wr.alloc (.cells #[.bool true, .int .i64 0, .slice x1 3 c1, .string ⟨#[]⟩, .bool false] 31) := ⟨_, rfl⟩
      rw [← hu1] at N1 bn1
      obtain ⟨g, hg⟩ : ∃ y, y = wr.heap.size := ⟨_, rfl⟩
      rw [← hg] at N1
      have H1 : Hid _ := And.intro (below_then hB bn1) N1
      clear N1 bn1 hB hk
      go_upto_region 6 with (refine wpList_value16 rfl (exec_index16 rfl rfl rfl (hix _)) ?_)
      clear hix
      rw [← hu1, ← hg]
      clear hu1 hg
      have z0 := bk_at H1.out.2 0
      have z1 := bk_at H1.out.2 1
      have z2 := bk_at H1.out.2 2
      have z3 := bk_at H1.out.2 3
      have z4 := bk_at H1.out.2 4
      simp only [List.getElem?_cons_zero, List.getElem?_cons_succ] at z0 z1 z2 z3 z4
      have F : Hid _ := H1.out.1
      clear H1
      go_wp2
      go_roundw
      case rel => exact ⟨2, by first | rfl | go_num, by omega, F.out⟩
      case measure => simp [intOf]
    · have hix : ∀ W, (Instr.index 32 (.agg (pgC x0 c0 x1 c1 x3 c3).toArray) (.int .i64 ((2 : Nat) : Int))).run Tryd.prog W = .ok (.agg #[.bool true, .int .i64 128, .slice none 0 0, .string ⟨#[]⟩, .bool true]) W := fun W => by kernel_rfl
      have N1 := Blk.new' wr 31 [.bool true, .int .i64 128, .slice none 0 0, .string ⟨#[]⟩, .bool true]
      have bn1 : Below wr.heap.size wr (wr.alloc (.cells #[.bool true, .int .i64 128, .slice none 0 0, .string ⟨#[]⟩, .bool true] 31)) := (Below.refl _ _).alloc (Nat.le_refl _) _
      obtain ⟨u1, hu1⟩ : ∃ y, y = wr.alloc (.cells #[.bool true, .int .i64 128, .slice none 0 0, .string ⟨#[]⟩, .bool true] 31) := ⟨_, rfl⟩
      rw [← hu1] at N1 bn1
      obtain ⟨g, hg⟩ : ∃ y, y = wr.heap.size := ⟨_, rfl⟩
      rw [← hg] at N1
      have H1 : Hid _ := And.intro (below_then hB bn1) N1
      clear N1 bn1 hB hk
      go_upto_region 6 with (refine wpList_value16 rfl (exec_index16 rfl rfl rfl (hix _)) ?_)
      clear hix
      rw [← hu1, ← hg]
      clear hu1 hg
      have z0 := bk_at H1.out.2 0
      have z1 := bk_at H1.out.2 1
      have z2 := bk_at H1.out.2 2
      have z3 := bk_at H1.out.2 3
      have z4 := bk_at H1.out.2 4
      simp only [List.getElem?_cons_zero, List.getElem?_cons_succ] at z0 z1 z2 z3 z4
      have F : Hid _ := H1.out.1
      clear H1
      go_wp2
      go_roundw
      case rel => exact ⟨3, by first | rfl | go_num, by omega, F.out⟩
      case measure => simp [intOf]
    · have hix : ∀ W, (Instr.index 32 (.agg (pgC x0 c0 x1 c1 x3 c3).toArray) (.int .i64 ((3 : Nat) : Int))).run Tryd.prog W = .ok (.agg #[.bool true, .int .i64 131, .slice x3 4 c3, .string ⟨#[]⟩, .bool true]) W := fun W => by kernel_rfl
      have N1 := Blk.new' wr 31 [.bool true, .int .i64 131, .slice x3 4 c3, .string ⟨#[]⟩, .bool true]
      have bn1 : Below wr.heap.size wr (wr.alloc (.cells #[.bool true, .int .i64 131, .slice x3 4 c3, .string ⟨#[]⟩, .bool true] 31)) := (Below.refl _ _).alloc (Nat.le_refl _) _
      obtain ⟨u1, hu1⟩ : ∃ y, y = wr.alloc (.cells #[.bool true, .int .i64 131, .slice x3 4 c3, .string ⟨#[]⟩, .bool true] 31) := ⟨_, rfl⟩
      rw [← hu1] at N1 bn1
      obtain ⟨g, hg⟩ : ∃ y, y = wr.heap.size := ⟨_, rfl⟩
      rw [← hg] at N1
      have H1 : Hid _ := And.intro (below_then hB bn1) N1
      clear N1 bn1 hB hk
      go_upto_region 6 with (refine wpList_value16 rfl (exec_index16 rfl rfl rfl (hix _)) ?_)
      clear hix
      rw [← hu1, ← hg]
      clear hu1 hg
      have z0 := bk_at H1.out.2 0
      have z1 := bk_at H1.out.2 1
      have z2 := bk_at H1.out.2 2
      have z3 := bk_at H1.out.2 3
      have z4 := bk_at H1.out.2 4
      simp only [List.getElem?_cons_zero, List.getElem?_cons_succ] at z0 z1 z2 z3 z4
      have HC : Hid _ := tRow_tt 131 n x3 c3 4 pgh3 ⟨#[]⟩ u1 (HD.out.1.later H1.out.1) (HD.out.2.2.2.2.later H1.out.1) rfl (by decide) (by decide) (by omega) HD.out.2.1
      go_wp2_with fail
      refine (Calls.mono HC.out) ?_
      rintro e u2 ⟨v, rfl, O2, b2⟩
      have F : Hid _ := And.intro (O2.lower H1.out.1.size) (below_then H1.out.1 b2)
      clear HC O2 b2 H1 z0 z1 z2 z3 z4
      go_wp2
      refine bodyPost_ret (v := .tuple #[v, .int .i64 0]) (by first | rfl | simp [results, Tryd.results4, go_sem]) rfl ?_
      exact ⟨_, rfl, F.out.1, F.out.2⟩
set_option maxHeartbeats 8000000 in
theorem tInq_F (pg lun : Int) (w : World) (hP : PowS w) (hT : PgT w) (h0 : ¬ pg = 0) (h1 : ¬ pg = 128) (h2 : ¬ pg = 131) (hl : fromB 0 lun 255 = true) :
    Calls Tryd.prog 4 #[.bool true, .int .i64 pg, .int .i64 lun] w fun e w' => ∃ v, e = .returned (.tuple #[v, .int .i64 (inqR true pg lun).2]) ∧ Own w' w.heap.size v (inqR true pg lun).1 ∧ Below w.heap.size w w' := by
  obtain ⟨n, hn, rfl⟩ : ∃ n : Nat, n ≤ 255 ∧ lun = (n : Int) := ⟨lun.toNat, by have h := hl; unfold fromB at h; simp at h; omega, by have h := hl; unfold fromB at h; simp at h; omega⟩
  have HR : Hid (inqR true pg (n : Int) = ([], 11)) := (by unfold inqR; rw [if_pos hl]; simp [h0, h1, h2] : inqR true pg (n : Int) = ([], 11))
  rw [HR.out]
  clear HR
  simp only
  obtain ⟨x0, c0, x1, c1, x3, c3, ⟨tt, ff, hh⟩, hd0, hd1, hd3⟩ := hT.cells
  have HD : Hid _ := And.intro hP (And.intro hn (And.intro hd0 (And.intro hd1 hd3)))
  clear hd0 hd1 hd3 hP hn hT
  have HLd : Hid _ := load_pg hh
  clear hh
  go_enter Tryd.func4, Tryd.ntmps4
  go_wp2_with fail
  refine (Calls.mono (isFrom_any _ _ _ _)) ?_
  rintro e _ ⟨rfl, rfl⟩
  rw [hl]
  go_wp2_with (refine wpList_value16 rfl (exec_load16 rfl rfl HLd.out) ?_)
  clear HLd
  go_loopw [14] (fun iv wr => ∃ k : Nat, iv = .int .i64 (k : Int) ∧ k ≤ 4 ∧ Below w.heap.size w wr) (fun iv _ => 5 - (intOf iv).toNat)
  case atStart => exact ⟨0, rfl, by omega, Below.refl _ _⟩
  case round =>
    obtain ⟨k, rfl, hk, hB⟩ := hrel
    have hk2 : k = 0 ∨ k = 1 ∨ k = 2 ∨ k = 3 ∨ k = 4 := by omega
    rcases hk2 with rfl | rfl | rfl | rfl | rfl
    · have hix : ∀ W, (Instr.index 32 (.agg (pgC x0 c0 x1 c1 x3 c3).toArray) (.int .i64 ((0 : Nat) : Int))).run Tryd.prog W = .ok (.agg #[.bool false, .int .i64 0, .slice x0 8 c0, .string namesS, .bool false]) W := fun W => by kernel_rfl
      have N1 := Blk.new' wr 31 [.bool false, .int .i64 0, .slice x0 8 c0, .string namesS, .bool false]
      have bn1 : Below wr.heap.size wr (wr.alloc (.cells #[.bool false, .int .i64 0, .slice x0 8 c0, .string namesS, .bool false] 31)) := (Below.refl _ _).alloc (Nat.le_refl _) _
      obtain ⟨u1, hu1⟩ : ∃ y, y = wr.alloc (.cells #[.bool false, .int .i64 0, .slice x0 8 c0, .string namesS, .bool false] 31) := ⟨_, rfl⟩
      rw [← hu1] at N1 bn1
      obtain ⟨g, hg⟩ : ∃ y, y = wr.heap.size := ⟨_, rfl⟩
      rw [← hg] at N1
      have H1 : Hid _ := And.intro (below_then hB bn1) N1
      clear N1 bn1 hB hk
      go_upto_region 6 with (refine wpList_value16 rfl (exec_index16 rfl rfl rfl (hix _)) ?_)
      clear hix
      rw [← hu1, ← hg]
      clear hu1 hg
      have z0 := bk_at H1.out.2 0
      have z1 := bk_at H1.out.2 1
      have z2 := bk_at H1.out.2 2
      have z3 := bk_at H1.out.2 3
      have z4 := bk_at H1.out.2 4
      simp only [List.getElem?_cons_zero, List.getElem?_cons_succ] at z0 z1 z2 z3 z4
      have F : Hid _ := H1.out.1
      clear H1
      go_wp2
      go_roundw
      case rel => exact ⟨1, by first | rfl | go_num, by omega, F.out⟩
      case measure => simp [intOf]
    · have hix : ∀ W, (Instr.index 32 (.agg (pgC x0 c0 x1 c1 x3 c3).toArray) (.int .i64 ((1 : Nat) : Int))).run Tryd.prog W = .ok (.agg #[.bool true, .int .i64 0, .slice x1 3 c1, .string ⟨#[]⟩, .bool false]) W := fun W => by kernel_rfl
      have N1 := Blk.new' wr 31 [.bool true, .int .i64 0, .slice x1 3 c1, .string ⟨#[]⟩, .bool false]
      have bn1 : Below wr.heap.size wr (wr.alloc (.cells #[.bool true, .int .i64 0, .slice x1 3 c1, .string ⟨#[]⟩, .bool false] 31)) := (Below.refl _ _).alloc (Nat.le_refl _) _
      obtain ⟨u1, hu1⟩ : ∃ y, y = wr.alloc (.cells #[.bool true, .int .i64 0, .slice x1 3 c1, .string ⟨#[]⟩, .bool false] 31) := ⟨_, rfl⟩
      rw [← hu1] at N1 bn1
      obtain ⟨g, hg⟩ : ∃ y, y = wr.heap.size := ⟨_, rfl⟩
      rw [← hg] at N1
      have H1 : Hid _ := And.intro (below_then hB bn1) N1
      clear N1 bn1 hB hk
      go_upto_region 6 with (refine wpList_value16 rfl (exec_index16 rfl rfl rfl (hix _)) ?_)
      clear hix
      rw [← hu1, ← hg]
      clear hu1 hg
      have z0 := bk_at H1.out.2 0
      have z1 := bk_at H1.out.2 1
      have z2 := bk_at H1.out.2 2
      have z3 := bk_at H1.out.2 3
      have z4 := bk_at H1.out.2 4
      simp only [List.getElem?_cons_zero, List.getElem?_cons_succ] at z0 z1 z2 z3 z4
      have e0 : ((0 : Int) == pg) = false := by simp; omega
      have F : Hid _ := H1.out.1
      clear H1
      go_wp2
      go_roundw
      case rel => exact ⟨2, by first | rfl | go_num, by omega, F.out⟩
      case measure => simp [intOf]
    · have hix : ∀ W, (Instr.index 32 (.agg (pgC x0 c0 x1 c1 x3 c3).toArray) (.int .i64 ((2 : Nat) : Int))).run Tryd.prog W = .ok (.agg #[.bool true, .int .i64 128, .slice none 0 0, .string ⟨#[]⟩, .bool true]) W := fun W => by kernel_rfl
      have N1 := Blk.new' wr 31 [.bool true, .int .i64 128, .slice none 0 0, .string ⟨#[]⟩, .bool true]
      have bn1 : Below wr.heap.size wr (wr.alloc (.cells #[.bool true, .int .i64 128, .slice none 0 0, .string ⟨#[]⟩, .bool true] 31)) := (Below.refl _ _).alloc (Nat.le_refl _) _
      obtain ⟨u1, hu1⟩ : ∃ y, y = wr.alloc (.cells #[.bool true, .int .i64 128, .slice none 0 0, .string ⟨#[]⟩, .bool true] 31) := ⟨_, rfl⟩
      rw [← hu1] at N1 bn1
      obtain ⟨g, hg⟩ : ∃ y, y = wr.heap.size := ⟨_, rfl⟩
      rw [← hg] at N1
      have H1 : Hid _ := And.intro (below_then hB bn1) N1
      clear N1 bn1 hB hk
      go_upto_region 6 with (refine wpList_value16 rfl (exec_index16 rfl rfl rfl (hix _)) ?_)
      clear hix
      rw [← hu1, ← hg]
      clear hu1 hg
      have z0 := bk_at H1.out.2 0
      have z1 := bk_at H1.out.2 1
      have z2 := bk_at H1.out.2 2
      have z3 := bk_at H1.out.2 3
      have z4 := bk_at H1.out.2 4
      simp only [List.getElem?_cons_zero, List.getElem?_cons_succ] at z0 z1 z2 z3 z4
      have e0 : ((128 : Int) == pg) = false := by simp; omega
      have F : Hid _ := H1.out.1
      clear H1
      go_wp2
      go_roundw
      case rel => exact ⟨3, by first | rfl | go_num, by omega, F.out⟩
      case measure => simp [intOf]
    · have hix : ∀ W, (Instr.index 32 (.agg (pgC x0 c0 x1 c1 x3 c3).toArray) (.int .i64 ((3 : Nat) : Int))).run Tryd.prog W = .ok (.agg #[.bool true, .int .i64 131, .slice x3 4 c3, .string ⟨#[]⟩, .bool true]) W := fun W => by kernel_rfl
      have N1 := Blk.new' wr 31 [.bool true, .int .i64 131, .slice x3 4 c3, .string ⟨#[]⟩, .bool true]
      have bn1 : Below wr.heap.size wr (wr.alloc (.cells #[.bool true, .int .i64 131, .slice x3 4 c3, .string ⟨#[]⟩, .bool true] 31)) := (Below.refl _ _).alloc (Nat.le_refl _) _
      obtain ⟨u1, hu1⟩ : ∃ y, y = wr.alloc (.cells #[.bool true, .int .i64 131, .slice x3 4 c3, .string ⟨#[]⟩, .bool true] 31) := ⟨_, rfl⟩
      rw [← hu1] at N1 bn1
      obtain ⟨g, hg⟩ : ∃ y, y = wr.heap.size := ⟨_, rfl⟩
      rw [← hg] at N1
      have H1 : Hid _ := And.intro (below_then hB bn1) N1
      clear N1 bn1 hB hk
      go_upto_region 6 with (refine wpList_value16 rfl (exec_index16 rfl rfl rfl (hix _)) ?_)
      clear hix
      rw [← hu1, ← hg]
      clear hu1 hg
      have z0 := bk_at H1.out.2 0
      have z1 := bk_at H1.out.2 1
      have z2 := bk_at H1.out.2 2
      have z3 := bk_at H1.out.2 3
      have z4 := bk_at H1.out.2 4
      simp only [List.getElem?_cons_zero, List.getElem?_cons_succ] at z0 z1 z2 z3 z4
      have e0 : ((131 : Int) == pg) = false := by simp; omega
      have F : Hid _ := H1.out.1
      clear H1
      go_wp2
      go_roundw
      case rel => exact ⟨4, by first | rfl | go_num, by omega, F.out⟩
      case measure => simp [intOf]
    · have F : Hid _ := hB
      clear hB hk
      go_wp2
      refine bodyPost_ret (v := .tuple #[.slice none 0 0, .int .i64 11]) (by first | rfl | simp [results, Tryd.results4, go_sem]) rfl ?_
      exact ⟨_, rfl, Own.nil _ _, F.out⟩
set_option maxHeartbeats 2000000 in
theorem tInq_no (vit : Bool) (pg lun : Int) (w : World) (hP : PowS w) (hT : PgT w) (hl : fromB 0 lun 255 = false) :
    Calls Tryd.prog 4 #[.bool vit, .int .i64 pg, .int .i64 lun] w fun e w' => ∃ v, e = .returned (.tuple #[v, .int .i64 (inqR vit pg lun).2]) ∧ Own w' w.heap.size v (inqR vit pg lun).1 ∧ Below w.heap.size w w' := by
  have HR : Hid (inqR vit pg lun = ([], 1)) := (by unfold inqR; rw [if_neg (by rw [hl]; decide)] : inqR vit pg lun = ([], 1))
  rw [HR.out]
  clear HR hP hT
  go_enter Tryd.func4, Tryd.ntmps4
  go_wp2_with fail
  refine (Calls.mono (isFrom_any _ _ _ _)) ?_
  rintro e _ ⟨rfl, rfl⟩
  rw [hl]
  go_wp2
  refine bodyPost_ret (v := .tuple #[.slice none 0 0, .int .i64 1]) (by first | rfl | simp [results, Tryd.results4, go_sem]) rfl ?_
  exact ⟨_, rfl, Own.nil _ _, Below.refl _ _⟩
theorem tInq_any (vit : Bool) (pg lun : Int) (w : World) (hP : PowS w) (hT : PgT w) :
    Calls Tryd.prog 4 #[.bool vit, .int .i64 pg, .int .i64 lun] w fun e w' => ∃ v, e = .returned (.tuple #[v, .int .i64 (inqR vit pg lun).2]) ∧ Own w' w.heap.size v (inqR vit pg lun).1 ∧ Below w.heap.size w w' := by
  cases hl : fromB 0 lun 255 with
  | false => exact tInq_no vit pg lun w hP hT hl
  | true =>
    cases vit
    · by_cases h0 : pg = 0
      · subst h0; exact tInq_A lun w hP hT hl
      · exact tInq_B pg lun w hP hT h0 hl
    · by_cases h0 : pg = 0
      · subst h0; exact tInq_C lun w hP hT hl
      · by_cases h1 : pg = 128
        · subst h1; exact tInq_D lun w hP hT hl
        · by_cases h2 : pg = 131
          · subst h2; exact tInq_E lun w hP hT hl
          · exact tInq_F pg lun w hP hT h0 h1 h2 hl
end Go.Proofs.YtncplnejoppekaaDoor
