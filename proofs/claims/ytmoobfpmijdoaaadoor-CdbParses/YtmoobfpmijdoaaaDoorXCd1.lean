/- cdb: the table of commands, in memory and as data; find. -/
import Derived.Test.YtmoobfpmijdoaaaDoorXFieldX1
import Derived.Test.YtmoobfpmijdoaaaDoorXDraw
import Derived.Test.YtmoobfpmijdoaaaDoorXDkW1
import Derived.Deep.CutRange
import Derived.Deep.QuietTactic
import Derived.BigQuiet
namespace Go.Proofs.YtmoobfpmijdoaaaDoor
open Go.RowKit
set_option linter.unusedVariables false
set_option linter.unusedSimpArgs false
set_option maxRecDepth 4000

theorem ck_at {w : World} {g : Nat} {t : TypeId} {xs : List Value} (h : Blk w g t xs) (i : Nat) : w.cell? ⟨g, i, none⟩ = xs[i]? := by
  unfold Blk at h; simp [World.cell?, h]
theorem ck_fz {w : World} {g : Nat} {t : TypeId} {xs : List Value} (h : Blk w g t xs) (i : Nat) : w.frozen? ⟨g, i, none⟩ = false := by
  unfold Blk at h; simp [World.frozen?, h]
theorem ck_later {w w' : World} {x : Addr} {v : Value} (h : w.cell? x = some v) (hb : Below w.heap.size w w') : w'.cell? x = some v := by
  have hx : x.block < w.heap.size := World.block_lt_of_cell? w x h
  unfold World.cell? at *
  rw [hb.block x.block hx]
  exact h
/-- a row of the table: its operation, and where its fields stand (byte, bits) -/
structure CR where
  o : Int
  ps : List (Int × Int)
def CR.cells (r : CR) : List Value := .int .u8 r.o :: r.ps.flatMap (fun p => [.int .u8 p.1, .int .u8 p.2])
def tbl : List CR := [⟨0, [(0, 0), (0, 0), (0, 0), (0, 0), (0, 0), (0, 0)]⟩,
  ⟨3, [(0, 0), (0, 0), (0, 0), (0, 0), (0, 0), (4, 8)]⟩,
  ⟨18, [(0, 0), (2, 8), (1, 1), (0, 0), (0, 0), (3, 16)]⟩,
  ⟨37, [(0, 0), (0, 0), (0, 0), (0, 0), (0, 0), (0, 0)]⟩,
  ⟨40, [(0, 0), (0, 0), (0, 0), (0, 0), (2, 32), (7, 16)]⟩,
  ⟨42, [(0, 0), (0, 0), (0, 0), (0, 0), (2, 32), (7, 16)]⟩,
  ⟨53, [(0, 0), (0, 0), (0, 0), (0, 0), (2, 32), (7, 16)]⟩,
  ⟨66, [(0, 0), (0, 0), (0, 0), (0, 0), (0, 0), (7, 16)]⟩,
  ⟨94, [(1, 5), (0, 0), (0, 0), (0, 0), (0, 0), (7, 16)]⟩,
  ⟨95, [(1, 5), (0, 0), (0, 0), (2, 4), (0, 0), (5, 32)]⟩,
  ⟨136, [(0, 0), (0, 0), (0, 0), (0, 0), (2, 64), (10, 32)]⟩,
  ⟨138, [(0, 0), (0, 0), (0, 0), (0, 0), (2, 64), (10, 32)]⟩,
  ⟨160, [(0, 0), (2, 8), (0, 0), (0, 0), (0, 0), (6, 32)]⟩,
  ⟨163, [(1, 5), (0, 0), (0, 0), (0, 0), (0, 0), (6, 32)]⟩]
def tblC : List Value := tbl.flatMap CR.cells
theorem tblC_len : tblC.length = 182 := by decide
/-- the table stands where the program has it -/
def TblAt (w : World) : Prop := ∀ j v, tblC[j]? = some v → w.cell? ⟨1, j, none⟩ = some v
theorem TblAt.later {w w' : World} (h : TblAt w) (hb : Below w.heap.size w w') : TblAt w' := fun j v hj => ck_later (h j v hj) hb
theorem size_tb : (Tryd.prog.info? 116).map (·.size) = some 182 := by kernel_rfl
theorem load_tb {w : World} (h : TblAt w) : (Instr.loadAt 116 (.pointer (some ⟨1, 0, none⟩))).run Tryd.prog w = .ok (.agg tblC.toArray) w := by
  have h2 : (loadCells ⟨1, 0, none⟩ tblC.length).run Tryd.prog w = .ok tblC.toArray w := run_loadCells_list (P := Tryd.prog) w ⟨1, 0, none⟩ tblC (fun j v hj => by
    have hadd : (⟨1, 0, none⟩ : Addr).add j = ⟨1, 0 + j, none⟩ := by unfold Addr.add; split <;> simp_all
    rw [hadd, Nat.zero_add]; exact h j v hj)
  rw [tblC_len] at h2
  obtain ⟨i, hi, hz⟩ := Option.map_eq_some_iff.1 size_tb
  have hagg : (isAgg 116).run Tryd.prog w = .ok true w := by
    unfold isAgg
    rw [Sem.run_bind, run_underlying Tryd.underlying116 w]
    rfl
  simp [Instr.loadAt, Instr.sureAddr, loadVar, Sem.run_bind, hagg, sizeOf, typeInfo, hi, hz, h2]
def CR0 : CR := ⟨0, []⟩
def rowK (k : Nat) : CR := tbl.getD k CR0
theorem ix_tb (k : Nat) (hk : k < 14) (w : World) : (Instr.index 116 (.agg tblC.toArray) (.int .i64 (k : Int))).run Tryd.prog w = .ok (.agg (rowK k).cells.toArray) w := by
  have hk' : k = 0 ∨ k = 1 ∨ k = 2 ∨ k = 3 ∨ k = 4 ∨ k = 5 ∨ k = 6 ∨ k = 7 ∨ k = 8 ∨ k = 9 ∨ k = 10 ∨ k = 11 ∨ k = 12 ∨ k = 13 := by omega
  rcases hk' with rfl | rfl | rfl | rfl | rfl | rfl | rfl | rfl | rfl | rfl | rfl | rfl | rfl | rfl <;> (first | rfl | (show _ = _; kernel_rfl))
theorem row_open (k : Nat) (hk : k < 14) : ∃ o a0 b0 a1 b1 a2 b2 a3 b3 a4 b4 a5 b5, (0 ≤ o ∧ o < 256) ∧ rowK k = ⟨o, [(a0, b0), (a1, b1), (a2, b2), (a3, b3), (a4, b4), (a5, b5)]⟩ := by
  have hk' : k = 0 ∨ k = 1 ∨ k = 2 ∨ k = 3 ∨ k = 4 ∨ k = 5 ∨ k = 6 ∨ k = 7 ∨ k = 8 ∨ k = 9 ∨ k = 10 ∨ k = 11 ∨ k = 12 ∨ k = 13 := by omega
  rcases hk' with rfl | rfl | rfl | rfl | rfl | rfl | rfl | rfl | rfl | rfl | rfl | rfl | rfl | rfl <;> exact ⟨_, _, _, _, _, _, _, _, _, _, _, _, _, by decide, rfl⟩
/-- the row of an operation -/
def findR (op : Int) : Option CR := tbl.find? (fun r => r.o == op)
theorem find_yes {op : Int} {k : Nat} (hk : k < 14) (h : ∀ j, j < k → (rowK j).o ≠ op) (he : (rowK k).o = op) : findR op = some (rowK k) := by
  unfold findR
  rw [List.find?_eq_some_iff_getElem]
  refine ⟨by rw [he]; simp, k, by simpa [tbl] using hk, ?_, fun j hj => ?_⟩
  · unfold rowK; rw [List.getD_eq_getElem?_getD, List.getElem?_eq_getElem (by simpa [tbl] using hk)]; rfl
  · have := h j hj
    unfold rowK at this
    rw [List.getD_eq_getElem?_getD, List.getElem?_eq_getElem (by simp [tbl]; omega)] at this
    simpa using this
theorem find_no {op : Int} (h : ∀ j, j < 14 → (rowK j).o ≠ op) : findR op = none := by
  unfold findR
  rw [List.find?_eq_none]
  intro r hr
  obtain ⟨j, hj, rfl⟩ := List.mem_iff_getElem.1 hr
  have := h j (by simpa [tbl] using hj)
  unfold rowK at this
  rw [List.getD_eq_getElem?_getD, List.getElem?_eq_getElem hj] at this
  simpa using this
theorem set13 {B : Nat} {w w1 : World} {g : Nat} {t : TypeId} {xs : List Value} (h : Blk w g t xs) (hl : xs.length = 13) (hb : Below B w1 w) (hg : B ≤ g) (v0 v1 v2 v3 v4 v5 v6 v7 v8 v9 v10 v11 v12 : Value) : Blk ((((((((((((((w).setCell ⟨g, 0, none⟩ v0).setCell ⟨g, 1, none⟩ v1).setCell ⟨g, 2, none⟩ v2).setCell ⟨g, 3, none⟩ v3).setCell ⟨g, 4, none⟩ v4).setCell ⟨g, 5, none⟩ v5).setCell ⟨g, 6, none⟩ v6).setCell ⟨g, 7, none⟩ v7).setCell ⟨g, 8, none⟩ v8).setCell ⟨g, 9, none⟩ v9).setCell ⟨g, 10, none⟩ v10).setCell ⟨g, 11, none⟩ v11).setCell ⟨g, 12, none⟩ v12) g t [v0, v1, v2, v3, v4, v5, v6, v7, v8, v9, v10, v11, v12] ∧ Below B w1 ((((((((((((((w).setCell ⟨g, 0, none⟩ v0).setCell ⟨g, 1, none⟩ v1).setCell ⟨g, 2, none⟩ v2).setCell ⟨g, 3, none⟩ v3).setCell ⟨g, 4, none⟩ v4).setCell ⟨g, 5, none⟩ v5).setCell ⟨g, 6, none⟩ v6).setCell ⟨g, 7, none⟩ v7).setCell ⟨g, 8, none⟩ v8).setCell ⟨g, 9, none⟩ v9).setCell ⟨g, 10, none⟩ v10).setCell ⟨g, 11, none⟩ v11).setCell ⟨g, 12, none⟩ v12) := by
  match xs, hl with
  | [_, _, _, _, _, _, _, _, _, _, _, _, _], _ =>
    exact ⟨(((((((((((((h).set 0 v0).set 1 v1).set 2 v2).set 3 v3).set 4 v4).set 5 v5).set 6 v6).set 7 v7).set 8 v8).set 9 v9).set 10 v10).set 11 v11).set 12 v12, (((((((((((((hb).setCell hg v0).setCell hg v1).setCell hg v2).setCell hg v3).setCell hg v4).setCell hg v5).setCell hg v6).setCell hg v7).setCell hg v8).setCell hg v9).setCell hg v10).setCell hg v11).setCell hg v12⟩
end Go.Proofs.YtmoobfpmijdoaaaDoor

/- cdb: find. -/
namespace Go.Proofs.YtmoobfpmijdoaaaDoor
open Go.RowKit
set_option linter.unusedVariables false
set_option linter.unusedSimpArgs false
set_option maxRecDepth 4000

theorem rows_prev {op : Int} {k : Nat} (h : ∀ j, j < k → (rowK j).o ≠ op) (hk : (rowK k).o ≠ op) (j : Nat) (hj : j < k + 1) : (rowK j).o ≠ op := by
  rcases Nat.lt_or_ge j k with h1 | h1
  · exact h j h1
  · obtain rfl : j = k := by omega
    exact hk
theorem opw_load {P : Program} {w : World} {a : Act} {o : Oper} {K : Act → World → Prop} {Q : Exit → Act → World → Prop} {t : TypeId} {x : Operand} (ho : o.op = .load t x) {p u : Value} (hx : a.eval x = p) (h : (Instr.loadAt t p).run P w = .ok u w) (next : K (a.put o.dst u) w) : Oper.wp P o a w K Q := by
  have e : (execOp a.eval o).run P w = .ok (.value u) w := by simp [execOp, ho, hx, h, Result.andThen]
  unfold Oper.wp
  rw [e]
  exact next
set_option maxHeartbeats 2000000 in
theorem find_any (op : Int) (w : World) (hT : TblAt w) :
    Calls Tryd.prog 45 #[.int .i64 op] w fun e w' => e = .returned (.tuple #[.agg (((findR op).getD ⟨0, [(0, 0), (0, 0), (0, 0), (0, 0), (0, 0), (0, 0)]⟩).cells).toArray, .bool (findR op).isSome]) ∧ Below w.heap.size w w' := by
  have B0 := Blk.new' w 81 [.int .u8 0, .int .u8 0, .int .u8 0, .int .u8 0, .int .u8 0, .int .u8 0, .int .u8 0, .int .u8 0, .int .u8 0, .int .u8 0, .int .u8 0, .int .u8 0, .int .u8 0]
  have b0 : Below w.heap.size w (w.alloc (.cells #[.int .u8 0, .int .u8 0, .int .u8 0, .int .u8 0, .int .u8 0, .int .u8 0, .int .u8 0, .int .u8 0, .int .u8 0, .int .u8 0, .int .u8 0, .int .u8 0, .int .u8 0] 81)) := (Below.refl _ _).alloc (Nat.le_refl _) _
  obtain ⟨w1, hw1⟩ : ∃ w1, w1 = w.alloc (.cells #[.int .u8 0, .int .u8 0, .int .u8 0, .int .u8 0, .int .u8 0, .int .u8 0, .int .u8 0, .int .u8 0, .int .u8 0, .int .u8 0, .int .u8 0, .int .u8 0, .int .u8 0] 81) := ⟨_, rfl⟩
  rw [← hw1] at B0 b0
  have hld := load_tb (hT.later b0)
  have H0 : Hid _ := And.intro B0 b0
  clear B0 b0 hT
  go_enter Tryd.func45, Tryd.ntmps45
  go_upto_region 1 with fail
  rw [← hw1]
  clear hw1
  go_wp2_with fail
  refine opw_load rfl rfl hld ?_
  (try simp only [Act.put, List.setIfInBounds_toArray, List.set_cons_zero, List.set_cons_succ])
  clear hld
  go_wp2_with fail
  go_loopw [7] (fun iv wr => ∃ k : Nat, k ≤ 14 ∧ iv = .int .i64 k ∧ (∀ j, j < k → (rowK j).o ≠ op) ∧ Blk wr w.heap.size 81 [.int .u8 0, .int .u8 0, .int .u8 0, .int .u8 0, .int .u8 0, .int .u8 0, .int .u8 0, .int .u8 0, .int .u8 0, .int .u8 0, .int .u8 0, .int .u8 0, .int .u8 0] ∧ Below w.heap.size w wr) (fun iv _ => 14 - (intOf iv).toNat)
  case atStart => exact ⟨0, by omega, rfl, (fun j hj => by omega), H0.out.1, H0.out.2⟩
  case round =>
    clear H0
    obtain ⟨k, hk, rfl, hpr, hB, hb⟩ := hrel
    by_cases hlt : k < 14
    · have hix := ix_tb k hlt wr
      have JF : Hid (((rowK k).o = op → findR op = some (rowK k)) ∧ ((rowK k).o ≠ op → ∀ j, j < k + 1 → (rowK j).o ≠ op)) := ⟨find_yes hlt hpr, rows_prev hpr⟩
      obtain ⟨o, a0, b0, a1, b1, a2, b2, a3, b3, a4, b4, a5, b5, hob, hr⟩ := row_open k hlt
      rw [hr] at hix JF
      have JR : Hid _ := hr
      clear hr hpr
      rw [show (CR.cells ⟨o, [(a0, b0), (a1, b1), (a2, b2), (a3, b3), (a4, b4), (a5, b5)]⟩).toArray = #[.int .u8 o, .int .u8 a0, .int .u8 b0, .int .u8 a1, .int .u8 b1, .int .u8 a2, .int .u8 b2, .int .u8 a3, .int .u8 b3, .int .u8 a4, .int .u8 b4, .int .u8 a5, .int .u8 b5] from rfl] at hix
      have q1 : (k : Int) < 14 := by omega
      have B1 := Blk.new' wr 81 [.int .u8 o, .int .u8 a0, .int .u8 b0, .int .u8 a1, .int .u8 b1, .int .u8 a2, .int .u8 b2, .int .u8 a3, .int .u8 b3, .int .u8 a4, .int .u8 b4, .int .u8 a5, .int .u8 b5]
      have b1_ : Below wr.heap.size wr (wr.alloc (.cells #[.int .u8 o, .int .u8 a0, .int .u8 b0, .int .u8 a1, .int .u8 b1, .int .u8 a2, .int .u8 b2, .int .u8 a3, .int .u8 b3, .int .u8 a4, .int .u8 b4, .int .u8 a5, .int .u8 b5] 81)) := (Below.refl _ _).alloc (Nat.le_refl _) _
      obtain ⟨w2, hw2⟩ : ∃ w2, w2 = wr.alloc (.cells #[.int .u8 o, .int .u8 a0, .int .u8 b0, .int .u8 a1, .int .u8 b1, .int .u8 a2, .int .u8 b2, .int .u8 a3, .int .u8 b3, .int .u8 a4, .int .u8 b4, .int .u8 a5, .int .u8 b5] 81) := ⟨_, rfl⟩
      rw [← hw2] at B1 b1_
      have y0 := ck_at B1 0
      have y1 := ck_at B1 1
      have y2 := ck_at B1 2
      have y3 := ck_at B1 3
      have y4 := ck_at B1 4
      have y5 := ck_at B1 5
      have y6 := ck_at B1 6
      have y7 := ck_at B1 7
      have y8 := ck_at B1 8
      have y9 := ck_at B1 9
      have y10 := ck_at B1 10
      have y11 := ck_at B1 11
      have y12 := ck_at B1 12
      simp only [List.getElem?_cons_zero, List.getElem?_cons_succ] at y0 y1 y2 y3 y4 y5 y6 y7 y8 y9 y10 y11 y12
      have H2 : Hid _ := And.intro (hB.laterB b1_) (below_then hb b1_)
      clear hB hb B1 b1_
      have v9 : IntKind.i64.wrap o = o := by rw [IntKind.wrap_i64]; omega
      go_upto_region 4 with fail
      rw [← hw2]
      clear hw2 hix
      by_cases he : o = op
      · have d1 : (o == op) = true := by simpa using he
        have hF := JF.out.1 he
        have e1 : Hid (findR op = some ⟨o, [(a0, b0), (a1, b1), (a2, b2), (a3, b3), (a4, b4), (a5, b5)]⟩) := hF
        clear he hF
        have z0 := ck_at H2.out.1 0
        have z1 := ck_at H2.out.1 1
        have z2 := ck_at H2.out.1 2
        have z3 := ck_at H2.out.1 3
        have z4 := ck_at H2.out.1 4
        have z5 := ck_at H2.out.1 5
        have z6 := ck_at H2.out.1 6
        have z7 := ck_at H2.out.1 7
        have z8 := ck_at H2.out.1 8
        have z9 := ck_at H2.out.1 9
        have z10 := ck_at H2.out.1 10
        have z11 := ck_at H2.out.1 11
        have z12 := ck_at H2.out.1 12
        have f0 := ck_fz H2.out.1 0
        have f1 := ck_fz H2.out.1 1
        have f2 := ck_fz H2.out.1 2
        have f3 := ck_fz H2.out.1 3
        have f4 := ck_fz H2.out.1 4
        have f5 := ck_fz H2.out.1 5
        have f6 := ck_fz H2.out.1 6
        have f7 := ck_fz H2.out.1 7
        have f8 := ck_fz H2.out.1 8
        have f9 := ck_fz H2.out.1 9
        have f10 := ck_fz H2.out.1 10
        have f11 := ck_fz H2.out.1 11
        have f12 := ck_fz H2.out.1 12
        simp only [List.getElem?_cons_zero, List.getElem?_cons_succ] at z0 z1 z2 z3 z4 z5 z6 z7 z8 z9 z10 z11 z12
        have SP := set13 H2.out.1 rfl H2.out.2 (Nat.le_refl _) (.int .u8 o) (.int .u8 a0) (.int .u8 b0) (.int .u8 a1) (.int .u8 b1) (.int .u8 a2) (.int .u8 b2) (.int .u8 a3) (.int .u8 b3) (.int .u8 a4) (.int .u8 b4) (.int .u8 a5) (.int .u8 b5)
        have G : Hid _ := SP
        clear SP H2
        go_wp2
        clear y0 z0 f0 y1 z1 f1 y2 z2 f2 y3 z3 f3 y4 z4 f4 y5 z5 f5 y6 z6 f6 y7 z7 f7 y8 z8 f8 y9 z9 f9 y10 z10 f10 y11 z11 f11 y12 z12 f12
        generalize (((((((((((((w2).setCell ⟨w.heap.size, 0, none⟩ (.int .u8 o)).setCell ⟨w.heap.size, 1, none⟩ (.int .u8 a0)).setCell ⟨w.heap.size, 2, none⟩ (.int .u8 b0)).setCell ⟨w.heap.size, 3, none⟩ (.int .u8 a1)).setCell ⟨w.heap.size, 4, none⟩ (.int .u8 b1)).setCell ⟨w.heap.size, 5, none⟩ (.int .u8 a2)).setCell ⟨w.heap.size, 6, none⟩ (.int .u8 b2)).setCell ⟨w.heap.size, 7, none⟩ (.int .u8 a3)).setCell ⟨w.heap.size, 8, none⟩ (.int .u8 b3)).setCell ⟨w.heap.size, 9, none⟩ (.int .u8 a4)).setCell ⟨w.heap.size, 10, none⟩ (.int .u8 b4)).setCell ⟨w.heap.size, 11, none⟩ (.int .u8 a5)).setCell ⟨w.heap.size, 12, none⟩ (.int .u8 b5) = wf at *
        have r0 := ck_at G.out.1 0
        have r1 := ck_at G.out.1 1
        have r2 := ck_at G.out.1 2
        have r3 := ck_at G.out.1 3
        have r4 := ck_at G.out.1 4
        have r5 := ck_at G.out.1 5
        have r6 := ck_at G.out.1 6
        have r7 := ck_at G.out.1 7
        have r8 := ck_at G.out.1 8
        have r9 := ck_at G.out.1 9
        have r10 := ck_at G.out.1 10
        have r11 := ck_at G.out.1 11
        have r12 := ck_at G.out.1 12
        simp only [List.getElem?_cons_zero, List.getElem?_cons_succ] at r0 r1 r2 r3 r4 r5 r6 r7 r8 r9 r10 r11 r12
        refine bodyPost_ret (v := .tuple #[.agg #[.int .u8 o, .int .u8 a0, .int .u8 b0, .int .u8 a1, .int .u8 b1, .int .u8 a2, .int .u8 b2, .int .u8 a3, .int .u8 b3, .int .u8 a4, .int .u8 b4, .int .u8 a5, .int .u8 b5], .bool true]) (by simp [results, Tryd.results45, go_sem, r0, r1, r2, r3, r4, r5, r6, r7, r8, r9, r10, r11, r12]) rfl ?_
        exact ⟨by rw [e1.out]; rfl, G.out.2⟩
      · have d1 : (o == op) = false := by simpa using he
        have F : Hid _ := And.intro (JF.out.2 he) H2.out
        clear he H2 y1 y2 y3 y4 y5 y6 y7 y8 y9 y10 y11 y12
        go_wp2
        go_roundw
        case rel => exact ⟨k + 1, by omega, by go_num, F.out.1, F.out.2.1, F.out.2.2⟩
        case measure => simp [intOf]; omega
    · obtain rfl : k = 14 := by omega
      have e1 : Hid (findR op = none) := find_no hpr
      have z0 := ck_at hB 0
      have z1 := ck_at hB 1
      have z2 := ck_at hB 2
      have z3 := ck_at hB 3
      have z4 := ck_at hB 4
      have z5 := ck_at hB 5
      have z6 := ck_at hB 6
      have z7 := ck_at hB 7
      have z8 := ck_at hB 8
      have z9 := ck_at hB 9
      have z10 := ck_at hB 10
      have z11 := ck_at hB 11
      have z12 := ck_at hB 12
      have f0 := ck_fz hB 0
      have f1 := ck_fz hB 1
      have f2 := ck_fz hB 2
      have f3 := ck_fz hB 3
      have f4 := ck_fz hB 4
      have f5 := ck_fz hB 5
      have f6 := ck_fz hB 6
      have f7 := ck_fz hB 7
      have f8 := ck_fz hB 8
      have f9 := ck_fz hB 9
      have f10 := ck_fz hB 10
      have f11 := ck_fz hB 11
      have f12 := ck_fz hB 12
      simp only [List.getElem?_cons_zero, List.getElem?_cons_succ] at z0 z1 z2 z3 z4 z5 z6 z7 z8 z9 z10 z11 z12
      have SP := set13 hB rfl hb (Nat.le_refl _) (.int .u8 0) (.int .u8 0) (.int .u8 0) (.int .u8 0) (.int .u8 0) (.int .u8 0) (.int .u8 0) (.int .u8 0) (.int .u8 0) (.int .u8 0) (.int .u8 0) (.int .u8 0) (.int .u8 0)
      have G : Hid _ := SP
      clear SP hB hb hpr
      go_wp2
      clear z0 f0 z1 f1 z2 f2 z3 f3 z4 f4 z5 f5 z6 f6 z7 f7 z8 f8 z9 f9 z10 f10 z11 f11 z12 f12
      generalize (((((((((((((wr).setCell ⟨w.heap.size, 0, none⟩ (.int .u8 0)).setCell ⟨w.heap.size, 1, none⟩ (.int .u8 0)).setCell ⟨w.heap.size, 2, none⟩ (.int .u8 0)).setCell ⟨w.heap.size, 3, none⟩ (.int .u8 0)).setCell ⟨w.heap.size, 4, none⟩ (.int .u8 0)).setCell ⟨w.heap.size, 5, none⟩ (.int .u8 0)).setCell ⟨w.heap.size, 6, none⟩ (.int .u8 0)).setCell ⟨w.heap.size, 7, none⟩ (.int .u8 0)).setCell ⟨w.heap.size, 8, none⟩ (.int .u8 0)).setCell ⟨w.heap.size, 9, none⟩ (.int .u8 0)).setCell ⟨w.heap.size, 10, none⟩ (.int .u8 0)).setCell ⟨w.heap.size, 11, none⟩ (.int .u8 0)).setCell ⟨w.heap.size, 12, none⟩ (.int .u8 0) = wf at *
      have r0 := ck_at G.out.1 0
      have r1 := ck_at G.out.1 1
      have r2 := ck_at G.out.1 2
      have r3 := ck_at G.out.1 3
      have r4 := ck_at G.out.1 4
      have r5 := ck_at G.out.1 5
      have r6 := ck_at G.out.1 6
      have r7 := ck_at G.out.1 7
      have r8 := ck_at G.out.1 8
      have r9 := ck_at G.out.1 9
      have r10 := ck_at G.out.1 10
      have r11 := ck_at G.out.1 11
      have r12 := ck_at G.out.1 12
      simp only [List.getElem?_cons_zero, List.getElem?_cons_succ] at r0 r1 r2 r3 r4 r5 r6 r7 r8 r9 r10 r11 r12
      refine bodyPost_ret (v := .tuple #[.agg #[.int .u8 0, .int .u8 0, .int .u8 0, .int .u8 0, .int .u8 0, .int .u8 0, .int .u8 0, .int .u8 0, .int .u8 0, .int .u8 0, .int .u8 0, .int .u8 0, .int .u8 0], .bool false]) (by simp [results, Tryd.results45, go_sem, r0, r1, r2, r3, r4, r5, r6, r7, r8, r9, r10, r11, r12]) rfl ?_
      exact ⟨by rw [e1.out]; rfl, G.out.2⟩
end Go.Proofs.YtmoobfpmijdoaaaDoor

/- cdb: a place's isThere, size, ones, takes. -/
namespace Go.Proofs.YtmoobfpmijdoaaaDoor
open Go.RowKit
set_option linter.unusedVariables false
set_option linter.unusedSimpArgs false
set_option maxRecDepth 4000

/-- how many bits a place of the table has -/
def BitsOk (b : Int) : Prop := b = 0 ∨ b = 1 ∨ b = 4 ∨ b = 5 ∨ b = 8 ∨ b = 16 ∨ b = 32 ∨ b = 64
instance (b : Int) : Decidable (BitsOk b) := inferInstanceAs (Decidable (_ ∨ _))
def onesB (b : Int) : BitVec 64 := BitVec.ofNat 64 (2 ^ b.toNat - 1)
def szB (b : Int) : Nat := ((b + 7) / 8).toNat
theorem and64 (x y : BitVec 64) : bits .and .u64 (x.toNat : Int) (y.toNat : Int) = ((x &&& y).toNat : Int) := by
  rw [u64_and_nat _ _ x.isLt y.isLt, BitVec.toNat_and]
set_option maxHeartbeats 400000 in
theorem cThere_any (a b : Int) (w : World)  :
    Calls Tryd.prog 47 #[.agg #[.int .u8 a, .int .u8 b]] w fun e w' => e = .returned (.bool (decide (b > 0))) ∧ Below w.heap.size w w' := by
  have b1 : Below w.heap.size w (w.alloc (.cells #[.int .u8 a, .int .u8 b] 78)) := (Below.refl _ _).alloc (Nat.le_refl _) _
  have B1 := Blk.new' w 78 [.int .u8 a, .int .u8 b]
  have k0 := ck_at B1 0
  have k1 := ck_at B1 1
  simp only [List.getElem?_cons_zero, List.getElem?_cons_succ] at k0 k1
  have H1 : Hid _ := And.intro b1 B1
  clear b1 B1
  go_enter Tryd.func47, Tryd.ntmps47
  go_wp2
  go_ret
  exact ⟨rfl, H1.out.1⟩
set_option maxHeartbeats 400000 in
theorem cSize_any (a b : Int) (w : World) (h : 0 ≤ b ∧ b ≤ 64) :
    Calls Tryd.prog 68 #[.agg #[.int .u8 a, .int .u8 b]] w fun e w' => e = .returned (.int .i64 (szB b : Int)) ∧ Below w.heap.size w w' := by
  have b1 : Below w.heap.size w (w.alloc (.cells #[.int .u8 a, .int .u8 b] 78)) := (Below.refl _ _).alloc (Nat.le_refl _) _
  have B1 := Blk.new' w 78 [.int .u8 a, .int .u8 b]
  have k0 := ck_at B1 0
  have k1 := ck_at B1 1
  simp only [List.getElem?_cons_zero, List.getElem?_cons_succ] at k0 k1
  have H1 : Hid _ := And.intro b1 B1
  clear b1 B1
  have v1 : IntKind.i64.wrap b = b := by rw [IntKind.wrap_i64]; omega
  have v2 : IntKind.i64.wrap (b + 7) = b + 7 := by rw [IntKind.wrap_i64]; omega
  have HS : Hid ((b + 7) / 8 = (szB b : Int)) := by show (b + 7) / 8 = _; unfold szB; omega
  go_enter Tryd.func68, Tryd.ntmps68
  go_wp2
  go_ret
  exact ⟨by rw [← HS.out]; rfl, H1.out.1⟩
set_option maxHeartbeats 1000000 in
theorem cOnes_any (a b : Int) (w : World) (h : BitsOk b) :
    Calls Tryd.prog 66 #[.agg #[.int .u8 a, .int .u8 b]] w fun e w' => e = .returned (.int .u64 ((onesB b).toNat : Int)) ∧ Below w.heap.size w w' := by
  rcases h with rfl | rfl | rfl | rfl | rfl | rfl | rfl | rfl
  · have b1 : Below w.heap.size w (w.alloc (.cells #[.int .u8 a, .int .u8 0] 78)) := (Below.refl _ _).alloc (Nat.le_refl _) _
    have B1 := Blk.new' w 78 [.int .u8 a, .int .u8 0]
    have k0 := ck_at B1 0
    have k1 := ck_at B1 1
    simp only [List.getElem?_cons_zero, List.getElem?_cons_succ] at k0 k1
    have H1 : Hid _ := And.intro b1 B1
    clear b1 B1
    go_enter Tryd.func66, Tryd.ntmps66
    go_wp2
    go_ret
    exact ⟨by first | rfl | decide, H1.out.1⟩
  · have b1 : Below w.heap.size w (w.alloc (.cells #[.int .u8 a, .int .u8 1] 78)) := (Below.refl _ _).alloc (Nat.le_refl _) _
    have B1 := Blk.new' w 78 [.int .u8 a, .int .u8 1]
    have k0 := ck_at B1 0
    have k1 := ck_at B1 1
    simp only [List.getElem?_cons_zero, List.getElem?_cons_succ] at k0 k1
    have H1 : Hid _ := And.intro b1 B1
    clear b1 B1
    go_enter Tryd.func66, Tryd.ntmps66
    go_wp2
    go_ret
    exact ⟨by first | rfl | decide, H1.out.1⟩
  · have b1 : Below w.heap.size w (w.alloc (.cells #[.int .u8 a, .int .u8 4] 78)) := (Below.refl _ _).alloc (Nat.le_refl _) _
    have B1 := Blk.new' w 78 [.int .u8 a, .int .u8 4]
    have k0 := ck_at B1 0
    have k1 := ck_at B1 1
    simp only [List.getElem?_cons_zero, List.getElem?_cons_succ] at k0 k1
    have H1 : Hid _ := And.intro b1 B1
    clear b1 B1
    go_enter Tryd.func66, Tryd.ntmps66
    go_wp2
    go_ret
    exact ⟨by first | rfl | decide, H1.out.1⟩
  · have b1 : Below w.heap.size w (w.alloc (.cells #[.int .u8 a, .int .u8 5] 78)) := (Below.refl _ _).alloc (Nat.le_refl _) _
    have B1 := Blk.new' w 78 [.int .u8 a, .int .u8 5]
    have k0 := ck_at B1 0
    have k1 := ck_at B1 1
    simp only [List.getElem?_cons_zero, List.getElem?_cons_succ] at k0 k1
    have H1 : Hid _ := And.intro b1 B1
    clear b1 B1
    go_enter Tryd.func66, Tryd.ntmps66
    go_wp2
    go_ret
    exact ⟨by first | rfl | decide, H1.out.1⟩
  · have b1 : Below w.heap.size w (w.alloc (.cells #[.int .u8 a, .int .u8 8] 78)) := (Below.refl _ _).alloc (Nat.le_refl _) _
    have B1 := Blk.new' w 78 [.int .u8 a, .int .u8 8]
    have k0 := ck_at B1 0
    have k1 := ck_at B1 1
    simp only [List.getElem?_cons_zero, List.getElem?_cons_succ] at k0 k1
    have H1 : Hid _ := And.intro b1 B1
    clear b1 B1
    go_enter Tryd.func66, Tryd.ntmps66
    go_wp2
    go_ret
    exact ⟨by first | rfl | decide, H1.out.1⟩
  · have b1 : Below w.heap.size w (w.alloc (.cells #[.int .u8 a, .int .u8 16] 78)) := (Below.refl _ _).alloc (Nat.le_refl _) _
    have B1 := Blk.new' w 78 [.int .u8 a, .int .u8 16]
    have k0 := ck_at B1 0
    have k1 := ck_at B1 1
    simp only [List.getElem?_cons_zero, List.getElem?_cons_succ] at k0 k1
    have H1 : Hid _ := And.intro b1 B1
    clear b1 B1
    go_enter Tryd.func66, Tryd.ntmps66
    go_wp2
    go_ret
    exact ⟨by first | rfl | decide, H1.out.1⟩
  · have b1 : Below w.heap.size w (w.alloc (.cells #[.int .u8 a, .int .u8 32] 78)) := (Below.refl _ _).alloc (Nat.le_refl _) _
    have B1 := Blk.new' w 78 [.int .u8 a, .int .u8 32]
    have k0 := ck_at B1 0
    have k1 := ck_at B1 1
    simp only [List.getElem?_cons_zero, List.getElem?_cons_succ] at k0 k1
    have H1 : Hid _ := And.intro b1 B1
    clear b1 B1
    go_enter Tryd.func66, Tryd.ntmps66
    go_wp2
    go_ret
    exact ⟨by first | rfl | decide, H1.out.1⟩
  · have b1 : Below w.heap.size w (w.alloc (.cells #[.int .u8 a, .int .u8 64] 78)) := (Below.refl _ _).alloc (Nat.le_refl _) _
    have B1 := Blk.new' w 78 [.int .u8 a, .int .u8 64]
    have k0 := ck_at B1 0
    have k1 := ck_at B1 1
    simp only [List.getElem?_cons_zero, List.getElem?_cons_succ] at k0 k1
    have H1 : Hid _ := And.intro b1 B1
    clear b1 B1
    go_enter Tryd.func66, Tryd.ntmps66
    go_wp2
    go_ret
    exact ⟨by first | rfl | decide, H1.out.1⟩
end Go.Proofs.YtmoobfpmijdoaaaDoor

/- cdb: a row's read. -/
namespace Go.Proofs.YtmoobfpmijdoaaaDoor
open Go.RowKit
set_option linter.unusedVariables false
set_option linter.unusedSimpArgs false
set_option maxRecDepth 4000

structure PlOk (a b : Int) : Prop where
  bits : BitsOk b
  low : 0 ≤ a
  fit : a.toNat + szB b ≤ 16
theorem PlOk.size {a b : Int} (h : PlOk a b) : 0 ≤ b ∧ b ≤ 64 := by
  rcases h.bits with rfl | rfl | rfl | rfl | rfl | rfl | rfl | rfl <;> omega
theorem PlOk.wide {a b : Int} (h : PlOk a b) (h0 : b ≠ 0) : 1 ≤ szB b ∧ szB b ≤ 8 := by
  rcases h.bits with rfl | rfl | rfl | rfl | rfl | rfl | rfl | rfl <;> first | exact absurd rfl h0 | decide
/-- a field's number in a command's bytes -/
def fvI (l : List (BitVec 8)) (a b : Int) : Int := if b = 0 then 0 else ((numTo l a.toNat (szB b) &&& onesB b).toNat : Int)
structure RdS (w W : World) (cur : List Value) : Prop where
  below : Below w.heap.size w W
  res : Blk W (w.heap.size + 1) 84 [.int .u64 0, .int .u64 0, .int .u64 0, .int .u64 0, .int .u64 0, .int .u64 0]
  vb : Blk W (w.heap.size + 2) 84 cur
theorem RdS.later {w W W' : World} {cur : List Value} (h : RdS w W cur) (b : Below W.heap.size W W') : RdS w W' cur := ⟨below_then h.below b, h.res.laterB b, h.vb.laterB b⟩
theorem RdS.set {w W : World} {cur : List Value} (h : RdS w W cur) (i : Nat) (u : Value) : RdS w (W.setCell ⟨w.heap.size + 2, i, none⟩ u) (cur.set i u) :=
  ⟨h.below.setCell (by show w.heap.size ≤ w.heap.size + 2; omega) u, h.res.grown (grown_set _ _ _ _) (by simp), h.vb.set i u⟩
def curF (k f0 f1 f2 f3 f4 f5 : Int) : List Value :=
  [.int .u64 (if 0 < k then f0 else 0), .int .u64 (if 1 < k then f1 else 0), .int .u64 (if 2 < k then f2 else 0), .int .u64 (if 3 < k then f3 else 0), .int .u64 (if 4 < k then f4 else 0), .int .u64 (if 5 < k then f5 else 0)]
set_option maxHeartbeats 4000000 in
theorem cRead_any (o a0 b0 a1 b1 a2 b2 a3 b3 a4 b4 a5 b5 : Int) (a : Option Addr) (c : Nat) (l : List (BitVec 8)) (w : World) (hl : l.length = 16) (hr : Row w a l) (p0 : PlOk a0 b0) (p1 : PlOk a1 b1) (p2 : PlOk a2 b2) (p3 : PlOk a3 b3) (p4 : PlOk a4 b4) (p5 : PlOk a5 b5) :
    Calls Tryd.prog 50 #[.agg #[.int .u8 o, .int .u8 a0, .int .u8 b0, .int .u8 a1, .int .u8 b1, .int .u8 a2, .int .u8 b2, .int .u8 a3, .int .u8 b3, .int .u8 a4, .int .u8 b4, .int .u8 a5, .int .u8 b5], .slice a 16 c] w fun e w' => e = .returned (.agg #[.int .u64 (fvI l a0 b0), .int .u64 (fvI l a1 b1), .int .u64 (fvI l a2 b2), .int .u64 (fvI l a3 b3), .int .u64 (fvI l a4 b4), .int .u64 (fvI l a5 b5)]) ∧ Below w.heap.size w w' := by
  have B0 := Blk.new' w 81 [.int .u8 o, .int .u8 a0, .int .u8 b0, .int .u8 a1, .int .u8 b1, .int .u8 a2, .int .u8 b2, .int .u8 a3, .int .u8 b3, .int .u8 a4, .int .u8 b4, .int .u8 a5, .int .u8 b5]
  have b0_ : Below w.heap.size w (w.alloc (.cells #[.int .u8 o, .int .u8 a0, .int .u8 b0, .int .u8 a1, .int .u8 b1, .int .u8 a2, .int .u8 b2, .int .u8 a3, .int .u8 b3, .int .u8 a4, .int .u8 b4, .int .u8 a5, .int .u8 b5] 81)) := (Below.refl _ _).alloc (Nat.le_refl _) _
  obtain ⟨w0, hw0⟩ : ∃ w0, w0 = w.alloc (.cells #[.int .u8 o, .int .u8 a0, .int .u8 b0, .int .u8 a1, .int .u8 b1, .int .u8 a2, .int .u8 b2, .int .u8 a3, .int .u8 b3, .int .u8 a4, .int .u8 b4, .int .u8 a5, .int .u8 b5] 81) := ⟨_, rfl⟩
  have z0 : w0.heap.size = w.heap.size + 1 := by rw [hw0]; simp
  rw [← hw0] at B0 b0_
  have B1 := Blk.new' w0 84 [.int .u64 0, .int .u64 0, .int .u64 0, .int .u64 0, .int .u64 0, .int .u64 0]
  have b1_ : Below w0.heap.size w0 (w0.alloc (.cells #[.int .u64 0, .int .u64 0, .int .u64 0, .int .u64 0, .int .u64 0, .int .u64 0] 84)) := (Below.refl _ _).alloc (Nat.le_refl _) _
  obtain ⟨w1, hw1⟩ : ∃ w1, w1 = w0.alloc (.cells #[.int .u64 0, .int .u64 0, .int .u64 0, .int .u64 0, .int .u64 0, .int .u64 0] 84) := ⟨_, rfl⟩
  have z1 : w1.heap.size = w.heap.size + 2 := by rw [hw1]; simp [z0]
  rw [← hw1] at B1 b1_
  rw [z0] at B1
  have B2 := Blk.new' w1 84 [.int .u64 0, .int .u64 0, .int .u64 0, .int .u64 0, .int .u64 0, .int .u64 0]
  have b2_ : Below w1.heap.size w1 (w1.alloc (.cells #[.int .u64 0, .int .u64 0, .int .u64 0, .int .u64 0, .int .u64 0, .int .u64 0] 84)) := (Below.refl _ _).alloc (Nat.le_refl _) _
  obtain ⟨w2, hw2⟩ : ∃ w2, w2 = w1.alloc (.cells #[.int .u64 0, .int .u64 0, .int .u64 0, .int .u64 0, .int .u64 0, .int .u64 0] 84) := ⟨_, rfl⟩
  rw [← hw2] at B2 b2_
  rw [z1] at B2
  have S0 : Hid (RdS w w2 [.int .u64 0, .int .u64 0, .int .u64 0, .int .u64 0, .int .u64 0, .int .u64 0]) := ⟨below_then b0_ (below_then b1_ b2_), B1.laterB b2_, B2⟩
  have B02 := B0.laterB (below_then b1_ b2_)
  have y0 := ck_at B02 0
  have y1 := ck_at B02 1
  have y2 := ck_at B02 2
  have y3 := ck_at B02 3
  have y4 := ck_at B02 4
  have y5 := ck_at B02 5
  have y6 := ck_at B02 6
  have y7 := ck_at B02 7
  have y8 := ck_at B02 8
  have y9 := ck_at B02 9
  have y10 := ck_at B02 10
  have y11 := ck_at B02 11
  have y12 := ck_at B02 12
  simp only [List.getElem?_cons_zero, List.getElem?_cons_succ] at y0 y1 y2 y3 y4 y5 y6 y7 y8 y9 y10 y11 y12
  have HR : Hid _ := hr
  clear B0 b0_ B1 b1_ B2 b2_ B02 z0 z1 hr
  go_enter Tryd.func50, Tryd.ntmps50
  go_upto_region 2 with fail
  rw [← hw0, ← hw1, ← hw2]
  clear hw0 hw1 hw2
  go_wp2_with fail
  clear y0 y1 y2 y3 y4 y5 y6 y7 y8 y9 y10 y11 y12
  have PF0 : Hid _ := p0
  have PF1 : Hid _ := p1
  have PF2 : Hid _ := p2
  have PF3 : Hid _ := p3
  have PF4 : Hid _ := p4
  have PF5 : Hid _ := p5
  clear p0 p1 p2 p3 p4 p5
  have E0 : Hid ((b0 = 0 → fvI l a0 b0 = 0) ∧ (b0 ≠ 0 → fvI l a0 b0 = ((numTo l a0.toNat (szB b0) &&& onesB b0).toNat : Int))) := ⟨fun h => if_pos h, fun h => if_neg h⟩
  have E1 : Hid ((b1 = 0 → fvI l a1 b1 = 0) ∧ (b1 ≠ 0 → fvI l a1 b1 = ((numTo l a1.toNat (szB b1) &&& onesB b1).toNat : Int))) := ⟨fun h => if_pos h, fun h => if_neg h⟩
  have E2 : Hid ((b2 = 0 → fvI l a2 b2 = 0) ∧ (b2 ≠ 0 → fvI l a2 b2 = ((numTo l a2.toNat (szB b2) &&& onesB b2).toNat : Int))) := ⟨fun h => if_pos h, fun h => if_neg h⟩
  have E3 : Hid ((b3 = 0 → fvI l a3 b3 = 0) ∧ (b3 ≠ 0 → fvI l a3 b3 = ((numTo l a3.toNat (szB b3) &&& onesB b3).toNat : Int))) := ⟨fun h => if_pos h, fun h => if_neg h⟩
  have E4 : Hid ((b4 = 0 → fvI l a4 b4 = 0) ∧ (b4 ≠ 0 → fvI l a4 b4 = ((numTo l a4.toNat (szB b4) &&& onesB b4).toNat : Int))) := ⟨fun h => if_pos h, fun h => if_neg h⟩
  have E5 : Hid ((b5 = 0 → fvI l a5 b5 = 0) ∧ (b5 ≠ 0 → fvI l a5 b5 = ((numTo l a5.toNat (szB b5) &&& onesB b5).toNat : Int))) := ⟨fun h => if_pos h, fun h => if_neg h⟩
  generalize hf0 : fvI l a0 b0 = f0 at *
  have HF0 : Hid _ := hf0
  clear hf0
  generalize hf1 : fvI l a1 b1 = f1 at *
  have HF1 : Hid _ := hf1
  clear hf1
  generalize hf2 : fvI l a2 b2 = f2 at *
  have HF2 : Hid _ := hf2
  clear hf2
  generalize hf3 : fvI l a3 b3 = f3 at *
  have HF3 : Hid _ := hf3
  clear hf3
  generalize hf4 : fvI l a4 b4 = f4 at *
  have HF4 : Hid _ := hf4
  clear hf4
  generalize hf5 : fvI l a5 b5 = f5 at *
  have HF5 : Hid _ := hf5
  clear hf5
  go_loopw [12] (fun iv wr => ∃ k : Nat, k ≤ 6 ∧ iv = .int .i64 k ∧ RdS w wr (curF k f0 f1 f2 f3 f4 f5)) (fun iv _ => 6 - (intOf iv).toNat)
  case atStart => exact ⟨0, by omega, rfl, S0.out⟩
  case round =>
    clear S0
    obtain ⟨k, hk, rfl, hS⟩ := hrel
    have hk' : k = 0 ∨ k = 1 ∨ k = 2 ∨ k = 3 ∨ k = 4 ∨ k = 5 ∨ k = 6 := by omega
    rcases hk' with rfl | rfl | rfl | rfl | rfl | rfl | rfl
    · have S1 : RdS w wr [.int .u64 0, .int .u64 0, .int .u64 0, .int .u64 0, .int .u64 0, .int .u64 0] := hS
      have hix : ∀ X : World, (Instr.index 79 (.agg #[.int .u8 a0, .int .u8 b0, .int .u8 a1, .int .u8 b1, .int .u8 a2, .int .u8 b2, .int .u8 a3, .int .u8 b3, .int .u8 a4, .int .u8 b4, .int .u8 a5, .int .u8 b5]) (.int .i64 0)).run Tryd.prog X = .ok (.agg #[.int .u8 a0, .int .u8 b0]) X := fun _ => by first | rfl | kernel_rfl
      have B3 := Blk.new' wr 78 [.int .u8 a0, .int .u8 b0]
      have b3_ : Below wr.heap.size wr (wr.alloc (.cells #[.int .u8 a0, .int .u8 b0] 78)) := (Below.refl _ _).alloc (Nat.le_refl _) _
      obtain ⟨w3, hw3⟩ : ∃ w3, w3 = wr.alloc (.cells #[.int .u8 a0, .int .u8 b0] 78) := ⟨_, rfl⟩
      rw [← hw3] at B3 b3_
      have S3 : Hid _ := And.intro (S1.later b3_) B3
      have x0 := ck_at B3 0
      have x1 := ck_at B3 1
      simp only [List.getElem?_cons_zero, List.getElem?_cons_succ] at x0 x1
      clear S1 hS B3 b3_
      go_upto_region 5 with fail
      rw [← hw3]
      clear hw3 hix
      go_wp2_with fail
      refine (Calls.mono (cThere_any _ _ _)) ?_
      rintro e w4 ⟨rfl, b4_⟩
      have S4 : Hid _ := And.intro (S3.out.1.later b4_) (S3.out.2.laterB b4_)
      clear b4_ S3 x0 x1
      by_cases hb : b0 = 0
      · have d1 : decide (b0 > 0) = false := decide_eq_false (by omega)
        have F : Hid (RdS w w4 [.int .u64 f0, .int .u64 0, .int .u64 0, .int .u64 0, .int .u64 0, .int .u64 0]) := by have := S4.out.1; rw [E0.out.1 hb]; exact this
        clear S4 hb
        go_wp2
        go_roundw
        case rel => exact ⟨1, by omega, rfl, F.out⟩
        case measure => simp [intOf]
      · have d1 : decide (b0 > 0) = true := decide_eq_true (by have := PF0.out.size; omega)
        have hw_ := PF0.out.wide hb
        have hz_ := PF0.out.size
        have hfit := PF0.out.fit
        have hlow := PF0.out.low
        have HGet : Hid (∀ X, Below w4.heap.size w4 X → _) := fun X (bX : Below w4.heap.size w4 X) => Get_yes a 16 c l a0.toNat (szB b0) X hl (by omega) (Row.later HR.out (below_then S4.out.1.below bX)) (by omega) (by omega) (by omega)
        have HSz : Hid (∀ X, _) := fun X => cSize_any a0 b0 X hz_
        have HOn : Hid (∀ X, _) := fun X => cOnes_any a0 b0 X PF0.out.bits
        have va : IntKind.i64.wrap a0 = a0 := by rw [IntKind.wrap_i64]; omega
        have ca : ((a0.toNat : Nat) : Int) = a0 := by omega
        rw [ca] at HGet
        have NV : Hid _ := E0.out.2 hb
        have AV : Hid _ := and64 (numTo l a0.toNat (szB b0)) (onesB b0)
        generalize szB b0 = sz at *
        generalize onesB b0 = on at *
        generalize numTo l a0.toNat sz = nm at *
        clear hw_ hz_ hfit hlow hb
        have HC4 : Hid _ := And.intro (show w4.cell? ⟨wr.heap.size, 0, none⟩ = _ from ck_at S4.out.2 0) (show w4.cell? ⟨wr.heap.size, 1, none⟩ = _ from ck_at S4.out.2 1)
        go_upto_region 6 with fail
        refine wp_region_held_drew (S := fun W => Below w4.heap.size w4 W) (by kernel_rfl) ((Below.refl _ _).drew) (fun hS => ?_)
        have B0 : Below w4.heap.size w4 w4.drew := ((Below.refl _ _).drew)
        refine any_take (i := 0) (v := ?_) rfl (by kernel_rfl) (by kernel_rfl) (by kernel_rfl) (by exact fun _ _ _ h => h) (by rfl) ?_ hS ?_
        rotate_left
        · ((intro w hSw; have x0 := ck_later HC4.out.1 hSw; have x1 := ck_later HC4.out.2 hSw; go_simp) <;> with_reducible rfl)
        (try simp only [Act.put, List.setIfInBounds_toArray, List.set_cons_zero, List.set_cons_succ])
        refine any_take (i := 1) (v := ?_) rfl (by kernel_rfl) (by kernel_rfl) (by kernel_rfl) (by exact fun _ _ _ h => h) (by rfl) ?_ hS ?_
        rotate_left
        · ((intro w hSw; have x0 := ck_later HC4.out.1 hSw; have x1 := ck_later HC4.out.2 hSw; go_simp) <;> with_reducible rfl)
        (try simp only [Act.put, List.setIfInBounds_toArray, List.set_cons_zero, List.set_cons_succ])
        refine any_take (i := 2) (v := ?_) rfl (by kernel_rfl) (by kernel_rfl) (by kernel_rfl) (by exact fun _ _ _ h => h) (by rfl) ?_ hS ?_
        rotate_left
        · ((intro w hSw; have x0 := ck_later HC4.out.1 hSw; have x1 := ck_later HC4.out.2 hSw; go_simp) <;> with_reducible rfl)
        (try simp only [Act.put, List.setIfInBounds_toArray, List.set_cons_zero, List.set_cons_succ])
        refine any_take (i := 3) (v := ?_) rfl (by kernel_rfl) (by kernel_rfl) (by kernel_rfl) (by exact fun _ _ _ h => h) (by rfl) ?_ hS ?_
        rotate_left
        · ((intro w hSw; have x0 := ck_later HC4.out.1 hSw; have x1 := ck_later HC4.out.2 hSw; go_simp) <;> with_reducible rfl)
        (try simp only [Act.put, List.setIfInBounds_toArray, List.set_cons_zero, List.set_cons_succ])
        refine any_take (i := 4) (v := ?_) rfl (by kernel_rfl) (by kernel_rfl) (by kernel_rfl) (by exact fun _ _ _ h => h) (by rfl) ?_ hS ?_
        rotate_left
        · ((intro w hSw; have x0 := ck_later HC4.out.1 hSw; have x1 := ck_later HC4.out.2 hSw; go_simp) <;> with_reducible rfl)
        (try simp only [Act.put, List.setIfInBounds_toArray, List.set_cons_zero, List.set_cons_succ])
        refine any_one (i := 5) rfl (by kernel_rfl) (fun K hK => ?_)
        go_simp
        refine (Calls.mono (HSz.out _)) ?_
        rintro e x1 ⟨rfl, hbR⟩
        have B1 : Below w4.heap.size w4 x1 := below_then B0 hbR
        go_wp2_with fail
        refine hK.out _ _ (by first | exact B1 | exact hbR | exact below_then hS hbR) (any_weaken (S' := fun W => Below x1.heap.size x1 W) (fun W hW => by first | exact below_then B1 hW | exact below_then hbR hW | exact below_then (below_then hS hbR) hW) _ _ _ _ ?_)
        clear hK K hS hbR
        have hS : Below x1.heap.size x1 x1 := Below.refl _ _
        have HG2 : Hid _ := HGet.out _ B1
        refine any_one (i := 6) rfl (by kernel_rfl) (fun K hK => ?_)
        go_simp
        refine (Calls.mono HG2.out) ?_
        rintro e q9 ⟨rfl, hq9⟩
        rw [hq9]
        clear hq9 q9
        go_wp2_with fail
        refine hK.out _ _ hS ?_
        clear hK K
        refine any_take (i := 7) (v := ?_) rfl (by kernel_rfl) (by kernel_rfl) (by kernel_rfl) (by exact fun _ _ _ h => h) (by rfl) ?_ hS ?_
        rotate_left
        · ((intro w hSw; (try dsimp only at hSw); go_simp) <;> with_reducible rfl)
        (try simp only [Act.put, List.setIfInBounds_toArray, List.set_cons_zero, List.set_cons_succ])
        refine any_take (i := 8) (v := ?_) rfl (by kernel_rfl) (by kernel_rfl) (by kernel_rfl) (by exact fun _ _ _ h => h) (by rfl) ?_ hS ?_
        rotate_left
        · ((intro w hSw; (try dsimp only at hSw); go_simp) <;> with_reducible rfl)
        (try simp only [Act.put, List.setIfInBounds_toArray, List.set_cons_zero, List.set_cons_succ])
        refine any_take (i := 9) (v := ?_) rfl (by kernel_rfl) (by kernel_rfl) (by kernel_rfl) (by exact fun _ _ _ h => h) (by rfl) ?_ hS ?_
        rotate_left
        · ((intro w hSw; (try dsimp only at hSw); go_simp) <;> with_reducible rfl)
        (try simp only [Act.put, List.setIfInBounds_toArray, List.set_cons_zero, List.set_cons_succ])
        refine any_take (i := 10) (v := ?_) rfl (by kernel_rfl) (by kernel_rfl) (by kernel_rfl) (by exact fun _ _ _ h => h) (by rfl) ?_ hS ?_
        rotate_left
        · ((intro w hSw; (try dsimp only at hSw); go_simp) <;> with_reducible rfl)
        (try simp only [Act.put, List.setIfInBounds_toArray, List.set_cons_zero, List.set_cons_succ])
        refine any_take (i := 11) (v := ?_) rfl (by kernel_rfl) (by kernel_rfl) (by kernel_rfl) (by exact fun _ _ _ h => h) (by rfl) ?_ hS ?_
        rotate_left
        · ((intro w hSw; (try dsimp only at hSw); go_simp) <;> with_reducible rfl)
        (try simp only [Act.put, List.setIfInBounds_toArray, List.set_cons_zero, List.set_cons_succ])
        refine wpAnyH_done (by kernel_rfl) ?_ _
        have S5 : Hid _ := And.intro (S4.out.1.later B1) (S4.out.2.laterB B1)
        clear hS HG2 HGet HSz S4 HC4 B0 B1
        have x0 := ck_at S5.out.2 0
        have x1 := ck_at S5.out.2 1
        simp only [List.getElem?_cons_zero, List.getElem?_cons_succ] at x0 x1
        go_wp2_with fail
        refine (Calls.mono (HOn.out _)) ?_
        rintro e w6 ⟨rfl, b6_⟩
        have S6 : Hid _ := S5.out.1.later b6_
        clear b6_ S5 x0 x1
        have vy := ck_at S6.out.vb 0
        have vf := ck_fz S6.out.vb 0
        simp only [List.getElem?_cons_zero, List.getElem?_cons_succ] at vy
        have F : Hid (RdS w (w6.setCell ⟨w.heap.size + 2, 0, none⟩ (.int .u64 (bits .and .u64 (nm.toNat : Int) (on.toNat : Int)))) [.int .u64 f0, .int .u64 0, .int .u64 0, .int .u64 0, .int .u64 0, .int .u64 0]) := by
          have h := S6.out.set 0 (.int .u64 (bits .and .u64 (nm.toNat : Int) (on.toNat : Int)))
          rw [NV.out, ← and64 nm on]
          exact h
        clear S6
        go_wp2
        go_roundw
        case rel => exact ⟨1, by omega, rfl, F.out⟩
        case measure => simp [intOf]
    · have S1 : RdS w wr [.int .u64 f0, .int .u64 0, .int .u64 0, .int .u64 0, .int .u64 0, .int .u64 0] := hS
      have hix : ∀ X : World, (Instr.index 79 (.agg #[.int .u8 a0, .int .u8 b0, .int .u8 a1, .int .u8 b1, .int .u8 a2, .int .u8 b2, .int .u8 a3, .int .u8 b3, .int .u8 a4, .int .u8 b4, .int .u8 a5, .int .u8 b5]) (.int .i64 1)).run Tryd.prog X = .ok (.agg #[.int .u8 a1, .int .u8 b1]) X := fun _ => by first | rfl | kernel_rfl
      have B3 := Blk.new' wr 78 [.int .u8 a1, .int .u8 b1]
      have b3_ : Below wr.heap.size wr (wr.alloc (.cells #[.int .u8 a1, .int .u8 b1] 78)) := (Below.refl _ _).alloc (Nat.le_refl _) _
      obtain ⟨w3, hw3⟩ : ∃ w3, w3 = wr.alloc (.cells #[.int .u8 a1, .int .u8 b1] 78) := ⟨_, rfl⟩
      rw [← hw3] at B3 b3_
      have S3 : Hid _ := And.intro (S1.later b3_) B3
      have x0 := ck_at B3 0
      have x1 := ck_at B3 1
      simp only [List.getElem?_cons_zero, List.getElem?_cons_succ] at x0 x1
      clear S1 hS B3 b3_
      go_upto_region 5 with fail
      rw [← hw3]
      clear hw3 hix
      go_wp2_with fail
      refine (Calls.mono (cThere_any _ _ _)) ?_
      rintro e w4 ⟨rfl, b4_⟩
      have S4 : Hid _ := And.intro (S3.out.1.later b4_) (S3.out.2.laterB b4_)
      clear b4_ S3 x0 x1
      by_cases hb : b1 = 0
      · have d1 : decide (b1 > 0) = false := decide_eq_false (by omega)
        have F : Hid (RdS w w4 [.int .u64 f0, .int .u64 f1, .int .u64 0, .int .u64 0, .int .u64 0, .int .u64 0]) := by have := S4.out.1; rw [E1.out.1 hb]; exact this
        clear S4 hb
        go_wp2
        go_roundw
        case rel => exact ⟨2, by omega, rfl, F.out⟩
        case measure => simp [intOf]
      · have d1 : decide (b1 > 0) = true := decide_eq_true (by have := PF1.out.size; omega)
        have hw_ := PF1.out.wide hb
        have hz_ := PF1.out.size
        have hfit := PF1.out.fit
        have hlow := PF1.out.low
        have HGet : Hid (∀ X, Below w4.heap.size w4 X → _) := fun X (bX : Below w4.heap.size w4 X) => Get_yes a 16 c l a1.toNat (szB b1) X hl (by omega) (Row.later HR.out (below_then S4.out.1.below bX)) (by omega) (by omega) (by omega)
        have HSz : Hid (∀ X, _) := fun X => cSize_any a1 b1 X hz_
        have HOn : Hid (∀ X, _) := fun X => cOnes_any a1 b1 X PF1.out.bits
        have va : IntKind.i64.wrap a1 = a1 := by rw [IntKind.wrap_i64]; omega
        have ca : ((a1.toNat : Nat) : Int) = a1 := by omega
        rw [ca] at HGet
        have NV : Hid _ := E1.out.2 hb
        have AV : Hid _ := and64 (numTo l a1.toNat (szB b1)) (onesB b1)
        generalize szB b1 = sz at *
        generalize onesB b1 = on at *
        generalize numTo l a1.toNat sz = nm at *
        clear hw_ hz_ hfit hlow hb
        have HC4 : Hid _ := And.intro (show w4.cell? ⟨wr.heap.size, 0, none⟩ = _ from ck_at S4.out.2 0) (show w4.cell? ⟨wr.heap.size, 1, none⟩ = _ from ck_at S4.out.2 1)
        go_upto_region 6 with fail
        refine wp_region_held_drew (S := fun W => Below w4.heap.size w4 W) (by kernel_rfl) ((Below.refl _ _).drew) (fun hS => ?_)
        have B0 : Below w4.heap.size w4 w4.drew := ((Below.refl _ _).drew)
        refine any_take (i := 0) (v := ?_) rfl (by kernel_rfl) (by kernel_rfl) (by kernel_rfl) (by exact fun _ _ _ h => h) (by rfl) ?_ hS ?_
        rotate_left
        · ((intro w hSw; have x0 := ck_later HC4.out.1 hSw; have x1 := ck_later HC4.out.2 hSw; go_simp) <;> with_reducible rfl)
        (try simp only [Act.put, List.setIfInBounds_toArray, List.set_cons_zero, List.set_cons_succ])
        refine any_take (i := 1) (v := ?_) rfl (by kernel_rfl) (by kernel_rfl) (by kernel_rfl) (by exact fun _ _ _ h => h) (by rfl) ?_ hS ?_
        rotate_left
        · ((intro w hSw; have x0 := ck_later HC4.out.1 hSw; have x1 := ck_later HC4.out.2 hSw; go_simp) <;> with_reducible rfl)
        (try simp only [Act.put, List.setIfInBounds_toArray, List.set_cons_zero, List.set_cons_succ])
        refine any_take (i := 2) (v := ?_) rfl (by kernel_rfl) (by kernel_rfl) (by kernel_rfl) (by exact fun _ _ _ h => h) (by rfl) ?_ hS ?_
        rotate_left
        · ((intro w hSw; have x0 := ck_later HC4.out.1 hSw; have x1 := ck_later HC4.out.2 hSw; go_simp) <;> with_reducible rfl)
        (try simp only [Act.put, List.setIfInBounds_toArray, List.set_cons_zero, List.set_cons_succ])
        refine any_take (i := 3) (v := ?_) rfl (by kernel_rfl) (by kernel_rfl) (by kernel_rfl) (by exact fun _ _ _ h => h) (by rfl) ?_ hS ?_
        rotate_left
        · ((intro w hSw; have x0 := ck_later HC4.out.1 hSw; have x1 := ck_later HC4.out.2 hSw; go_simp) <;> with_reducible rfl)
        (try simp only [Act.put, List.setIfInBounds_toArray, List.set_cons_zero, List.set_cons_succ])
        refine any_take (i := 4) (v := ?_) rfl (by kernel_rfl) (by kernel_rfl) (by kernel_rfl) (by exact fun _ _ _ h => h) (by rfl) ?_ hS ?_
        rotate_left
        · ((intro w hSw; have x0 := ck_later HC4.out.1 hSw; have x1 := ck_later HC4.out.2 hSw; go_simp) <;> with_reducible rfl)
        (try simp only [Act.put, List.setIfInBounds_toArray, List.set_cons_zero, List.set_cons_succ])
        refine any_one (i := 5) rfl (by kernel_rfl) (fun K hK => ?_)
        go_simp
        refine (Calls.mono (HSz.out _)) ?_
        rintro e x1 ⟨rfl, hbR⟩
        have B1 : Below w4.heap.size w4 x1 := below_then B0 hbR
        go_wp2_with fail
        refine hK.out _ _ (by first | exact B1 | exact hbR | exact below_then hS hbR) (any_weaken (S' := fun W => Below x1.heap.size x1 W) (fun W hW => by first | exact below_then B1 hW | exact below_then hbR hW | exact below_then (below_then hS hbR) hW) _ _ _ _ ?_)
        clear hK K hS hbR
        have hS : Below x1.heap.size x1 x1 := Below.refl _ _
        have HG2 : Hid _ := HGet.out _ B1
        refine any_one (i := 6) rfl (by kernel_rfl) (fun K hK => ?_)
        go_simp
        refine (Calls.mono HG2.out) ?_
        rintro e q9 ⟨rfl, hq9⟩
        rw [hq9]
        clear hq9 q9
        go_wp2_with fail
        refine hK.out _ _ hS ?_
        clear hK K
        refine any_take (i := 7) (v := ?_) rfl (by kernel_rfl) (by kernel_rfl) (by kernel_rfl) (by exact fun _ _ _ h => h) (by rfl) ?_ hS ?_
        rotate_left
        · ((intro w hSw; (try dsimp only at hSw); go_simp) <;> with_reducible rfl)
        (try simp only [Act.put, List.setIfInBounds_toArray, List.set_cons_zero, List.set_cons_succ])
        refine any_take (i := 8) (v := ?_) rfl (by kernel_rfl) (by kernel_rfl) (by kernel_rfl) (by exact fun _ _ _ h => h) (by rfl) ?_ hS ?_
        rotate_left
        · ((intro w hSw; (try dsimp only at hSw); go_simp) <;> with_reducible rfl)
        (try simp only [Act.put, List.setIfInBounds_toArray, List.set_cons_zero, List.set_cons_succ])
        refine any_take (i := 9) (v := ?_) rfl (by kernel_rfl) (by kernel_rfl) (by kernel_rfl) (by exact fun _ _ _ h => h) (by rfl) ?_ hS ?_
        rotate_left
        · ((intro w hSw; (try dsimp only at hSw); go_simp) <;> with_reducible rfl)
        (try simp only [Act.put, List.setIfInBounds_toArray, List.set_cons_zero, List.set_cons_succ])
        refine any_take (i := 10) (v := ?_) rfl (by kernel_rfl) (by kernel_rfl) (by kernel_rfl) (by exact fun _ _ _ h => h) (by rfl) ?_ hS ?_
        rotate_left
        · ((intro w hSw; (try dsimp only at hSw); go_simp) <;> with_reducible rfl)
        (try simp only [Act.put, List.setIfInBounds_toArray, List.set_cons_zero, List.set_cons_succ])
        refine any_take (i := 11) (v := ?_) rfl (by kernel_rfl) (by kernel_rfl) (by kernel_rfl) (by exact fun _ _ _ h => h) (by rfl) ?_ hS ?_
        rotate_left
        · ((intro w hSw; (try dsimp only at hSw); go_simp) <;> with_reducible rfl)
        (try simp only [Act.put, List.setIfInBounds_toArray, List.set_cons_zero, List.set_cons_succ])
        refine wpAnyH_done (by kernel_rfl) ?_ _
        have S5 : Hid _ := And.intro (S4.out.1.later B1) (S4.out.2.laterB B1)
        clear hS HG2 HGet HSz S4 HC4 B0 B1
        have x0 := ck_at S5.out.2 0
        have x1 := ck_at S5.out.2 1
        simp only [List.getElem?_cons_zero, List.getElem?_cons_succ] at x0 x1
        go_wp2_with fail
        refine (Calls.mono (HOn.out _)) ?_
        rintro e w6 ⟨rfl, b6_⟩
        have S6 : Hid _ := S5.out.1.later b6_
        clear b6_ S5 x0 x1
        have vy := ck_at S6.out.vb 1
        have vf := ck_fz S6.out.vb 1
        simp only [List.getElem?_cons_zero, List.getElem?_cons_succ] at vy
        have F : Hid (RdS w (w6.setCell ⟨w.heap.size + 2, 1, none⟩ (.int .u64 (bits .and .u64 (nm.toNat : Int) (on.toNat : Int)))) [.int .u64 f0, .int .u64 f1, .int .u64 0, .int .u64 0, .int .u64 0, .int .u64 0]) := by
          have h := S6.out.set 1 (.int .u64 (bits .and .u64 (nm.toNat : Int) (on.toNat : Int)))
          rw [NV.out, ← and64 nm on]
          exact h
        clear S6
        go_wp2
        go_roundw
        case rel => exact ⟨2, by omega, rfl, F.out⟩
        case measure => simp [intOf]
    · have S1 : RdS w wr [.int .u64 f0, .int .u64 f1, .int .u64 0, .int .u64 0, .int .u64 0, .int .u64 0] := hS
      have hix : ∀ X : World, (Instr.index 79 (.agg #[.int .u8 a0, .int .u8 b0, .int .u8 a1, .int .u8 b1, .int .u8 a2, .int .u8 b2, .int .u8 a3, .int .u8 b3, .int .u8 a4, .int .u8 b4, .int .u8 a5, .int .u8 b5]) (.int .i64 2)).run Tryd.prog X = .ok (.agg #[.int .u8 a2, .int .u8 b2]) X := fun _ => by first | rfl | kernel_rfl
      have B3 := Blk.new' wr 78 [.int .u8 a2, .int .u8 b2]
      have b3_ : Below wr.heap.size wr (wr.alloc (.cells #[.int .u8 a2, .int .u8 b2] 78)) := (Below.refl _ _).alloc (Nat.le_refl _) _
      obtain ⟨w3, hw3⟩ : ∃ w3, w3 = wr.alloc (.cells #[.int .u8 a2, .int .u8 b2] 78) := ⟨_, rfl⟩
      rw [← hw3] at B3 b3_
      have S3 : Hid _ := And.intro (S1.later b3_) B3
      have x0 := ck_at B3 0
      have x1 := ck_at B3 1
      simp only [List.getElem?_cons_zero, List.getElem?_cons_succ] at x0 x1
      clear S1 hS B3 b3_
      go_upto_region 5 with fail
      rw [← hw3]
      clear hw3 hix
      go_wp2_with fail
      refine (Calls.mono (cThere_any _ _ _)) ?_
      rintro e w4 ⟨rfl, b4_⟩
      have S4 : Hid _ := And.intro (S3.out.1.later b4_) (S3.out.2.laterB b4_)
      clear b4_ S3 x0 x1
      by_cases hb : b2 = 0
      · have d1 : decide (b2 > 0) = false := decide_eq_false (by omega)
        have F : Hid (RdS w w4 [.int .u64 f0, .int .u64 f1, .int .u64 f2, .int .u64 0, .int .u64 0, .int .u64 0]) := by have := S4.out.1; rw [E2.out.1 hb]; exact this
        clear S4 hb
        go_wp2
        go_roundw
        case rel => exact ⟨3, by omega, rfl, F.out⟩
        case measure => simp [intOf]
      · have d1 : decide (b2 > 0) = true := decide_eq_true (by have := PF2.out.size; omega)
        have hw_ := PF2.out.wide hb
        have hz_ := PF2.out.size
        have hfit := PF2.out.fit
        have hlow := PF2.out.low
        have HGet : Hid (∀ X, Below w4.heap.size w4 X → _) := fun X (bX : Below w4.heap.size w4 X) => Get_yes a 16 c l a2.toNat (szB b2) X hl (by omega) (Row.later HR.out (below_then S4.out.1.below bX)) (by omega) (by omega) (by omega)
        have HSz : Hid (∀ X, _) := fun X => cSize_any a2 b2 X hz_
        have HOn : Hid (∀ X, _) := fun X => cOnes_any a2 b2 X PF2.out.bits
        have va : IntKind.i64.wrap a2 = a2 := by rw [IntKind.wrap_i64]; omega
        have ca : ((a2.toNat : Nat) : Int) = a2 := by omega
        rw [ca] at HGet
        have NV : Hid _ := E2.out.2 hb
        have AV : Hid _ := and64 (numTo l a2.toNat (szB b2)) (onesB b2)
        generalize szB b2 = sz at *
        generalize onesB b2 = on at *
        generalize numTo l a2.toNat sz = nm at *
        clear hw_ hz_ hfit hlow hb
        have HC4 : Hid _ := And.intro (show w4.cell? ⟨wr.heap.size, 0, none⟩ = _ from ck_at S4.out.2 0) (show w4.cell? ⟨wr.heap.size, 1, none⟩ = _ from ck_at S4.out.2 1)
        go_upto_region 6 with fail
        refine wp_region_held_drew (S := fun W => Below w4.heap.size w4 W) (by kernel_rfl) ((Below.refl _ _).drew) (fun hS => ?_)
        have B0 : Below w4.heap.size w4 w4.drew := ((Below.refl _ _).drew)
        refine any_take (i := 0) (v := ?_) rfl (by kernel_rfl) (by kernel_rfl) (by kernel_rfl) (by exact fun _ _ _ h => h) (by rfl) ?_ hS ?_
        rotate_left
        · ((intro w hSw; have x0 := ck_later HC4.out.1 hSw; have x1 := ck_later HC4.out.2 hSw; go_simp) <;> with_reducible rfl)
        (try simp only [Act.put, List.setIfInBounds_toArray, List.set_cons_zero, List.set_cons_succ])
        refine any_take (i := 1) (v := ?_) rfl (by kernel_rfl) (by kernel_rfl) (by kernel_rfl) (by exact fun _ _ _ h => h) (by rfl) ?_ hS ?_
        rotate_left
        · ((intro w hSw; have x0 := ck_later HC4.out.1 hSw; have x1 := ck_later HC4.out.2 hSw; go_simp) <;> with_reducible rfl)
        (try simp only [Act.put, List.setIfInBounds_toArray, List.set_cons_zero, List.set_cons_succ])
        refine any_take (i := 2) (v := ?_) rfl (by kernel_rfl) (by kernel_rfl) (by kernel_rfl) (by exact fun _ _ _ h => h) (by rfl) ?_ hS ?_
        rotate_left
        · ((intro w hSw; have x0 := ck_later HC4.out.1 hSw; have x1 := ck_later HC4.out.2 hSw; go_simp) <;> with_reducible rfl)
        (try simp only [Act.put, List.setIfInBounds_toArray, List.set_cons_zero, List.set_cons_succ])
        refine any_take (i := 3) (v := ?_) rfl (by kernel_rfl) (by kernel_rfl) (by kernel_rfl) (by exact fun _ _ _ h => h) (by rfl) ?_ hS ?_
        rotate_left
        · ((intro w hSw; have x0 := ck_later HC4.out.1 hSw; have x1 := ck_later HC4.out.2 hSw; go_simp) <;> with_reducible rfl)
        (try simp only [Act.put, List.setIfInBounds_toArray, List.set_cons_zero, List.set_cons_succ])
        refine any_take (i := 4) (v := ?_) rfl (by kernel_rfl) (by kernel_rfl) (by kernel_rfl) (by exact fun _ _ _ h => h) (by rfl) ?_ hS ?_
        rotate_left
        · ((intro w hSw; have x0 := ck_later HC4.out.1 hSw; have x1 := ck_later HC4.out.2 hSw; go_simp) <;> with_reducible rfl)
        (try simp only [Act.put, List.setIfInBounds_toArray, List.set_cons_zero, List.set_cons_succ])
        refine any_one (i := 5) rfl (by kernel_rfl) (fun K hK => ?_)
        go_simp
        refine (Calls.mono (HSz.out _)) ?_
        rintro e x1 ⟨rfl, hbR⟩
        have B1 : Below w4.heap.size w4 x1 := below_then B0 hbR
        go_wp2_with fail
        refine hK.out _ _ (by first | exact B1 | exact hbR | exact below_then hS hbR) (any_weaken (S' := fun W => Below x1.heap.size x1 W) (fun W hW => by first | exact below_then B1 hW | exact below_then hbR hW | exact below_then (below_then hS hbR) hW) _ _ _ _ ?_)
        clear hK K hS hbR
        have hS : Below x1.heap.size x1 x1 := Below.refl _ _
        have HG2 : Hid _ := HGet.out _ B1
        refine any_one (i := 6) rfl (by kernel_rfl) (fun K hK => ?_)
        go_simp
        refine (Calls.mono HG2.out) ?_
        rintro e q9 ⟨rfl, hq9⟩
        rw [hq9]
        clear hq9 q9
        go_wp2_with fail
        refine hK.out _ _ hS ?_
        clear hK K
        refine any_take (i := 7) (v := ?_) rfl (by kernel_rfl) (by kernel_rfl) (by kernel_rfl) (by exact fun _ _ _ h => h) (by rfl) ?_ hS ?_
        rotate_left
        · ((intro w hSw; (try dsimp only at hSw); go_simp) <;> with_reducible rfl)
        (try simp only [Act.put, List.setIfInBounds_toArray, List.set_cons_zero, List.set_cons_succ])
        refine any_take (i := 8) (v := ?_) rfl (by kernel_rfl) (by kernel_rfl) (by kernel_rfl) (by exact fun _ _ _ h => h) (by rfl) ?_ hS ?_
        rotate_left
        · ((intro w hSw; (try dsimp only at hSw); go_simp) <;> with_reducible rfl)
        (try simp only [Act.put, List.setIfInBounds_toArray, List.set_cons_zero, List.set_cons_succ])
        refine any_take (i := 9) (v := ?_) rfl (by kernel_rfl) (by kernel_rfl) (by kernel_rfl) (by exact fun _ _ _ h => h) (by rfl) ?_ hS ?_
        rotate_left
        · ((intro w hSw; (try dsimp only at hSw); go_simp) <;> with_reducible rfl)
        (try simp only [Act.put, List.setIfInBounds_toArray, List.set_cons_zero, List.set_cons_succ])
        refine any_take (i := 10) (v := ?_) rfl (by kernel_rfl) (by kernel_rfl) (by kernel_rfl) (by exact fun _ _ _ h => h) (by rfl) ?_ hS ?_
        rotate_left
        · ((intro w hSw; (try dsimp only at hSw); go_simp) <;> with_reducible rfl)
        (try simp only [Act.put, List.setIfInBounds_toArray, List.set_cons_zero, List.set_cons_succ])
        refine any_take (i := 11) (v := ?_) rfl (by kernel_rfl) (by kernel_rfl) (by kernel_rfl) (by exact fun _ _ _ h => h) (by rfl) ?_ hS ?_
        rotate_left
        · ((intro w hSw; (try dsimp only at hSw); go_simp) <;> with_reducible rfl)
        (try simp only [Act.put, List.setIfInBounds_toArray, List.set_cons_zero, List.set_cons_succ])
        refine wpAnyH_done (by kernel_rfl) ?_ _
        have S5 : Hid _ := And.intro (S4.out.1.later B1) (S4.out.2.laterB B1)
        clear hS HG2 HGet HSz S4 HC4 B0 B1
        have x0 := ck_at S5.out.2 0
        have x1 := ck_at S5.out.2 1
        simp only [List.getElem?_cons_zero, List.getElem?_cons_succ] at x0 x1
        go_wp2_with fail
        refine (Calls.mono (HOn.out _)) ?_
        rintro e w6 ⟨rfl, b6_⟩
        have S6 : Hid _ := S5.out.1.later b6_
        clear b6_ S5 x0 x1
        have vy := ck_at S6.out.vb 2
        have vf := ck_fz S6.out.vb 2
        simp only [List.getElem?_cons_zero, List.getElem?_cons_succ] at vy
        have F : Hid (RdS w (w6.setCell ⟨w.heap.size + 2, 2, none⟩ (.int .u64 (bits .and .u64 (nm.toNat : Int) (on.toNat : Int)))) [.int .u64 f0, .int .u64 f1, .int .u64 f2, .int .u64 0, .int .u64 0, .int .u64 0]) := by
          have h := S6.out.set 2 (.int .u64 (bits .and .u64 (nm.toNat : Int) (on.toNat : Int)))
          rw [NV.out, ← and64 nm on]
          exact h
        clear S6
        go_wp2
        go_roundw
        case rel => exact ⟨3, by omega, rfl, F.out⟩
        case measure => simp [intOf]
    · have S1 : RdS w wr [.int .u64 f0, .int .u64 f1, .int .u64 f2, .int .u64 0, .int .u64 0, .int .u64 0] := hS
      have hix : ∀ X : World, (Instr.index 79 (.agg #[.int .u8 a0, .int .u8 b0, .int .u8 a1, .int .u8 b1, .int .u8 a2, .int .u8 b2, .int .u8 a3, .int .u8 b3, .int .u8 a4, .int .u8 b4, .int .u8 a5, .int .u8 b5]) (.int .i64 3)).run Tryd.prog X = .ok (.agg #[.int .u8 a3, .int .u8 b3]) X := fun _ => by first | rfl | kernel_rfl
      have B3 := Blk.new' wr 78 [.int .u8 a3, .int .u8 b3]
      have b3_ : Below wr.heap.size wr (wr.alloc (.cells #[.int .u8 a3, .int .u8 b3] 78)) := (Below.refl _ _).alloc (Nat.le_refl _) _
      obtain ⟨w3, hw3⟩ : ∃ w3, w3 = wr.alloc (.cells #[.int .u8 a3, .int .u8 b3] 78) := ⟨_, rfl⟩
      rw [← hw3] at B3 b3_
      have S3 : Hid _ := And.intro (S1.later b3_) B3
      have x0 := ck_at B3 0
      have x1 := ck_at B3 1
      simp only [List.getElem?_cons_zero, List.getElem?_cons_succ] at x0 x1
      clear S1 hS B3 b3_
      go_upto_region 5 with fail
      rw [← hw3]
      clear hw3 hix
      go_wp2_with fail
      refine (Calls.mono (cThere_any _ _ _)) ?_
      rintro e w4 ⟨rfl, b4_⟩
      have S4 : Hid _ := And.intro (S3.out.1.later b4_) (S3.out.2.laterB b4_)
      clear b4_ S3 x0 x1
      by_cases hb : b3 = 0
      · have d1 : decide (b3 > 0) = false := decide_eq_false (by omega)
        have F : Hid (RdS w w4 [.int .u64 f0, .int .u64 f1, .int .u64 f2, .int .u64 f3, .int .u64 0, .int .u64 0]) := by have := S4.out.1; rw [E3.out.1 hb]; exact this
        clear S4 hb
        go_wp2
        go_roundw
        case rel => exact ⟨4, by omega, rfl, F.out⟩
        case measure => simp [intOf]
      · have d1 : decide (b3 > 0) = true := decide_eq_true (by have := PF3.out.size; omega)
        have hw_ := PF3.out.wide hb
        have hz_ := PF3.out.size
        have hfit := PF3.out.fit
        have hlow := PF3.out.low
        have HGet : Hid (∀ X, Below w4.heap.size w4 X → _) := fun X (bX : Below w4.heap.size w4 X) => Get_yes a 16 c l a3.toNat (szB b3) X hl (by omega) (Row.later HR.out (below_then S4.out.1.below bX)) (by omega) (by omega) (by omega)
        have HSz : Hid (∀ X, _) := fun X => cSize_any a3 b3 X hz_
        have HOn : Hid (∀ X, _) := fun X => cOnes_any a3 b3 X PF3.out.bits
        have va : IntKind.i64.wrap a3 = a3 := by rw [IntKind.wrap_i64]; omega
        have ca : ((a3.toNat : Nat) : Int) = a3 := by omega
        rw [ca] at HGet
        have NV : Hid _ := E3.out.2 hb
        have AV : Hid _ := and64 (numTo l a3.toNat (szB b3)) (onesB b3)
        generalize szB b3 = sz at *
        generalize onesB b3 = on at *
        generalize numTo l a3.toNat sz = nm at *
        clear hw_ hz_ hfit hlow hb
        have HC4 : Hid _ := And.intro (show w4.cell? ⟨wr.heap.size, 0, none⟩ = _ from ck_at S4.out.2 0) (show w4.cell? ⟨wr.heap.size, 1, none⟩ = _ from ck_at S4.out.2 1)
        go_upto_region 6 with fail
        refine wp_region_held_drew (S := fun W => Below w4.heap.size w4 W) (by kernel_rfl) ((Below.refl _ _).drew) (fun hS => ?_)
        have B0 : Below w4.heap.size w4 w4.drew := ((Below.refl _ _).drew)
        refine any_take (i := 0) (v := ?_) rfl (by kernel_rfl) (by kernel_rfl) (by kernel_rfl) (by exact fun _ _ _ h => h) (by rfl) ?_ hS ?_
        rotate_left
        · ((intro w hSw; have x0 := ck_later HC4.out.1 hSw; have x1 := ck_later HC4.out.2 hSw; go_simp) <;> with_reducible rfl)
        (try simp only [Act.put, List.setIfInBounds_toArray, List.set_cons_zero, List.set_cons_succ])
        refine any_take (i := 1) (v := ?_) rfl (by kernel_rfl) (by kernel_rfl) (by kernel_rfl) (by exact fun _ _ _ h => h) (by rfl) ?_ hS ?_
        rotate_left
        · ((intro w hSw; have x0 := ck_later HC4.out.1 hSw; have x1 := ck_later HC4.out.2 hSw; go_simp) <;> with_reducible rfl)
        (try simp only [Act.put, List.setIfInBounds_toArray, List.set_cons_zero, List.set_cons_succ])
        refine any_take (i := 2) (v := ?_) rfl (by kernel_rfl) (by kernel_rfl) (by kernel_rfl) (by exact fun _ _ _ h => h) (by rfl) ?_ hS ?_
        rotate_left
        · ((intro w hSw; have x0 := ck_later HC4.out.1 hSw; have x1 := ck_later HC4.out.2 hSw; go_simp) <;> with_reducible rfl)
        (try simp only [Act.put, List.setIfInBounds_toArray, List.set_cons_zero, List.set_cons_succ])
        refine any_take (i := 3) (v := ?_) rfl (by kernel_rfl) (by kernel_rfl) (by kernel_rfl) (by exact fun _ _ _ h => h) (by rfl) ?_ hS ?_
        rotate_left
        · ((intro w hSw; have x0 := ck_later HC4.out.1 hSw; have x1 := ck_later HC4.out.2 hSw; go_simp) <;> with_reducible rfl)
        (try simp only [Act.put, List.setIfInBounds_toArray, List.set_cons_zero, List.set_cons_succ])
        refine any_take (i := 4) (v := ?_) rfl (by kernel_rfl) (by kernel_rfl) (by kernel_rfl) (by exact fun _ _ _ h => h) (by rfl) ?_ hS ?_
        rotate_left
        · ((intro w hSw; have x0 := ck_later HC4.out.1 hSw; have x1 := ck_later HC4.out.2 hSw; go_simp) <;> with_reducible rfl)
        (try simp only [Act.put, List.setIfInBounds_toArray, List.set_cons_zero, List.set_cons_succ])
        refine any_one (i := 5) rfl (by kernel_rfl) (fun K hK => ?_)
        go_simp
        refine (Calls.mono (HSz.out _)) ?_
        rintro e x1 ⟨rfl, hbR⟩
        have B1 : Below w4.heap.size w4 x1 := below_then B0 hbR
        go_wp2_with fail
        refine hK.out _ _ (by first | exact B1 | exact hbR | exact below_then hS hbR) (any_weaken (S' := fun W => Below x1.heap.size x1 W) (fun W hW => by first | exact below_then B1 hW | exact below_then hbR hW | exact below_then (below_then hS hbR) hW) _ _ _ _ ?_)
        clear hK K hS hbR
        have hS : Below x1.heap.size x1 x1 := Below.refl _ _
        have HG2 : Hid _ := HGet.out _ B1
        refine any_one (i := 6) rfl (by kernel_rfl) (fun K hK => ?_)
        go_simp
        refine (Calls.mono HG2.out) ?_
        rintro e q9 ⟨rfl, hq9⟩
        rw [hq9]
        clear hq9 q9
        go_wp2_with fail
        refine hK.out _ _ hS ?_
        clear hK K
        refine any_take (i := 7) (v := ?_) rfl (by kernel_rfl) (by kernel_rfl) (by kernel_rfl) (by exact fun _ _ _ h => h) (by rfl) ?_ hS ?_
        rotate_left
        · ((intro w hSw; (try dsimp only at hSw); go_simp) <;> with_reducible rfl)
        (try simp only [Act.put, List.setIfInBounds_toArray, List.set_cons_zero, List.set_cons_succ])
        refine any_take (i := 8) (v := ?_) rfl (by kernel_rfl) (by kernel_rfl) (by kernel_rfl) (by exact fun _ _ _ h => h) (by rfl) ?_ hS ?_
        rotate_left
        · ((intro w hSw; (try dsimp only at hSw); go_simp) <;> with_reducible rfl)
        (try simp only [Act.put, List.setIfInBounds_toArray, List.set_cons_zero, List.set_cons_succ])
        refine any_take (i := 9) (v := ?_) rfl (by kernel_rfl) (by kernel_rfl) (by kernel_rfl) (by exact fun _ _ _ h => h) (by rfl) ?_ hS ?_
        rotate_left
        · ((intro w hSw; (try dsimp only at hSw); go_simp) <;> with_reducible rfl)
        (try simp only [Act.put, List.setIfInBounds_toArray, List.set_cons_zero, List.set_cons_succ])
        refine any_take (i := 10) (v := ?_) rfl (by kernel_rfl) (by kernel_rfl) (by kernel_rfl) (by exact fun _ _ _ h => h) (by rfl) ?_ hS ?_
        rotate_left
        · ((intro w hSw; (try dsimp only at hSw); go_simp) <;> with_reducible rfl)
        (try simp only [Act.put, List.setIfInBounds_toArray, List.set_cons_zero, List.set_cons_succ])
        refine any_take (i := 11) (v := ?_) rfl (by kernel_rfl) (by kernel_rfl) (by kernel_rfl) (by exact fun _ _ _ h => h) (by rfl) ?_ hS ?_
        rotate_left
        · ((intro w hSw; (try dsimp only at hSw); go_simp) <;> with_reducible rfl)
        (try simp only [Act.put, List.setIfInBounds_toArray, List.set_cons_zero, List.set_cons_succ])
        refine wpAnyH_done (by kernel_rfl) ?_ _
        have S5 : Hid _ := And.intro (S4.out.1.later B1) (S4.out.2.laterB B1)
        clear hS HG2 HGet HSz S4 HC4 B0 B1
        have x0 := ck_at S5.out.2 0
        have x1 := ck_at S5.out.2 1
        simp only [List.getElem?_cons_zero, List.getElem?_cons_succ] at x0 x1
        go_wp2_with fail
        refine (Calls.mono (HOn.out _)) ?_
        rintro e w6 ⟨rfl, b6_⟩
        have S6 : Hid _ := S5.out.1.later b6_
        clear b6_ S5 x0 x1
        have vy := ck_at S6.out.vb 3
        have vf := ck_fz S6.out.vb 3
        simp only [List.getElem?_cons_zero, List.getElem?_cons_succ] at vy
        have F : Hid (RdS w (w6.setCell ⟨w.heap.size + 2, 3, none⟩ (.int .u64 (bits .and .u64 (nm.toNat : Int) (on.toNat : Int)))) [.int .u64 f0, .int .u64 f1, .int .u64 f2, .int .u64 f3, .int .u64 0, .int .u64 0]) := by
          have h := S6.out.set 3 (.int .u64 (bits .and .u64 (nm.toNat : Int) (on.toNat : Int)))
          rw [NV.out, ← and64 nm on]
          exact h
        clear S6
        go_wp2
        go_roundw
        case rel => exact ⟨4, by omega, rfl, F.out⟩
        case measure => simp [intOf]
    · have S1 : RdS w wr [.int .u64 f0, .int .u64 f1, .int .u64 f2, .int .u64 f3, .int .u64 0, .int .u64 0] := hS
      have hix : ∀ X : World, (Instr.index 79 (.agg #[.int .u8 a0, .int .u8 b0, .int .u8 a1, .int .u8 b1, .int .u8 a2, .int .u8 b2, .int .u8 a3, .int .u8 b3, .int .u8 a4, .int .u8 b4, .int .u8 a5, .int .u8 b5]) (.int .i64 4)).run Tryd.prog X = .ok (.agg #[.int .u8 a4, .int .u8 b4]) X := fun _ => by first | rfl | kernel_rfl
      have B3 := Blk.new' wr 78 [.int .u8 a4, .int .u8 b4]
      have b3_ : Below wr.heap.size wr (wr.alloc (.cells #[.int .u8 a4, .int .u8 b4] 78)) := (Below.refl _ _).alloc (Nat.le_refl _) _
      obtain ⟨w3, hw3⟩ : ∃ w3, w3 = wr.alloc (.cells #[.int .u8 a4, .int .u8 b4] 78) := ⟨_, rfl⟩
      rw [← hw3] at B3 b3_
      have S3 : Hid _ := And.intro (S1.later b3_) B3
      have x0 := ck_at B3 0
      have x1 := ck_at B3 1
      simp only [List.getElem?_cons_zero, List.getElem?_cons_succ] at x0 x1
      clear S1 hS B3 b3_
      go_upto_region 5 with fail
      rw [← hw3]
      clear hw3 hix
      go_wp2_with fail
      refine (Calls.mono (cThere_any _ _ _)) ?_
      rintro e w4 ⟨rfl, b4_⟩
      have S4 : Hid _ := And.intro (S3.out.1.later b4_) (S3.out.2.laterB b4_)
      clear b4_ S3 x0 x1
      by_cases hb : b4 = 0
      · have d1 : decide (b4 > 0) = false := decide_eq_false (by omega)
        have F : Hid (RdS w w4 [.int .u64 f0, .int .u64 f1, .int .u64 f2, .int .u64 f3, .int .u64 f4, .int .u64 0]) := by have := S4.out.1; rw [E4.out.1 hb]; exact this
        clear S4 hb
        go_wp2
        go_roundw
        case rel => exact ⟨5, by omega, rfl, F.out⟩
        case measure => simp [intOf]
      · have d1 : decide (b4 > 0) = true := decide_eq_true (by have := PF4.out.size; omega)
        have hw_ := PF4.out.wide hb
        have hz_ := PF4.out.size
        have hfit := PF4.out.fit
        have hlow := PF4.out.low
        have HGet : Hid (∀ X, Below w4.heap.size w4 X → _) := fun X (bX : Below w4.heap.size w4 X) => Get_yes a 16 c l a4.toNat (szB b4) X hl (by omega) (Row.later HR.out (below_then S4.out.1.below bX)) (by omega) (by omega) (by omega)
        have HSz : Hid (∀ X, _) := fun X => cSize_any a4 b4 X hz_
        have HOn : Hid (∀ X, _) := fun X => cOnes_any a4 b4 X PF4.out.bits
        have va : IntKind.i64.wrap a4 = a4 := by rw [IntKind.wrap_i64]; omega
        have ca : ((a4.toNat : Nat) : Int) = a4 := by omega
        rw [ca] at HGet
        have NV : Hid _ := E4.out.2 hb
        have AV : Hid _ := and64 (numTo l a4.toNat (szB b4)) (onesB b4)
        generalize szB b4 = sz at *
        generalize onesB b4 = on at *
        generalize numTo l a4.toNat sz = nm at *
        clear hw_ hz_ hfit hlow hb
        have HC4 : Hid _ := And.intro (show w4.cell? ⟨wr.heap.size, 0, none⟩ = _ from ck_at S4.out.2 0) (show w4.cell? ⟨wr.heap.size, 1, none⟩ = _ from ck_at S4.out.2 1)
        go_upto_region 6 with fail
        refine wp_region_held_drew (S := fun W => Below w4.heap.size w4 W) (by kernel_rfl) ((Below.refl _ _).drew) (fun hS => ?_)
        have B0 : Below w4.heap.size w4 w4.drew := ((Below.refl _ _).drew)
        refine any_take (i := 0) (v := ?_) rfl (by kernel_rfl) (by kernel_rfl) (by kernel_rfl) (by exact fun _ _ _ h => h) (by rfl) ?_ hS ?_
        rotate_left
        · ((intro w hSw; have x0 := ck_later HC4.out.1 hSw; have x1 := ck_later HC4.out.2 hSw; go_simp) <;> with_reducible rfl)
        (try simp only [Act.put, List.setIfInBounds_toArray, List.set_cons_zero, List.set_cons_succ])
        refine any_take (i := 1) (v := ?_) rfl (by kernel_rfl) (by kernel_rfl) (by kernel_rfl) (by exact fun _ _ _ h => h) (by rfl) ?_ hS ?_
        rotate_left
        · ((intro w hSw; have x0 := ck_later HC4.out.1 hSw; have x1 := ck_later HC4.out.2 hSw; go_simp) <;> with_reducible rfl)
        (try simp only [Act.put, List.setIfInBounds_toArray, List.set_cons_zero, List.set_cons_succ])
        refine any_take (i := 2) (v := ?_) rfl (by kernel_rfl) (by kernel_rfl) (by kernel_rfl) (by exact fun _ _ _ h => h) (by rfl) ?_ hS ?_
        rotate_left
        · ((intro w hSw; have x0 := ck_later HC4.out.1 hSw; have x1 := ck_later HC4.out.2 hSw; go_simp) <;> with_reducible rfl)
        (try simp only [Act.put, List.setIfInBounds_toArray, List.set_cons_zero, List.set_cons_succ])
        refine any_take (i := 3) (v := ?_) rfl (by kernel_rfl) (by kernel_rfl) (by kernel_rfl) (by exact fun _ _ _ h => h) (by rfl) ?_ hS ?_
        rotate_left
        · ((intro w hSw; have x0 := ck_later HC4.out.1 hSw; have x1 := ck_later HC4.out.2 hSw; go_simp) <;> with_reducible rfl)
        (try simp only [Act.put, List.setIfInBounds_toArray, List.set_cons_zero, List.set_cons_succ])
        refine any_take (i := 4) (v := ?_) rfl (by kernel_rfl) (by kernel_rfl) (by kernel_rfl) (by exact fun _ _ _ h => h) (by rfl) ?_ hS ?_
        rotate_left
        · ((intro w hSw; have x0 := ck_later HC4.out.1 hSw; have x1 := ck_later HC4.out.2 hSw; go_simp) <;> with_reducible rfl)
        (try simp only [Act.put, List.setIfInBounds_toArray, List.set_cons_zero, List.set_cons_succ])
        refine any_one (i := 5) rfl (by kernel_rfl) (fun K hK => ?_)
        go_simp
        refine (Calls.mono (HSz.out _)) ?_
        rintro e x1 ⟨rfl, hbR⟩
        have B1 : Below w4.heap.size w4 x1 := below_then B0 hbR
        go_wp2_with fail
        refine hK.out _ _ (by first | exact B1 | exact hbR | exact below_then hS hbR) (any_weaken (S' := fun W => Below x1.heap.size x1 W) (fun W hW => by first | exact below_then B1 hW | exact below_then hbR hW | exact below_then (below_then hS hbR) hW) _ _ _ _ ?_)
        clear hK K hS hbR
        have hS : Below x1.heap.size x1 x1 := Below.refl _ _
        have HG2 : Hid _ := HGet.out _ B1
        refine any_one (i := 6) rfl (by kernel_rfl) (fun K hK => ?_)
        go_simp
        refine (Calls.mono HG2.out) ?_
        rintro e q9 ⟨rfl, hq9⟩
        rw [hq9]
        clear hq9 q9
        go_wp2_with fail
        refine hK.out _ _ hS ?_
        clear hK K
        refine any_take (i := 7) (v := ?_) rfl (by kernel_rfl) (by kernel_rfl) (by kernel_rfl) (by exact fun _ _ _ h => h) (by rfl) ?_ hS ?_
        rotate_left
        · ((intro w hSw; (try dsimp only at hSw); go_simp) <;> with_reducible rfl)
        (try simp only [Act.put, List.setIfInBounds_toArray, List.set_cons_zero, List.set_cons_succ])
        refine any_take (i := 8) (v := ?_) rfl (by kernel_rfl) (by kernel_rfl) (by kernel_rfl) (by exact fun _ _ _ h => h) (by rfl) ?_ hS ?_
        rotate_left
        · ((intro w hSw; (try dsimp only at hSw); go_simp) <;> with_reducible rfl)
        (try simp only [Act.put, List.setIfInBounds_toArray, List.set_cons_zero, List.set_cons_succ])
        refine any_take (i := 9) (v := ?_) rfl (by kernel_rfl) (by kernel_rfl) (by kernel_rfl) (by exact fun _ _ _ h => h) (by rfl) ?_ hS ?_
        rotate_left
        · ((intro w hSw; (try dsimp only at hSw); go_simp) <;> with_reducible rfl)
        (try simp only [Act.put, List.setIfInBounds_toArray, List.set_cons_zero, List.set_cons_succ])
        refine any_take (i := 10) (v := ?_) rfl (by kernel_rfl) (by kernel_rfl) (by kernel_rfl) (by exact fun _ _ _ h => h) (by rfl) ?_ hS ?_
        rotate_left
        · ((intro w hSw; (try dsimp only at hSw); go_simp) <;> with_reducible rfl)
        (try simp only [Act.put, List.setIfInBounds_toArray, List.set_cons_zero, List.set_cons_succ])
        refine any_take (i := 11) (v := ?_) rfl (by kernel_rfl) (by kernel_rfl) (by kernel_rfl) (by exact fun _ _ _ h => h) (by rfl) ?_ hS ?_
        rotate_left
        · ((intro w hSw; (try dsimp only at hSw); go_simp) <;> with_reducible rfl)
        (try simp only [Act.put, List.setIfInBounds_toArray, List.set_cons_zero, List.set_cons_succ])
        refine wpAnyH_done (by kernel_rfl) ?_ _
        have S5 : Hid _ := And.intro (S4.out.1.later B1) (S4.out.2.laterB B1)
        clear hS HG2 HGet HSz S4 HC4 B0 B1
        have x0 := ck_at S5.out.2 0
        have x1 := ck_at S5.out.2 1
        simp only [List.getElem?_cons_zero, List.getElem?_cons_succ] at x0 x1
        go_wp2_with fail
        refine (Calls.mono (HOn.out _)) ?_
        rintro e w6 ⟨rfl, b6_⟩
        have S6 : Hid _ := S5.out.1.later b6_
        clear b6_ S5 x0 x1
        have vy := ck_at S6.out.vb 4
        have vf := ck_fz S6.out.vb 4
        simp only [List.getElem?_cons_zero, List.getElem?_cons_succ] at vy
        have F : Hid (RdS w (w6.setCell ⟨w.heap.size + 2, 4, none⟩ (.int .u64 (bits .and .u64 (nm.toNat : Int) (on.toNat : Int)))) [.int .u64 f0, .int .u64 f1, .int .u64 f2, .int .u64 f3, .int .u64 f4, .int .u64 0]) := by
          have h := S6.out.set 4 (.int .u64 (bits .and .u64 (nm.toNat : Int) (on.toNat : Int)))
          rw [NV.out, ← and64 nm on]
          exact h
        clear S6
        go_wp2
        go_roundw
        case rel => exact ⟨5, by omega, rfl, F.out⟩
        case measure => simp [intOf]
    · have S1 : RdS w wr [.int .u64 f0, .int .u64 f1, .int .u64 f2, .int .u64 f3, .int .u64 f4, .int .u64 0] := hS
      have hix : ∀ X : World, (Instr.index 79 (.agg #[.int .u8 a0, .int .u8 b0, .int .u8 a1, .int .u8 b1, .int .u8 a2, .int .u8 b2, .int .u8 a3, .int .u8 b3, .int .u8 a4, .int .u8 b4, .int .u8 a5, .int .u8 b5]) (.int .i64 5)).run Tryd.prog X = .ok (.agg #[.int .u8 a5, .int .u8 b5]) X := fun _ => by first | rfl | kernel_rfl
      have B3 := Blk.new' wr 78 [.int .u8 a5, .int .u8 b5]
      have b3_ : Below wr.heap.size wr (wr.alloc (.cells #[.int .u8 a5, .int .u8 b5] 78)) := (Below.refl _ _).alloc (Nat.le_refl _) _
      obtain ⟨w3, hw3⟩ : ∃ w3, w3 = wr.alloc (.cells #[.int .u8 a5, .int .u8 b5] 78) := ⟨_, rfl⟩
      rw [← hw3] at B3 b3_
      have S3 : Hid _ := And.intro (S1.later b3_) B3
      have x0 := ck_at B3 0
      have x1 := ck_at B3 1
      simp only [List.getElem?_cons_zero, List.getElem?_cons_succ] at x0 x1
      clear S1 hS B3 b3_
      go_upto_region 5 with fail
      rw [← hw3]
      clear hw3 hix
      go_wp2_with fail
      refine (Calls.mono (cThere_any _ _ _)) ?_
      rintro e w4 ⟨rfl, b4_⟩
      have S4 : Hid _ := And.intro (S3.out.1.later b4_) (S3.out.2.laterB b4_)
      clear b4_ S3 x0 x1
      by_cases hb : b5 = 0
      · have d1 : decide (b5 > 0) = false := decide_eq_false (by omega)
        have F : Hid (RdS w w4 [.int .u64 f0, .int .u64 f1, .int .u64 f2, .int .u64 f3, .int .u64 f4, .int .u64 f5]) := by have := S4.out.1; rw [E5.out.1 hb]; exact this
        clear S4 hb
        go_wp2
        go_roundw
        case rel => exact ⟨6, by omega, rfl, F.out⟩
        case measure => simp [intOf]
      · have d1 : decide (b5 > 0) = true := decide_eq_true (by have := PF5.out.size; omega)
        have hw_ := PF5.out.wide hb
        have hz_ := PF5.out.size
        have hfit := PF5.out.fit
        have hlow := PF5.out.low
        have HGet : Hid (∀ X, Below w4.heap.size w4 X → _) := fun X (bX : Below w4.heap.size w4 X) => Get_yes a 16 c l a5.toNat (szB b5) X hl (by omega) (Row.later HR.out (below_then S4.out.1.below bX)) (by omega) (by omega) (by omega)
        have HSz : Hid (∀ X, _) := fun X => cSize_any a5 b5 X hz_
        have HOn : Hid (∀ X, _) := fun X => cOnes_any a5 b5 X PF5.out.bits
        have va : IntKind.i64.wrap a5 = a5 := by rw [IntKind.wrap_i64]; omega
        have ca : ((a5.toNat : Nat) : Int) = a5 := by omega
        rw [ca] at HGet
        have NV : Hid _ := E5.out.2 hb
        have AV : Hid _ := and64 (numTo l a5.toNat (szB b5)) (onesB b5)
        generalize szB b5 = sz at *
        generalize onesB b5 = on at *
        generalize numTo l a5.toNat sz = nm at *
        clear hw_ hz_ hfit hlow hb
        have HC4 : Hid _ := And.intro (show w4.cell? ⟨wr.heap.size, 0, none⟩ = _ from ck_at S4.out.2 0) (show w4.cell? ⟨wr.heap.size, 1, none⟩ = _ from ck_at S4.out.2 1)
        go_upto_region 6 with fail
        refine wp_region_held_drew (S := fun W => Below w4.heap.size w4 W) (by kernel_rfl) ((Below.refl _ _).drew) (fun hS => ?_)
        have B0 : Below w4.heap.size w4 w4.drew := ((Below.refl _ _).drew)
        refine any_take (i := 0) (v := ?_) rfl (by kernel_rfl) (by kernel_rfl) (by kernel_rfl) (by exact fun _ _ _ h => h) (by rfl) ?_ hS ?_
        rotate_left
        · ((intro w hSw; have x0 := ck_later HC4.out.1 hSw; have x1 := ck_later HC4.out.2 hSw; go_simp) <;> with_reducible rfl)
        (try simp only [Act.put, List.setIfInBounds_toArray, List.set_cons_zero, List.set_cons_succ])
        refine any_take (i := 1) (v := ?_) rfl (by kernel_rfl) (by kernel_rfl) (by kernel_rfl) (by exact fun _ _ _ h => h) (by rfl) ?_ hS ?_
        rotate_left
        · ((intro w hSw; have x0 := ck_later HC4.out.1 hSw; have x1 := ck_later HC4.out.2 hSw; go_simp) <;> with_reducible rfl)
        (try simp only [Act.put, List.setIfInBounds_toArray, List.set_cons_zero, List.set_cons_succ])
        refine any_take (i := 2) (v := ?_) rfl (by kernel_rfl) (by kernel_rfl) (by kernel_rfl) (by exact fun _ _ _ h => h) (by rfl) ?_ hS ?_
        rotate_left
        · ((intro w hSw; have x0 := ck_later HC4.out.1 hSw; have x1 := ck_later HC4.out.2 hSw; go_simp) <;> with_reducible rfl)
        (try simp only [Act.put, List.setIfInBounds_toArray, List.set_cons_zero, List.set_cons_succ])
        refine any_take (i := 3) (v := ?_) rfl (by kernel_rfl) (by kernel_rfl) (by kernel_rfl) (by exact fun _ _ _ h => h) (by rfl) ?_ hS ?_
        rotate_left
        · ((intro w hSw; have x0 := ck_later HC4.out.1 hSw; have x1 := ck_later HC4.out.2 hSw; go_simp) <;> with_reducible rfl)
        (try simp only [Act.put, List.setIfInBounds_toArray, List.set_cons_zero, List.set_cons_succ])
        refine any_take (i := 4) (v := ?_) rfl (by kernel_rfl) (by kernel_rfl) (by kernel_rfl) (by exact fun _ _ _ h => h) (by rfl) ?_ hS ?_
        rotate_left
        · ((intro w hSw; have x0 := ck_later HC4.out.1 hSw; have x1 := ck_later HC4.out.2 hSw; go_simp) <;> with_reducible rfl)
        (try simp only [Act.put, List.setIfInBounds_toArray, List.set_cons_zero, List.set_cons_succ])
        refine any_one (i := 5) rfl (by kernel_rfl) (fun K hK => ?_)
        go_simp
        refine (Calls.mono (HSz.out _)) ?_
        rintro e x1 ⟨rfl, hbR⟩
        have B1 : Below w4.heap.size w4 x1 := below_then B0 hbR
        go_wp2_with fail
        refine hK.out _ _ (by first | exact B1 | exact hbR | exact below_then hS hbR) (any_weaken (S' := fun W => Below x1.heap.size x1 W) (fun W hW => by first | exact below_then B1 hW | exact below_then hbR hW | exact below_then (below_then hS hbR) hW) _ _ _ _ ?_)
        clear hK K hS hbR
        have hS : Below x1.heap.size x1 x1 := Below.refl _ _
        have HG2 : Hid _ := HGet.out _ B1
        refine any_one (i := 6) rfl (by kernel_rfl) (fun K hK => ?_)
        go_simp
        refine (Calls.mono HG2.out) ?_
        rintro e q9 ⟨rfl, hq9⟩
        rw [hq9]
        clear hq9 q9
        go_wp2_with fail
        refine hK.out _ _ hS ?_
        clear hK K
        refine any_take (i := 7) (v := ?_) rfl (by kernel_rfl) (by kernel_rfl) (by kernel_rfl) (by exact fun _ _ _ h => h) (by rfl) ?_ hS ?_
        rotate_left
        · ((intro w hSw; (try dsimp only at hSw); go_simp) <;> with_reducible rfl)
        (try simp only [Act.put, List.setIfInBounds_toArray, List.set_cons_zero, List.set_cons_succ])
        refine any_take (i := 8) (v := ?_) rfl (by kernel_rfl) (by kernel_rfl) (by kernel_rfl) (by exact fun _ _ _ h => h) (by rfl) ?_ hS ?_
        rotate_left
        · ((intro w hSw; (try dsimp only at hSw); go_simp) <;> with_reducible rfl)
        (try simp only [Act.put, List.setIfInBounds_toArray, List.set_cons_zero, List.set_cons_succ])
        refine any_take (i := 9) (v := ?_) rfl (by kernel_rfl) (by kernel_rfl) (by kernel_rfl) (by exact fun _ _ _ h => h) (by rfl) ?_ hS ?_
        rotate_left
        · ((intro w hSw; (try dsimp only at hSw); go_simp) <;> with_reducible rfl)
        (try simp only [Act.put, List.setIfInBounds_toArray, List.set_cons_zero, List.set_cons_succ])
        refine any_take (i := 10) (v := ?_) rfl (by kernel_rfl) (by kernel_rfl) (by kernel_rfl) (by exact fun _ _ _ h => h) (by rfl) ?_ hS ?_
        rotate_left
        · ((intro w hSw; (try dsimp only at hSw); go_simp) <;> with_reducible rfl)
        (try simp only [Act.put, List.setIfInBounds_toArray, List.set_cons_zero, List.set_cons_succ])
        refine any_take (i := 11) (v := ?_) rfl (by kernel_rfl) (by kernel_rfl) (by kernel_rfl) (by exact fun _ _ _ h => h) (by rfl) ?_ hS ?_
        rotate_left
        · ((intro w hSw; (try dsimp only at hSw); go_simp) <;> with_reducible rfl)
        (try simp only [Act.put, List.setIfInBounds_toArray, List.set_cons_zero, List.set_cons_succ])
        refine wpAnyH_done (by kernel_rfl) ?_ _
        have S5 : Hid _ := And.intro (S4.out.1.later B1) (S4.out.2.laterB B1)
        clear hS HG2 HGet HSz S4 HC4 B0 B1
        have x0 := ck_at S5.out.2 0
        have x1 := ck_at S5.out.2 1
        simp only [List.getElem?_cons_zero, List.getElem?_cons_succ] at x0 x1
        go_wp2_with fail
        refine (Calls.mono (HOn.out _)) ?_
        rintro e w6 ⟨rfl, b6_⟩
        have S6 : Hid _ := S5.out.1.later b6_
        clear b6_ S5 x0 x1
        have vy := ck_at S6.out.vb 5
        have vf := ck_fz S6.out.vb 5
        simp only [List.getElem?_cons_zero, List.getElem?_cons_succ] at vy
        have F : Hid (RdS w (w6.setCell ⟨w.heap.size + 2, 5, none⟩ (.int .u64 (bits .and .u64 (nm.toNat : Int) (on.toNat : Int)))) [.int .u64 f0, .int .u64 f1, .int .u64 f2, .int .u64 f3, .int .u64 f4, .int .u64 f5]) := by
          have h := S6.out.set 5 (.int .u64 (bits .and .u64 (nm.toNat : Int) (on.toNat : Int)))
          rw [NV.out, ← and64 nm on]
          exact h
        clear S6
        go_wp2
        go_roundw
        case rel => exact ⟨6, by omega, rfl, F.out⟩
        case measure => simp [intOf]
    · have S1 : RdS w wr [.int .u64 f0, .int .u64 f1, .int .u64 f2, .int .u64 f3, .int .u64 f4, .int .u64 f5] := hS
      have vy0 := ck_at S1.vb 0
      have vy1 := ck_at S1.vb 1
      have vy2 := ck_at S1.vb 2
      have vy3 := ck_at S1.vb 3
      have vy4 := ck_at S1.vb 4
      have vy5 := ck_at S1.vb 5
      have rz0 := ck_at S1.res 0
      have rz1 := ck_at S1.res 1
      have rz2 := ck_at S1.res 2
      have rz3 := ck_at S1.res 3
      have rz4 := ck_at S1.res 4
      have rz5 := ck_at S1.res 5
      have rf0 := ck_fz S1.res 0
      have rf1 := ck_fz S1.res 1
      have rf2 := ck_fz S1.res 2
      have rf3 := ck_fz S1.res 3
      have rf4 := ck_fz S1.res 4
      have rf5 := ck_fz S1.res 5
      simp only [List.getElem?_cons_zero, List.getElem?_cons_succ] at vy0 rz0 vy1 rz1 vy2 rz2 vy3 rz3 vy4 rz4 vy5 rz5
      have R1 := ((((((S1.res).set 0 (.int .u64 f0)).set 1 (.int .u64 f1)).set 2 (.int .u64 f2)).set 3 (.int .u64 f3)).set 4 (.int .u64 f4)).set 5 (.int .u64 f5)
      simp only [List.set_cons_zero, List.set_cons_succ] at R1
      have R2 := ((((((S1.below).setCell (p := ⟨w.heap.size + 1, 0, none⟩) (show w.heap.size ≤ w.heap.size + 1 by omega) (.int .u64 f0)).setCell (p := ⟨w.heap.size + 1, 1, none⟩) (show w.heap.size ≤ w.heap.size + 1 by omega) (.int .u64 f1)).setCell (p := ⟨w.heap.size + 1, 2, none⟩) (show w.heap.size ≤ w.heap.size + 1 by omega) (.int .u64 f2)).setCell (p := ⟨w.heap.size + 1, 3, none⟩) (show w.heap.size ≤ w.heap.size + 1 by omega) (.int .u64 f3)).setCell (p := ⟨w.heap.size + 1, 4, none⟩) (show w.heap.size ≤ w.heap.size + 1 by omega) (.int .u64 f4)).setCell (p := ⟨w.heap.size + 1, 5, none⟩) (show w.heap.size ≤ w.heap.size + 1 by omega) (.int .u64 f5)
      have G : Hid _ := And.intro R1 R2
      clear R1 R2 S1 hS
      go_wp2
      clear vy0 rz0 rf0 vy1 rz1 rf1 vy2 rz2 rf2 vy3 rz3 rf3 vy4 rz4 rf4 vy5 rz5 rf5
      generalize ((((((wr).setCell ⟨w.heap.size + 1, 0, none⟩ (.int .u64 f0)).setCell ⟨w.heap.size + 1, 1, none⟩ (.int .u64 f1)).setCell ⟨w.heap.size + 1, 2, none⟩ (.int .u64 f2)).setCell ⟨w.heap.size + 1, 3, none⟩ (.int .u64 f3)).setCell ⟨w.heap.size + 1, 4, none⟩ (.int .u64 f4)).setCell ⟨w.heap.size + 1, 5, none⟩ (.int .u64 f5) = wf at *
      have r0 := ck_at G.out.1 0
      have r1 := ck_at G.out.1 1
      have r2 := ck_at G.out.1 2
      have r3 := ck_at G.out.1 3
      have r4 := ck_at G.out.1 4
      have r5 := ck_at G.out.1 5
      simp only [List.getElem?_cons_zero, List.getElem?_cons_succ] at r0 r1 r2 r3 r4 r5
      refine bodyPost_ret (v := .agg #[.int .u64 f0, .int .u64 f1, .int .u64 f2, .int .u64 f3, .int .u64 f4, .int .u64 f5]) (by simp [results, Tryd.results50, go_sem, r0, r1, r2, r3, r4, r5]) rfl ?_
      exact ⟨by rw [HF0.out, HF1.out, HF2.out, HF3.out, HF4.out, HF5.out], G.out.2⟩
end Go.Proofs.YtmoobfpmijdoaaaDoor

/- cdb: a row's write. -/
namespace Go.Proofs.YtmoobfpmijdoaaaDoor
open Go.RowKit
set_option linter.unusedVariables false
set_option linter.unusedSimpArgs false
set_option maxRecDepth 4000

def c8 (n : Int) : BitVec 8 := BitVec.ofInt 8 n
theorem c8_val {n : Int} (h : 0 ≤ n ∧ n < 256) : ((c8 n).toNat : Int) = n := by
  unfold c8
  rw [BitVec.toNat_ofInt]
  simp
  omega
theorem cMake (N : Nat) (hN : N ≤ 140737488355328) (u : World) : (Instr.makeSlice 23 (.int .i64 (N : Int)) (.int .i64 (N : Int))).run Tryd.prog u = .ok (.slice (some ⟨u.heap.size, 0, none⟩) N N) (u.alloc (.cells (vals (List.replicate N 0#8)).toArray 5)) := by
  obtain ⟨i0, hi, hz0, hz1, hz2⟩ := info_u8'
  have h := run_make (P := Tryd.prog) u 23 5 i0 (.int .u8 0) Tryd.underlying23 hi hz0 .i64 .i64 N N (by omega) (by omega) (by rw [hz2]; omega) (by omega)
  rw [hz1] at h
  have e : (madeCells #[Value.int .u8 0] N) = (vals (List.replicate N 0#8)).toArray := by
    have e2 : vals (List.replicate N 0#8) = List.replicate N (Value.int .u8 0) := by simp [vals]
    rw [e2]
    apply Array.ext
    · simp [madeCells]
    · intro i h1 h2; simp [madeCells, Nat.mod_one]
  rw [← e]
  simpa [Value.cells] using h
/-- a field laid into a command's bytes -/
def layF (l : List (BitVec 8)) (a b : Int) (x : BitVec 64) : List (BitVec 8) := if b = 0 then l else over l a.toNat (be (szB b) x)
theorem layF_len {l : List (BitVec 8)} {a b : Int} {x : BitVec 64} (h : PlOk a b) (hl : l.length = 16) : (layF l a b x).length = 16 := by
  unfold layF
  split
  · exact hl
  · rename_i h0
    have hw := h.wide h0
    have hf := h.fit
    rw [over_length _ _ _ (by rw [be_length _ _ (by omega), hl]; omega), hl]
def opL (o : Int) : List (BitVec 8) := c8 o :: List.replicate 15 0#8
/-- a command's bytes behind its first fields -/
def wrF (o : Int) (qs : List ((Int × Int) × BitVec 64)) (k : Nat) : List (BitVec 8) := (qs.take k).foldl (fun l q => layF l q.1.1 q.1.2 q.2) (opL o)
set_option maxHeartbeats 4000000 in
theorem cWrite_any (o a0 b0 a1 b1 a2 b2 a3 b3 a4 b4 a5 b5 : Int) (m0 m1 m2 m3 m4 m5 : BitVec 64) (w : World) (ho : 0 ≤ o ∧ o < 256) (p0 : PlOk a0 b0) (p1 : PlOk a1 b1) (p2 : PlOk a2 b2) (p3 : PlOk a3 b3) (p4 : PlOk a4 b4) (p5 : PlOk a5 b5) (t0 : b0 ≠ 0 → fitsB (szB b0) m0 = true) (t1 : b1 ≠ 0 → fitsB (szB b1) m1 = true) (t2 : b2 ≠ 0 → fitsB (szB b2) m2 = true) (t3 : b3 ≠ 0 → fitsB (szB b3) m3 = true) (t4 : b4 ≠ 0 → fitsB (szB b4) m4 = true) (t5 : b5 ≠ 0 → fitsB (szB b5) m5 = true) :
    Calls Tryd.prog 49 #[.agg #[.int .u8 o, .int .u8 a0, .int .u8 b0, .int .u8 a1, .int .u8 b1, .int .u8 a2, .int .u8 b2, .int .u8 a3, .int .u8 b3, .int .u8 a4, .int .u8 b4, .int .u8 a5, .int .u8 b5], .agg #[.int .u64 (m0.toNat : Int), .int .u64 (m1.toNat : Int), .int .u64 (m2.toNat : Int), .int .u64 (m3.toNat : Int), .int .u64 (m4.toNat : Int), .int .u64 (m5.toNat : Int)]] w fun e w' => ∃ z, e = .returned z ∧ Own w' w.heap.size z (wrF o [((a0, b0), m0), ((a1, b1), m1), ((a2, b2), m2), ((a3, b3), m3), ((a4, b4), m4), ((a5, b5), m5)] 6) ∧ Below w.heap.size w w' := by
  have B0 := Blk.new' w 81 [.int .u8 o, .int .u8 a0, .int .u8 b0, .int .u8 a1, .int .u8 b1, .int .u8 a2, .int .u8 b2, .int .u8 a3, .int .u8 b3, .int .u8 a4, .int .u8 b4, .int .u8 a5, .int .u8 b5]
  have b0_ : Below w.heap.size w (w.alloc (.cells #[.int .u8 o, .int .u8 a0, .int .u8 b0, .int .u8 a1, .int .u8 b1, .int .u8 a2, .int .u8 b2, .int .u8 a3, .int .u8 b3, .int .u8 a4, .int .u8 b4, .int .u8 a5, .int .u8 b5] 81)) := (Below.refl _ _).alloc (Nat.le_refl _) _
  obtain ⟨w0, hw0⟩ : ∃ w0, w0 = w.alloc (.cells #[.int .u8 o, .int .u8 a0, .int .u8 b0, .int .u8 a1, .int .u8 b1, .int .u8 a2, .int .u8 b2, .int .u8 a3, .int .u8 b3, .int .u8 a4, .int .u8 b4, .int .u8 a5, .int .u8 b5] 81) := ⟨_, rfl⟩
  have z0 : w0.heap.size = w.heap.size + 1 := by rw [hw0]; simp
  rw [← hw0] at B0 b0_
  have B1 := Blk.new' w0 84 [.int .u64 (m0.toNat : Int), .int .u64 (m1.toNat : Int), .int .u64 (m2.toNat : Int), .int .u64 (m3.toNat : Int), .int .u64 (m4.toNat : Int), .int .u64 (m5.toNat : Int)]
  have b1_ : Below w0.heap.size w0 (w0.alloc (.cells #[.int .u64 (m0.toNat : Int), .int .u64 (m1.toNat : Int), .int .u64 (m2.toNat : Int), .int .u64 (m3.toNat : Int), .int .u64 (m4.toNat : Int), .int .u64 (m5.toNat : Int)] 84)) := (Below.refl _ _).alloc (Nat.le_refl _) _
  obtain ⟨w1, hw1⟩ : ∃ w1, w1 = w0.alloc (.cells #[.int .u64 (m0.toNat : Int), .int .u64 (m1.toNat : Int), .int .u64 (m2.toNat : Int), .int .u64 (m3.toNat : Int), .int .u64 (m4.toNat : Int), .int .u64 (m5.toNat : Int)] 84) := ⟨_, rfl⟩
  have z1 : w1.heap.size = w.heap.size + 2 := by rw [hw1]; simp [z0]
  rw [← hw1] at B1 b1_
  rw [z0] at B1
  have hmk : (Instr.makeSlice 23 (.int .i64 16) (.int .i64 16)).run Tryd.prog w1 = _ := cMake 16 (by omega) w1
  have B2 := Blk.new' w1 5 (vals (List.replicate 16 0#8))
  have b2_ : Below w1.heap.size w1 (w1.alloc (.cells (vals (List.replicate 16 0#8)).toArray 5)) := (Below.refl _ _).alloc (Nat.le_refl _) _
  obtain ⟨w2, hw2⟩ : ∃ w2, w2 = w1.alloc (.cells (vals (List.replicate 16 0#8)).toArray 5) := ⟨_, rfl⟩
  rw [← hw2] at B2 b2_ hmk
  rw [z1] at B2 hmk
  have B02 := B0.laterB (below_then b1_ b2_)
  have y0 := ck_at B02 0
  have y1 := ck_at B02 1
  have y2 := ck_at B02 2
  have y3 := ck_at B02 3
  have y4 := ck_at B02 4
  have y5 := ck_at B02 5
  have y6 := ck_at B02 6
  have y7 := ck_at B02 7
  have y8 := ck_at B02 8
  have y9 := ck_at B02 9
  have y10 := ck_at B02 10
  have y11 := ck_at B02 11
  have y12 := ck_at B02 12
  simp only [List.getElem?_cons_zero, List.getElem?_cons_succ] at y0 y1 y2 y3 y4 y5 y6 y7 y8 y9 y10 y11 y12
  have u0 := ck_at B2 0
  have g0 := ck_fz B2 0
  simp only [vals, List.replicate, List.map_cons, List.getElem?_cons_zero] at u0
  have B3 := B2.set 0 (.int .u8 o)
  have E3 : (vals (List.replicate 16 0#8)).set 0 (.int .u8 o) = vals (opL o) := by unfold opL vals; simp [List.replicate, c8_val ho]
  rw [E3] at B3
  have O3 : Own (w2.setCell ⟨w.heap.size + 2, 0, none⟩ (.int .u8 o)) w.heap.size (.slice (some ⟨w.heap.size + 2, 0, none⟩) 16 16) (opL o) := Own.ofBlock (l := opL o) (cap := 16) (by omega) B3 (by simp [opL]) (by simp [maxLen]) (by simp [vals, opL]) (by simp [vals, opL])
  have b3_ : Below w.heap.size w (w2.setCell ⟨w.heap.size + 2, 0, none⟩ (.int .u8 o)) := (below_then b0_ (below_then b1_ b2_)).setCell (show w.heap.size ≤ w.heap.size + 2 by omega) _
  have V3 := (B1.laterB b2_).grown (grown_set w2 (w.heap.size + 2) 0 (.int .u8 o)) (by simp)
  obtain ⟨w3, hw3⟩ : ∃ w3, w3 = w2.setCell ⟨w.heap.size + 2, 0, none⟩ (.int .u8 o) := ⟨_, rfl⟩
  rw [← hw3] at O3 b3_ V3
  have S0 : Hid _ := And.intro O3 (And.intro b3_ V3)
  clear B0 b0_ B1 b1_ B2 b2_ B02 z0 z1 B3 E3 O3 b3_ V3 hw2
  go_enter Tryd.func49, Tryd.ntmps49
  go_upto_region 1 with fail
  rw [← hw0, ← hw1]
  clear hw0 hw1
  go_wp2_with fail
  rw [← hw3]
  clear hw3 hmk u0 g0 y0 y1 y2 y3 y4 y5 y6 y7 y8 y9 y10 y11 y12
  have PF0 : Hid _ := And.intro p0 t0
  have PF1 : Hid _ := And.intro p1 t1
  have PF2 : Hid _ := And.intro p2 t2
  have PF3 : Hid _ := And.intro p3 t3
  have PF4 : Hid _ := And.intro p4 t4
  have PF5 : Hid _ := And.intro p5 t5
  clear p0 t0 p1 t1 p2 t2 p3 t3 p4 t4 p5 t5
  have hl0 : Hid ((wrF o [((a0, b0), m0), ((a1, b1), m1), ((a2, b2), m2), ((a3, b3), m3), ((a4, b4), m4), ((a5, b5), m5)] 0).length = 16) := (by simp [opL] : (opL o).length = 16)
  have hl1 : Hid ((wrF o [((a0, b0), m0), ((a1, b1), m1), ((a2, b2), m2), ((a3, b3), m3), ((a4, b4), m4), ((a5, b5), m5)] 1).length = 16) := layF_len (l := wrF o [((a0, b0), m0), ((a1, b1), m1), ((a2, b2), m2), ((a3, b3), m3), ((a4, b4), m4), ((a5, b5), m5)] 0) PF0.out.1 hl0.out
  have hl2 : Hid ((wrF o [((a0, b0), m0), ((a1, b1), m1), ((a2, b2), m2), ((a3, b3), m3), ((a4, b4), m4), ((a5, b5), m5)] 2).length = 16) := layF_len (l := wrF o [((a0, b0), m0), ((a1, b1), m1), ((a2, b2), m2), ((a3, b3), m3), ((a4, b4), m4), ((a5, b5), m5)] 1) PF1.out.1 hl1.out
  have hl3 : Hid ((wrF o [((a0, b0), m0), ((a1, b1), m1), ((a2, b2), m2), ((a3, b3), m3), ((a4, b4), m4), ((a5, b5), m5)] 3).length = 16) := layF_len (l := wrF o [((a0, b0), m0), ((a1, b1), m1), ((a2, b2), m2), ((a3, b3), m3), ((a4, b4), m4), ((a5, b5), m5)] 2) PF2.out.1 hl2.out
  have hl4 : Hid ((wrF o [((a0, b0), m0), ((a1, b1), m1), ((a2, b2), m2), ((a3, b3), m3), ((a4, b4), m4), ((a5, b5), m5)] 4).length = 16) := layF_len (l := wrF o [((a0, b0), m0), ((a1, b1), m1), ((a2, b2), m2), ((a3, b3), m3), ((a4, b4), m4), ((a5, b5), m5)] 3) PF3.out.1 hl3.out
  have hl5 : Hid ((wrF o [((a0, b0), m0), ((a1, b1), m1), ((a2, b2), m2), ((a3, b3), m3), ((a4, b4), m4), ((a5, b5), m5)] 5).length = 16) := layF_len (l := wrF o [((a0, b0), m0), ((a1, b1), m1), ((a2, b2), m2), ((a3, b3), m3), ((a4, b4), m4), ((a5, b5), m5)] 4) PF4.out.1 hl4.out
  have hl6 : Hid ((wrF o [((a0, b0), m0), ((a1, b1), m1), ((a2, b2), m2), ((a3, b3), m3), ((a4, b4), m4), ((a5, b5), m5)] 6).length = 16) := layF_len (l := wrF o [((a0, b0), m0), ((a1, b1), m1), ((a2, b2), m2), ((a3, b3), m3), ((a4, b4), m4), ((a5, b5), m5)] 5) PF5.out.1 hl5.out
  go_loopw [5, 15] (fun bv iv wr => ∃ k : Nat, k ≤ 6 ∧ iv = .int .i64 k ∧ Own wr w.heap.size bv (wrF o [((a0, b0), m0), ((a1, b1), m1), ((a2, b2), m2), ((a3, b3), m3), ((a4, b4), m4), ((a5, b5), m5)] k) ∧ Below w.heap.size w wr ∧ Blk wr (w.heap.size + 1) 84 [.int .u64 (m0.toNat : Int), .int .u64 (m1.toNat : Int), .int .u64 (m2.toNat : Int), .int .u64 (m3.toNat : Int), .int .u64 (m4.toNat : Int), .int .u64 (m5.toNat : Int)]) (fun _ iv _ => 6 - (intOf iv).toNat)
  case atStart => exact ⟨0, by omega, rfl, S0.out.1, S0.out.2.1, S0.out.2.2⟩
  case round =>
    clear S0
    obtain ⟨k, hk, rfl, hO, hbw, hV⟩ := hrel
    have hk' : k = 0 ∨ k = 1 ∨ k = 2 ∨ k = 3 ∨ k = 4 ∨ k = 5 ∨ k = 6 := by omega
    rcases hk' with rfl | rfl | rfl | rfl | rfl | rfl | rfl
    · have hO1 : Own wr w.heap.size u5 (wrF o [((a0, b0), m0), ((a1, b1), m1), ((a2, b2), m2), ((a3, b3), m3), ((a4, b4), m4), ((a5, b5), m5)] 0) := hO
      have hlj : (wrF o [((a0, b0), m0), ((a1, b1), m1), ((a2, b2), m2), ((a3, b3), m3), ((a4, b4), m4), ((a5, b5), m5)] 0).length = 16 := hl0.out
      obtain ⟨Lj, hLj⟩ : ∃ Lj, Lj = wrF o [((a0, b0), m0), ((a1, b1), m1), ((a2, b2), m2), ((a3, b3), m3), ((a4, b4), m4), ((a5, b5), m5)] 0 := ⟨_, rfl⟩
      rw [← hLj] at hO1 hlj
      have LE : Hid (wrF o [((a0, b0), m0), ((a1, b1), m1), ((a2, b2), m2), ((a3, b3), m3), ((a4, b4), m4), ((a5, b5), m5)] 1 = layF Lj a0 b0 m0) := by rw [hLj]; rfl
      clear hLj hO
      have HO1 : Hid _ := And.intro hO1 hlj
      obtain ⟨sa, sc, e5, hle, -, -, hsn, -⟩ := hO1.open
      rw [hlj] at hle e5
      subst e5
      have hix : ∀ X : World, (Instr.index 79 (.agg #[.int .u8 a0, .int .u8 b0, .int .u8 a1, .int .u8 b1, .int .u8 a2, .int .u8 b2, .int .u8 a3, .int .u8 b3, .int .u8 a4, .int .u8 b4, .int .u8 a5, .int .u8 b5]) (.int .i64 0)).run Tryd.prog X = .ok (.agg #[.int .u8 a0, .int .u8 b0]) X := fun _ => by first | rfl | kernel_rfl
      have B3 := Blk.new' wr 78 [.int .u8 a0, .int .u8 b0]
      have b3_ : Below wr.heap.size wr (wr.alloc (.cells #[.int .u8 a0, .int .u8 b0] 78)) := (Below.refl _ _).alloc (Nat.le_refl _) _
      obtain ⟨w3, hw3⟩ : ∃ w3, w3 = wr.alloc (.cells #[.int .u8 a0, .int .u8 b0] 78) := ⟨_, rfl⟩
      rw [← hw3] at B3 b3_
      have S3 : Hid _ := And.intro (And.intro b3_ B3) (And.intro hbw hV)
      have c0 := ck_at B3 0
      have c1 := ck_at B3 1
      simp only [List.getElem?_cons_zero, List.getElem?_cons_succ] at c0 c1
      clear hO1 hbw hV B3 b3_ hlj
      go_upto_region 6 with fail
      rw [← hw3]
      clear hw3 hix
      go_wp2_with fail
      refine (Calls.mono (cThere_any _ _ _)) ?_
      rintro e w4 ⟨rfl, b4_⟩
      have S4 : Hid _ := And.intro (below_then S3.out.1.1 b4_) (And.intro (S3.out.1.2.laterB b4_) (And.intro (below_then S3.out.2.1 (below_then S3.out.1.1 b4_)) (S3.out.2.2.laterB (below_then S3.out.1.1 b4_))))
      clear b4_ S3 c0 c1
      by_cases hb : b0 = 0
      · have d1 : decide (b0 > 0) = false := decide_eq_false (by omega)
        have F : Hid (Own w4 w.heap.size (.slice sa 16 sc) (wrF o [((a0, b0), m0), ((a1, b1), m1), ((a2, b2), m2), ((a3, b3), m3), ((a4, b4), m4), ((a5, b5), m5)] 1) ∧ Below w.heap.size w w4 ∧ Blk w4 (w.heap.size + 1) 84 [.int .u64 (m0.toNat : Int), .int .u64 (m1.toNat : Int), .int .u64 (m2.toNat : Int), .int .u64 (m3.toNat : Int), .int .u64 (m4.toNat : Int), .int .u64 (m5.toNat : Int)]) := ⟨by rw [LE.out]; unfold layF; rw [if_pos hb]; exact HO1.out.1.later S4.out.1, S4.out.2.2.1, S4.out.2.2.2⟩
        clear S4 hb
        go_wp2
        go_roundw
        case rel => exact ⟨1, by omega, rfl, F.out.1, F.out.2.1, F.out.2.2⟩
        case measure => simp [intOf]
      · have d1 : decide (b0 > 0) = true := decide_eq_true (by have := PF0.out.1.size; omega)
        have hw_ := PF0.out.1.wide hb
        have hz_ := PF0.out.1.size
        have hfit := PF0.out.1.fit
        have hlow := PF0.out.1.low
        have va : IntKind.i64.wrap a0 = a0 := by rw [IntKind.wrap_i64]; omega
        have ca : ((a0.toNat : Nat) : Int) = a0 := by omega
        have HPut : Hid (∀ X, Below w4.heap.size w4 X → _) := fun X (bX : Below w4.heap.size w4 X) => Put_yes sa 16 sc Lj a0.toNat (szB b0) m0 X HO1.out.2 hle (by obtain ⟨_, _, e6, -, -, hr6, -, -⟩ := (HO1.out.1.later (below_then S4.out.1 bX)).open; simp only [Value.slice.injEq] at e6; obtain ⟨rfl, -, -⟩ := e6; exact hr6) hsn (by omega) (by omega) (by omega) (by omega) (PF0.out.2 hb)
        rw [ca] at HPut
        have HSz : Hid (∀ X, _) := fun X => cSize_any a0 b0 X hz_
        have LV : Hid (wrF o [((a0, b0), m0), ((a1, b1), m1), ((a2, b2), m2), ((a3, b3), m3), ((a4, b4), m4), ((a5, b5), m5)] 1 = over Lj a0.toNat (be (szB b0) m0)) := by show _ = _; rw [LE.out]; unfold layF; rw [if_neg hb]
        generalize szB b0 = sz at *
        clear hw_ hz_ hfit hlow hb hle hsn
        have HC4 : Hid _ := And.intro (show w4.cell? ⟨wr.heap.size, 0, none⟩ = _ from ck_at S4.out.2.1 0) (And.intro (show w4.cell? ⟨wr.heap.size, 1, none⟩ = _ from ck_at S4.out.2.1 1) (show w4.cell? ⟨w.heap.size + 1, 0, none⟩ = some (.int .u64 (m0.toNat : Int)) from ck_at S4.out.2.2.2 0))
        go_upto_region 7 with fail
        refine wp_region_held_drew (S := fun W => Below w4.heap.size w4 W) (by kernel_rfl) ((Below.refl _ _).drew) (fun hS => ?_)
        have B0 : Below w4.heap.size w4 w4.drew := ((Below.refl _ _).drew)
        refine any_take (i := 0) (v := ?_) rfl (by kernel_rfl) (by kernel_rfl) (by kernel_rfl) (by exact fun _ _ _ h => h) (by rfl) ?_ hS ?_
        rotate_left
        · ((intro w hSw; have c0 := ck_later HC4.out.1 hSw; have c1 := ck_later HC4.out.2.1 hSw; have c2 := ck_later HC4.out.2.2 hSw; go_simp) <;> with_reducible rfl)
        (try simp only [Act.put, List.setIfInBounds_toArray, List.set_cons_zero, List.set_cons_succ])
        refine any_take (i := 1) (v := ?_) rfl (by kernel_rfl) (by kernel_rfl) (by kernel_rfl) (by exact fun _ _ _ h => h) (by rfl) ?_ hS ?_
        rotate_left
        · ((intro w hSw; have c0 := ck_later HC4.out.1 hSw; have c1 := ck_later HC4.out.2.1 hSw; have c2 := ck_later HC4.out.2.2 hSw; go_simp) <;> with_reducible rfl)
        (try simp only [Act.put, List.setIfInBounds_toArray, List.set_cons_zero, List.set_cons_succ])
        refine any_take (i := 2) (v := ?_) rfl (by kernel_rfl) (by kernel_rfl) (by kernel_rfl) (by exact fun _ _ _ h => h) (by rfl) ?_ hS ?_
        rotate_left
        · ((intro w hSw; have c0 := ck_later HC4.out.1 hSw; have c1 := ck_later HC4.out.2.1 hSw; have c2 := ck_later HC4.out.2.2 hSw; go_simp) <;> with_reducible rfl)
        (try simp only [Act.put, List.setIfInBounds_toArray, List.set_cons_zero, List.set_cons_succ])
        refine any_take (i := 3) (v := ?_) rfl (by kernel_rfl) (by kernel_rfl) (by kernel_rfl) (by exact fun _ _ _ h => h) (by rfl) ?_ hS ?_
        rotate_left
        · ((intro w hSw; have c0 := ck_later HC4.out.1 hSw; have c1 := ck_later HC4.out.2.1 hSw; have c2 := ck_later HC4.out.2.2 hSw; go_simp) <;> with_reducible rfl)
        (try simp only [Act.put, List.setIfInBounds_toArray, List.set_cons_zero, List.set_cons_succ])
        refine any_take (i := 4) (v := ?_) rfl (by kernel_rfl) (by kernel_rfl) (by kernel_rfl) (by exact fun _ _ _ h => h) (by rfl) ?_ hS ?_
        rotate_left
        · ((intro w hSw; have c0 := ck_later HC4.out.1 hSw; have c1 := ck_later HC4.out.2.1 hSw; have c2 := ck_later HC4.out.2.2 hSw; go_simp) <;> with_reducible rfl)
        (try simp only [Act.put, List.setIfInBounds_toArray, List.set_cons_zero, List.set_cons_succ])
        refine any_take (i := 6) (v := ?_) rfl (by kernel_rfl) (by kernel_rfl) (by kernel_rfl) (by exact fun _ _ _ h => h) (by rfl) ?_ hS ?_
        rotate_left
        · ((intro w hSw; have c0 := ck_later HC4.out.1 hSw; have c1 := ck_later HC4.out.2.1 hSw; have c2 := ck_later HC4.out.2.2 hSw; go_simp) <;> with_reducible rfl)
        (try simp only [Act.put, List.setIfInBounds_toArray, List.set_cons_zero, List.set_cons_succ])
        refine any_take (i := 7) (v := ?_) rfl (by kernel_rfl) (by kernel_rfl) (by kernel_rfl) (by exact fun _ _ _ h => h) (by rfl) ?_ hS ?_
        rotate_left
        · ((intro w hSw; have c0 := ck_later HC4.out.1 hSw; have c1 := ck_later HC4.out.2.1 hSw; have c2 := ck_later HC4.out.2.2 hSw; go_simp) <;> with_reducible rfl)
        (try simp only [Act.put, List.setIfInBounds_toArray, List.set_cons_zero, List.set_cons_succ])
        refine any_take (i := 8) (v := ?_) rfl (by kernel_rfl) (by kernel_rfl) (by kernel_rfl) (by exact fun _ _ _ h => h) (by rfl) ?_ hS ?_
        rotate_left
        · ((intro w hSw; have c0 := ck_later HC4.out.1 hSw; have c1 := ck_later HC4.out.2.1 hSw; have c2 := ck_later HC4.out.2.2 hSw; go_simp) <;> with_reducible rfl)
        (try simp only [Act.put, List.setIfInBounds_toArray, List.set_cons_zero, List.set_cons_succ])
        refine any_one (i := 5) rfl (by kernel_rfl) (fun K hK => ?_)
        go_simp
        refine (Calls.mono (HSz.out _)) ?_
        rintro e x1 ⟨rfl, hbR⟩
        have B1 : Below w4.heap.size w4 x1 := below_then B0 hbR
        go_wp2_with fail
        refine hK.out _ _ (by first | exact B1 | exact hbR | exact below_then hS hbR) (any_weaken (S' := fun W => Below x1.heap.size x1 W) (fun W hW => by first | exact below_then B1 hW | exact below_then hbR hW | exact below_then (below_then hS hbR) hW) _ _ _ _ ?_)
        clear hK K hS hbR
        have hS : Below x1.heap.size x1 x1 := Below.refl _ _
        have K2 : Hid _ := HPut.out _ B1
        refine any_one (i := 9) rfl (by kernel_rfl) (fun K hK => ?_)
        go_simp
        refine (Calls.mono (K2.out)) ?_
        rintro e x2 ⟨z9, rfl, o9, hbR⟩
        have B2 : Below w4.heap.size w4 x2 := below_then B1 hbR
        clear K2
        go_wp2_with fail
        refine hK.out _ _ (by first | exact B2 | exact hbR | exact below_then hS hbR) (any_weaken (S' := fun W => Below x2.heap.size x2 W) (fun W hW => by first | exact below_then B2 hW | exact below_then hbR hW | exact below_then (below_then hS hbR) hW) _ _ _ _ ?_)
        clear hK K hS hbR
        have hS : Below x2.heap.size x2 x2 := Below.refl _ _
        refine any_take (i := 10) (v := ?_) rfl (by kernel_rfl) (by kernel_rfl) (by kernel_rfl) (by exact fun _ _ _ h => h) (by rfl) ?_ hS ?_
        rotate_left
        · ((intro w hSw; (try dsimp only at hSw); go_simp) <;> with_reducible rfl)
        (try simp only [Act.put, List.setIfInBounds_toArray, List.set_cons_zero, List.set_cons_succ])
        refine any_take (i := 11) (v := ?_) rfl (by kernel_rfl) (by kernel_rfl) (by kernel_rfl) (by exact fun _ _ _ h => h) (by rfl) ?_ hS ?_
        rotate_left
        · ((intro w hSw; (try dsimp only at hSw); go_simp) <;> with_reducible rfl)
        (try simp only [Act.put, List.setIfInBounds_toArray, List.set_cons_zero, List.set_cons_succ])
        refine any_take (i := 12) (v := ?_) rfl (by kernel_rfl) (by kernel_rfl) (by kernel_rfl) (by exact fun _ _ _ h => h) (by rfl) ?_ hS ?_
        rotate_left
        · ((intro w hSw; (try dsimp only at hSw); go_simp) <;> with_reducible rfl)
        (try simp only [Act.put, List.setIfInBounds_toArray, List.set_cons_zero, List.set_cons_succ])
        refine any_take (i := 13) (v := ?_) rfl (by kernel_rfl) (by kernel_rfl) (by kernel_rfl) (by exact fun _ _ _ h => h) (by rfl) ?_ hS ?_
        rotate_left
        · ((intro w hSw; (try dsimp only at hSw); go_simp) <;> with_reducible rfl)
        (try simp only [Act.put, List.setIfInBounds_toArray, List.set_cons_zero, List.set_cons_succ])
        refine wpAnyH_done (by kernel_rfl) ?_ _
        have F : Hid (Own x2 w.heap.size z9 (wrF o [((a0, b0), m0), ((a1, b1), m1), ((a2, b2), m2), ((a3, b3), m3), ((a4, b4), m4), ((a5, b5), m5)] 1) ∧ Below w.heap.size w x2 ∧ Blk x2 (w.heap.size + 1) 84 [.int .u64 (m0.toNat : Int), .int .u64 (m1.toNat : Int), .int .u64 (m2.toNat : Int), .int .u64 (m3.toNat : Int), .int .u64 (m4.toNat : Int), .int .u64 (m5.toNat : Int)]) := ⟨by rw [LV.out]; exact o9.lower (below_then S4.out.2.2.1 B1).size, below_then S4.out.2.2.1 B2, S4.out.2.2.2.laterB B2⟩
        clear hS HPut HSz S4 HC4 B0 B1 B2 o9
        go_wp2
        go_roundw
        case rel => exact ⟨1, by omega, rfl, F.out.1, F.out.2.1, F.out.2.2⟩
        case measure => simp [intOf]
    · have hO1 : Own wr w.heap.size u5 (wrF o [((a0, b0), m0), ((a1, b1), m1), ((a2, b2), m2), ((a3, b3), m3), ((a4, b4), m4), ((a5, b5), m5)] 1) := hO
      have hlj : (wrF o [((a0, b0), m0), ((a1, b1), m1), ((a2, b2), m2), ((a3, b3), m3), ((a4, b4), m4), ((a5, b5), m5)] 1).length = 16 := hl1.out
      obtain ⟨Lj, hLj⟩ : ∃ Lj, Lj = wrF o [((a0, b0), m0), ((a1, b1), m1), ((a2, b2), m2), ((a3, b3), m3), ((a4, b4), m4), ((a5, b5), m5)] 1 := ⟨_, rfl⟩
      rw [← hLj] at hO1 hlj
      have LE : Hid (wrF o [((a0, b0), m0), ((a1, b1), m1), ((a2, b2), m2), ((a3, b3), m3), ((a4, b4), m4), ((a5, b5), m5)] 2 = layF Lj a1 b1 m1) := by rw [hLj]; rfl
      clear hLj hO
      have HO1 : Hid _ := And.intro hO1 hlj
      obtain ⟨sa, sc, e5, hle, -, -, hsn, -⟩ := hO1.open
      rw [hlj] at hle e5
      subst e5
      have hix : ∀ X : World, (Instr.index 79 (.agg #[.int .u8 a0, .int .u8 b0, .int .u8 a1, .int .u8 b1, .int .u8 a2, .int .u8 b2, .int .u8 a3, .int .u8 b3, .int .u8 a4, .int .u8 b4, .int .u8 a5, .int .u8 b5]) (.int .i64 1)).run Tryd.prog X = .ok (.agg #[.int .u8 a1, .int .u8 b1]) X := fun _ => by first | rfl | kernel_rfl
      have B3 := Blk.new' wr 78 [.int .u8 a1, .int .u8 b1]
      have b3_ : Below wr.heap.size wr (wr.alloc (.cells #[.int .u8 a1, .int .u8 b1] 78)) := (Below.refl _ _).alloc (Nat.le_refl _) _
      obtain ⟨w3, hw3⟩ : ∃ w3, w3 = wr.alloc (.cells #[.int .u8 a1, .int .u8 b1] 78) := ⟨_, rfl⟩
      rw [← hw3] at B3 b3_
      have S3 : Hid _ := And.intro (And.intro b3_ B3) (And.intro hbw hV)
      have c0 := ck_at B3 0
      have c1 := ck_at B3 1
      simp only [List.getElem?_cons_zero, List.getElem?_cons_succ] at c0 c1
      clear hO1 hbw hV B3 b3_ hlj
      go_upto_region 6 with fail
      rw [← hw3]
      clear hw3 hix
      go_wp2_with fail
      refine (Calls.mono (cThere_any _ _ _)) ?_
      rintro e w4 ⟨rfl, b4_⟩
      have S4 : Hid _ := And.intro (below_then S3.out.1.1 b4_) (And.intro (S3.out.1.2.laterB b4_) (And.intro (below_then S3.out.2.1 (below_then S3.out.1.1 b4_)) (S3.out.2.2.laterB (below_then S3.out.1.1 b4_))))
      clear b4_ S3 c0 c1
      by_cases hb : b1 = 0
      · have d1 : decide (b1 > 0) = false := decide_eq_false (by omega)
        have F : Hid (Own w4 w.heap.size (.slice sa 16 sc) (wrF o [((a0, b0), m0), ((a1, b1), m1), ((a2, b2), m2), ((a3, b3), m3), ((a4, b4), m4), ((a5, b5), m5)] 2) ∧ Below w.heap.size w w4 ∧ Blk w4 (w.heap.size + 1) 84 [.int .u64 (m0.toNat : Int), .int .u64 (m1.toNat : Int), .int .u64 (m2.toNat : Int), .int .u64 (m3.toNat : Int), .int .u64 (m4.toNat : Int), .int .u64 (m5.toNat : Int)]) := ⟨by rw [LE.out]; unfold layF; rw [if_pos hb]; exact HO1.out.1.later S4.out.1, S4.out.2.2.1, S4.out.2.2.2⟩
        clear S4 hb
        go_wp2
        go_roundw
        case rel => exact ⟨2, by omega, rfl, F.out.1, F.out.2.1, F.out.2.2⟩
        case measure => simp [intOf]
      · have d1 : decide (b1 > 0) = true := decide_eq_true (by have := PF1.out.1.size; omega)
        have hw_ := PF1.out.1.wide hb
        have hz_ := PF1.out.1.size
        have hfit := PF1.out.1.fit
        have hlow := PF1.out.1.low
        have va : IntKind.i64.wrap a1 = a1 := by rw [IntKind.wrap_i64]; omega
        have ca : ((a1.toNat : Nat) : Int) = a1 := by omega
        have HPut : Hid (∀ X, Below w4.heap.size w4 X → _) := fun X (bX : Below w4.heap.size w4 X) => Put_yes sa 16 sc Lj a1.toNat (szB b1) m1 X HO1.out.2 hle (by obtain ⟨_, _, e6, -, -, hr6, -, -⟩ := (HO1.out.1.later (below_then S4.out.1 bX)).open; simp only [Value.slice.injEq] at e6; obtain ⟨rfl, -, -⟩ := e6; exact hr6) hsn (by omega) (by omega) (by omega) (by omega) (PF1.out.2 hb)
        rw [ca] at HPut
        have HSz : Hid (∀ X, _) := fun X => cSize_any a1 b1 X hz_
        have LV : Hid (wrF o [((a0, b0), m0), ((a1, b1), m1), ((a2, b2), m2), ((a3, b3), m3), ((a4, b4), m4), ((a5, b5), m5)] 2 = over Lj a1.toNat (be (szB b1) m1)) := by show _ = _; rw [LE.out]; unfold layF; rw [if_neg hb]
        generalize szB b1 = sz at *
        clear hw_ hz_ hfit hlow hb hle hsn
        have HC4 : Hid _ := And.intro (show w4.cell? ⟨wr.heap.size, 0, none⟩ = _ from ck_at S4.out.2.1 0) (And.intro (show w4.cell? ⟨wr.heap.size, 1, none⟩ = _ from ck_at S4.out.2.1 1) (show w4.cell? ⟨w.heap.size + 1, 1, none⟩ = some (.int .u64 (m1.toNat : Int)) from ck_at S4.out.2.2.2 1))
        go_upto_region 7 with fail
        refine wp_region_held_drew (S := fun W => Below w4.heap.size w4 W) (by kernel_rfl) ((Below.refl _ _).drew) (fun hS => ?_)
        have B0 : Below w4.heap.size w4 w4.drew := ((Below.refl _ _).drew)
        refine any_take (i := 0) (v := ?_) rfl (by kernel_rfl) (by kernel_rfl) (by kernel_rfl) (by exact fun _ _ _ h => h) (by rfl) ?_ hS ?_
        rotate_left
        · ((intro w hSw; have c0 := ck_later HC4.out.1 hSw; have c1 := ck_later HC4.out.2.1 hSw; have c2 := ck_later HC4.out.2.2 hSw; go_simp) <;> with_reducible rfl)
        (try simp only [Act.put, List.setIfInBounds_toArray, List.set_cons_zero, List.set_cons_succ])
        refine any_take (i := 1) (v := ?_) rfl (by kernel_rfl) (by kernel_rfl) (by kernel_rfl) (by exact fun _ _ _ h => h) (by rfl) ?_ hS ?_
        rotate_left
        · ((intro w hSw; have c0 := ck_later HC4.out.1 hSw; have c1 := ck_later HC4.out.2.1 hSw; have c2 := ck_later HC4.out.2.2 hSw; go_simp) <;> with_reducible rfl)
        (try simp only [Act.put, List.setIfInBounds_toArray, List.set_cons_zero, List.set_cons_succ])
        refine any_take (i := 2) (v := ?_) rfl (by kernel_rfl) (by kernel_rfl) (by kernel_rfl) (by exact fun _ _ _ h => h) (by rfl) ?_ hS ?_
        rotate_left
        · ((intro w hSw; have c0 := ck_later HC4.out.1 hSw; have c1 := ck_later HC4.out.2.1 hSw; have c2 := ck_later HC4.out.2.2 hSw; go_simp) <;> with_reducible rfl)
        (try simp only [Act.put, List.setIfInBounds_toArray, List.set_cons_zero, List.set_cons_succ])
        refine any_take (i := 3) (v := ?_) rfl (by kernel_rfl) (by kernel_rfl) (by kernel_rfl) (by exact fun _ _ _ h => h) (by rfl) ?_ hS ?_
        rotate_left
        · ((intro w hSw; have c0 := ck_later HC4.out.1 hSw; have c1 := ck_later HC4.out.2.1 hSw; have c2 := ck_later HC4.out.2.2 hSw; go_simp) <;> with_reducible rfl)
        (try simp only [Act.put, List.setIfInBounds_toArray, List.set_cons_zero, List.set_cons_succ])
        refine any_take (i := 4) (v := ?_) rfl (by kernel_rfl) (by kernel_rfl) (by kernel_rfl) (by exact fun _ _ _ h => h) (by rfl) ?_ hS ?_
        rotate_left
        · ((intro w hSw; have c0 := ck_later HC4.out.1 hSw; have c1 := ck_later HC4.out.2.1 hSw; have c2 := ck_later HC4.out.2.2 hSw; go_simp) <;> with_reducible rfl)
        (try simp only [Act.put, List.setIfInBounds_toArray, List.set_cons_zero, List.set_cons_succ])
        refine any_take (i := 6) (v := ?_) rfl (by kernel_rfl) (by kernel_rfl) (by kernel_rfl) (by exact fun _ _ _ h => h) (by rfl) ?_ hS ?_
        rotate_left
        · ((intro w hSw; have c0 := ck_later HC4.out.1 hSw; have c1 := ck_later HC4.out.2.1 hSw; have c2 := ck_later HC4.out.2.2 hSw; go_simp) <;> with_reducible rfl)
        (try simp only [Act.put, List.setIfInBounds_toArray, List.set_cons_zero, List.set_cons_succ])
        refine any_take (i := 7) (v := ?_) rfl (by kernel_rfl) (by kernel_rfl) (by kernel_rfl) (by exact fun _ _ _ h => h) (by rfl) ?_ hS ?_
        rotate_left
        · ((intro w hSw; have c0 := ck_later HC4.out.1 hSw; have c1 := ck_later HC4.out.2.1 hSw; have c2 := ck_later HC4.out.2.2 hSw; go_simp) <;> with_reducible rfl)
        (try simp only [Act.put, List.setIfInBounds_toArray, List.set_cons_zero, List.set_cons_succ])
        refine any_take (i := 8) (v := ?_) rfl (by kernel_rfl) (by kernel_rfl) (by kernel_rfl) (by exact fun _ _ _ h => h) (by rfl) ?_ hS ?_
        rotate_left
        · ((intro w hSw; have c0 := ck_later HC4.out.1 hSw; have c1 := ck_later HC4.out.2.1 hSw; have c2 := ck_later HC4.out.2.2 hSw; go_simp) <;> with_reducible rfl)
        (try simp only [Act.put, List.setIfInBounds_toArray, List.set_cons_zero, List.set_cons_succ])
        refine any_one (i := 5) rfl (by kernel_rfl) (fun K hK => ?_)
        go_simp
        refine (Calls.mono (HSz.out _)) ?_
        rintro e x1 ⟨rfl, hbR⟩
        have B1 : Below w4.heap.size w4 x1 := below_then B0 hbR
        go_wp2_with fail
        refine hK.out _ _ (by first | exact B1 | exact hbR | exact below_then hS hbR) (any_weaken (S' := fun W => Below x1.heap.size x1 W) (fun W hW => by first | exact below_then B1 hW | exact below_then hbR hW | exact below_then (below_then hS hbR) hW) _ _ _ _ ?_)
        clear hK K hS hbR
        have hS : Below x1.heap.size x1 x1 := Below.refl _ _
        have K2 : Hid _ := HPut.out _ B1
        refine any_one (i := 9) rfl (by kernel_rfl) (fun K hK => ?_)
        go_simp
        refine (Calls.mono (K2.out)) ?_
        rintro e x2 ⟨z9, rfl, o9, hbR⟩
        have B2 : Below w4.heap.size w4 x2 := below_then B1 hbR
        clear K2
        go_wp2_with fail
        refine hK.out _ _ (by first | exact B2 | exact hbR | exact below_then hS hbR) (any_weaken (S' := fun W => Below x2.heap.size x2 W) (fun W hW => by first | exact below_then B2 hW | exact below_then hbR hW | exact below_then (below_then hS hbR) hW) _ _ _ _ ?_)
        clear hK K hS hbR
        have hS : Below x2.heap.size x2 x2 := Below.refl _ _
        refine any_take (i := 10) (v := ?_) rfl (by kernel_rfl) (by kernel_rfl) (by kernel_rfl) (by exact fun _ _ _ h => h) (by rfl) ?_ hS ?_
        rotate_left
        · ((intro w hSw; (try dsimp only at hSw); go_simp) <;> with_reducible rfl)
        (try simp only [Act.put, List.setIfInBounds_toArray, List.set_cons_zero, List.set_cons_succ])
        refine any_take (i := 11) (v := ?_) rfl (by kernel_rfl) (by kernel_rfl) (by kernel_rfl) (by exact fun _ _ _ h => h) (by rfl) ?_ hS ?_
        rotate_left
        · ((intro w hSw; (try dsimp only at hSw); go_simp) <;> with_reducible rfl)
        (try simp only [Act.put, List.setIfInBounds_toArray, List.set_cons_zero, List.set_cons_succ])
        refine any_take (i := 12) (v := ?_) rfl (by kernel_rfl) (by kernel_rfl) (by kernel_rfl) (by exact fun _ _ _ h => h) (by rfl) ?_ hS ?_
        rotate_left
        · ((intro w hSw; (try dsimp only at hSw); go_simp) <;> with_reducible rfl)
        (try simp only [Act.put, List.setIfInBounds_toArray, List.set_cons_zero, List.set_cons_succ])
        refine any_take (i := 13) (v := ?_) rfl (by kernel_rfl) (by kernel_rfl) (by kernel_rfl) (by exact fun _ _ _ h => h) (by rfl) ?_ hS ?_
        rotate_left
        · ((intro w hSw; (try dsimp only at hSw); go_simp) <;> with_reducible rfl)
        (try simp only [Act.put, List.setIfInBounds_toArray, List.set_cons_zero, List.set_cons_succ])
        refine wpAnyH_done (by kernel_rfl) ?_ _
        have F : Hid (Own x2 w.heap.size z9 (wrF o [((a0, b0), m0), ((a1, b1), m1), ((a2, b2), m2), ((a3, b3), m3), ((a4, b4), m4), ((a5, b5), m5)] 2) ∧ Below w.heap.size w x2 ∧ Blk x2 (w.heap.size + 1) 84 [.int .u64 (m0.toNat : Int), .int .u64 (m1.toNat : Int), .int .u64 (m2.toNat : Int), .int .u64 (m3.toNat : Int), .int .u64 (m4.toNat : Int), .int .u64 (m5.toNat : Int)]) := ⟨by rw [LV.out]; exact o9.lower (below_then S4.out.2.2.1 B1).size, below_then S4.out.2.2.1 B2, S4.out.2.2.2.laterB B2⟩
        clear hS HPut HSz S4 HC4 B0 B1 B2 o9
        go_wp2
        go_roundw
        case rel => exact ⟨2, by omega, rfl, F.out.1, F.out.2.1, F.out.2.2⟩
        case measure => simp [intOf]
    · have hO1 : Own wr w.heap.size u5 (wrF o [((a0, b0), m0), ((a1, b1), m1), ((a2, b2), m2), ((a3, b3), m3), ((a4, b4), m4), ((a5, b5), m5)] 2) := hO
      have hlj : (wrF o [((a0, b0), m0), ((a1, b1), m1), ((a2, b2), m2), ((a3, b3), m3), ((a4, b4), m4), ((a5, b5), m5)] 2).length = 16 := hl2.out
      obtain ⟨Lj, hLj⟩ : ∃ Lj, Lj = wrF o [((a0, b0), m0), ((a1, b1), m1), ((a2, b2), m2), ((a3, b3), m3), ((a4, b4), m4), ((a5, b5), m5)] 2 := ⟨_, rfl⟩
      rw [← hLj] at hO1 hlj
      have LE : Hid (wrF o [((a0, b0), m0), ((a1, b1), m1), ((a2, b2), m2), ((a3, b3), m3), ((a4, b4), m4), ((a5, b5), m5)] 3 = layF Lj a2 b2 m2) := by rw [hLj]; rfl
      clear hLj hO
      have HO1 : Hid _ := And.intro hO1 hlj
      obtain ⟨sa, sc, e5, hle, -, -, hsn, -⟩ := hO1.open
      rw [hlj] at hle e5
      subst e5
      have hix : ∀ X : World, (Instr.index 79 (.agg #[.int .u8 a0, .int .u8 b0, .int .u8 a1, .int .u8 b1, .int .u8 a2, .int .u8 b2, .int .u8 a3, .int .u8 b3, .int .u8 a4, .int .u8 b4, .int .u8 a5, .int .u8 b5]) (.int .i64 2)).run Tryd.prog X = .ok (.agg #[.int .u8 a2, .int .u8 b2]) X := fun _ => by first | rfl | kernel_rfl
      have B3 := Blk.new' wr 78 [.int .u8 a2, .int .u8 b2]
      have b3_ : Below wr.heap.size wr (wr.alloc (.cells #[.int .u8 a2, .int .u8 b2] 78)) := (Below.refl _ _).alloc (Nat.le_refl _) _
      obtain ⟨w3, hw3⟩ : ∃ w3, w3 = wr.alloc (.cells #[.int .u8 a2, .int .u8 b2] 78) := ⟨_, rfl⟩
      rw [← hw3] at B3 b3_
      have S3 : Hid _ := And.intro (And.intro b3_ B3) (And.intro hbw hV)
      have c0 := ck_at B3 0
      have c1 := ck_at B3 1
      simp only [List.getElem?_cons_zero, List.getElem?_cons_succ] at c0 c1
      clear hO1 hbw hV B3 b3_ hlj
      go_upto_region 6 with fail
      rw [← hw3]
      clear hw3 hix
      go_wp2_with fail
      refine (Calls.mono (cThere_any _ _ _)) ?_
      rintro e w4 ⟨rfl, b4_⟩
      have S4 : Hid _ := And.intro (below_then S3.out.1.1 b4_) (And.intro (S3.out.1.2.laterB b4_) (And.intro (below_then S3.out.2.1 (below_then S3.out.1.1 b4_)) (S3.out.2.2.laterB (below_then S3.out.1.1 b4_))))
      clear b4_ S3 c0 c1
      by_cases hb : b2 = 0
      · have d1 : decide (b2 > 0) = false := decide_eq_false (by omega)
        have F : Hid (Own w4 w.heap.size (.slice sa 16 sc) (wrF o [((a0, b0), m0), ((a1, b1), m1), ((a2, b2), m2), ((a3, b3), m3), ((a4, b4), m4), ((a5, b5), m5)] 3) ∧ Below w.heap.size w w4 ∧ Blk w4 (w.heap.size + 1) 84 [.int .u64 (m0.toNat : Int), .int .u64 (m1.toNat : Int), .int .u64 (m2.toNat : Int), .int .u64 (m3.toNat : Int), .int .u64 (m4.toNat : Int), .int .u64 (m5.toNat : Int)]) := ⟨by rw [LE.out]; unfold layF; rw [if_pos hb]; exact HO1.out.1.later S4.out.1, S4.out.2.2.1, S4.out.2.2.2⟩
        clear S4 hb
        go_wp2
        go_roundw
        case rel => exact ⟨3, by omega, rfl, F.out.1, F.out.2.1, F.out.2.2⟩
        case measure => simp [intOf]
      · have d1 : decide (b2 > 0) = true := decide_eq_true (by have := PF2.out.1.size; omega)
        have hw_ := PF2.out.1.wide hb
        have hz_ := PF2.out.1.size
        have hfit := PF2.out.1.fit
        have hlow := PF2.out.1.low
        have va : IntKind.i64.wrap a2 = a2 := by rw [IntKind.wrap_i64]; omega
        have ca : ((a2.toNat : Nat) : Int) = a2 := by omega
        have HPut : Hid (∀ X, Below w4.heap.size w4 X → _) := fun X (bX : Below w4.heap.size w4 X) => Put_yes sa 16 sc Lj a2.toNat (szB b2) m2 X HO1.out.2 hle (by obtain ⟨_, _, e6, -, -, hr6, -, -⟩ := (HO1.out.1.later (below_then S4.out.1 bX)).open; simp only [Value.slice.injEq] at e6; obtain ⟨rfl, -, -⟩ := e6; exact hr6) hsn (by omega) (by omega) (by omega) (by omega) (PF2.out.2 hb)
        rw [ca] at HPut
        have HSz : Hid (∀ X, _) := fun X => cSize_any a2 b2 X hz_
        have LV : Hid (wrF o [((a0, b0), m0), ((a1, b1), m1), ((a2, b2), m2), ((a3, b3), m3), ((a4, b4), m4), ((a5, b5), m5)] 3 = over Lj a2.toNat (be (szB b2) m2)) := by show _ = _; rw [LE.out]; unfold layF; rw [if_neg hb]
        generalize szB b2 = sz at *
        clear hw_ hz_ hfit hlow hb hle hsn
        have HC4 : Hid _ := And.intro (show w4.cell? ⟨wr.heap.size, 0, none⟩ = _ from ck_at S4.out.2.1 0) (And.intro (show w4.cell? ⟨wr.heap.size, 1, none⟩ = _ from ck_at S4.out.2.1 1) (show w4.cell? ⟨w.heap.size + 1, 2, none⟩ = some (.int .u64 (m2.toNat : Int)) from ck_at S4.out.2.2.2 2))
        go_upto_region 7 with fail
        refine wp_region_held_drew (S := fun W => Below w4.heap.size w4 W) (by kernel_rfl) ((Below.refl _ _).drew) (fun hS => ?_)
        have B0 : Below w4.heap.size w4 w4.drew := ((Below.refl _ _).drew)
        refine any_take (i := 0) (v := ?_) rfl (by kernel_rfl) (by kernel_rfl) (by kernel_rfl) (by exact fun _ _ _ h => h) (by rfl) ?_ hS ?_
        rotate_left
        · ((intro w hSw; have c0 := ck_later HC4.out.1 hSw; have c1 := ck_later HC4.out.2.1 hSw; have c2 := ck_later HC4.out.2.2 hSw; go_simp) <;> with_reducible rfl)
        (try simp only [Act.put, List.setIfInBounds_toArray, List.set_cons_zero, List.set_cons_succ])
        refine any_take (i := 1) (v := ?_) rfl (by kernel_rfl) (by kernel_rfl) (by kernel_rfl) (by exact fun _ _ _ h => h) (by rfl) ?_ hS ?_
        rotate_left
        · ((intro w hSw; have c0 := ck_later HC4.out.1 hSw; have c1 := ck_later HC4.out.2.1 hSw; have c2 := ck_later HC4.out.2.2 hSw; go_simp) <;> with_reducible rfl)
        (try simp only [Act.put, List.setIfInBounds_toArray, List.set_cons_zero, List.set_cons_succ])
        refine any_take (i := 2) (v := ?_) rfl (by kernel_rfl) (by kernel_rfl) (by kernel_rfl) (by exact fun _ _ _ h => h) (by rfl) ?_ hS ?_
        rotate_left
        · ((intro w hSw; have c0 := ck_later HC4.out.1 hSw; have c1 := ck_later HC4.out.2.1 hSw; have c2 := ck_later HC4.out.2.2 hSw; go_simp) <;> with_reducible rfl)
        (try simp only [Act.put, List.setIfInBounds_toArray, List.set_cons_zero, List.set_cons_succ])
        refine any_take (i := 3) (v := ?_) rfl (by kernel_rfl) (by kernel_rfl) (by kernel_rfl) (by exact fun _ _ _ h => h) (by rfl) ?_ hS ?_
        rotate_left
        · ((intro w hSw; have c0 := ck_later HC4.out.1 hSw; have c1 := ck_later HC4.out.2.1 hSw; have c2 := ck_later HC4.out.2.2 hSw; go_simp) <;> with_reducible rfl)
        (try simp only [Act.put, List.setIfInBounds_toArray, List.set_cons_zero, List.set_cons_succ])
        refine any_take (i := 4) (v := ?_) rfl (by kernel_rfl) (by kernel_rfl) (by kernel_rfl) (by exact fun _ _ _ h => h) (by rfl) ?_ hS ?_
        rotate_left
        · ((intro w hSw; have c0 := ck_later HC4.out.1 hSw; have c1 := ck_later HC4.out.2.1 hSw; have c2 := ck_later HC4.out.2.2 hSw; go_simp) <;> with_reducible rfl)
        (try simp only [Act.put, List.setIfInBounds_toArray, List.set_cons_zero, List.set_cons_succ])
        refine any_take (i := 6) (v := ?_) rfl (by kernel_rfl) (by kernel_rfl) (by kernel_rfl) (by exact fun _ _ _ h => h) (by rfl) ?_ hS ?_
        rotate_left
        · ((intro w hSw; have c0 := ck_later HC4.out.1 hSw; have c1 := ck_later HC4.out.2.1 hSw; have c2 := ck_later HC4.out.2.2 hSw; go_simp) <;> with_reducible rfl)
        (try simp only [Act.put, List.setIfInBounds_toArray, List.set_cons_zero, List.set_cons_succ])
        refine any_take (i := 7) (v := ?_) rfl (by kernel_rfl) (by kernel_rfl) (by kernel_rfl) (by exact fun _ _ _ h => h) (by rfl) ?_ hS ?_
        rotate_left
        · ((intro w hSw; have c0 := ck_later HC4.out.1 hSw; have c1 := ck_later HC4.out.2.1 hSw; have c2 := ck_later HC4.out.2.2 hSw; go_simp) <;> with_reducible rfl)
        (try simp only [Act.put, List.setIfInBounds_toArray, List.set_cons_zero, List.set_cons_succ])
        refine any_take (i := 8) (v := ?_) rfl (by kernel_rfl) (by kernel_rfl) (by kernel_rfl) (by exact fun _ _ _ h => h) (by rfl) ?_ hS ?_
        rotate_left
        · ((intro w hSw; have c0 := ck_later HC4.out.1 hSw; have c1 := ck_later HC4.out.2.1 hSw; have c2 := ck_later HC4.out.2.2 hSw; go_simp) <;> with_reducible rfl)
        (try simp only [Act.put, List.setIfInBounds_toArray, List.set_cons_zero, List.set_cons_succ])
        refine any_one (i := 5) rfl (by kernel_rfl) (fun K hK => ?_)
        go_simp
        refine (Calls.mono (HSz.out _)) ?_
        rintro e x1 ⟨rfl, hbR⟩
        have B1 : Below w4.heap.size w4 x1 := below_then B0 hbR
        go_wp2_with fail
        refine hK.out _ _ (by first | exact B1 | exact hbR | exact below_then hS hbR) (any_weaken (S' := fun W => Below x1.heap.size x1 W) (fun W hW => by first | exact below_then B1 hW | exact below_then hbR hW | exact below_then (below_then hS hbR) hW) _ _ _ _ ?_)
        clear hK K hS hbR
        have hS : Below x1.heap.size x1 x1 := Below.refl _ _
        have K2 : Hid _ := HPut.out _ B1
        refine any_one (i := 9) rfl (by kernel_rfl) (fun K hK => ?_)
        go_simp
        refine (Calls.mono (K2.out)) ?_
        rintro e x2 ⟨z9, rfl, o9, hbR⟩
        have B2 : Below w4.heap.size w4 x2 := below_then B1 hbR
        clear K2
        go_wp2_with fail
        refine hK.out _ _ (by first | exact B2 | exact hbR | exact below_then hS hbR) (any_weaken (S' := fun W => Below x2.heap.size x2 W) (fun W hW => by first | exact below_then B2 hW | exact below_then hbR hW | exact below_then (below_then hS hbR) hW) _ _ _ _ ?_)
        clear hK K hS hbR
        have hS : Below x2.heap.size x2 x2 := Below.refl _ _
        refine any_take (i := 10) (v := ?_) rfl (by kernel_rfl) (by kernel_rfl) (by kernel_rfl) (by exact fun _ _ _ h => h) (by rfl) ?_ hS ?_
        rotate_left
        · ((intro w hSw; (try dsimp only at hSw); go_simp) <;> with_reducible rfl)
        (try simp only [Act.put, List.setIfInBounds_toArray, List.set_cons_zero, List.set_cons_succ])
        refine any_take (i := 11) (v := ?_) rfl (by kernel_rfl) (by kernel_rfl) (by kernel_rfl) (by exact fun _ _ _ h => h) (by rfl) ?_ hS ?_
        rotate_left
        · ((intro w hSw; (try dsimp only at hSw); go_simp) <;> with_reducible rfl)
        (try simp only [Act.put, List.setIfInBounds_toArray, List.set_cons_zero, List.set_cons_succ])
        refine any_take (i := 12) (v := ?_) rfl (by kernel_rfl) (by kernel_rfl) (by kernel_rfl) (by exact fun _ _ _ h => h) (by rfl) ?_ hS ?_
        rotate_left
        · ((intro w hSw; (try dsimp only at hSw); go_simp) <;> with_reducible rfl)
        (try simp only [Act.put, List.setIfInBounds_toArray, List.set_cons_zero, List.set_cons_succ])
        refine any_take (i := 13) (v := ?_) rfl (by kernel_rfl) (by kernel_rfl) (by kernel_rfl) (by exact fun _ _ _ h => h) (by rfl) ?_ hS ?_
        rotate_left
        · ((intro w hSw; (try dsimp only at hSw); go_simp) <;> with_reducible rfl)
        (try simp only [Act.put, List.setIfInBounds_toArray, List.set_cons_zero, List.set_cons_succ])
        refine wpAnyH_done (by kernel_rfl) ?_ _
        have F : Hid (Own x2 w.heap.size z9 (wrF o [((a0, b0), m0), ((a1, b1), m1), ((a2, b2), m2), ((a3, b3), m3), ((a4, b4), m4), ((a5, b5), m5)] 3) ∧ Below w.heap.size w x2 ∧ Blk x2 (w.heap.size + 1) 84 [.int .u64 (m0.toNat : Int), .int .u64 (m1.toNat : Int), .int .u64 (m2.toNat : Int), .int .u64 (m3.toNat : Int), .int .u64 (m4.toNat : Int), .int .u64 (m5.toNat : Int)]) := ⟨by rw [LV.out]; exact o9.lower (below_then S4.out.2.2.1 B1).size, below_then S4.out.2.2.1 B2, S4.out.2.2.2.laterB B2⟩
        clear hS HPut HSz S4 HC4 B0 B1 B2 o9
        go_wp2
        go_roundw
        case rel => exact ⟨3, by omega, rfl, F.out.1, F.out.2.1, F.out.2.2⟩
        case measure => simp [intOf]
    · have hO1 : Own wr w.heap.size u5 (wrF o [((a0, b0), m0), ((a1, b1), m1), ((a2, b2), m2), ((a3, b3), m3), ((a4, b4), m4), ((a5, b5), m5)] 3) := hO
      have hlj : (wrF o [((a0, b0), m0), ((a1, b1), m1), ((a2, b2), m2), ((a3, b3), m3), ((a4, b4), m4), ((a5, b5), m5)] 3).length = 16 := hl3.out
      obtain ⟨Lj, hLj⟩ : ∃ Lj, Lj = wrF o [((a0, b0), m0), ((a1, b1), m1), ((a2, b2), m2), ((a3, b3), m3), ((a4, b4), m4), ((a5, b5), m5)] 3 := ⟨_, rfl⟩
      rw [← hLj] at hO1 hlj
      have LE : Hid (wrF o [((a0, b0), m0), ((a1, b1), m1), ((a2, b2), m2), ((a3, b3), m3), ((a4, b4), m4), ((a5, b5), m5)] 4 = layF Lj a3 b3 m3) := by rw [hLj]; rfl
      clear hLj hO
      have HO1 : Hid _ := And.intro hO1 hlj
      obtain ⟨sa, sc, e5, hle, -, -, hsn, -⟩ := hO1.open
      rw [hlj] at hle e5
      subst e5
      have hix : ∀ X : World, (Instr.index 79 (.agg #[.int .u8 a0, .int .u8 b0, .int .u8 a1, .int .u8 b1, .int .u8 a2, .int .u8 b2, .int .u8 a3, .int .u8 b3, .int .u8 a4, .int .u8 b4, .int .u8 a5, .int .u8 b5]) (.int .i64 3)).run Tryd.prog X = .ok (.agg #[.int .u8 a3, .int .u8 b3]) X := fun _ => by first | rfl | kernel_rfl
      have B3 := Blk.new' wr 78 [.int .u8 a3, .int .u8 b3]
      have b3_ : Below wr.heap.size wr (wr.alloc (.cells #[.int .u8 a3, .int .u8 b3] 78)) := (Below.refl _ _).alloc (Nat.le_refl _) _
      obtain ⟨w3, hw3⟩ : ∃ w3, w3 = wr.alloc (.cells #[.int .u8 a3, .int .u8 b3] 78) := ⟨_, rfl⟩
      rw [← hw3] at B3 b3_
      have S3 : Hid _ := And.intro (And.intro b3_ B3) (And.intro hbw hV)
      have c0 := ck_at B3 0
      have c1 := ck_at B3 1
      simp only [List.getElem?_cons_zero, List.getElem?_cons_succ] at c0 c1
      clear hO1 hbw hV B3 b3_ hlj
      go_upto_region 6 with fail
      rw [← hw3]
      clear hw3 hix
      go_wp2_with fail
      refine (Calls.mono (cThere_any _ _ _)) ?_
      rintro e w4 ⟨rfl, b4_⟩
      have S4 : Hid _ := And.intro (below_then S3.out.1.1 b4_) (And.intro (S3.out.1.2.laterB b4_) (And.intro (below_then S3.out.2.1 (below_then S3.out.1.1 b4_)) (S3.out.2.2.laterB (below_then S3.out.1.1 b4_))))
      clear b4_ S3 c0 c1
      by_cases hb : b3 = 0
      · have d1 : decide (b3 > 0) = false := decide_eq_false (by omega)
        have F : Hid (Own w4 w.heap.size (.slice sa 16 sc) (wrF o [((a0, b0), m0), ((a1, b1), m1), ((a2, b2), m2), ((a3, b3), m3), ((a4, b4), m4), ((a5, b5), m5)] 4) ∧ Below w.heap.size w w4 ∧ Blk w4 (w.heap.size + 1) 84 [.int .u64 (m0.toNat : Int), .int .u64 (m1.toNat : Int), .int .u64 (m2.toNat : Int), .int .u64 (m3.toNat : Int), .int .u64 (m4.toNat : Int), .int .u64 (m5.toNat : Int)]) := ⟨by rw [LE.out]; unfold layF; rw [if_pos hb]; exact HO1.out.1.later S4.out.1, S4.out.2.2.1, S4.out.2.2.2⟩
        clear S4 hb
        go_wp2
        go_roundw
        case rel => exact ⟨4, by omega, rfl, F.out.1, F.out.2.1, F.out.2.2⟩
        case measure => simp [intOf]
      · have d1 : decide (b3 > 0) = true := decide_eq_true (by have := PF3.out.1.size; omega)
        have hw_ := PF3.out.1.wide hb
        have hz_ := PF3.out.1.size
        have hfit := PF3.out.1.fit
        have hlow := PF3.out.1.low
        have va : IntKind.i64.wrap a3 = a3 := by rw [IntKind.wrap_i64]; omega
        have ca : ((a3.toNat : Nat) : Int) = a3 := by omega
        have HPut : Hid (∀ X, Below w4.heap.size w4 X → _) := fun X (bX : Below w4.heap.size w4 X) => Put_yes sa 16 sc Lj a3.toNat (szB b3) m3 X HO1.out.2 hle (by obtain ⟨_, _, e6, -, -, hr6, -, -⟩ := (HO1.out.1.later (below_then S4.out.1 bX)).open; simp only [Value.slice.injEq] at e6; obtain ⟨rfl, -, -⟩ := e6; exact hr6) hsn (by omega) (by omega) (by omega) (by omega) (PF3.out.2 hb)
        rw [ca] at HPut
        have HSz : Hid (∀ X, _) := fun X => cSize_any a3 b3 X hz_
        have LV : Hid (wrF o [((a0, b0), m0), ((a1, b1), m1), ((a2, b2), m2), ((a3, b3), m3), ((a4, b4), m4), ((a5, b5), m5)] 4 = over Lj a3.toNat (be (szB b3) m3)) := by show _ = _; rw [LE.out]; unfold layF; rw [if_neg hb]
        generalize szB b3 = sz at *
        clear hw_ hz_ hfit hlow hb hle hsn
        have HC4 : Hid _ := And.intro (show w4.cell? ⟨wr.heap.size, 0, none⟩ = _ from ck_at S4.out.2.1 0) (And.intro (show w4.cell? ⟨wr.heap.size, 1, none⟩ = _ from ck_at S4.out.2.1 1) (show w4.cell? ⟨w.heap.size + 1, 3, none⟩ = some (.int .u64 (m3.toNat : Int)) from ck_at S4.out.2.2.2 3))
        go_upto_region 7 with fail
        refine wp_region_held_drew (S := fun W => Below w4.heap.size w4 W) (by kernel_rfl) ((Below.refl _ _).drew) (fun hS => ?_)
        have B0 : Below w4.heap.size w4 w4.drew := ((Below.refl _ _).drew)
        refine any_take (i := 0) (v := ?_) rfl (by kernel_rfl) (by kernel_rfl) (by kernel_rfl) (by exact fun _ _ _ h => h) (by rfl) ?_ hS ?_
        rotate_left
        · ((intro w hSw; have c0 := ck_later HC4.out.1 hSw; have c1 := ck_later HC4.out.2.1 hSw; have c2 := ck_later HC4.out.2.2 hSw; go_simp) <;> with_reducible rfl)
        (try simp only [Act.put, List.setIfInBounds_toArray, List.set_cons_zero, List.set_cons_succ])
        refine any_take (i := 1) (v := ?_) rfl (by kernel_rfl) (by kernel_rfl) (by kernel_rfl) (by exact fun _ _ _ h => h) (by rfl) ?_ hS ?_
        rotate_left
        · ((intro w hSw; have c0 := ck_later HC4.out.1 hSw; have c1 := ck_later HC4.out.2.1 hSw; have c2 := ck_later HC4.out.2.2 hSw; go_simp) <;> with_reducible rfl)
        (try simp only [Act.put, List.setIfInBounds_toArray, List.set_cons_zero, List.set_cons_succ])
        refine any_take (i := 2) (v := ?_) rfl (by kernel_rfl) (by kernel_rfl) (by kernel_rfl) (by exact fun _ _ _ h => h) (by rfl) ?_ hS ?_
        rotate_left
        · ((intro w hSw; have c0 := ck_later HC4.out.1 hSw; have c1 := ck_later HC4.out.2.1 hSw; have c2 := ck_later HC4.out.2.2 hSw; go_simp) <;> with_reducible rfl)
        (try simp only [Act.put, List.setIfInBounds_toArray, List.set_cons_zero, List.set_cons_succ])
        refine any_take (i := 3) (v := ?_) rfl (by kernel_rfl) (by kernel_rfl) (by kernel_rfl) (by exact fun _ _ _ h => h) (by rfl) ?_ hS ?_
        rotate_left
        · ((intro w hSw; have c0 := ck_later HC4.out.1 hSw; have c1 := ck_later HC4.out.2.1 hSw; have c2 := ck_later HC4.out.2.2 hSw; go_simp) <;> with_reducible rfl)
        (try simp only [Act.put, List.setIfInBounds_toArray, List.set_cons_zero, List.set_cons_succ])
        refine any_take (i := 4) (v := ?_) rfl (by kernel_rfl) (by kernel_rfl) (by kernel_rfl) (by exact fun _ _ _ h => h) (by rfl) ?_ hS ?_
        rotate_left
        · ((intro w hSw; have c0 := ck_later HC4.out.1 hSw; have c1 := ck_later HC4.out.2.1 hSw; have c2 := ck_later HC4.out.2.2 hSw; go_simp) <;> with_reducible rfl)
        (try simp only [Act.put, List.setIfInBounds_toArray, List.set_cons_zero, List.set_cons_succ])
        refine any_take (i := 6) (v := ?_) rfl (by kernel_rfl) (by kernel_rfl) (by kernel_rfl) (by exact fun _ _ _ h => h) (by rfl) ?_ hS ?_
        rotate_left
        · ((intro w hSw; have c0 := ck_later HC4.out.1 hSw; have c1 := ck_later HC4.out.2.1 hSw; have c2 := ck_later HC4.out.2.2 hSw; go_simp) <;> with_reducible rfl)
        (try simp only [Act.put, List.setIfInBounds_toArray, List.set_cons_zero, List.set_cons_succ])
        refine any_take (i := 7) (v := ?_) rfl (by kernel_rfl) (by kernel_rfl) (by kernel_rfl) (by exact fun _ _ _ h => h) (by rfl) ?_ hS ?_
        rotate_left
        · ((intro w hSw; have c0 := ck_later HC4.out.1 hSw; have c1 := ck_later HC4.out.2.1 hSw; have c2 := ck_later HC4.out.2.2 hSw; go_simp) <;> with_reducible rfl)
        (try simp only [Act.put, List.setIfInBounds_toArray, List.set_cons_zero, List.set_cons_succ])
        refine any_take (i := 8) (v := ?_) rfl (by kernel_rfl) (by kernel_rfl) (by kernel_rfl) (by exact fun _ _ _ h => h) (by rfl) ?_ hS ?_
        rotate_left
        · ((intro w hSw; have c0 := ck_later HC4.out.1 hSw; have c1 := ck_later HC4.out.2.1 hSw; have c2 := ck_later HC4.out.2.2 hSw; go_simp) <;> with_reducible rfl)
        (try simp only [Act.put, List.setIfInBounds_toArray, List.set_cons_zero, List.set_cons_succ])
        refine any_one (i := 5) rfl (by kernel_rfl) (fun K hK => ?_)
        go_simp
        refine (Calls.mono (HSz.out _)) ?_
        rintro e x1 ⟨rfl, hbR⟩
        have B1 : Below w4.heap.size w4 x1 := below_then B0 hbR
        go_wp2_with fail
        refine hK.out _ _ (by first | exact B1 | exact hbR | exact below_then hS hbR) (any_weaken (S' := fun W => Below x1.heap.size x1 W) (fun W hW => by first | exact below_then B1 hW | exact below_then hbR hW | exact below_then (below_then hS hbR) hW) _ _ _ _ ?_)
        clear hK K hS hbR
        have hS : Below x1.heap.size x1 x1 := Below.refl _ _
        have K2 : Hid _ := HPut.out _ B1
        refine any_one (i := 9) rfl (by kernel_rfl) (fun K hK => ?_)
        go_simp
        refine (Calls.mono (K2.out)) ?_
        rintro e x2 ⟨z9, rfl, o9, hbR⟩
        have B2 : Below w4.heap.size w4 x2 := below_then B1 hbR
        clear K2
        go_wp2_with fail
        refine hK.out _ _ (by first | exact B2 | exact hbR | exact below_then hS hbR) (any_weaken (S' := fun W => Below x2.heap.size x2 W) (fun W hW => by first | exact below_then B2 hW | exact below_then hbR hW | exact below_then (below_then hS hbR) hW) _ _ _ _ ?_)
        clear hK K hS hbR
        have hS : Below x2.heap.size x2 x2 := Below.refl _ _
        refine any_take (i := 10) (v := ?_) rfl (by kernel_rfl) (by kernel_rfl) (by kernel_rfl) (by exact fun _ _ _ h => h) (by rfl) ?_ hS ?_
        rotate_left
        · ((intro w hSw; (try dsimp only at hSw); go_simp) <;> with_reducible rfl)
        (try simp only [Act.put, List.setIfInBounds_toArray, List.set_cons_zero, List.set_cons_succ])
        refine any_take (i := 11) (v := ?_) rfl (by kernel_rfl) (by kernel_rfl) (by kernel_rfl) (by exact fun _ _ _ h => h) (by rfl) ?_ hS ?_
        rotate_left
        · ((intro w hSw; (try dsimp only at hSw); go_simp) <;> with_reducible rfl)
        (try simp only [Act.put, List.setIfInBounds_toArray, List.set_cons_zero, List.set_cons_succ])
        refine any_take (i := 12) (v := ?_) rfl (by kernel_rfl) (by kernel_rfl) (by kernel_rfl) (by exact fun _ _ _ h => h) (by rfl) ?_ hS ?_
        rotate_left
        · ((intro w hSw; (try dsimp only at hSw); go_simp) <;> with_reducible rfl)
        (try simp only [Act.put, List.setIfInBounds_toArray, List.set_cons_zero, List.set_cons_succ])
        refine any_take (i := 13) (v := ?_) rfl (by kernel_rfl) (by kernel_rfl) (by kernel_rfl) (by exact fun _ _ _ h => h) (by rfl) ?_ hS ?_
        rotate_left
        · ((intro w hSw; (try dsimp only at hSw); go_simp) <;> with_reducible rfl)
        (try simp only [Act.put, List.setIfInBounds_toArray, List.set_cons_zero, List.set_cons_succ])
        refine wpAnyH_done (by kernel_rfl) ?_ _
        have F : Hid (Own x2 w.heap.size z9 (wrF o [((a0, b0), m0), ((a1, b1), m1), ((a2, b2), m2), ((a3, b3), m3), ((a4, b4), m4), ((a5, b5), m5)] 4) ∧ Below w.heap.size w x2 ∧ Blk x2 (w.heap.size + 1) 84 [.int .u64 (m0.toNat : Int), .int .u64 (m1.toNat : Int), .int .u64 (m2.toNat : Int), .int .u64 (m3.toNat : Int), .int .u64 (m4.toNat : Int), .int .u64 (m5.toNat : Int)]) := ⟨by rw [LV.out]; exact o9.lower (below_then S4.out.2.2.1 B1).size, below_then S4.out.2.2.1 B2, S4.out.2.2.2.laterB B2⟩
        clear hS HPut HSz S4 HC4 B0 B1 B2 o9
        go_wp2
        go_roundw
        case rel => exact ⟨4, by omega, rfl, F.out.1, F.out.2.1, F.out.2.2⟩
        case measure => simp [intOf]
    · have hO1 : Own wr w.heap.size u5 (wrF o [((a0, b0), m0), ((a1, b1), m1), ((a2, b2), m2), ((a3, b3), m3), ((a4, b4), m4), ((a5, b5), m5)] 4) := hO
      have hlj : (wrF o [((a0, b0), m0), ((a1, b1), m1), ((a2, b2), m2), ((a3, b3), m3), ((a4, b4), m4), ((a5, b5), m5)] 4).length = 16 := hl4.out
      obtain ⟨Lj, hLj⟩ : ∃ Lj, Lj = wrF o [((a0, b0), m0), ((a1, b1), m1), ((a2, b2), m2), ((a3, b3), m3), ((a4, b4), m4), ((a5, b5), m5)] 4 := ⟨_, rfl⟩
      rw [← hLj] at hO1 hlj
      have LE : Hid (wrF o [((a0, b0), m0), ((a1, b1), m1), ((a2, b2), m2), ((a3, b3), m3), ((a4, b4), m4), ((a5, b5), m5)] 5 = layF Lj a4 b4 m4) := by rw [hLj]; rfl
      clear hLj hO
      have HO1 : Hid _ := And.intro hO1 hlj
      obtain ⟨sa, sc, e5, hle, -, -, hsn, -⟩ := hO1.open
      rw [hlj] at hle e5
      subst e5
      have hix : ∀ X : World, (Instr.index 79 (.agg #[.int .u8 a0, .int .u8 b0, .int .u8 a1, .int .u8 b1, .int .u8 a2, .int .u8 b2, .int .u8 a3, .int .u8 b3, .int .u8 a4, .int .u8 b4, .int .u8 a5, .int .u8 b5]) (.int .i64 4)).run Tryd.prog X = .ok (.agg #[.int .u8 a4, .int .u8 b4]) X := fun _ => by first | rfl | kernel_rfl
      have B3 := Blk.new' wr 78 [.int .u8 a4, .int .u8 b4]
      have b3_ : Below wr.heap.size wr (wr.alloc (.cells #[.int .u8 a4, .int .u8 b4] 78)) := (Below.refl _ _).alloc (Nat.le_refl _) _
      obtain ⟨w3, hw3⟩ : ∃ w3, w3 = wr.alloc (.cells #[.int .u8 a4, .int .u8 b4] 78) := ⟨_, rfl⟩
      rw [← hw3] at B3 b3_
      have S3 : Hid _ := And.intro (And.intro b3_ B3) (And.intro hbw hV)
      have c0 := ck_at B3 0
      have c1 := ck_at B3 1
      simp only [List.getElem?_cons_zero, List.getElem?_cons_succ] at c0 c1
      clear hO1 hbw hV B3 b3_ hlj
      go_upto_region 6 with fail
      rw [← hw3]
      clear hw3 hix
      go_wp2_with fail
      refine (Calls.mono (cThere_any _ _ _)) ?_
      rintro e w4 ⟨rfl, b4_⟩
      have S4 : Hid _ := And.intro (below_then S3.out.1.1 b4_) (And.intro (S3.out.1.2.laterB b4_) (And.intro (below_then S3.out.2.1 (below_then S3.out.1.1 b4_)) (S3.out.2.2.laterB (below_then S3.out.1.1 b4_))))
      clear b4_ S3 c0 c1
      by_cases hb : b4 = 0
      · have d1 : decide (b4 > 0) = false := decide_eq_false (by omega)
        have F : Hid (Own w4 w.heap.size (.slice sa 16 sc) (wrF o [((a0, b0), m0), ((a1, b1), m1), ((a2, b2), m2), ((a3, b3), m3), ((a4, b4), m4), ((a5, b5), m5)] 5) ∧ Below w.heap.size w w4 ∧ Blk w4 (w.heap.size + 1) 84 [.int .u64 (m0.toNat : Int), .int .u64 (m1.toNat : Int), .int .u64 (m2.toNat : Int), .int .u64 (m3.toNat : Int), .int .u64 (m4.toNat : Int), .int .u64 (m5.toNat : Int)]) := ⟨by rw [LE.out]; unfold layF; rw [if_pos hb]; exact HO1.out.1.later S4.out.1, S4.out.2.2.1, S4.out.2.2.2⟩
        clear S4 hb
        go_wp2
        go_roundw
        case rel => exact ⟨5, by omega, rfl, F.out.1, F.out.2.1, F.out.2.2⟩
        case measure => simp [intOf]
      · have d1 : decide (b4 > 0) = true := decide_eq_true (by have := PF4.out.1.size; omega)
        have hw_ := PF4.out.1.wide hb
        have hz_ := PF4.out.1.size
        have hfit := PF4.out.1.fit
        have hlow := PF4.out.1.low
        have va : IntKind.i64.wrap a4 = a4 := by rw [IntKind.wrap_i64]; omega
        have ca : ((a4.toNat : Nat) : Int) = a4 := by omega
        have HPut : Hid (∀ X, Below w4.heap.size w4 X → _) := fun X (bX : Below w4.heap.size w4 X) => Put_yes sa 16 sc Lj a4.toNat (szB b4) m4 X HO1.out.2 hle (by obtain ⟨_, _, e6, -, -, hr6, -, -⟩ := (HO1.out.1.later (below_then S4.out.1 bX)).open; simp only [Value.slice.injEq] at e6; obtain ⟨rfl, -, -⟩ := e6; exact hr6) hsn (by omega) (by omega) (by omega) (by omega) (PF4.out.2 hb)
        rw [ca] at HPut
        have HSz : Hid (∀ X, _) := fun X => cSize_any a4 b4 X hz_
        have LV : Hid (wrF o [((a0, b0), m0), ((a1, b1), m1), ((a2, b2), m2), ((a3, b3), m3), ((a4, b4), m4), ((a5, b5), m5)] 5 = over Lj a4.toNat (be (szB b4) m4)) := by show _ = _; rw [LE.out]; unfold layF; rw [if_neg hb]
        generalize szB b4 = sz at *
        clear hw_ hz_ hfit hlow hb hle hsn
        have HC4 : Hid _ := And.intro (show w4.cell? ⟨wr.heap.size, 0, none⟩ = _ from ck_at S4.out.2.1 0) (And.intro (show w4.cell? ⟨wr.heap.size, 1, none⟩ = _ from ck_at S4.out.2.1 1) (show w4.cell? ⟨w.heap.size + 1, 4, none⟩ = some (.int .u64 (m4.toNat : Int)) from ck_at S4.out.2.2.2 4))
        go_upto_region 7 with fail
        refine wp_region_held_drew (S := fun W => Below w4.heap.size w4 W) (by kernel_rfl) ((Below.refl _ _).drew) (fun hS => ?_)
        have B0 : Below w4.heap.size w4 w4.drew := ((Below.refl _ _).drew)
        refine any_take (i := 0) (v := ?_) rfl (by kernel_rfl) (by kernel_rfl) (by kernel_rfl) (by exact fun _ _ _ h => h) (by rfl) ?_ hS ?_
        rotate_left
        · ((intro w hSw; have c0 := ck_later HC4.out.1 hSw; have c1 := ck_later HC4.out.2.1 hSw; have c2 := ck_later HC4.out.2.2 hSw; go_simp) <;> with_reducible rfl)
        (try simp only [Act.put, List.setIfInBounds_toArray, List.set_cons_zero, List.set_cons_succ])
        refine any_take (i := 1) (v := ?_) rfl (by kernel_rfl) (by kernel_rfl) (by kernel_rfl) (by exact fun _ _ _ h => h) (by rfl) ?_ hS ?_
        rotate_left
        · ((intro w hSw; have c0 := ck_later HC4.out.1 hSw; have c1 := ck_later HC4.out.2.1 hSw; have c2 := ck_later HC4.out.2.2 hSw; go_simp) <;> with_reducible rfl)
        (try simp only [Act.put, List.setIfInBounds_toArray, List.set_cons_zero, List.set_cons_succ])
        refine any_take (i := 2) (v := ?_) rfl (by kernel_rfl) (by kernel_rfl) (by kernel_rfl) (by exact fun _ _ _ h => h) (by rfl) ?_ hS ?_
        rotate_left
        · ((intro w hSw; have c0 := ck_later HC4.out.1 hSw; have c1 := ck_later HC4.out.2.1 hSw; have c2 := ck_later HC4.out.2.2 hSw; go_simp) <;> with_reducible rfl)
        (try simp only [Act.put, List.setIfInBounds_toArray, List.set_cons_zero, List.set_cons_succ])
        refine any_take (i := 3) (v := ?_) rfl (by kernel_rfl) (by kernel_rfl) (by kernel_rfl) (by exact fun _ _ _ h => h) (by rfl) ?_ hS ?_
        rotate_left
        · ((intro w hSw; have c0 := ck_later HC4.out.1 hSw; have c1 := ck_later HC4.out.2.1 hSw; have c2 := ck_later HC4.out.2.2 hSw; go_simp) <;> with_reducible rfl)
        (try simp only [Act.put, List.setIfInBounds_toArray, List.set_cons_zero, List.set_cons_succ])
        refine any_take (i := 4) (v := ?_) rfl (by kernel_rfl) (by kernel_rfl) (by kernel_rfl) (by exact fun _ _ _ h => h) (by rfl) ?_ hS ?_
        rotate_left
        · ((intro w hSw; have c0 := ck_later HC4.out.1 hSw; have c1 := ck_later HC4.out.2.1 hSw; have c2 := ck_later HC4.out.2.2 hSw; go_simp) <;> with_reducible rfl)
        (try simp only [Act.put, List.setIfInBounds_toArray, List.set_cons_zero, List.set_cons_succ])
        refine any_take (i := 6) (v := ?_) rfl (by kernel_rfl) (by kernel_rfl) (by kernel_rfl) (by exact fun _ _ _ h => h) (by rfl) ?_ hS ?_
        rotate_left
        · ((intro w hSw; have c0 := ck_later HC4.out.1 hSw; have c1 := ck_later HC4.out.2.1 hSw; have c2 := ck_later HC4.out.2.2 hSw; go_simp) <;> with_reducible rfl)
        (try simp only [Act.put, List.setIfInBounds_toArray, List.set_cons_zero, List.set_cons_succ])
        refine any_take (i := 7) (v := ?_) rfl (by kernel_rfl) (by kernel_rfl) (by kernel_rfl) (by exact fun _ _ _ h => h) (by rfl) ?_ hS ?_
        rotate_left
        · ((intro w hSw; have c0 := ck_later HC4.out.1 hSw; have c1 := ck_later HC4.out.2.1 hSw; have c2 := ck_later HC4.out.2.2 hSw; go_simp) <;> with_reducible rfl)
        (try simp only [Act.put, List.setIfInBounds_toArray, List.set_cons_zero, List.set_cons_succ])
        refine any_take (i := 8) (v := ?_) rfl (by kernel_rfl) (by kernel_rfl) (by kernel_rfl) (by exact fun _ _ _ h => h) (by rfl) ?_ hS ?_
        rotate_left
        · ((intro w hSw; have c0 := ck_later HC4.out.1 hSw; have c1 := ck_later HC4.out.2.1 hSw; have c2 := ck_later HC4.out.2.2 hSw; go_simp) <;> with_reducible rfl)
        (try simp only [Act.put, List.setIfInBounds_toArray, List.set_cons_zero, List.set_cons_succ])
        refine any_one (i := 5) rfl (by kernel_rfl) (fun K hK => ?_)
        go_simp
        refine (Calls.mono (HSz.out _)) ?_
        rintro e x1 ⟨rfl, hbR⟩
        have B1 : Below w4.heap.size w4 x1 := below_then B0 hbR
        go_wp2_with fail
        refine hK.out _ _ (by first | exact B1 | exact hbR | exact below_then hS hbR) (any_weaken (S' := fun W => Below x1.heap.size x1 W) (fun W hW => by first | exact below_then B1 hW | exact below_then hbR hW | exact below_then (below_then hS hbR) hW) _ _ _ _ ?_)
        clear hK K hS hbR
        have hS : Below x1.heap.size x1 x1 := Below.refl _ _
        have K2 : Hid _ := HPut.out _ B1
        refine any_one (i := 9) rfl (by kernel_rfl) (fun K hK => ?_)
        go_simp
        refine (Calls.mono (K2.out)) ?_
        rintro e x2 ⟨z9, rfl, o9, hbR⟩
        have B2 : Below w4.heap.size w4 x2 := below_then B1 hbR
        clear K2
        go_wp2_with fail
        refine hK.out _ _ (by first | exact B2 | exact hbR | exact below_then hS hbR) (any_weaken (S' := fun W => Below x2.heap.size x2 W) (fun W hW => by first | exact below_then B2 hW | exact below_then hbR hW | exact below_then (below_then hS hbR) hW) _ _ _ _ ?_)
        clear hK K hS hbR
        have hS : Below x2.heap.size x2 x2 := Below.refl _ _
        refine any_take (i := 10) (v := ?_) rfl (by kernel_rfl) (by kernel_rfl) (by kernel_rfl) (by exact fun _ _ _ h => h) (by rfl) ?_ hS ?_
        rotate_left
        · ((intro w hSw; (try dsimp only at hSw); go_simp) <;> with_reducible rfl)
        (try simp only [Act.put, List.setIfInBounds_toArray, List.set_cons_zero, List.set_cons_succ])
        refine any_take (i := 11) (v := ?_) rfl (by kernel_rfl) (by kernel_rfl) (by kernel_rfl) (by exact fun _ _ _ h => h) (by rfl) ?_ hS ?_
        rotate_left
        · ((intro w hSw; (try dsimp only at hSw); go_simp) <;> with_reducible rfl)
        (try simp only [Act.put, List.setIfInBounds_toArray, List.set_cons_zero, List.set_cons_succ])
        refine any_take (i := 12) (v := ?_) rfl (by kernel_rfl) (by kernel_rfl) (by kernel_rfl) (by exact fun _ _ _ h => h) (by rfl) ?_ hS ?_
        rotate_left
        · ((intro w hSw; (try dsimp only at hSw); go_simp) <;> with_reducible rfl)
        (try simp only [Act.put, List.setIfInBounds_toArray, List.set_cons_zero, List.set_cons_succ])
        refine any_take (i := 13) (v := ?_) rfl (by kernel_rfl) (by kernel_rfl) (by kernel_rfl) (by exact fun _ _ _ h => h) (by rfl) ?_ hS ?_
        rotate_left
        · ((intro w hSw; (try dsimp only at hSw); go_simp) <;> with_reducible rfl)
        (try simp only [Act.put, List.setIfInBounds_toArray, List.set_cons_zero, List.set_cons_succ])
        refine wpAnyH_done (by kernel_rfl) ?_ _
        have F : Hid (Own x2 w.heap.size z9 (wrF o [((a0, b0), m0), ((a1, b1), m1), ((a2, b2), m2), ((a3, b3), m3), ((a4, b4), m4), ((a5, b5), m5)] 5) ∧ Below w.heap.size w x2 ∧ Blk x2 (w.heap.size + 1) 84 [.int .u64 (m0.toNat : Int), .int .u64 (m1.toNat : Int), .int .u64 (m2.toNat : Int), .int .u64 (m3.toNat : Int), .int .u64 (m4.toNat : Int), .int .u64 (m5.toNat : Int)]) := ⟨by rw [LV.out]; exact o9.lower (below_then S4.out.2.2.1 B1).size, below_then S4.out.2.2.1 B2, S4.out.2.2.2.laterB B2⟩
        clear hS HPut HSz S4 HC4 B0 B1 B2 o9
        go_wp2
        go_roundw
        case rel => exact ⟨5, by omega, rfl, F.out.1, F.out.2.1, F.out.2.2⟩
        case measure => simp [intOf]
    · have hO1 : Own wr w.heap.size u5 (wrF o [((a0, b0), m0), ((a1, b1), m1), ((a2, b2), m2), ((a3, b3), m3), ((a4, b4), m4), ((a5, b5), m5)] 5) := hO
      have hlj : (wrF o [((a0, b0), m0), ((a1, b1), m1), ((a2, b2), m2), ((a3, b3), m3), ((a4, b4), m4), ((a5, b5), m5)] 5).length = 16 := hl5.out
      obtain ⟨Lj, hLj⟩ : ∃ Lj, Lj = wrF o [((a0, b0), m0), ((a1, b1), m1), ((a2, b2), m2), ((a3, b3), m3), ((a4, b4), m4), ((a5, b5), m5)] 5 := ⟨_, rfl⟩
      rw [← hLj] at hO1 hlj
      have LE : Hid (wrF o [((a0, b0), m0), ((a1, b1), m1), ((a2, b2), m2), ((a3, b3), m3), ((a4, b4), m4), ((a5, b5), m5)] 6 = layF Lj a5 b5 m5) := by rw [hLj]; rfl
      clear hLj hO
      have HO1 : Hid _ := And.intro hO1 hlj
      obtain ⟨sa, sc, e5, hle, -, -, hsn, -⟩ := hO1.open
      rw [hlj] at hle e5
      subst e5
      have hix : ∀ X : World, (Instr.index 79 (.agg #[.int .u8 a0, .int .u8 b0, .int .u8 a1, .int .u8 b1, .int .u8 a2, .int .u8 b2, .int .u8 a3, .int .u8 b3, .int .u8 a4, .int .u8 b4, .int .u8 a5, .int .u8 b5]) (.int .i64 5)).run Tryd.prog X = .ok (.agg #[.int .u8 a5, .int .u8 b5]) X := fun _ => by first | rfl | kernel_rfl
      have B3 := Blk.new' wr 78 [.int .u8 a5, .int .u8 b5]
      have b3_ : Below wr.heap.size wr (wr.alloc (.cells #[.int .u8 a5, .int .u8 b5] 78)) := (Below.refl _ _).alloc (Nat.le_refl _) _
      obtain ⟨w3, hw3⟩ : ∃ w3, w3 = wr.alloc (.cells #[.int .u8 a5, .int .u8 b5] 78) := ⟨_, rfl⟩
      rw [← hw3] at B3 b3_
      have S3 : Hid _ := And.intro (And.intro b3_ B3) (And.intro hbw hV)
      have c0 := ck_at B3 0
      have c1 := ck_at B3 1
      simp only [List.getElem?_cons_zero, List.getElem?_cons_succ] at c0 c1
      clear hO1 hbw hV B3 b3_ hlj
      go_upto_region 6 with fail
      rw [← hw3]
      clear hw3 hix
      go_wp2_with fail
      refine (Calls.mono (cThere_any _ _ _)) ?_
      rintro e w4 ⟨rfl, b4_⟩
      have S4 : Hid _ := And.intro (below_then S3.out.1.1 b4_) (And.intro (S3.out.1.2.laterB b4_) (And.intro (below_then S3.out.2.1 (below_then S3.out.1.1 b4_)) (S3.out.2.2.laterB (below_then S3.out.1.1 b4_))))
      clear b4_ S3 c0 c1
      by_cases hb : b5 = 0
      · have d1 : decide (b5 > 0) = false := decide_eq_false (by omega)
        have F : Hid (Own w4 w.heap.size (.slice sa 16 sc) (wrF o [((a0, b0), m0), ((a1, b1), m1), ((a2, b2), m2), ((a3, b3), m3), ((a4, b4), m4), ((a5, b5), m5)] 6) ∧ Below w.heap.size w w4 ∧ Blk w4 (w.heap.size + 1) 84 [.int .u64 (m0.toNat : Int), .int .u64 (m1.toNat : Int), .int .u64 (m2.toNat : Int), .int .u64 (m3.toNat : Int), .int .u64 (m4.toNat : Int), .int .u64 (m5.toNat : Int)]) := ⟨by rw [LE.out]; unfold layF; rw [if_pos hb]; exact HO1.out.1.later S4.out.1, S4.out.2.2.1, S4.out.2.2.2⟩
        clear S4 hb
        go_wp2
        go_roundw
        case rel => exact ⟨6, by omega, rfl, F.out.1, F.out.2.1, F.out.2.2⟩
        case measure => simp [intOf]
      · have d1 : decide (b5 > 0) = true := decide_eq_true (by have := PF5.out.1.size; omega)
        have hw_ := PF5.out.1.wide hb
        have hz_ := PF5.out.1.size
        have hfit := PF5.out.1.fit
        have hlow := PF5.out.1.low
        have va : IntKind.i64.wrap a5 = a5 := by rw [IntKind.wrap_i64]; omega
        have ca : ((a5.toNat : Nat) : Int) = a5 := by omega
        have HPut : Hid (∀ X, Below w4.heap.size w4 X → _) := fun X (bX : Below w4.heap.size w4 X) => Put_yes sa 16 sc Lj a5.toNat (szB b5) m5 X HO1.out.2 hle (by obtain ⟨_, _, e6, -, -, hr6, -, -⟩ := (HO1.out.1.later (below_then S4.out.1 bX)).open; simp only [Value.slice.injEq] at e6; obtain ⟨rfl, -, -⟩ := e6; exact hr6) hsn (by omega) (by omega) (by omega) (by omega) (PF5.out.2 hb)
        rw [ca] at HPut
        have HSz : Hid (∀ X, _) := fun X => cSize_any a5 b5 X hz_
        have LV : Hid (wrF o [((a0, b0), m0), ((a1, b1), m1), ((a2, b2), m2), ((a3, b3), m3), ((a4, b4), m4), ((a5, b5), m5)] 6 = over Lj a5.toNat (be (szB b5) m5)) := by show _ = _; rw [LE.out]; unfold layF; rw [if_neg hb]
        generalize szB b5 = sz at *
        clear hw_ hz_ hfit hlow hb hle hsn
        have HC4 : Hid _ := And.intro (show w4.cell? ⟨wr.heap.size, 0, none⟩ = _ from ck_at S4.out.2.1 0) (And.intro (show w4.cell? ⟨wr.heap.size, 1, none⟩ = _ from ck_at S4.out.2.1 1) (show w4.cell? ⟨w.heap.size + 1, 5, none⟩ = some (.int .u64 (m5.toNat : Int)) from ck_at S4.out.2.2.2 5))
        go_upto_region 7 with fail
        refine wp_region_held_drew (S := fun W => Below w4.heap.size w4 W) (by kernel_rfl) ((Below.refl _ _).drew) (fun hS => ?_)
        have B0 : Below w4.heap.size w4 w4.drew := ((Below.refl _ _).drew)
        refine any_take (i := 0) (v := ?_) rfl (by kernel_rfl) (by kernel_rfl) (by kernel_rfl) (by exact fun _ _ _ h => h) (by rfl) ?_ hS ?_
        rotate_left
        · ((intro w hSw; have c0 := ck_later HC4.out.1 hSw; have c1 := ck_later HC4.out.2.1 hSw; have c2 := ck_later HC4.out.2.2 hSw; go_simp) <;> with_reducible rfl)
        (try simp only [Act.put, List.setIfInBounds_toArray, List.set_cons_zero, List.set_cons_succ])
        refine any_take (i := 1) (v := ?_) rfl (by kernel_rfl) (by kernel_rfl) (by kernel_rfl) (by exact fun _ _ _ h => h) (by rfl) ?_ hS ?_
        rotate_left
        · ((intro w hSw; have c0 := ck_later HC4.out.1 hSw; have c1 := ck_later HC4.out.2.1 hSw; have c2 := ck_later HC4.out.2.2 hSw; go_simp) <;> with_reducible rfl)
        (try simp only [Act.put, List.setIfInBounds_toArray, List.set_cons_zero, List.set_cons_succ])
        refine any_take (i := 2) (v := ?_) rfl (by kernel_rfl) (by kernel_rfl) (by kernel_rfl) (by exact fun _ _ _ h => h) (by rfl) ?_ hS ?_
        rotate_left
        · ((intro w hSw; have c0 := ck_later HC4.out.1 hSw; have c1 := ck_later HC4.out.2.1 hSw; have c2 := ck_later HC4.out.2.2 hSw; go_simp) <;> with_reducible rfl)
        (try simp only [Act.put, List.setIfInBounds_toArray, List.set_cons_zero, List.set_cons_succ])
        refine any_take (i := 3) (v := ?_) rfl (by kernel_rfl) (by kernel_rfl) (by kernel_rfl) (by exact fun _ _ _ h => h) (by rfl) ?_ hS ?_
        rotate_left
        · ((intro w hSw; have c0 := ck_later HC4.out.1 hSw; have c1 := ck_later HC4.out.2.1 hSw; have c2 := ck_later HC4.out.2.2 hSw; go_simp) <;> with_reducible rfl)
        (try simp only [Act.put, List.setIfInBounds_toArray, List.set_cons_zero, List.set_cons_succ])
        refine any_take (i := 4) (v := ?_) rfl (by kernel_rfl) (by kernel_rfl) (by kernel_rfl) (by exact fun _ _ _ h => h) (by rfl) ?_ hS ?_
        rotate_left
        · ((intro w hSw; have c0 := ck_later HC4.out.1 hSw; have c1 := ck_later HC4.out.2.1 hSw; have c2 := ck_later HC4.out.2.2 hSw; go_simp) <;> with_reducible rfl)
        (try simp only [Act.put, List.setIfInBounds_toArray, List.set_cons_zero, List.set_cons_succ])
        refine any_take (i := 6) (v := ?_) rfl (by kernel_rfl) (by kernel_rfl) (by kernel_rfl) (by exact fun _ _ _ h => h) (by rfl) ?_ hS ?_
        rotate_left
        · ((intro w hSw; have c0 := ck_later HC4.out.1 hSw; have c1 := ck_later HC4.out.2.1 hSw; have c2 := ck_later HC4.out.2.2 hSw; go_simp) <;> with_reducible rfl)
        (try simp only [Act.put, List.setIfInBounds_toArray, List.set_cons_zero, List.set_cons_succ])
        refine any_take (i := 7) (v := ?_) rfl (by kernel_rfl) (by kernel_rfl) (by kernel_rfl) (by exact fun _ _ _ h => h) (by rfl) ?_ hS ?_
        rotate_left
        · ((intro w hSw; have c0 := ck_later HC4.out.1 hSw; have c1 := ck_later HC4.out.2.1 hSw; have c2 := ck_later HC4.out.2.2 hSw; go_simp) <;> with_reducible rfl)
        (try simp only [Act.put, List.setIfInBounds_toArray, List.set_cons_zero, List.set_cons_succ])
        refine any_take (i := 8) (v := ?_) rfl (by kernel_rfl) (by kernel_rfl) (by kernel_rfl) (by exact fun _ _ _ h => h) (by rfl) ?_ hS ?_
        rotate_left
        · ((intro w hSw; have c0 := ck_later HC4.out.1 hSw; have c1 := ck_later HC4.out.2.1 hSw; have c2 := ck_later HC4.out.2.2 hSw; go_simp) <;> with_reducible rfl)
        (try simp only [Act.put, List.setIfInBounds_toArray, List.set_cons_zero, List.set_cons_succ])
        refine any_one (i := 5) rfl (by kernel_rfl) (fun K hK => ?_)
        go_simp
        refine (Calls.mono (HSz.out _)) ?_
        rintro e x1 ⟨rfl, hbR⟩
        have B1 : Below w4.heap.size w4 x1 := below_then B0 hbR
        go_wp2_with fail
        refine hK.out _ _ (by first | exact B1 | exact hbR | exact below_then hS hbR) (any_weaken (S' := fun W => Below x1.heap.size x1 W) (fun W hW => by first | exact below_then B1 hW | exact below_then hbR hW | exact below_then (below_then hS hbR) hW) _ _ _ _ ?_)
        clear hK K hS hbR
        have hS : Below x1.heap.size x1 x1 := Below.refl _ _
        have K2 : Hid _ := HPut.out _ B1
        refine any_one (i := 9) rfl (by kernel_rfl) (fun K hK => ?_)
        go_simp
        refine (Calls.mono (K2.out)) ?_
        rintro e x2 ⟨z9, rfl, o9, hbR⟩
        have B2 : Below w4.heap.size w4 x2 := below_then B1 hbR
        clear K2
        go_wp2_with fail
        refine hK.out _ _ (by first | exact B2 | exact hbR | exact below_then hS hbR) (any_weaken (S' := fun W => Below x2.heap.size x2 W) (fun W hW => by first | exact below_then B2 hW | exact below_then hbR hW | exact below_then (below_then hS hbR) hW) _ _ _ _ ?_)
        clear hK K hS hbR
        have hS : Below x2.heap.size x2 x2 := Below.refl _ _
        refine any_take (i := 10) (v := ?_) rfl (by kernel_rfl) (by kernel_rfl) (by kernel_rfl) (by exact fun _ _ _ h => h) (by rfl) ?_ hS ?_
        rotate_left
        · ((intro w hSw; (try dsimp only at hSw); go_simp) <;> with_reducible rfl)
        (try simp only [Act.put, List.setIfInBounds_toArray, List.set_cons_zero, List.set_cons_succ])
        refine any_take (i := 11) (v := ?_) rfl (by kernel_rfl) (by kernel_rfl) (by kernel_rfl) (by exact fun _ _ _ h => h) (by rfl) ?_ hS ?_
        rotate_left
        · ((intro w hSw; (try dsimp only at hSw); go_simp) <;> with_reducible rfl)
        (try simp only [Act.put, List.setIfInBounds_toArray, List.set_cons_zero, List.set_cons_succ])
        refine any_take (i := 12) (v := ?_) rfl (by kernel_rfl) (by kernel_rfl) (by kernel_rfl) (by exact fun _ _ _ h => h) (by rfl) ?_ hS ?_
        rotate_left
        · ((intro w hSw; (try dsimp only at hSw); go_simp) <;> with_reducible rfl)
        (try simp only [Act.put, List.setIfInBounds_toArray, List.set_cons_zero, List.set_cons_succ])
        refine any_take (i := 13) (v := ?_) rfl (by kernel_rfl) (by kernel_rfl) (by kernel_rfl) (by exact fun _ _ _ h => h) (by rfl) ?_ hS ?_
        rotate_left
        · ((intro w hSw; (try dsimp only at hSw); go_simp) <;> with_reducible rfl)
        (try simp only [Act.put, List.setIfInBounds_toArray, List.set_cons_zero, List.set_cons_succ])
        refine wpAnyH_done (by kernel_rfl) ?_ _
        have F : Hid (Own x2 w.heap.size z9 (wrF o [((a0, b0), m0), ((a1, b1), m1), ((a2, b2), m2), ((a3, b3), m3), ((a4, b4), m4), ((a5, b5), m5)] 6) ∧ Below w.heap.size w x2 ∧ Blk x2 (w.heap.size + 1) 84 [.int .u64 (m0.toNat : Int), .int .u64 (m1.toNat : Int), .int .u64 (m2.toNat : Int), .int .u64 (m3.toNat : Int), .int .u64 (m4.toNat : Int), .int .u64 (m5.toNat : Int)]) := ⟨by rw [LV.out]; exact o9.lower (below_then S4.out.2.2.1 B1).size, below_then S4.out.2.2.1 B2, S4.out.2.2.2.laterB B2⟩
        clear hS HPut HSz S4 HC4 B0 B1 B2 o9
        go_wp2
        go_roundw
        case rel => exact ⟨6, by omega, rfl, F.out.1, F.out.2.1, F.out.2.2⟩
        case measure => simp [intOf]
    · have G : Hid _ := And.intro hO hbw
      clear hO hbw hV
      go_wp2
      go_ret
      exact ⟨_, rfl, G.out.1, G.out.2⟩
end Go.Proofs.YtmoobfpmijdoaaaDoor

/- cdb: bytes.Equal; a row's command. -/
namespace Go.Proofs.YtmoobfpmijdoaaaDoor
open Go.RowKit
set_option linter.unusedVariables false
set_option linter.unusedSimpArgs false
set_option maxRecDepth 4000

set_option maxHeartbeats 400000 in
theorem cEq_any (a b : Option Addr) (ca cb : Nat) (l m : List (BitVec 8)) (w : World) (hr : Row w a l) (hm : Row w b m) :
    Calls Tryd.prog 51 #[.slice a l.length ca, .slice b m.length cb] w fun e w' => e = .returned (.bool (decide (l = m))) ∧ w = w' := by
  have h1 := hr.str l.length ca rfl
  have h2 := hm.str m.length cb rfl
  have H : Hid _ := str_inj l m
  clear hr hm
  go_enter Tryd.func51, Tryd.ntmps51
  go_wp2
  go_ret
  exact ⟨ret_bool H.out, rfl⟩
set_option maxHeartbeats 1000000 in
theorem cCommand_any (o a0 b0 a1 b1 a2 b2 a3 b3 a4 b4 a5 b5 M0 M1 M2 M3 M4 M5 : Int) (w : World) (ho : 0 ≤ o ∧ o < 256) (h0 : 0 ≤ M0 ∧ M0 < 9223372036854775808) (h1 : 0 ≤ M1 ∧ M1 < 9223372036854775808) (h3 : 0 ≤ M3 ∧ M3 < 9223372036854775808) (h5 : 0 ≤ M5 ∧ M5 < 9223372036854775808) :
    Calls Tryd.prog 52 #[.agg #[.int .u8 o, .int .u8 a0, .int .u8 b0, .int .u8 a1, .int .u8 b1, .int .u8 a2, .int .u8 b2, .int .u8 a3, .int .u8 b3, .int .u8 a4, .int .u8 b4, .int .u8 a5, .int .u8 b5], .agg #[.int .u64 M0, .int .u64 M1, .int .u64 M2, .int .u64 M3, .int .u64 M4, .int .u64 M5]] w fun e w' => e = .returned (.agg #[.int .i64 o, .int .i64 M0, .int .i64 M1, .bool (M2 == 1), .int .i64 M3, .int .u64 M4, .int .i64 M5]) ∧ Below w.heap.size w w' := by
  have v9 : IntKind.i64.wrap o = o := by rw [IntKind.wrap_i64]; omega
  have v0 : IntKind.i64.wrap M0 = M0 := by rw [IntKind.wrap_i64]; omega
  have v1 : IntKind.i64.wrap M1 = M1 := by rw [IntKind.wrap_i64]; omega
  have v3 : IntKind.i64.wrap M3 = M3 := by rw [IntKind.wrap_i64]; omega
  have v5 : IntKind.i64.wrap M5 = M5 := by rw [IntKind.wrap_i64]; omega
  clear ho h0 h1 h3 h5
  have B0 := Blk.new' w 81 [.int .u8 o, .int .u8 a0, .int .u8 b0, .int .u8 a1, .int .u8 b1, .int .u8 a2, .int .u8 b2, .int .u8 a3, .int .u8 b3, .int .u8 a4, .int .u8 b4, .int .u8 a5, .int .u8 b5]
  have b0_ : Below w.heap.size w (w.alloc (.cells #[.int .u8 o, .int .u8 a0, .int .u8 b0, .int .u8 a1, .int .u8 b1, .int .u8 a2, .int .u8 b2, .int .u8 a3, .int .u8 b3, .int .u8 a4, .int .u8 b4, .int .u8 a5, .int .u8 b5] 81)) := (Below.refl _ _).alloc (Nat.le_refl _) _
  obtain ⟨w0, hw0⟩ : ∃ w0, w0 = w.alloc (.cells #[.int .u8 o, .int .u8 a0, .int .u8 b0, .int .u8 a1, .int .u8 b1, .int .u8 a2, .int .u8 b2, .int .u8 a3, .int .u8 b3, .int .u8 a4, .int .u8 b4, .int .u8 a5, .int .u8 b5] 81) := ⟨_, rfl⟩
  have z0 : w0.heap.size = w.heap.size + 1 := by rw [hw0]; simp
  rw [← hw0] at B0 b0_
  have B1 := Blk.new' w0 84 [.int .u64 M0, .int .u64 M1, .int .u64 M2, .int .u64 M3, .int .u64 M4, .int .u64 M5]
  have b1_ : Below w0.heap.size w0 (w0.alloc (.cells #[.int .u64 M0, .int .u64 M1, .int .u64 M2, .int .u64 M3, .int .u64 M4, .int .u64 M5] 84)) := (Below.refl _ _).alloc (Nat.le_refl _) _
  obtain ⟨w1, hw1⟩ : ∃ w1, w1 = w0.alloc (.cells #[.int .u64 M0, .int .u64 M1, .int .u64 M2, .int .u64 M3, .int .u64 M4, .int .u64 M5] 84) := ⟨_, rfl⟩
  have z1 : w1.heap.size = w.heap.size + 2 := by rw [hw1]; simp [z0]
  rw [← hw1] at B1 b1_
  rw [z0] at B1
  have B2 := Blk.new' w1 35 [.int .i64 0, .int .i64 0, .int .i64 0, .bool false, .int .i64 0, .int .u64 0, .int .i64 0]
  have b2_ : Below w1.heap.size w1 (w1.alloc (.cells #[.int .i64 0, .int .i64 0, .int .i64 0, .bool false, .int .i64 0, .int .u64 0, .int .i64 0] 35)) := (Below.refl _ _).alloc (Nat.le_refl _) _
  obtain ⟨w2, hw2⟩ : ∃ w2, w2 = w1.alloc (.cells #[.int .i64 0, .int .i64 0, .int .i64 0, .bool false, .int .i64 0, .int .u64 0, .int .i64 0] 35) := ⟨_, rfl⟩
  rw [← hw2] at B2 b2_
  rw [z1] at B2
  have b3_ : Below w.heap.size w w2 := below_then b0_ (below_then b1_ b2_)
  have y0 := ck_at (B0.laterB (below_then b1_ b2_)) 0
  have B1' := B1.laterB b2_
  have x0 := ck_at B1' 0
  have x1 := ck_at B1' 1
  have x2 := ck_at B1' 2
  have x3 := ck_at B1' 3
  have x4 := ck_at B1' 4
  have x5 := ck_at B1' 5
  have z0' := ck_at B2 0
  have z1' := ck_at B2 1
  have z2' := ck_at B2 2
  have z3' := ck_at B2 3
  have z4' := ck_at B2 4
  have z5' := ck_at B2 5
  have z6' := ck_at B2 6
  have f0 := ck_fz B2 0
  have f1 := ck_fz B2 1
  have f2 := ck_fz B2 2
  have f3 := ck_fz B2 3
  have f4 := ck_fz B2 4
  have f5 := ck_fz B2 5
  have f6 := ck_fz B2 6
  simp only [List.getElem?_cons_zero, List.getElem?_cons_succ] at y0 x0 x1 x2 x3 x4 x5 z0' z1' z2' z3' z4' z5' z6'
  have R1 := (((((((B2).set 0 (.int .i64 o)).set 1 (.int .i64 M0)).set 2 (.int .i64 M1)).set 3 (.bool (M2 == 1))).set 4 (.int .i64 M3)).set 5 (.int .u64 M4)).set 6 (.int .i64 M5)
  simp only [List.set_cons_zero, List.set_cons_succ] at R1
  have R2 := (((((((b3_).setCell (p := ⟨w.heap.size + 2, 0, none⟩) (show w.heap.size ≤ w.heap.size + 2 by omega) (.int .i64 o)).setCell (p := ⟨w.heap.size + 2, 1, none⟩) (show w.heap.size ≤ w.heap.size + 2 by omega) (.int .i64 M0)).setCell (p := ⟨w.heap.size + 2, 2, none⟩) (show w.heap.size ≤ w.heap.size + 2 by omega) (.int .i64 M1)).setCell (p := ⟨w.heap.size + 2, 3, none⟩) (show w.heap.size ≤ w.heap.size + 2 by omega) (.bool (M2 == 1))).setCell (p := ⟨w.heap.size + 2, 4, none⟩) (show w.heap.size ≤ w.heap.size + 2 by omega) (.int .i64 M3)).setCell (p := ⟨w.heap.size + 2, 5, none⟩) (show w.heap.size ≤ w.heap.size + 2 by omega) (.int .u64 M4)).setCell (p := ⟨w.heap.size + 2, 6, none⟩) (show w.heap.size ≤ w.heap.size + 2 by omega) (.int .i64 M5)
  have G : Hid _ := And.intro R1 R2
  clear R1 R2 B0 b0_ B1 b1_ B2 b2_ b3_ z0 z1 B1'
  go_enter Tryd.func52, Tryd.ntmps52
  go_upto_region 1 with fail
  rw [← hw0, ← hw1, ← hw2]
  clear hw0 hw1 hw2
  go_wp2
  clear y0 x0 x1 x2 x3 x4 x5 z0' f0 z1' f1 z2' f2 z3' f3 z4' f4 z5' f5 z6' f6
  generalize (((((((w2).setCell ⟨w.heap.size + 2, 0, none⟩ (.int .i64 o)).setCell ⟨w.heap.size + 2, 1, none⟩ (.int .i64 M0)).setCell ⟨w.heap.size + 2, 2, none⟩ (.int .i64 M1)).setCell ⟨w.heap.size + 2, 3, none⟩ (.bool (M2 == 1))).setCell ⟨w.heap.size + 2, 4, none⟩ (.int .i64 M3)).setCell ⟨w.heap.size + 2, 5, none⟩ (.int .u64 M4)).setCell ⟨w.heap.size + 2, 6, none⟩ (.int .i64 M5) = wf at *
  have r0 := ck_at G.out.1 0
  have r1 := ck_at G.out.1 1
  have r2 := ck_at G.out.1 2
  have r3 := ck_at G.out.1 3
  have r4 := ck_at G.out.1 4
  have r5 := ck_at G.out.1 5
  have r6 := ck_at G.out.1 6
  simp only [List.getElem?_cons_zero, List.getElem?_cons_succ] at r0 r1 r2 r3 r4 r5 r6
  refine bodyPost_ret (v := .agg #[.int .i64 o, .int .i64 M0, .int .i64 M1, .bool (M2 == 1), .int .i64 M3, .int .u64 M4, .int .i64 M5]) (by simp [results, Tryd.results52, go_sem, r0, r1, r2, r3, r4, r5, r6]) rfl ?_
  exact ⟨rfl, G.out.2⟩
end Go.Proofs.YtmoobfpmijdoaaaDoor
