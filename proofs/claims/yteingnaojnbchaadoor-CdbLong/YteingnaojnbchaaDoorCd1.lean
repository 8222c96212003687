/- cdb: the table of commands, in memory and as data; find. -/
import Derived.Test.YteingnaojnbchaaDoorFieldX3
import Derived.Test.YteingnaojnbchaaDoorDraw
import Derived.Test.YteingnaojnbchaaDoorDrawE
import Derived.Test.YteingnaojnbchaaDoorDkW1
import Derived.Deep.CutRange
import Derived.Deep.QuietTactic
import Derived.BigQuiet
namespace Go.Proofs.YteingnaojnbchaaDoor
open Go.RowKit
set_option linter.unusedVariables false
set_option linter.unusedSimpArgs false
set_option maxRecDepth 4000

theorem ck_at {w : World} {g : Nat} {t : TypeId} {xs : List Value} (h : Blk w g t xs) (i : Nat) : w.cell? ⟨g, i, none⟩ = xs[i]? := by
  unfold Blk at h; simp [World.cell?, h]
theorem ck_fz {w : World} {g : Nat} {t : TypeId} {xs : List Value} (h : Blk w g t xs) (i : Nat) : w.frozen? ⟨g, i, none⟩ = false := by
  unfold Blk at h; simp [World.frozen?, h]
theorem ck_later {w w' : World} {x : Addr} {v : Value} (h : w.cell? x = some v) (hb : Below w.heap.size w w') : w'.cell? x = some v := by
  have hx : x.block < w.heap.size := World.block_lt_of_cell? w x h
  unfold World.cell? at *
  rw [hb.block x.block hx]
  exact h
/-- a row of the table: its operation, and where its fields stand (byte, bits) -/
structure CR where
  o : Int
  ps : List (Int × Int)
def CR.cells (r : CR) : List Value := .int .u8 r.o :: r.ps.flatMap (fun p => [.int .u8 p.1, .int .u8 p.2])
def tbl : List CR := [⟨0, [(0, 0), (0, 0), (0, 0), (0, 0), (0, 0), (0, 0)]⟩,
  ⟨3, [(0, 0), (0, 0), (0, 0), (0, 0), (0, 0), (4, 8)]⟩,
  ⟨18, [(0, 0), (2, 8), (1, 1), (0, 0), (0, 0), (3, 16)]⟩,
  ⟨37, [(0, 0), (0, 0), (0, 0), (0, 0), (0, 0), (0, 0)]⟩,
  ⟨40, [(0, 0), (0, 0), (0, 0), (0, 0), (2, 32), (7, 16)]⟩,
  ⟨42, [(0, 0), (0, 0), (0, 0), (0, 0), (2, 32), (7, 16)]⟩,
  ⟨53, [(0, 0), (0, 0), (0, 0), (0, 0), (2, 32), (7, 16)]⟩,
  ⟨66, [(0, 0), (0, 0), (0, 0), (0, 0), (0, 0), (7, 16)]⟩,
  ⟨94, [(1, 5), (0, 0), (0, 0), (0, 0), (0, 0), (7, 16)]⟩,
  ⟨95, [(1, 5), (0, 0), (0, 0), (2, 4), (0, 0), (5, 32)]⟩,
  ⟨136, [(0, 0), (0, 0), (0, 0), (0, 0), (2, 64), (10, 32)]⟩,
  ⟨138, [(0, 0), (0, 0), (0, 0), (0, 0), (2, 64), (10, 32)]⟩,
  ⟨160, [(0, 0), (2, 8), (0, 0), (0, 0), (0, 0), (6, 32)]⟩,
  ⟨163, [(1, 5), (0, 0), (0, 0), (0, 0), (0, 0), (6, 32)]⟩]
def tblC : List Value := tbl.flatMap CR.cells
theorem tblC_len : tblC.length = 182 := by decide
/-- the table stands where the program has it -/
def TblAt (w : World) : Prop := ∀ j v, tblC[j]? = some v → w.cell? ⟨1, j, none⟩ = some v
theorem TblAt.later {w w' : World} (h : TblAt w) (hb : Below w.heap.size w w') : TblAt w' := fun j v hj => ck_later (h j v hj) hb
theorem size_tb : (Tryd.prog.info? 116).map (·.size) = some 182 := by kernel_rfl
theorem load_tb {w : World} (h : TblAt w) : (Instr.loadAt 116 (.pointer (some ⟨1, 0, none⟩))).run Tryd.prog w = .ok (.agg tblC.toArray) w := by
  have h2 : (loadCells ⟨1, 0, none⟩ tblC.length).run Tryd.prog w = .ok tblC.toArray w := run_loadCells_list (P := Tryd.prog) w ⟨1, 0, none⟩ tblC (fun j v hj => by
    have hadd : (⟨1, 0, none⟩ : Addr).add j = ⟨1, 0 + j, none⟩ := by unfold Addr.add; split <;> simp_all
    rw [hadd, Nat.zero_add]; exact h j v hj)
  rw [tblC_len] at h2
  obtain ⟨i, hi, hz⟩ := Option.map_eq_some_iff.1 size_tb
  have hagg : (isAgg 116).run Tryd.prog w = .ok true w := by
    unfold isAgg
    rw [Sem.run_bind, run_underlying Tryd.underlying116 w]
    rfl
  simp [Instr.loadAt, Instr.sureAddr, loadVar, Sem.run_bind, hagg, sizeOf, typeInfo, hi, hz, h2]
def CR0 : CR := ⟨0, []⟩
def rowK (k : Nat) : CR := tbl.getD k CR0
theorem ix_tb (k : Nat) (hk : k < 14) (w : World) : (Instr.index 116 (.agg tblC.toArray) (.int .i64 (k : Int))).run Tryd.prog w = .ok (.agg (rowK k).cells.toArray) w := by
  have hk' : k = 0 ∨ k = 1 ∨ k = 2 ∨ k = 3 ∨ k = 4 ∨ k = 5 ∨ k = 6 ∨ k = 7 ∨ k = 8 ∨ k = 9 ∨ k = 10 ∨ k = 11 ∨ k = 12 ∨ k = 13 := by omega
  rcases hk' with rfl | rfl | rfl | rfl | rfl | rfl | rfl | rfl | rfl | rfl | rfl | rfl | rfl | rfl <;> (first | rfl | (show _ = _; kernel_rfl))
theorem row_open (k : Nat) (hk : k < 14) : ∃ o a0 b0 a1 b1 a2 b2 a3 b3 a4 b4 a5 b5, (0 ≤ o ∧ o < 256) ∧ rowK k = ⟨o, [(a0, b0), (a1, b1), (a2, b2), (a3, b3), (a4, b4), (a5, b5)]⟩ := by
  have hk' : k = 0 ∨ k = 1 ∨ k = 2 ∨ k = 3 ∨ k = 4 ∨ k = 5 ∨ k = 6 ∨ k = 7 ∨ k = 8 ∨ k = 9 ∨ k = 10 ∨ k = 11 ∨ k = 12 ∨ k = 13 := by omega
  rcases hk' with rfl | rfl | rfl | rfl | rfl | rfl | rfl | rfl | rfl | rfl | rfl | rfl | rfl | rfl <;> exact ⟨_, _, _, _, _, _, _, _, _, _, _, _, _, by decide, rfl⟩
/-- the row of an operation -/
def findR (op : Int) : Option CR := tbl.find? (fun r => r.o == op)
theorem find_yes {op : Int} {k : Nat} (hk : k < 14) (h : ∀ j, j < k → (rowK j).o ≠ op) (he : (rowK k).o = op) : findR op = some (rowK k) := by
  unfold findR
  rw [List.find?_eq_some_iff_getElem]
  refine ⟨by rw [he]; simp, k, by simpa [tbl] using hk, ?_, fun j hj => ?_⟩
  · unfold rowK; rw [List.getD_eq_getElem?_getD, List.getElem?_eq_getElem (by simpa [tbl] using hk)]; rfl
  · have := h j hj
    unfold rowK at this
    rw [List.getD_eq_getElem?_getD, List.getElem?_eq_getElem (by simp [tbl]; omega)] at this
    simpa using this
theorem find_no {op : Int} (h : ∀ j, j < 14 → (rowK j).o ≠ op) : findR op = none := by
  unfold findR
  rw [List.find?_eq_none]
  intro r hr
  obtain ⟨j, hj, rfl⟩ := List.mem_iff_getElem.1 hr
  have := h j (by simpa [tbl] using hj)
  unfold rowK at this
  rw [List.getD_eq_getElem?_getD, List.getElem?_eq_getElem hj] at this
  simpa using this
theorem set13 {B : Nat} {w w1 : World} {g : Nat} {t : TypeId} {xs : List Value} (h : Blk w g t xs) (hl : xs.length = 13) (hb : Below B w1 w) (hg : B ≤ g) (v0 v1 v2 v3 v4 v5 v6 v7 v8 v9 v10 v11 v12 : Value) : Blk ((((((((((((((w).setCell ⟨g, 0, none⟩ v0).setCell ⟨g, 1, none⟩ v1).setCell ⟨g, 2, none⟩ v2).setCell ⟨g, 3, none⟩ v3).setCell ⟨g, 4, none⟩ v4).setCell ⟨g, 5, none⟩ v5).setCell ⟨g, 6, none⟩ v6).setCell ⟨g, 7, none⟩ v7).setCell ⟨g, 8, none⟩ v8).setCell ⟨g, 9, none⟩ v9).setCell ⟨g, 10, none⟩ v10).setCell ⟨g, 11, none⟩ v11).setCell ⟨g, 12, none⟩ v12) g t [v0, v1, v2, v3, v4, v5, v6, v7, v8, v9, v10, v11, v12] ∧ Below B w1 ((((((((((((((w).setCell ⟨g, 0, none⟩ v0).setCell ⟨g, 1, none⟩ v1).setCell ⟨g, 2, none⟩ v2).setCell ⟨g, 3, none⟩ v3).setCell ⟨g, 4, none⟩ v4).setCell ⟨g, 5, none⟩ v5).setCell ⟨g, 6, none⟩ v6).setCell ⟨g, 7, none⟩ v7).setCell ⟨g, 8, none⟩ v8).setCell ⟨g, 9, none⟩ v9).setCell ⟨g, 10, none⟩ v10).setCell ⟨g, 11, none⟩ v11).setCell ⟨g, 12, none⟩ v12) := by
  match xs, hl with
  | [_, _, _, _, _, _, _, _, _, _, _, _, _], _ =>
    exact ⟨(((((((((((((h).set 0 v0).set 1 v1).set 2 v2).set 3 v3).set 4 v4).set 5 v5).set 6 v6).set 7 v7).set 8 v8).set 9 v9).set 10 v10).set 11 v11).set 12 v12, (((((((((((((hb).setCell hg v0).setCell hg v1).setCell hg v2).setCell hg v3).setCell hg v4).setCell hg v5).setCell hg v6).setCell hg v7).setCell hg v8).setCell hg v9).setCell hg v10).setCell hg v11).setCell hg v12⟩
end Go.Proofs.YteingnaojnbchaaDoor
