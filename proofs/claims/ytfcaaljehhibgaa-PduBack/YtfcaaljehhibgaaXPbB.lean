/- Letters in memory. -/
import Derived.Test.YtfcaaljehhibgaaXPdW
import Derived.Test.YtfcaaljehhibgaaXOpA
import Derived.Test.YtfcaaljehhibgaaXPdK
import Derived.Test.YtfcaaljehhibgaaXGs1
namespace Go.Proofs.Ytfcaaljehhibgaa
open Go.RowKit
set_option linter.unusedVariables false
set_option linter.unusedSimpArgs false
set_option maxRecDepth 8000

/-- a letter in memory: where its data lie -/
structure Lm7 where
  x : Lt7
  a : Option Addr
  c : Nat
def Lm7.cs (y : Lm7) : List Value := y.x.cs (.slice y.a y.x.d.length y.c)
def Lm7.v (y : Lm7) : Value := .agg y.cs.toArray
def Lm7.Ok (w : World) (y : Lm7) : Prop := DatOk w y.a y.x.d y.c
def kPd : Kd Lm7 := ⟨50, 58, 15, 104, .agg #[.int .i64 0, .bool false, .int .i64 0, .int .i64 0, .int .i64 0, .int .u64 0, .int .u32 0, .int .u32 0, .int .u32 0, .int .u32 0, .int .u32 0, .int .u32 0, .int .u32 0, .int .u32 0, .slice none 0 0], Lm7.cs⟩
theorem kPd_ok : kPd.Ok := ⟨by simp [kPd], fun x => rfl, fun x u hu => by
    simp [kPd, Lm7.cs, Lt7.cs] at hu
    rcases hu with rfl | rfl | rfl | rfl | rfl | rfl | rfl | rfl | rfl | rfl | rfl | rfl | rfl | rfl | rfl <;> rfl, Try.underlying58, by kernel_rfl, rfl, by simp [kPd]⟩
theorem new_one7 (w : World) (x : Lm7) : GAt kPd (w.alloc (.cells x.cs.toArray 50)) (.slice (some ⟨w.heap.size, 0, none⟩) 1 1) [x] := by
  refine ⟨_, 1, rfl, by simp, (fun h => by cases h), fun ad h j u hj => ?_⟩
  cases h
  rw [Addr.add_lit, blk_at (Blk.new' w 50 x.cs), Nat.zero_add]
  simpa [Kd.cs, kPd] using hj
theorem size_rp7 : (Try.prog.info? 50).map (·.size) = some 15 := by kernel_rfl
theorem agg_rp7 (w : World) : (isAgg 50).run Try.prog w = .ok true w := agg_of Try.underlying50 rfl w
/-- the cells of a letter stand at this place -/
def LAt (w : World) (b off : Nat) (y : Lm7) : Prop := ∀ j, j < 15 → w.cell? ⟨b, off + j, none⟩ = y.cs[j]?
theorem LAt.load {w : World} {b off : Nat} {y : Lm7} (h : LAt w b off y) : (Instr.loadAt 50 (.pointer (some ⟨b, off, none⟩))).run Try.prog w = .ok y.v w := by
  have h2 : (loadCells ⟨b, off, none⟩ y.cs.length).run Try.prog w = .ok y.cs.toArray w := run_loadCells_list (P := Try.prog) w ⟨b, off, none⟩ y.cs (fun j v hj => by
    have hadd : (⟨b, off, none⟩ : Addr).add j = ⟨b, off + j, none⟩ := by unfold Addr.add; split <;> simp_all
    have hjl : j < 15 := by
      rcases Nat.lt_or_ge j y.cs.length with h | h
      · exact h
      · rw [List.getElem?_eq_none h] at hj; cases hj
    rw [hadd, h j hjl, hj])
  have e : y.cs.length = 15 := rfl
  rw [e] at h2
  obtain ⟨i, hi, hz⟩ := Option.map_eq_some_iff.1 size_rp7
  simp [Instr.loadAt, Instr.sureAddr, loadVar, Sem.run_bind, agg_rp7 w, sizeOf, typeInfo, hi, hz, h2, Lm7.v]
theorem LAt.later {w w' : World} {b off : Nat} {y : Lm7} (h : LAt w b off y) (hb : Below w.heap.size w w') : LAt w' b off y := fun j hj => by
  have h1 := h j hj
  have hlt : b < w.heap.size := by
    unfold World.cell? at h1
    by_cases e : b < w.heap.size
    · exact e
    · have e2 : w.heap[b]? = none := Array.getElem?_eq_none (by omega)
      have e4 : y.cs.length = 15 := rfl
      simp [e2] at h1
      omega
  rw [← h1]
  unfold World.cell?
  simp only [hb.block b hlt]
theorem Pdu17At.open {w : World} {b off i : Nat} (h : Pdu17At w b off i) : ∃ y : Lm7, LAt w b (off + i * 15) y ∧ y.Ok w := by
  obtain ⟨z0, z1, z2, z3, z4, z5, z6, z70, z71, z72, z73, z74, z75, z76, z8, z8x, z8c, e0, e1, e2, e3, e4, e5, e6, e7, e8, e9, e10, e11, e12, e13, e14, -, -, -, -, hd⟩ := h
  refine ⟨⟨⟨z0, z1, z2, z3, z4, z5, z6, z70, z71, z72, z73, z74, z75, z76, z8⟩, z8x, z8c⟩, fun j hj => ?_, hd⟩
  match j, hj with
  | 0, _ => exact e0
  | 1, _ => exact e1
  | 2, _ => exact e2
  | 3, _ => exact e3
  | 4, _ => exact e4
  | 5, _ => exact e5
  | 6, _ => exact e6
  | 7, _ => exact e7
  | 8, _ => exact e8
  | 9, _ => exact e9
  | 10, _ => exact e10
  | 11, _ => exact e11
  | 12, _ => exact e12
  | 13, _ => exact e13
  | 14, _ => exact e14
theorem gsl_at7 {w : World} {v : Value} {q : Option Nat} {l : List Lm7} (h : GSl kPd w v q l) (i : Nat) (hi : i < l.length) : ∃ b off c, v = .slice (some ⟨b, off, none⟩) l.length c ∧ q = some b ∧ LAt w b (off + i * 15) l[i] := by
  obtain ⟨a, c, rfl, -, -, h2⟩ := h.cell kPd_ok
  obtain ⟨b, off, rfl, rfl, h3⟩ := h2 i hi
  refine ⟨b, off, c, rfl, rfl, fun j hj => ?_⟩
  rw [Nat.add_assoc]
  exact h3 j hj
theorem bv32 (t : BitVec 32) : 0 ≤ (t.toNat : Int) ∧ (t.toNat : Int) < 4294967296 := by have := t.isLt; omega
theorem Lt7.ws (x : Lt7) : ∀ t ∈ [(x.tk.toNat : Int), (x.w0.toNat : Int), (x.w1.toNat : Int), (x.w2.toNat : Int), (x.w3.toNat : Int), (x.w4.toNat : Int), (x.w5.toNat : Int), (x.w6.toNat : Int)], 0 ≤ t ∧ t < 4294967296 := by
  intro t ht
  simp only [List.mem_cons, List.not_mem_nil, or_false] at ht
  rcases ht with rfl | rfl | rfl | rfl | rfl | rfl | rfl | rfl <;> exact bv32 _
def optV (hs ds : Bool) (mo : Int) : Value := .agg #[.bool hs, .bool ds, .int .i64 mo]
theorem given7 (y : Lm7) (w : World) (h : y.Ok w) : Calls Try.prog 22 #[y.v] w fun e w' => ∃ zx zc, e = .returned (⟨y.x, zx, zc⟩ : Lm7).v ∧ Own w' w.heap.size (.slice zx y.x.d.length zc) y.x.d ∧ Below w.heap.size w w' :=
  pgiven_any y.x.op y.x.fl y.x.b2 y.x.b3 y.x.lun.toNat y.x.tk.toNat y.x.w0.toNat y.x.w1.toNat y.x.w2.toNat y.x.w3.toNat y.x.w4.toNat y.x.w5.toNat y.x.w6.toNat y.x.now y.a y.x.d.length y.c y.x.d w rfl h.le h.nil h.most h.row
theorem put7 (y : Lm7) (hs ds : Bool) (mo : Int) (w : World) (h : y.Ok w) : Calls Try.prog 21 #[y.v, optV hs ds mo] w fun e w' => ∃ z, e = .returned (.tuple #[z, .int .i64 (y.x.err mo)]) ∧ Own w' w.heap.size z (if y.x.err mo = 0 then y.x.enc hs ds else []) ∧ Below w.heap.size w w' :=
  pPut_any y.x.op y.x.fl y.x.b2 y.x.b3 y.x.lun.toNat y.x.tk.toNat y.x.w0.toNat y.x.w1.toNat y.x.w2.toNat y.x.w3.toNat y.x.w4.toNat y.x.w5.toNat y.x.w6.toNat y.x.now y.a y.x.d.length y.c hs ds mo y.x.d w y.x.ws rfl h.le h.nil h.row
theorem taken7 (y : Lm7) (w : World) : Calls Try.prog 17 #[y.v] w fun e w' => e = .returned y.v ∧ Below w.heap.size w w' :=
  ptaken_any y.x.op y.x.fl y.x.b2 y.x.b3 y.x.lun.toNat y.x.tk.toNat y.x.w0.toNat y.x.w1.toNat y.x.w2.toNat y.x.w3.toNat y.x.w4.toNat y.x.w5.toNat y.x.w6.toNat y.x.now y.a y.x.d.length y.c w
theorem size_o7 : (Try.prog.info? 23).map (·.size) = some 3 := by kernel_rfl
theorem agg_o7 (w : World) : (isAgg 23).run Try.prog w = .ok true w := agg_of Try.underlying23 rfl w
theorem load_o7 {hs ds : Bool} {mo : Int} {w : World} {ob : Nat} (h : Blk w ob 23 [.bool hs, .bool ds, .int .i64 mo]) : (Instr.loadAt 23 (.pointer (some ⟨ob, 0, none⟩))).run Try.prog w = .ok (optV hs ds mo) w := load_all size_o7 agg_o7 h
/-- a slice of one letter is built -/
theorem build7 (y : Lm7) (a : Act) (o : Oper) (t : Operand) (ho : o.op = .buildSlice 58 1 #[(0, t)]) (h0 : a.eval t = y.v) (w : World) : (execOp a.eval o).run Try.prog w = .ok (.value (.slice (some ⟨w.heap.size, 0, none⟩) 1 1)) (w.alloc (.cells y.cs.toArray 50)) := by
  have e : (Instr.buildSlice 58 1 #[(0, y.v)]).run Try.prog w = .ok (.slice (some ⟨w.heap.size, 0, none⟩) 1 1) (w.alloc (.cells y.cs.toArray 50)) := by
    kernel_rfl
  unfold execOp
  rw [ho]
  simp only [List.map_toArray, List.map_cons, List.map_nil, h0]
  simp [Sem.run_bind, e]
theorem opts7 (hs ds : Bool) (mo : Int) (w : World) : Calls Try.prog 6 #[optV hs ds mo] w fun e w' => e = .returned (optV hs ds mo) ∧ Below w.heap.size w w' := popts_any hs ds mo w
end Go.Proofs.Ytfcaaljehhibgaa

