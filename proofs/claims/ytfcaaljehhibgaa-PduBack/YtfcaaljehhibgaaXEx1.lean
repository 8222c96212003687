/- A unit's blocks in memory: the map, and the calls that read it. -/
import Derived.Test.YtfcaaljehhibgaaXMp
import Derived.Test.YtfcaaljehhibgaaXDkW1
import Derived.Laws.Rows
namespace Go.Proofs.Ytfcaaljehhibgaa
open Go.RowKit Go.MapKept Go.ChangeMaps
set_option linter.unusedVariables false
set_option maxRecDepth 4000

/-- an operation that yields a value -/
theorem wpList_value {P : Program} {w w' : World} {ops : Array Oper} {rest : List Oper} {o : Oper} {a : Act} {Q : Exit → Act → World → Prop} {v : Value} (hg : o.guard = none) (h : (execOp a.eval o).run P w = .ok (.value v) w') (k : wpList P ops Q rest (a.put o.dst v) w') : wpList P ops Q (o :: rest) a w := by
  refine wpList_plain hg fun K' hK' => ?_
  unfold Oper.wp
  rw [h]
  exact hK' _ _ k
/-- an operation that yields nothing -/
theorem wpList_skip {P : Program} {w w' : World} {ops : Array Oper} {rest : List Oper} {o : Oper} {a : Act} {Q : Exit → Act → World → Prop} (hg : o.guard = none) (h : (execOp a.eval o).run P w = .ok .skip w') (k : wpList P ops Q rest (a.put o.dst undef) w') : wpList P ops Q (o :: rest) a w := by
  refine wpList_plain hg fun K' hK' => ?_
  unfold Oper.wp
  rw [h]
  exact hK' _ _ k
section
variable {P : Program} {w w' : World} {a : Act} {o : Oper}
theorem exec_load {t : TypeId} {x : Operand} (ho : o.op = .load t x) {p u : Value} (hx : a.eval x = p) (h : (Instr.loadAt t p).run P w = .ok u w) : (execOp a.eval o).run P w = .ok (.value u) w := by
  simp [execOp, ho, hx, h, Result.andThen]
theorem exec_alloc {t : TypeId} (ho : o.op = .alloc t) {u : Value} (h : (Instr.alloc t true (.tuple #[])).run P w = .ok u w') : (execOp a.eval o).run P w = .ok (.value u) w' := by
  simp [execOp, ho, h, Result.andThen]
theorem exec_store {t : TypeId} {x y : Operand} (ho : o.op = .store t x y) {p u : Value} (hx : a.eval x = p) (hy : a.eval y = u) (h : (Instr.storeAt t p u).run P w = .ok () w') : (execOp a.eval o).run P w = .ok .skip w' := by
  simp [execOp, ho, hx, hy, h, Result.andThen]
theorem exec_mapUpdate {t : TypeId} {m x y : Operand} (ho : o.op = .mapUpdate t m x y) {q p u : Value} (hm : a.eval m = q) (hx : a.eval x = p) (hy : a.eval y = u) (h : (Instr.mapUpdate t q p u).run P w = .ok () w') : (execOp a.eval o).run P w = .ok .skip w' := by
  simp [execOp, ho, hm, hx, hy, h, Result.andThen]
end

/-- a block that is not there -/
def zero64 : List (BitVec 8) := List.replicate 64 0
theorem zero64_len : zero64.length = 64 := by decide
/-- a block as a value -/
def arrV (l : List (BitVec 8)) : Value := .agg (vals l).toArray





theorem und_int : Try.prog.underlying 3 = some (.int .i64) := by kernel_rfl


/-- the blocks of an image: how many, and which are there -/
structure Im where
  n : Nat
  f : Nat → Option (List (BitVec 8))
structure Im.Wf (m : Im) : Prop where
  one : 1 ≤ m.n
  most : m.n ≤ 256
  each : ∀ k l, m.f k = some l → k < m.n ∧ l.length = 64
def Im.M (m : Im) : Int → Option Value := fun i => if 0 ≤ i then (m.f i.toNat).map arrV else none
theorem Im.M_nat (m : Im) (i : Nat) : m.M i = (m.f i).map arrV := by simp [Im.M]
theorem Im.Wf.mrange {m : Im} (h : m.Wf) (k : Int) (v : Value) (hv : m.M k = some v) : 0 ≤ k ∧ k < m.n := by
  unfold Im.M at hv
  split at hv
  · rename_i h0
    obtain ⟨l, hl, _⟩ := Option.map_eq_some_iff.1 hv
    have := (h.each _ _ hl).1
    omega
  · cases hv
/-- how many are there -/
def Im.used (m : Im) : Nat := ((List.range m.n).filter (fun i : Nat => (m.f i).isSome)).length
theorem Im.used_le (m : Im) : m.used ≤ m.n := by
  unfold Im.used
  exact Nat.le_trans (List.length_filter_le _ _) (by simp)



theorem im_used {m : Im} {es : Array MapEntry} {clock : Nat} (h : MapIs es clock m.M) (hw : m.Wf) : es.size = m.used := by
  rw [h.size m.n hw.mrange]
  unfold Im.used
  simp [Im.M_nat]





/-- are these numbers of it? -/
def spansB (n : Nat) (a k : Int) : Bool := decide (0 ≤ k ∧ 0 ≤ a ∧ a ≤ n - k)

theorem setRow_new (w : World) (old cs : Array Value) (t : TypeId) : (w.alloc (.cells old t)).setRow w.heap.size cs = w.alloc (.cells cs t) := by
  unfold World.setRow World.alloc
  simp only [World.mk.injEq, and_true]
  apply Array.ext
  · simp
  · intro i h1 h2
    simp only [Array.getElem_modify, Array.getElem_push]
    split
    · rename_i hi; subst hi; simp
    · rename_i hi
      have : i < w.heap.size := by simp at h2; omega
      simp [this]

end Go.Proofs.Ytfcaaljehhibgaa

