/- pdu: which operations there are. -/
import Derived.Test.YtfcaaljehhibgaaXWo5
import Derived.Laws.RangeString
namespace Go.Proofs.Ytfcaaljehhibgaa
open Go.RowKit
set_option linter.unusedVariables false
set_option linter.unusedSimpArgs false
set_option maxRecDepth 8000

def iterPos (g : Nat) (w : World) : Nat := match w.heap[g]? with
  | some (.stringIter _ p) => p
  | _ => 0
theorem iterPos_iter (w : World) (s : ByteArray) (p : Nat) : iterPos w.heap.size (w.iter s p) = p := by unfold iterPos; rw [World.iter_heap]
theorem iter_below (w : World) (s : ByteArray) (p : Nat) : Below w.heap.size w (w.iter s p) := (Below.refl _ _).alloc (Nat.le_refl _) _
def stB (s : ByteArray) (op : Int) : Bool := s.data.toList.any (fun c => decide ((c.toNat : Int) = op))
theorem exec_range17 {P : Program} {w w' : World} {a : Act} {o : Oper} {t : TypeId} {x : Operand} (ho : o.op = .range t x) {p u : Value} (hx : a.eval x = p) (h : (Instr.range t p).run P w = .ok u w') : (execOp a.eval o).run P w = .ok (.value u) w' := by
  simp [execOp, ho, hx, h]
theorem exec_next17 {P : Program} {w w' : World} {a : Act} {o : Oper} {x : Operand} {b : Bool} (ho : o.op = .next x b) {p u : Value} (hx : a.eval x = p) (h : (Instr.next p b o.type).run P w = .ok u w') : (execOp a.eval o).run P w = .ok (.value u) w' := by
  simp [execOp, ho, hx, h]
theorem wpList_value17 {P : Program} {w w' : World} {v : Value} {ops : Array Oper} {rest : List Oper} {o : Oper} {a : Act} {Q : Exit → Act → World → Prop} (hg : o.guard = none) (h : (execOp a.eval o).run P w = .ok (.value v) w')
    (next : wpList P ops Q rest (a.put o.dst v) w') : wpList P ops Q (o :: rest) a w := by
  refine wpList_plain hg fun K hK => ?_
  unfold Oper.wp
  rw [h]
  exact hK _ _ next

def ofIn : ByteArray := ⟨#[0, 1, 2, 3, 4, 5, 6, 16]⟩
def ofTo : ByteArray := ⟨#[32, 33, 34, 35, 36, 37, 38, 49, 50, 63]⟩
theorem ofIn_low : ∀ (i : Nat) (h : i < ofIn.size), (ofIn[i]'h).toNat < 128 := by
  intro i h
  have : ∀ i : Fin 8, (ofIn[i.val]'(i.isLt)).toNat < 128 := by decide
  exact this ⟨i, h⟩
theorem ofTo_low : ∀ (i : Nat) (h : i < ofTo.size), (ofTo[i]'h).toNat < 128 := by
  intro i h
  have : ∀ i : Fin 10, (ofTo[i.val]'(i.isLt)).toNat < 128 := by decide
  exact this ⟨i, h⟩
def inB (op : Int) : Bool := decide (0 ≤ op ∧ op ≤ 6 ∨ op = 16)
def toB (op : Int) : Bool := decide (32 ≤ op ∧ op ≤ 38 ∨ op = 49 ∨ op = 50 ∨ op = 63)
theorem ofIn_b (op : Int) : stB ofIn op = inB op := by
  unfold stB inB ofIn
  rw [Bool.eq_iff_iff]
  simp
  omega
theorem ofTo_b (op : Int) : stB ofTo op = toB op := by
  unfold stB toB ofTo
  rw [Bool.eq_iff_iff]
  simp
  omega


end Go.Proofs.Ytfcaaljehhibgaa

