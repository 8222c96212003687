/- pdu: which operations there are. -/
import Derived.Test.YtnnbpfjdkhoidaaXWo5
import Derived.Laws.RangeString
namespace Go.Proofs.Ytnnbpfjdkhoidaa
open Go.RowKit
set_option linter.unusedVariables false
set_option linter.unusedSimpArgs false
set_option maxRecDepth 8000

def iterPos (g : Nat) (w : World) : Nat := match w.heap[g]? with
  | some (.stringIter _ p) => p
  | _ => 0
theorem iterPos_iter (w : World) (s : ByteArray) (p : Nat) : iterPos w.heap.size (w.iter s p) = p := by unfold iterPos; rw [World.iter_heap]
theorem iter_below (w : World) (s : ByteArray) (p : Nat) : Below w.heap.size w (w.iter s p) := (Below.refl _ _).alloc (Nat.le_refl _) _
def stB (s : ByteArray) (op : Int) : Bool := s.data.toList.any (fun c => decide ((c.toNat : Int) = op))
theorem exec_range17 {P : Program} {w w' : World} {a : Act} {o : Oper} {t : TypeId} {x : Operand} (ho : o.op = .range t x) {p u : Value} (hx : a.eval x = p) (h : (Instr.range t p).run P w = .ok u w') : (execOp a.eval o).run P w = .ok (.value u) w' := by
  simp [execOp, ho, hx, h]
theorem exec_next17 {P : Program} {w w' : World} {a : Act} {o : Oper} {x : Operand} {b : Bool} (ho : o.op = .next x b) {p u : Value} (hx : a.eval x = p) (h : (Instr.next p b o.type).run P w = .ok u w') : (execOp a.eval o).run P w = .ok (.value u) w' := by
  simp [execOp, ho, hx, h]
theorem wpList_value17 {P : Program} {w w' : World} {v : Value} {ops : Array Oper} {rest : List Oper} {o : Oper} {a : Act} {Q : Exit → Act → World → Prop} (hg : o.guard = none) (h : (execOp a.eval o).run P w = .ok (.value v) w')
    (next : wpList P ops Q rest (a.put o.dst v) w') : wpList P ops Q (o :: rest) a w := by
  refine wpList_plain hg fun K hK => ?_
  unfold Oper.wp
  rw [h]
  exact hK _ _ next
set_option maxHeartbeats 2000000 in
theorem pStands_any (s : ByteArray) (op : Int) (w : World) (hs : ∀ (i : Nat) (h : i < s.size), (s[i]'h).toNat < 128) :
    Calls Try.prog 48 #[.string s, .int .i64 op] w fun e w' => e = .returned (.bool (stB s op)) ∧ Below w.heap.size w w' := by
  have HS : Hid _ := hs
  have hr := run_range_string (P := Try.prog) w 9 s Try.underlying9
  clear hs
  go_enter Try.func48, Try.ntmps48
  go_wp2_with fail
  go_loopw [9] (fun _ wr => ∃ pos : Nat, pos ≤ s.size ∧ wr = w.iter s pos ∧ ∀ c ∈ s.data.toList.take pos, ¬ (c.toNat : Int) = op) (fun _ wr => s.size - iterPos w.heap.size wr)
  case atStart => exact ⟨0, by omega, rfl, by simp⟩
  case round =>
    obtain ⟨pos, hp, rfl, hno⟩ := hrel
    by_cases hlt : pos < s.size
    · have hn := run_next_ascii (P := Try.prog) w s pos 0 hlt (HS.out pos hlt)
      have hc : s.data.toList.take (pos + 1) = s.data.toList.take pos ++ [s[pos]'hlt] := by
        have h2 : pos < s.data.toList.length := by simpa using hlt
        rw [List.take_succ_eq_append_getElem h2]; rfl
      have hm : (s[pos]'hlt) ∈ s.data.toList := by
        have h2 : pos < s.data.toList.length := by simpa using hlt
        exact List.getElem_mem h2
      have h128 := HS.out pos hlt
      generalize s[pos]'hlt = c at *
      have HQ : Hid _ := And.intro hc (And.intro hm hno)
      have q1 : (c.toNat : Int) ≤ 128 := by omega
      clear hc hm hno h128 HS
      by_cases he : (c.toNat : Int) = op
      · have F : Hid _ := (show stB s op = true from List.any_eq_true.2 ⟨c, HQ.out.2.1, by simpa using he⟩)
        subst he
        clear HQ
        go_wp2
        go_ret
        exact ⟨ret_bool F.out.symm, iter_below _ _ _⟩
      · have F : Hid _ := (show ∀ x ∈ s.data.toList.take (pos + 1), ¬ (x.toNat : Int) = op from by
          rw [HQ.out.1]
          intro x hx
          rcases List.mem_append.1 hx with hx | hx
          · exact HQ.out.2.2 x hx
          · rw [List.mem_singleton.1 hx]; exact he)
        clear HQ
        go_wp2
        go_roundw
        case rel => exact ⟨pos + 1, by omega, rfl, F.out⟩
        case measure => rw [iterPos_iter, iterPos_iter]; omega
    · have hps : pos = s.size := by omega
      have F : Hid _ := (show stB s op = false from List.any_eq_false.2 (fun x hx => by
        have : s.data.toList.take pos = s.data.toList := List.take_of_length_le (by rw [hps]; exact Nat.le_refl _)
        rw [this] at hno
        simpa using hno x hx))
      have hn := run_next_end (P := Try.prog) w s pos 0 hlt
      clear hno hps hlt HS
      go_wp2
      go_ret
      exact ⟨ret_bool F.out.symm, iter_below _ _ _⟩
def ofIn : ByteArray := ⟨#[0, 1, 2, 3, 4, 5, 6, 16]⟩
def ofTo : ByteArray := ⟨#[32, 33, 34, 35, 36, 37, 38, 49, 50, 63]⟩
theorem ofIn_low : ∀ (i : Nat) (h : i < ofIn.size), (ofIn[i]'h).toNat < 128 := by
  intro i h
  have : ∀ i : Fin 8, (ofIn[i.val]'(i.isLt)).toNat < 128 := by decide
  exact this ⟨i, h⟩
theorem ofTo_low : ∀ (i : Nat) (h : i < ofTo.size), (ofTo[i]'h).toNat < 128 := by
  intro i h
  have : ∀ i : Fin 10, (ofTo[i.val]'(i.isLt)).toNat < 128 := by decide
  exact this ⟨i, h⟩
def inB (op : Int) : Bool := decide (0 ≤ op ∧ op ≤ 6 ∨ op = 16)
def toB (op : Int) : Bool := decide (32 ≤ op ∧ op ≤ 38 ∨ op = 49 ∨ op = 50 ∨ op = 63)
theorem ofIn_b (op : Int) : stB ofIn op = inB op := by
  unfold stB inB ofIn
  rw [Bool.eq_iff_iff]
  simp
  omega
theorem ofTo_b (op : Int) : stB ofTo op = toB op := by
  unfold stB toB ofTo
  rw [Bool.eq_iff_iff]
  simp
  omega
set_option maxHeartbeats 1000000 in
theorem pKnown_any (op : Int) (w : World) : Calls Try.prog 27 #[.int .i64 op] w fun e w' => e = .returned (.tuple #[.bool (inB op || toB op), .bool (inB op)]) ∧ Below w.heap.size w w' := by
  have H1 : Hid _ := pStands_any ofIn op w ofIn_low
  rw [ofIn_b] at H1
  have HT : Hid (∀ X, _) := fun X => pStands_any ofTo op X ofTo_low
  rw [ofTo_b] at HT
  unfold ofIn at H1
  unfold ofTo at HT
  generalize toB op = tb at *
  generalize inB op = ib at *
  go_enter Try.func27, Try.ntmps27
  go_wp2_with fail
  refine (Calls.mono H1.out) ?_
  rintro e w1 ⟨rfl, b1⟩
  have F1 : Hid _ := b1
  clear b1 H1
  cases ib
  · go_wp2_with fail
    refine (Calls.mono (HT.out _)) ?_
    rintro e w2 ⟨rfl, b2⟩
    have F2 : Hid _ := below_then F1.out b2
    clear b2 HT
    go_wp2
    go_ret2
    exact ⟨by simp, F2.out⟩
  · go_wp2
    go_ret2
    exact ⟨by simp, F1.out⟩
set_option maxHeartbeats 1000000 in
theorem rKnown_any (op : Int) (w : World) : Calls Try.prog 28 #[.int .i64 op] w fun e w' => e = .returned (.tuple #[.bool (inB op || toB op), .bool (inB op)]) ∧ w' = w := by
  have hall : (op < 0) ∨ (0 ≤ op ∧ op ≤ 6) ∨ (op = 16) ∨ (6 < op ∧ op < 32 ∧ op ≠ 16) ∨ (32 ≤ op ∧ op ≤ 38) ∨ (op = 49) ∨ (op = 50) ∨ (op = 63) ∨ (38 < op ∧ op ≠ 49 ∧ op ≠ 50 ∧ op ≠ 63) := by omega
  rcases hall with h | h | rfl | h | h | rfl | rfl | rfl | h
  · have i1 : inB op = false := decide_eq_false (by omega)
    have i2 : toB op = false := decide_eq_false (by omega)
    rw [i1, i2]
    have k0 : ¬ 0 ≤ op := by omega
    have k1 : op ≤ 6 := by omega
    have k2 : (op == 16) = false := by simpa using (show ¬ op = 16 by omega)
    have k3 : ¬ 32 ≤ op := by omega
    have k4 : op ≤ 38 := by omega
    have k5 : (op == 49) = false := by simpa using (show ¬ op = 49 by omega)
    have k6 : (op == 50) = false := by simpa using (show ¬ op = 50 by omega)
    have k7 : (op == 63) = false := by simpa using (show ¬ op = 63 by omega)
    clear h i1 i2
    go_enter Try.func28, Try.ntmps28
    go_wp2
    go_ret2
    exact ⟨by first | rfl | simp [k2, k5, k6, k7], rfl⟩
  · have i1 : inB op = true := decide_eq_true (by omega)
    have i2 : toB op = false := decide_eq_false (by omega)
    rw [i1, i2]
    have k0 : 0 ≤ op := by omega
    have k1 : op ≤ 6 := by omega
    have k2 : (op == 16) = false := by simpa using (show ¬ op = 16 by omega)
    have k3 : ¬ 32 ≤ op := by omega
    have k4 : op ≤ 38 := by omega
    have k5 : (op == 49) = false := by simpa using (show ¬ op = 49 by omega)
    have k6 : (op == 50) = false := by simpa using (show ¬ op = 50 by omega)
    have k7 : (op == 63) = false := by simpa using (show ¬ op = 63 by omega)
    clear h i1 i2
    go_enter Try.func28, Try.ntmps28
    go_wp2
    go_ret2
    exact ⟨by first | rfl | simp [k2, k5, k6, k7], rfl⟩
  · rw [show inB 16 = true from rfl, show toB 16 = false from rfl]
    go_enter Try.func28, Try.ntmps28
    go_wp2
    go_ret2
    exact ⟨rfl, rfl⟩
  · have i1 : inB op = false := decide_eq_false (by omega)
    have i2 : toB op = false := decide_eq_false (by omega)
    rw [i1, i2]
    have k0 : 0 ≤ op := by omega
    have k1 : ¬ op ≤ 6 := by omega
    have k2 : (op == 16) = false := by simpa using (show ¬ op = 16 by omega)
    have k3 : ¬ 32 ≤ op := by omega
    have k4 : op ≤ 38 := by omega
    have k5 : (op == 49) = false := by simpa using (show ¬ op = 49 by omega)
    have k6 : (op == 50) = false := by simpa using (show ¬ op = 50 by omega)
    have k7 : (op == 63) = false := by simpa using (show ¬ op = 63 by omega)
    clear h i1 i2
    go_enter Try.func28, Try.ntmps28
    go_wp2
    go_ret2
    exact ⟨by first | rfl | simp [k2, k5, k6, k7], rfl⟩
  · have i1 : inB op = false := decide_eq_false (by omega)
    have i2 : toB op = true := decide_eq_true (by omega)
    rw [i1, i2]
    have k0 : 0 ≤ op := by omega
    have k1 : ¬ op ≤ 6 := by omega
    have k2 : (op == 16) = false := by simpa using (show ¬ op = 16 by omega)
    have k3 : 32 ≤ op := by omega
    have k4 : op ≤ 38 := by omega
    have k5 : (op == 49) = false := by simpa using (show ¬ op = 49 by omega)
    have k6 : (op == 50) = false := by simpa using (show ¬ op = 50 by omega)
    have k7 : (op == 63) = false := by simpa using (show ¬ op = 63 by omega)
    clear h i1 i2
    go_enter Try.func28, Try.ntmps28
    go_wp2
    go_ret2
    exact ⟨by first | rfl | simp [k2, k5, k6, k7], rfl⟩
  · rw [show inB 49 = false from rfl, show toB 49 = true from rfl]
    go_enter Try.func28, Try.ntmps28
    go_wp2
    go_ret2
    exact ⟨rfl, rfl⟩
  · rw [show inB 50 = false from rfl, show toB 50 = true from rfl]
    go_enter Try.func28, Try.ntmps28
    go_wp2
    go_ret2
    exact ⟨rfl, rfl⟩
  · rw [show inB 63 = false from rfl, show toB 63 = true from rfl]
    go_enter Try.func28, Try.ntmps28
    go_wp2
    go_ret2
    exact ⟨rfl, rfl⟩
  · have i1 : inB op = false := decide_eq_false (by omega)
    have i2 : toB op = false := decide_eq_false (by omega)
    rw [i1, i2]
    have k0 : 0 ≤ op := by omega
    have k1 : ¬ op ≤ 6 := by omega
    have k2 : (op == 16) = false := by simpa using (show ¬ op = 16 by omega)
    have k3 : 32 ≤ op := by omega
    have k4 : ¬ op ≤ 38 := by omega
    have k5 : (op == 49) = false := by simpa using (show ¬ op = 49 by omega)
    have k6 : (op == 50) = false := by simpa using (show ¬ op = 50 by omega)
    have k7 : (op == 63) = false := by simpa using (show ¬ op = 63 by omega)
    clear h i1 i2
    go_enter Try.func28, Try.ntmps28
    go_wp2
    go_ret2
    exact ⟨by first | rfl | simp [k2, k5, k6, k7], rfl⟩
end Go.Proofs.Ytnnbpfjdkhoidaa

