/- sense: the serial number, a page's bytes. -/
import Derived.Test.YtncplnejoppekaaDoorSe4
import Derived.Test.YtncplnejoppekaaDoorSiT
import Derived.Lib.AppendStr
namespace Go.Proofs.YtncplnejoppekaaDoor
open Go.RowKit
set_option linter.unusedVariables false
set_option linter.unusedSimpArgs false
set_option maxRecDepth 8000

def bvs16 (l : List UInt8) : List (BitVec 8) := l.map (fun c => BitVec.ofNat 8 c.toNat)
theorem bvs16_len (l : List UInt8) : (bvs16 l).length = l.length := by simp [bvs16]
theorem strC_bvs16 (s : ByteArray) : Lib.strCells s = vals (bvs16 s.data.toList) := by
  unfold Lib.strCells vals bvs16
  rw [List.map_map]
  refine List.map_congr_left (fun c _ => ?_)
  simp only [Function.comp, BitVec.toNat_ofNat]
  rw [Nat.mod_eq_of_lt c.toNat_lt]
/-- append(v, s...) of a string, where v is the call's own -/
theorem run_app_str16 (w : World) (base : Nat) (v : Value) (l : List (BitVec 8)) (hown : Own w base v l) (s : ByteArray) (hmax : l.length + s.size ≤ 140737488355328) (hbase : base ≤ w.heap.size) (ty : TypeId) :
    ∃ v' w', (Builtin.append_ #[22, 9] ty #[v, .string s]).run Tryd.prog w = .ok v' w' ∧ Own w' base v' (l ++ bvs16 s.data.toList) ∧ w.grownBy w' v.ownBlock := by
  obtain ⟨i0, hi, hz0, hz1, hz2⟩ := info_parts info_u8
  obtain ⟨v', w', hr, ho, hg, -⟩ := Lib.run_append_own_string (P := Tryd.prog) w base 22 9 ty 5 i0 Tryd.underlying22 Tryd.underlying9 hi hz0 hz1 hz2 v l.length (vals l) hown s (by unfold maxLen; omega) hmax hbase
  refine ⟨v', w', hr, ?_, hg⟩
  unfold Own
  rw [vals_append, List.length_append, bvs16_len, show s.data.toList.length = s.size by simp, ← strC_bvs16]
  exact ho
theorem own_blw16 {w w' : World} {base : Nat} {v : Value} {l : List (BitVec 8)} (h : Own w base v l) (hb : base ≤ w.heap.size) {b : World} (hB : Below base b w) (hg : w.grownBy w' v.ownBlock) : Below base b w' := by
  obtain ⟨a, cap, rfl, -, -, -, -, hx⟩ := h.open
  refine hB.grown hg hb (fun k hk => ?_)
  cases a with
  | none => simp [Value.ownBlock] at hk
  | some x =>
    obtain ⟨g, rfl, hge⟩ := hx x rfl
    have : g = k := by simpa [Value.ownBlock] using hk
    omega
theorem step_value16 {P : Program} {o : Oper} {a : Act} {w w' : World} {v : Value} {K : Act → World → Prop} {Q : Exit → Act → World → Prop} {E : Prop} {b : Bool} (hb : b = true) (h : (execOp a.eval o).run P w = .ok (.value v) w') (next : K (a.put o.dst v) w') : if b = true then Oper.wp P o a w K Q else E := by
  rw [if_pos hb]
  unfold Oper.wp
  rw [h]
  exact next
theorem exec_app16 {o : Oper} {a : Act} {w w' : World} {v' : Value} (s x : Operand) (t1 t2 : TypeId) (ho : o.op = .call { callee := .builtin .append, args := #[s, x], argTypes := #[t1, t2] }) (vs vx : Value) (hs : a.eval s = vs) (hx : a.eval x = vx) (hr : (Builtin.append_ #[t1, t2] o.type #[vs, vx]).run Tryd.prog w = .ok v' w') :
    (execOp a.eval o).run Tryd.prog w = .ok (.value v') w' := by
  unfold execOp
  simp only [ho, resolve, invoke, builtin, Sem.run_bind, Sem.run_pure, Result.andThen_ok, List.map_toArray, List.map_cons, List.map_nil, hs, hx, hr]
theorem wpList_value16 {P : Program} {w w' : World} {ops : Array Oper} {rest : List Oper} {o : Oper} {a : Act} {Q : Exit → Act → World → Prop} {v : Value} (hg : o.guard = none) (h : (execOp a.eval o).run P w = .ok (.value v) w') (k : wpList P ops Q rest (a.put o.dst v) w') : wpList P ops Q (o :: rest) a w := by
  refine wpList_plain hg fun K' hK' => ?_
  unfold Oper.wp
  rw [h]
  exact hK' _ _ k
theorem exec_slice16 {P : Program} {w : World} {a : Act} {o : Oper} {t : TypeId} {x : Operand} {lo hi : Option Operand} (ho : o.op = .slice t x lo hi none) {p u : Value} (hx : a.eval x = p) (h : (Instr.sliceAt t p (lo.map a.eval) (hi.map a.eval) none).run P w = .ok u w) : (execOp a.eval o).run P w = .ok (.value u) w := by
  unfold execOp
  simp only [ho, hx]
  cases lo <;> cases hi <;> simp_all [go_sem]
theorem exec_add16 {w : World} {a : Act} {o : Oper} {x y : Operand} {T2 : TypeId} (ho : o.op = .binOp .add 9 x y T2) {s t r : ByteArray} (hx : a.eval x = .string s) (hy : a.eval y = .string t) (hz : s.size + t.size ≤ 9223372036854775807) (h : s ++ t = r) : (execOp a.eval o).run Tryd.prog w = .ok (.value (.string r)) w := by
  have hb : (binOp .add 9 (.string s) (.string t)).run Tryd.prog w = .ok (.string r) w := by
    rw [← h]
    simp [binOp, Op.stringOp, go_sem, Tryd.underlying9]; omega
  have hg : ∀ x y, (eqGuard .add 9 x y (.string s) (.string t)).run Tryd.prog w = .ok () w := fun x y => by
    simp [eqGuard, go_sem, Tryd.underlying9]
  unfold execOp
  simp only [ho, hx, hy, Sem.run_bind, hg, hb, Result.andThen_ok, Sem.run_pure]
theorem cat16 (x y : Array UInt8) : (⟨x⟩ : ByteArray) ++ ⟨y⟩ = ⟨x ++ y⟩ := by first | rfl | exact ByteArray.ext (by simp [ByteArray.data_append]) | exact ByteArray.ext (ByteArray.data_append)
theorem below_grow16 (w : World) (k : Nat) (os : Array Obj) : Below w.heap.size w (Go.Sort.grow (w.drewN k) os) :=
  ⟨rfl, rfl, rfl, by simp [Go.Sort.grow, World.drewN], fun j hj => by simp [Go.Sort.grow, World.drewN, Array.getElem?_append, hj]⟩
/-- a unit's serial number -/
def serL (n : Nat) : List UInt8 := [99, 97, 105, 115, 115, 111, 110, 45, UInt8.ofNat (48 + n / 100), UInt8.ofNat (48 + n / 10 % 10), UInt8.ofNat (48 + n % 10)]
def serS (n : Nat) : ByteArray := ⟨(serL n).toArray⟩
theorem itoa_1000 : ∀ k : Fin 256, Lib.itoa (1000 + (k.val : Int)) = [49, UInt8.ofNat (48 + k.val / 100), UInt8.ofNat (48 + k.val / 10 % 10), UInt8.ofNat (48 + k.val % 10)] := by decide +kernel
theorem slice_one16 (a b c d : UInt8) (w : World) : (Instr.sliceAt 9 (.string ⟨([a, b, c, d] : List UInt8).toArray⟩) (some (.int .i64 1)) none none).run Tryd.prog w = .ok (.string ⟨([b, c, d] : List UInt8).toArray⟩) w := by
  rw [run_sliceAt_string w _ _ _ _ _ Tryd.underlying9, run_slice_string_l w _ _ Tryd.underlying9 .i64 (1 : Int) (by omega) (by simp [ByteArray.size])]
  rfl
set_option maxHeartbeats 2000000 in
theorem tSerial_any (n : Nat) (hn : n ≤ 255) (w : World) (hP : PowS w) : Calls Tryd.prog 14 #[.int .i64 (n : Int)] w fun e w' => e = .returned (.string (serS n)) ∧ Below w.heap.size w w' := by
  have hi := itoa_1000 ⟨n, by omega⟩
  simp only at hi
  have HC0 := Tryd.strconv_Itoa (1000 + (n : Int)) (by omega) (by omega) w hP
  rw [hi] at HC0
  have HC : Hid _ := HC0
  have w5 : IntKind.i64.wrap (1000 + (n : Int)) = 1000 + (n : Int) := by rw [IntKind.wrap_i64]; omega
  have hs : serS n = ⟨([99, 97, 105, 115, 115, 111, 110, 45, UInt8.ofNat (48 + n / 100), UInt8.ofNat (48 + n / 10 % 10), UInt8.ofNat (48 + n % 10)] : List UInt8).toArray⟩ := rfl
  rw [hs]
  clear hs HC0 hi
  generalize UInt8.ofNat (48 + n / 100) = d2 at *
  generalize UInt8.ofNat (48 + n / 10 % 10) = d1 at *
  generalize UInt8.ofNat (48 + n % 10) = d0 at *
  have S1 : Hid (∀ W, _) := fun W => slice_one16 49 d2 d1 d0 W
  go_enter Tryd.func14, Tryd.ntmps14
  go_wp2_with fail
  refine (Calls.mono HC.out) ?_
  rintro e w1 ⟨rfl, k, os, rfl⟩
  clear HC
  have F : Hid _ := below_grow16 w k os
  have hcat : (⟨([99, 97, 105, 115, 115, 111, 110, 45] : List UInt8).toArray⟩ : ByteArray) ++ ⟨([d2, d1, d0] : List UInt8).toArray⟩ = ⟨([99, 97, 105, 115, 115, 111, 110, 45, d2, d1, d0] : List UInt8).toArray⟩ := (cat16 _ _).trans rfl
  go_wp2_with (first | (refine wpList_value16 rfl (exec_slice16 rfl rfl (S1.out _)) ?_) | (refine wpList_value16 rfl (exec_add16 rfl rfl rfl (by simp [ByteArray.size]) hcat) ?_))
  clear hcat S1
  go_ret
  exact ⟨rfl, F.out⟩
end Go.Proofs.YtncplnejoppekaaDoor
