/- A message in memory. -/
import Derived.Test.YtgjcgnmomdanaaaXEmE
import Derived.Test.YtgjcgnmomdanaaaXEmJ
import Derived.Test.YtgjcgnmomdanaaaXEm7
namespace Go.Proofs.Ytgjcgnmomdanaaa
open Go.RowKit Go.Shelf
set_option linter.unusedVariables false
set_option maxRecDepth 20000

structure MOk (W : World) (m : Mg) (ea : Option Addr) (ec : Nat) (da : Option Addr) (dc : Nat) : Prop where
  es : EArgs W ea m.es
  ek : m.es.length ≤ ec
  el : m.es.length ≤ 140737488355328
  row : Row W da m.dt
  dk : m.dt.length ≤ dc
  dl : m.dt.length ≤ 140737488351232
  dn : da = none → dc = 0
theorem MOk.later {W W' : World} {m : Mg} {ea : Option Addr} {ec : Nat} {da : Option Addr} {dc : Nat} (h : MOk W m ea ec da dc) (hb : Below W.heap.size W W') : MOk W' m ea ec da dc :=
  ⟨h.es.later hb, h.ek, h.el, h.row.later hb, h.dk, h.dl, h.dn⟩
theorem um_bd (l : List (BitVec 8)) (hl : l.length ≤ 140737488351232) : (umM l).es.length ≤ 4096 ∧ ∀ e ∈ (umM l).es, I64 e.1 ∧ I64 e.2.1 ∧ e.2.2.length ≤ 140737488351232 := by
  unfold umM
  split
  · exact ⟨rmM_es _, rmM_ok (umS l) _ (by show ((umA l).drop 1).length ≤ _; unfold umA; rw [List.length_drop, List.length_take]; omega)⟩
  · exact ⟨Nat.zero_le _, fun e he => by cases he⟩
theorem um_dt (l : List (BitVec 8)) : (umM l).dt.length ≤ l.length := by
  unfold umM
  split
  · have h1 : (rmM (umS l)).dt.length ≤ (rme (umS l)).1.length := (rdBytes_len _ _ _).2
    have h2 : (rme (umS l)).1.length ≤ (rcnt (umS l)).1.length := rents_len _ _
    have h3 := rcnt_len (umS l)
    have h4 : (umS l).1.length ≤ l.length := by show ((umA l).drop 1).length ≤ _; unfold umA; rw [List.length_drop, List.length_take]; omega
    omega
  · exact Nat.zero_le _
theorem um_open {l : List (BitVec 8)} {w w' : World} {e : Ending} (hl : l.length ≤ 140737488351232) (h : UmR l w e w') :
    ∃ ea ec da dc, e = .returned (.tuple #[.agg #[.int .i64 (umM l).kd, .int .i64 (umM l).fr, .int .i64 (umM l).too, .int .i64 (umM l).tm, .int .i64 (umM l).at_, .int .i64 (umM l).att, .int .i64 (umM l).cm, .int .i64 (umM l).rd, .bool (umM l).yes, .slice ea (umM l).es.length ec, .slice da (umM l).dt.length dc], .int .i64 (umE l)]) ∧ MOk w' (umM l) ea ec da dc ∧ Below w.heap.size w w' := by
  obtain ⟨ea, ec, da, dc, rfl, ⟨V, vs, ho, -⟩, od, hb⟩ := h
  have hbd := um_bd l hl
  have hdt := um_dt l
  obtain ⟨a', c', e1, h1, h2, hEA⟩ := ho.args hbd.2
  simp only [Value.slice.injEq] at e1
  obtain ⟨rfl, -, rfl⟩ := e1
  obtain ⟨a2, c2, e2, k1, -, k2, k3, -⟩ := od.open
  simp only [Value.slice.injEq] at e2
  obtain ⟨rfl, -, rfl⟩ := e2
  exact ⟨ea, ec, da, dc, rfl, ⟨hEA, h1, by omega, k2, k1, by omega, k3⟩, hb⟩
theorem wpList_wantedM {P : Program} {w w' : World} {ops : Array Oper} {rest : List Oper} {o : Oper} {a : Act} {Q : Exit → Act → World → Prop} {v : Value} (hw : Region.wanted o (yielded ops a.tmps) = true) (h : (execOp a.eval o).run P w = .ok (.value v) w') (k : wpList P ops Q rest (a.put o.dst v) w') : wpList P ops Q (o :: rest) a w :=
  wpList_step fun K hK => by
    rw [if_pos hw]
    unfold Oper.wp
    rw [h]
    exact hK _ _ k
theorem new_msg (w : World) (m : Mg) (ea : Option Addr) (ec : Nat) (da : Option Addr) (dc : Nat) : ∃ w', (Instr.storeAt 25 (.pointer (some ⟨w.heap.size, 0, none⟩)) (.agg #[.int .i64 m.kd, .int .i64 m.fr, .int .i64 m.too, .int .i64 m.tm, .int .i64 m.at_, .int .i64 m.att, .int .i64 m.cm, .int .i64 m.rd, .bool m.yes, .slice ea m.es.length ec, .slice da m.dt.length dc])).run Try.prog (w.alloc (.cells #[.int .i64 0, .int .i64 0, .int .i64 0, .int .i64 0, .int .i64 0, .int .i64 0, .int .i64 0, .int .i64 0, .bool false, .slice none 0 0, .slice none 0 0] 25)) = .ok () w' ∧ Blk w' w.heap.size 25 [.int .i64 m.kd, .int .i64 m.fr, .int .i64 m.too, .int .i64 m.tm, .int .i64 m.at_, .int .i64 m.att, .int .i64 m.cm, .int .i64 m.rd, .bool m.yes, .slice ea m.es.length ec, .slice da m.dt.length dc] ∧ Below w.heap.size w w' := by
  have B2 : Blk (w.alloc (.cells #[.int .i64 0, .int .i64 0, .int .i64 0, .int .i64 0, .int .i64 0, .int .i64 0, .int .i64 0, .int .i64 0, .bool false, .slice none 0 0, .slice none 0 0] 25)) w.heap.size 25 [.int .i64 0, .int .i64 0, .int .i64 0, .int .i64 0, .int .i64 0, .int .i64 0, .int .i64 0, .int .i64 0, .bool false, .slice none 0 0, .slice none 0 0] := Blk.new' w _ _
  have b2 := box11_below w #[.int .i64 0, .int .i64 0, .int .i64 0, .int .i64 0, .int .i64 0, .int .i64 0, .int .i64 0, .int .i64 0, .bool false, .slice none 0 0, .slice none 0 0] 25
  obtain ⟨w', h1, h2, h3⟩ := store_msg (vs := [.int .i64 m.kd, .int .i64 m.fr, .int .i64 m.too, .int .i64 m.tm, .int .i64 m.at_, .int .i64 m.att, .int .i64 m.cm, .int .i64 m.rd, .bool m.yes, .slice ea m.es.length ec, .slice da m.dt.length dc]) B2 rfl rfl (by intro u hu; simp only [List.mem_cons, List.not_mem_nil, or_false] at hu; rcases hu with rfl | rfl | rfl | rfl | rfl | rfl | rfl | rfl | rfl | rfl | rfl <;> rfl)
  exact ⟨w', h1, h2, b2.trans (grown_below h3 _ (Nat.le_refl _) b2.size)⟩
end Go.Proofs.Ytgjcgnmomdanaaa

