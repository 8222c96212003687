/- cdb: find. -/
import Derived.Test.YteingnaojnbchaaDoorCd1
namespace Go.Proofs.YteingnaojnbchaaDoor
open Go.RowKit
set_option linter.unusedVariables false
set_option linter.unusedSimpArgs false
set_option maxRecDepth 4000

theorem rows_prev {op : Int} {k : Nat} (h : ∀ j, j < k → (rowK j).o ≠ op) (hk : (rowK k).o ≠ op) (j : Nat) (hj : j < k + 1) : (rowK j).o ≠ op := by
  rcases Nat.lt_or_ge j k with h1 | h1
  · exact h j h1
  · obtain rfl : j = k := by omega
    exact hk
theorem opw_load {P : Program} {w : World} {a : Act} {o : Oper} {K : Act → World → Prop} {Q : Exit → Act → World → Prop} {t : TypeId} {x : Operand} (ho : o.op = .load t x) {p u : Value} (hx : a.eval x = p) (h : (Instr.loadAt t p).run P w = .ok u w) (next : K (a.put o.dst u) w) : Oper.wp P o a w K Q := by
  have e : (execOp a.eval o).run P w = .ok (.value u) w := by simp [execOp, ho, hx, h, Result.andThen]
  unfold Oper.wp
  rw [e]
  exact next
set_option maxHeartbeats 2000000 in
theorem find_any (op : Int) (w : World) (hT : TblAt w) :
    Calls Tryd.prog 45 #[.int .i64 op] w fun e w' => e = .returned (.tuple #[.agg (((findR op).getD ⟨0, [(0, 0), (0, 0), (0, 0), (0, 0), (0, 0), (0, 0)]⟩).cells).toArray, .bool (findR op).isSome]) ∧ Below w.heap.size w w' := by
  have B0 := Blk.new' w 81 [.int .u8 0, .int .u8 0, .int .u8 0, .int .u8 0, .int .u8 0, .int .u8 0, .int .u8 0, .int .u8 0, .int .u8 0, .int .u8 0, .int .u8 0, .int .u8 0, .int .u8 0]
  have b0 : Below w.heap.size w (w.alloc (.cells #[.int .u8 0, .int .u8 0, .int .u8 0, .int .u8 0, .int .u8 0, .int .u8 0, .int .u8 0, .int .u8 0, .int .u8 0, .int .u8 0, .int .u8 0, .int .u8 0, .int .u8 0] 81)) := (Below.refl _ _).alloc (Nat.le_refl _) _
  obtain ⟨w1, hw1⟩ : ∃ w1, w1 = w.alloc (.cells #[.int .u8 0, .int .u8 0, .int .u8 0, .int .u8 0, .int .u8 0, .int .u8 0, .int .u8 0, .int .u8 0, .int .u8 0, .int .u8 0, .int .u8 0, .int .u8 0, .int .u8 0] 81) := ⟨_, rfl⟩
  rw [← hw1] at B0 b0
  have hld := load_tb (hT.later b0)
  have H0 : Hid _ := And.intro B0 b0
  clear B0 b0 hT
  go_enter Tryd.func45, Tryd.ntmps45
  go_upto_region 1 with fail
  rw [← hw1]
  clear hw1
  go_wp2_with fail
  refine opw_load rfl rfl hld ?_
  (try simp only [Act.put, List.setIfInBounds_toArray, List.set_cons_zero, List.set_cons_succ])
  clear hld
  go_wp2_with fail
  go_loopw [7] (fun iv wr => ∃ k : Nat, k ≤ 14 ∧ iv = .int .i64 k ∧ (∀ j, j < k → (rowK j).o ≠ op) ∧ Blk wr w.heap.size 81 [.int .u8 0, .int .u8 0, .int .u8 0, .int .u8 0, .int .u8 0, .int .u8 0, .int .u8 0, .int .u8 0, .int .u8 0, .int .u8 0, .int .u8 0, .int .u8 0, .int .u8 0] ∧ Below w.heap.size w wr) (fun iv _ => 14 - (intOf iv).toNat)
  case atStart => exact ⟨0, by omega, rfl, (fun j hj => by omega), H0.out.1, H0.out.2⟩
  case round =>
    clear H0
    obtain ⟨k, hk, rfl, hpr, hB, hb⟩ := hrel
    by_cases hlt : k < 14
    · have hix := ix_tb k hlt wr
      have JF : Hid (((rowK k).o = op → findR op = some (rowK k)) ∧ ((rowK k).o ≠ op → ∀ j, j < k + 1 → (rowK j).o ≠ op)) := ⟨find_yes hlt hpr, rows_prev hpr⟩
      obtain ⟨o, a0, b0, a1, b1, a2, b2, a3, b3, a4, b4, a5, b5, hob, hr⟩ := row_open k hlt
      rw [hr] at hix JF
      have JR : Hid _ := hr
      clear hr hpr
      rw [show (CR.cells ⟨o, [(a0, b0), (a1, b1), (a2, b2), (a3, b3), (a4, b4), (a5, b5)]⟩).toArray = #[.int .u8 o, .int .u8 a0, .int .u8 b0, .int .u8 a1, .int .u8 b1, .int .u8 a2, .int .u8 b2, .int .u8 a3, .int .u8 b3, .int .u8 a4, .int .u8 b4, .int .u8 a5, .int .u8 b5] from rfl] at hix
      have q1 : (k : Int) < 14 := by omega
      have B1 := Blk.new' wr 81 [.int .u8 o, .int .u8 a0, .int .u8 b0, .int .u8 a1, .int .u8 b1, .int .u8 a2, .int .u8 b2, .int .u8 a3, .int .u8 b3, .int .u8 a4, .int .u8 b4, .int .u8 a5, .int .u8 b5]
      have b1_ : Below wr.heap.size wr (wr.alloc (.cells #[.int .u8 o, .int .u8 a0, .int .u8 b0, .int .u8 a1, .int .u8 b1, .int .u8 a2, .int .u8 b2, .int .u8 a3, .int .u8 b3, .int .u8 a4, .int .u8 b4, .int .u8 a5, .int .u8 b5] 81)) := (Below.refl _ _).alloc (Nat.le_refl _) _
      obtain ⟨w2, hw2⟩ : ∃ w2, w2 = wr.alloc (.cells #[.int .u8 o, .int .u8 a0, .int .u8 b0, .int .u8 a1, .int .u8 b1, .int .u8 a2, .int .u8 b2, .int .u8 a3, .int .u8 b3, .int .u8 a4, .int .u8 b4, .int .u8 a5, .int .u8 b5] 81) := ⟨_, rfl⟩
      rw [← hw2] at B1 b1_
      have y0 := ck_at B1 0
      have y1 := ck_at B1 1
      have y2 := ck_at B1 2
      have y3 := ck_at B1 3
      have y4 := ck_at B1 4
      have y5 := ck_at B1 5
      have y6 := ck_at B1 6
      have y7 := ck_at B1 7
      have y8 := ck_at B1 8
      have y9 := ck_at B1 9
      have y10 := ck_at B1 10
      have y11 := ck_at B1 11
      have y12 := ck_at B1 12
      simp only [List.getElem?_cons_zero, List.getElem?_cons_succ] at y0 y1 y2 y3 y4 y5 y6 y7 y8 y9 y10 y11 y12
      have H2 : Hid _ := And.intro (hB.laterB b1_) (below_then hb b1_)
      clear hB hb B1 b1_
      have v9 : IntKind.i64.wrap o = o := by rw [IntKind.wrap_i64]; omega
      go_upto_region 4 with fail
      rw [← hw2]
      clear hw2 hix
      by_cases he : o = op
      · have d1 : (o == op) = true := by simpa using he
        have hF := JF.out.1 he
        have e1 : Hid (findR op = some ⟨o, [(a0, b0), (a1, b1), (a2, b2), (a3, b3), (a4, b4), (a5, b5)]⟩) := hF
        clear he hF
        have z0 := ck_at H2.out.1 0
        have z1 := ck_at H2.out.1 1
        have z2 := ck_at H2.out.1 2
        have z3 := ck_at H2.out.1 3
        have z4 := ck_at H2.out.1 4
        have z5 := ck_at H2.out.1 5
        have z6 := ck_at H2.out.1 6
        have z7 := ck_at H2.out.1 7
        have z8 := ck_at H2.out.1 8
        have z9 := ck_at H2.out.1 9
        have z10 := ck_at H2.out.1 10
        have z11 := ck_at H2.out.1 11
        have z12 := ck_at H2.out.1 12
        have f0 := ck_fz H2.out.1 0
        have f1 := ck_fz H2.out.1 1
        have f2 := ck_fz H2.out.1 2
        have f3 := ck_fz H2.out.1 3
        have f4 := ck_fz H2.out.1 4
        have f5 := ck_fz H2.out.1 5
        have f6 := ck_fz H2.out.1 6
        have f7 := ck_fz H2.out.1 7
        have f8 := ck_fz H2.out.1 8
        have f9 := ck_fz H2.out.1 9
        have f10 := ck_fz H2.out.1 10
        have f11 := ck_fz H2.out.1 11
        have f12 := ck_fz H2.out.1 12
        simp only [List.getElem?_cons_zero, List.getElem?_cons_succ] at z0 z1 z2 z3 z4 z5 z6 z7 z8 z9 z10 z11 z12
        have SP := set13 H2.out.1 rfl H2.out.2 (Nat.le_refl _) (.int .u8 o) (.int .u8 a0) (.int .u8 b0) (.int .u8 a1) (.int .u8 b1) (.int .u8 a2) (.int .u8 b2) (.int .u8 a3) (.int .u8 b3) (.int .u8 a4) (.int .u8 b4) (.int .u8 a5) (.int .u8 b5)
        have G : Hid _ := SP
        clear SP H2
        go_wp2
        clear y0 z0 f0 y1 z1 f1 y2 z2 f2 y3 z3 f3 y4 z4 f4 y5 z5 f5 y6 z6 f6 y7 z7 f7 y8 z8 f8 y9 z9 f9 y10 z10 f10 y11 z11 f11 y12 z12 f12
        generalize (((((((((((((w2).setCell ⟨w.heap.size, 0, none⟩ (.int .u8 o)).setCell ⟨w.heap.size, 1, none⟩ (.int .u8 a0)).setCell ⟨w.heap.size, 2, none⟩ (.int .u8 b0)).setCell ⟨w.heap.size, 3, none⟩ (.int .u8 a1)).setCell ⟨w.heap.size, 4, none⟩ (.int .u8 b1)).setCell ⟨w.heap.size, 5, none⟩ (.int .u8 a2)).setCell ⟨w.heap.size, 6, none⟩ (.int .u8 b2)).setCell ⟨w.heap.size, 7, none⟩ (.int .u8 a3)).setCell ⟨w.heap.size, 8, none⟩ (.int .u8 b3)).setCell ⟨w.heap.size, 9, none⟩ (.int .u8 a4)).setCell ⟨w.heap.size, 10, none⟩ (.int .u8 b4)).setCell ⟨w.heap.size, 11, none⟩ (.int .u8 a5)).setCell ⟨w.heap.size, 12, none⟩ (.int .u8 b5) = wf at *
        have r0 := ck_at G.out.1 0
        have r1 := ck_at G.out.1 1
        have r2 := ck_at G.out.1 2
        have r3 := ck_at G.out.1 3
        have r4 := ck_at G.out.1 4
        have r5 := ck_at G.out.1 5
        have r6 := ck_at G.out.1 6
        have r7 := ck_at G.out.1 7
        have r8 := ck_at G.out.1 8
        have r9 := ck_at G.out.1 9
        have r10 := ck_at G.out.1 10
        have r11 := ck_at G.out.1 11
        have r12 := ck_at G.out.1 12
        simp only [List.getElem?_cons_zero, List.getElem?_cons_succ] at r0 r1 r2 r3 r4 r5 r6 r7 r8 r9 r10 r11 r12
        refine bodyPost_ret (v := .tuple #[.agg #[.int .u8 o, .int .u8 a0, .int .u8 b0, .int .u8 a1, .int .u8 b1, .int .u8 a2, .int .u8 b2, .int .u8 a3, .int .u8 b3, .int .u8 a4, .int .u8 b4, .int .u8 a5, .int .u8 b5], .bool true]) (by simp [results, Tryd.results45, go_sem, r0, r1, r2, r3, r4, r5, r6, r7, r8, r9, r10, r11, r12]) rfl ?_
        exact ⟨by rw [e1.out]; rfl, G.out.2⟩
      · have d1 : (o == op) = false := by simpa using he
        have F : Hid _ := And.intro (JF.out.2 he) H2.out
        clear he H2 y1 y2 y3 y4 y5 y6 y7 y8 y9 y10 y11 y12
        go_wp2
        go_roundw
        case rel => exact ⟨k + 1, by omega, by go_num, F.out.1, F.out.2.1, F.out.2.2⟩
        case measure => simp [intOf]; omega
    · obtain rfl : k = 14 := by omega
      have e1 : Hid (findR op = none) := find_no hpr
      have z0 := ck_at hB 0
      have z1 := ck_at hB 1
      have z2 := ck_at hB 2
      have z3 := ck_at hB 3
      have z4 := ck_at hB 4
      have z5 := ck_at hB 5
      have z6 := ck_at hB 6
      have z7 := ck_at hB 7
      have z8 := ck_at hB 8
      have z9 := ck_at hB 9
      have z10 := ck_at hB 10
      have z11 := ck_at hB 11
      have z12 := ck_at hB 12
      have f0 := ck_fz hB 0
      have f1 := ck_fz hB 1
      have f2 := ck_fz hB 2
      have f3 := ck_fz hB 3
      have f4 := ck_fz hB 4
      have f5 := ck_fz hB 5
      have f6 := ck_fz hB 6
      have f7 := ck_fz hB 7
      have f8 := ck_fz hB 8
      have f9 := ck_fz hB 9
      have f10 := ck_fz hB 10
      have f11 := ck_fz hB 11
      have f12 := ck_fz hB 12
      simp only [List.getElem?_cons_zero, List.getElem?_cons_succ] at z0 z1 z2 z3 z4 z5 z6 z7 z8 z9 z10 z11 z12
      have SP := set13 hB rfl hb (Nat.le_refl _) (.int .u8 0) (.int .u8 0) (.int .u8 0) (.int .u8 0) (.int .u8 0) (.int .u8 0) (.int .u8 0) (.int .u8 0) (.int .u8 0) (.int .u8 0) (.int .u8 0) (.int .u8 0) (.int .u8 0)
      have G : Hid _ := SP
      clear SP hB hb hpr
      go_wp2
      clear z0 f0 z1 f1 z2 f2 z3 f3 z4 f4 z5 f5 z6 f6 z7 f7 z8 f8 z9 f9 z10 f10 z11 f11 z12 f12
      generalize (((((((((((((wr).setCell ⟨w.heap.size, 0, none⟩ (.int .u8 0)).setCell ⟨w.heap.size, 1, none⟩ (.int .u8 0)).setCell ⟨w.heap.size, 2, none⟩ (.int .u8 0)).setCell ⟨w.heap.size, 3, none⟩ (.int .u8 0)).setCell ⟨w.heap.size, 4, none⟩ (.int .u8 0)).setCell ⟨w.heap.size, 5, none⟩ (.int .u8 0)).setCell ⟨w.heap.size, 6, none⟩ (.int .u8 0)).setCell ⟨w.heap.size, 7, none⟩ (.int .u8 0)).setCell ⟨w.heap.size, 8, none⟩ (.int .u8 0)).setCell ⟨w.heap.size, 9, none⟩ (.int .u8 0)).setCell ⟨w.heap.size, 10, none⟩ (.int .u8 0)).setCell ⟨w.heap.size, 11, none⟩ (.int .u8 0)).setCell ⟨w.heap.size, 12, none⟩ (.int .u8 0) = wf at *
      have r0 := ck_at G.out.1 0
      have r1 := ck_at G.out.1 1
      have r2 := ck_at G.out.1 2
      have r3 := ck_at G.out.1 3
      have r4 := ck_at G.out.1 4
      have r5 := ck_at G.out.1 5
      have r6 := ck_at G.out.1 6
      have r7 := ck_at G.out.1 7
      have r8 := ck_at G.out.1 8
      have r9 := ck_at G.out.1 9
      have r10 := ck_at G.out.1 10
      have r11 := ck_at G.out.1 11
      have r12 := ck_at G.out.1 12
      simp only [List.getElem?_cons_zero, List.getElem?_cons_succ] at r0 r1 r2 r3 r4 r5 r6 r7 r8 r9 r10 r11 r12
      refine bodyPost_ret (v := .tuple #[.agg #[.int .u8 0, .int .u8 0, .int .u8 0, .int .u8 0, .int .u8 0, .int .u8 0, .int .u8 0, .int .u8 0, .int .u8 0, .int .u8 0, .int .u8 0, .int .u8 0, .int .u8 0], .bool false]) (by simp [results, Tryd.results45, go_sem, r0, r1, r2, r3, r4, r5, r6, r7, r8, r9, r10, r11, r12]) rfl ?_
      exact ⟨by rw [e1.out]; rfl, G.out.2⟩
end Go.Proofs.YteingnaojnbchaaDoor
