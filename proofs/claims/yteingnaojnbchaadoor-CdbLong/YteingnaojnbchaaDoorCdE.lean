/- cdb: given and taken; what is parsed from other bytes is another command. -/
import Derived.Test.YteingnaojnbchaaDoorCdD
namespace Go.Proofs.YteingnaojnbchaaDoor
open Go.RowKit
set_option linter.unusedVariables false
set_option linter.unusedSimpArgs false
set_option maxRecDepth 4000

set_option maxHeartbeats 1000000 in
theorem given15_any (c0 c1 c2 : Int) (c3 : Bool) (c4 c5 c6 : Int) (w : World) :
    Calls Tryd.prog 21 #[.agg #[.int .i64 c0, .int .i64 c1, .int .i64 c2, .bool c3, .int .i64 c4, .int .u64 c5, .int .i64 c6]] w fun e w' => e = .returned (.agg #[.int .i64 c0, .int .i64 c1, .int .i64 c2, .bool c3, .int .i64 c4, .int .u64 c5, .int .i64 c6]) ∧ Below w.heap.size w w' := by
  have B0 := Blk.new' w 42 [.int .i64 c0, .int .i64 c1, .int .i64 c2, .bool c3, .int .i64 c4, .int .u64 c5, .int .i64 c6]
  have b0_ : Below w.heap.size w (w.alloc (.cells #[.int .i64 c0, .int .i64 c1, .int .i64 c2, .bool c3, .int .i64 c4, .int .u64 c5, .int .i64 c6] 42)) := (Below.refl _ _).alloc (Nat.le_refl _) _
  obtain ⟨w0, hw0⟩ : ∃ w0, w0 = w.alloc (.cells #[.int .i64 c0, .int .i64 c1, .int .i64 c2, .bool c3, .int .i64 c4, .int .u64 c5, .int .i64 c6] 42) := ⟨_, rfl⟩
  have z0 : w0.heap.size = w.heap.size + 1 := by rw [hw0]; simp
  rw [← hw0] at B0 b0_
  have B1 := Blk.new' w0 35 [.int .i64 0, .int .i64 0, .int .i64 0, .bool false, .int .i64 0, .int .u64 0, .int .i64 0]
  have b1_ : Below w0.heap.size w0 (w0.alloc (.cells #[.int .i64 0, .int .i64 0, .int .i64 0, .bool false, .int .i64 0, .int .u64 0, .int .i64 0] 35)) := (Below.refl _ _).alloc (Nat.le_refl _) _
  obtain ⟨w1, hw1⟩ : ∃ w1, w1 = w0.alloc (.cells #[.int .i64 0, .int .i64 0, .int .i64 0, .bool false, .int .i64 0, .int .u64 0, .int .i64 0] 35) := ⟨_, rfl⟩
  rw [← hw1] at B1 b1_
  rw [z0] at B1
  have b2_ : Below w.heap.size w w1 := below_then b0_ b1_
  have B0' := B0.laterB b1_
  have x0 := ck_at B0' 0
  have x1 := ck_at B0' 1
  have x2 := ck_at B0' 2
  have x3 := ck_at B0' 3
  have x4 := ck_at B0' 4
  have x5 := ck_at B0' 5
  have x6 := ck_at B0' 6
  have z0' := ck_at B1 0
  have z1' := ck_at B1 1
  have z2' := ck_at B1 2
  have z3' := ck_at B1 3
  have z4' := ck_at B1 4
  have z5' := ck_at B1 5
  have z6' := ck_at B1 6
  have f0 := ck_fz B1 0
  have f1 := ck_fz B1 1
  have f2 := ck_fz B1 2
  have f3 := ck_fz B1 3
  have f4 := ck_fz B1 4
  have f5 := ck_fz B1 5
  have f6 := ck_fz B1 6
  simp only [List.getElem?_cons_zero, List.getElem?_cons_succ] at x0 z0' x1 z1' x2 z2' x3 z3' x4 z4' x5 z5' x6 z6'
  have R1 := (((((((B1).set 0 (.int .i64 c0)).set 1 (.int .i64 c1)).set 2 (.int .i64 c2)).set 3 (.bool c3)).set 4 (.int .i64 c4)).set 5 (.int .u64 c5)).set 6 (.int .i64 c6)
  simp only [List.set_cons_zero, List.set_cons_succ] at R1
  have R2 := (((((((b2_).setCell (p := ⟨w.heap.size + 1, 0, none⟩) (show w.heap.size ≤ w.heap.size + 1 by omega) (.int .i64 c0)).setCell (p := ⟨w.heap.size + 1, 1, none⟩) (show w.heap.size ≤ w.heap.size + 1 by omega) (.int .i64 c1)).setCell (p := ⟨w.heap.size + 1, 2, none⟩) (show w.heap.size ≤ w.heap.size + 1 by omega) (.int .i64 c2)).setCell (p := ⟨w.heap.size + 1, 3, none⟩) (show w.heap.size ≤ w.heap.size + 1 by omega) (.bool c3)).setCell (p := ⟨w.heap.size + 1, 4, none⟩) (show w.heap.size ≤ w.heap.size + 1 by omega) (.int .i64 c4)).setCell (p := ⟨w.heap.size + 1, 5, none⟩) (show w.heap.size ≤ w.heap.size + 1 by omega) (.int .u64 c5)).setCell (p := ⟨w.heap.size + 1, 6, none⟩) (show w.heap.size ≤ w.heap.size + 1 by omega) (.int .i64 c6)
  have G : Hid _ := And.intro R1 R2
  clear R1 R2 B0 b0_ B1 b1_ b2_ z0 B0'
  go_enter Tryd.func21, Tryd.ntmps21
  go_upto_region 1 with fail
  rw [← hw0, ← hw1]
  clear hw0 hw1
  go_wp2
  clear x0 z0' f0 x1 z1' f1 x2 z2' f2 x3 z3' f3 x4 z4' f4 x5 z5' f5 x6 z6' f6
  generalize (((((((w1).setCell ⟨w.heap.size + 1, 0, none⟩ (.int .i64 c0)).setCell ⟨w.heap.size + 1, 1, none⟩ (.int .i64 c1)).setCell ⟨w.heap.size + 1, 2, none⟩ (.int .i64 c2)).setCell ⟨w.heap.size + 1, 3, none⟩ (.bool c3)).setCell ⟨w.heap.size + 1, 4, none⟩ (.int .i64 c4)).setCell ⟨w.heap.size + 1, 5, none⟩ (.int .u64 c5)).setCell ⟨w.heap.size + 1, 6, none⟩ (.int .i64 c6) = wf at *
  have r0 := ck_at G.out.1 0
  have r1 := ck_at G.out.1 1
  have r2 := ck_at G.out.1 2
  have r3 := ck_at G.out.1 3
  have r4 := ck_at G.out.1 4
  have r5 := ck_at G.out.1 5
  have r6 := ck_at G.out.1 6
  simp only [List.getElem?_cons_zero, List.getElem?_cons_succ] at r0 r1 r2 r3 r4 r5 r6
  refine bodyPost_ret (v := .agg #[.int .i64 c0, .int .i64 c1, .int .i64 c2, .bool c3, .int .i64 c4, .int .u64 c5, .int .i64 c6]) (by simp [results, Tryd.results21, go_sem, r0, r1, r2, r3, r4, r5, r6]) rfl ?_
  exact ⟨rfl, G.out.2⟩
set_option maxHeartbeats 1000000 in
theorem taken15_any (c0 c1 c2 : Int) (c3 : Bool) (c4 c5 c6 : Int) (w : World) :
    Calls Tryd.prog 23 #[.agg #[.int .i64 c0, .int .i64 c1, .int .i64 c2, .bool c3, .int .i64 c4, .int .u64 c5, .int .i64 c6]] w fun e w' => e = .returned (.agg #[.int .i64 c0, .int .i64 c1, .int .i64 c2, .bool c3, .int .i64 c4, .int .u64 c5, .int .i64 c6]) ∧ Below w.heap.size w w' := by
  have B0 := Blk.new' w 35 [.int .i64 c0, .int .i64 c1, .int .i64 c2, .bool c3, .int .i64 c4, .int .u64 c5, .int .i64 c6]
  have b0_ : Below w.heap.size w (w.alloc (.cells #[.int .i64 c0, .int .i64 c1, .int .i64 c2, .bool c3, .int .i64 c4, .int .u64 c5, .int .i64 c6] 35)) := (Below.refl _ _).alloc (Nat.le_refl _) _
  obtain ⟨w0, hw0⟩ : ∃ w0, w0 = w.alloc (.cells #[.int .i64 c0, .int .i64 c1, .int .i64 c2, .bool c3, .int .i64 c4, .int .u64 c5, .int .i64 c6] 35) := ⟨_, rfl⟩
  have z0 : w0.heap.size = w.heap.size + 1 := by rw [hw0]; simp
  rw [← hw0] at B0 b0_
  have B1 := Blk.new' w0 42 [.int .i64 0, .int .i64 0, .int .i64 0, .bool false, .int .i64 0, .int .u64 0, .int .i64 0]
  have b1_ : Below w0.heap.size w0 (w0.alloc (.cells #[.int .i64 0, .int .i64 0, .int .i64 0, .bool false, .int .i64 0, .int .u64 0, .int .i64 0] 42)) := (Below.refl _ _).alloc (Nat.le_refl _) _
  obtain ⟨w1, hw1⟩ : ∃ w1, w1 = w0.alloc (.cells #[.int .i64 0, .int .i64 0, .int .i64 0, .bool false, .int .i64 0, .int .u64 0, .int .i64 0] 42) := ⟨_, rfl⟩
  rw [← hw1] at B1 b1_
  rw [z0] at B1
  have b2_ : Below w.heap.size w w1 := below_then b0_ b1_
  have B0' := B0.laterB b1_
  have x0 := ck_at B0' 0
  have x1 := ck_at B0' 1
  have x2 := ck_at B0' 2
  have x3 := ck_at B0' 3
  have x4 := ck_at B0' 4
  have x5 := ck_at B0' 5
  have x6 := ck_at B0' 6
  have z0' := ck_at B1 0
  have z1' := ck_at B1 1
  have z2' := ck_at B1 2
  have z3' := ck_at B1 3
  have z4' := ck_at B1 4
  have z5' := ck_at B1 5
  have z6' := ck_at B1 6
  have f0 := ck_fz B1 0
  have f1 := ck_fz B1 1
  have f2 := ck_fz B1 2
  have f3 := ck_fz B1 3
  have f4 := ck_fz B1 4
  have f5 := ck_fz B1 5
  have f6 := ck_fz B1 6
  simp only [List.getElem?_cons_zero, List.getElem?_cons_succ] at x0 z0' x1 z1' x2 z2' x3 z3' x4 z4' x5 z5' x6 z6'
  have R1 := (((((((B1).set 0 (.int .i64 c0)).set 1 (.int .i64 c1)).set 2 (.int .i64 c2)).set 3 (.bool c3)).set 4 (.int .i64 c4)).set 5 (.int .u64 c5)).set 6 (.int .i64 c6)
  simp only [List.set_cons_zero, List.set_cons_succ] at R1
  have R2 := (((((((b2_).setCell (p := ⟨w.heap.size + 1, 0, none⟩) (show w.heap.size ≤ w.heap.size + 1 by omega) (.int .i64 c0)).setCell (p := ⟨w.heap.size + 1, 1, none⟩) (show w.heap.size ≤ w.heap.size + 1 by omega) (.int .i64 c1)).setCell (p := ⟨w.heap.size + 1, 2, none⟩) (show w.heap.size ≤ w.heap.size + 1 by omega) (.int .i64 c2)).setCell (p := ⟨w.heap.size + 1, 3, none⟩) (show w.heap.size ≤ w.heap.size + 1 by omega) (.bool c3)).setCell (p := ⟨w.heap.size + 1, 4, none⟩) (show w.heap.size ≤ w.heap.size + 1 by omega) (.int .i64 c4)).setCell (p := ⟨w.heap.size + 1, 5, none⟩) (show w.heap.size ≤ w.heap.size + 1 by omega) (.int .u64 c5)).setCell (p := ⟨w.heap.size + 1, 6, none⟩) (show w.heap.size ≤ w.heap.size + 1 by omega) (.int .i64 c6)
  have G : Hid _ := And.intro R1 R2
  clear R1 R2 B0 b0_ B1 b1_ b2_ z0 B0'
  go_enter Tryd.func23, Tryd.ntmps23
  go_upto_region 1 with fail
  rw [← hw0, ← hw1]
  clear hw0 hw1
  go_wp2
  clear x0 z0' f0 x1 z1' f1 x2 z2' f2 x3 z3' f3 x4 z4' f4 x5 z5' f5 x6 z6' f6
  generalize (((((((w1).setCell ⟨w.heap.size + 1, 0, none⟩ (.int .i64 c0)).setCell ⟨w.heap.size + 1, 1, none⟩ (.int .i64 c1)).setCell ⟨w.heap.size + 1, 2, none⟩ (.int .i64 c2)).setCell ⟨w.heap.size + 1, 3, none⟩ (.bool c3)).setCell ⟨w.heap.size + 1, 4, none⟩ (.int .i64 c4)).setCell ⟨w.heap.size + 1, 5, none⟩ (.int .u64 c5)).setCell ⟨w.heap.size + 1, 6, none⟩ (.int .i64 c6) = wf at *
  have r0 := ck_at G.out.1 0
  have r1 := ck_at G.out.1 1
  have r2 := ck_at G.out.1 2
  have r3 := ck_at G.out.1 3
  have r4 := ck_at G.out.1 4
  have r5 := ck_at G.out.1 5
  have r6 := ck_at G.out.1 6
  simp only [List.getElem?_cons_zero, List.getElem?_cons_succ] at r0 r1 r2 r3 r4 r5 r6
  refine bodyPost_ret (v := .agg #[.int .i64 c0, .int .i64 c1, .int .i64 c2, .bool c3, .int .i64 c4, .int .u64 c5, .int .i64 c6]) (by simp [results, Tryd.results23, go_sem, r0, r1, r2, r3, r4, r5, r6]) rfl ?_
  exact ⟨rfl, G.out.2⟩

theorem bu_cases (op sv pv : Int) (vv : Bool) (tv : Int) (lb : BitVec 64) (nv : Int) :
    (∃ r, findR op = some r ∧ buR op sv pv vv tv lb nv = (some (wrF r.o (r.ps.zip (valB sv pv vv tv lb nv)) 6), 0)) ∨ ∃ E, buR op sv pv vv tv lb nv = (none, E) ∧ E ≠ 0 := by
  unfold buR buQ
  split
  · exact .inr ⟨1, rfl, by decide⟩
  · rename_i r hr
    split
    · split
      · exact .inl ⟨r, hr, rfl⟩
      · exact .inr ⟨11, rfl, by decide⟩
    · exact .inr ⟨3, rfl, by decide⟩
theorem wrF_len {o : Int} {qs : List ((Int × Int) × BitVec 64)} (h : ∀ q ∈ qs, PlOk q.1.1 q.1.2) (k : Nat) : (wrF o qs k).length = 16 := by
  unfold wrF
  have h2 : ∀ (l : List ((Int × Int) × BitVec 64)) (x : List (BitVec 8)), (∀ q ∈ l, PlOk q.1.1 q.1.2) → x.length = 16 → (l.foldl (fun l q => layF l q.1.1 q.1.2 q.2) x).length = 16 := by
    intro l
    induction l with
    | nil => intro x _ hx; exact hx
    | cons q r ih =>
      intro x hq hx
      exact ih _ (fun y hy => hq y (List.mem_cons_of_mem _ hy)) (layF_len (hq q (List.mem_cons_self ..)) hx)
  exact h2 _ _ (fun q hq => h q (List.mem_of_mem_take hq)) (by simp [opL])
theorem bits2_ok (k : Nat) (hk : k < 14) : ((rowK k).ps.getD 2 (0, 0)).2 = 0 ∨ ((rowK k).ps.getD 2 (0, 0)).2 = 1 := by
  have hk' : k = 0 ∨ k = 1 ∨ k = 2 ∨ k = 3 ∨ k = 4 ∨ k = 5 ∨ k = 6 ∨ k = 7 ∨ k = 8 ∨ k = 9 ∨ k = 10 ∨ k = 11 ∨ k = 12 ∨ k = 13 := by omega
  rcases hk' with rfl | rfl | rfl | rfl | rfl | rfl | rfl | rfl | rfl | rfl | rfl | rfl | rfl | rfl <;> decide
theorem find_bits2 {op : Int} {r : CR} (h : findR op = some r) : (r.ps.getD 2 (0, 0)).2 = 0 ∨ (r.ps.getD 2 (0, 0)).2 = 1 := by
  unfold findR at h
  have h1 := List.mem_of_find?_eq_some h
  obtain ⟨k, hk, rfl⟩ := List.mem_iff_getElem.1 h1
  have hk' : k < 14 := by simpa [tbl] using hk
  have e : rowK k = tbl[k] := by unfold rowK; rw [List.getD_eq_getElem?_getD, List.getElem?_eq_getElem hk]; rfl
  have := bits2_ok k hk'
  rw [e] at this
  exact this
theorem pa_cases (l : List (BitVec 8)) : (∃ r, findR (bt l 0) = some r ∧ wrF r.o (fldL r l) 6 = l ∧ paR l = (cdbL r.o ((fldL r l).map (fun q => (q.2.toNat : Int))), 0)) ∨ ∃ E, paR l = (cdbZ, E) ∧ E ≠ 0 := by
  unfold paR
  split
  · exact .inr ⟨3, rfl, by decide⟩
  · split
    · exact .inr ⟨1, rfl, by decide⟩
    · rename_i r hr
      split
      · rename_i h
        exact .inl ⟨r, hr, h, rfl⟩
      · exact .inr ⟨11, rfl, by decide⟩
theorem ofInt_nat (x : BitVec 64) : BitVec.ofInt 64 (x.toNat : Int) = x := by
  apply BitVec.eq_of_toNat_eq
  rw [BitVec.toNat_ofInt]
  have := x.isLt
  omega
/-- bytes that are parsed as a command that these bytes were built of are these bytes -/
theorem parse_build {op sv pv : Int} {vv : Bool} {tv : Int} {lb : BitVec 64} {nv : Int} {l' : List (BitVec 8)} {r r' : CR} (hr : findR op = some r) (hr' : findR (bt l' 0) = some r')
    (hw : wrF r'.o (fldL r' l') 6 = l') (hc : cdbL r'.o ((fldL r' l').map (fun q => (q.2.toNat : Int))) = [.int .i64 op, .int .i64 sv, .int .i64 pv, .bool vv, .int .i64 tv, .int .u64 (lb.toNat : Int), .int .i64 nv]) :
    wrF r.o (r.ps.zip (valB sv pv vv tv lb nv)) 6 = l' := by
  have k1 := findR_ok hr
  have k2 := findR_ok hr'
  have e0 : r'.o = op := by have := hc; simp only [cdbL, List.cons.injEq, Value.int.injEq] at this; exact this.1.2
  have e1 : r' = r := by
    have h3 : bt l' 0 = op := by rw [← k2.2, e0]
    rw [h3, hr] at hr'
    exact (Option.some.inj hr').symm
  subst e1
  have h2 := find_bits2 hr
  obtain ⟨o, a0, b0, a1, b1, a2, b2, a3, b3, a4, b4, a5, b5, rfl, ho, p0, p1, p2, p3, p4, p5, q0, q1, q3, q5⟩ := k1.1.six
  have hm2 := fvB_lt l' a2 b2 p2
  have h2' : b2 = 0 ∨ b2 = 1 := h2
  have hc' := hc
  simp only [cdbL, fldL, List.map_cons, List.map_nil, List.getD_cons_zero, List.getD_cons_succ, List.cons.injEq, Value.int.injEq, Value.bool.injEq, true_and, and_true] at hc'
  obtain ⟨_, c1, c2, c3, c4, c5, c6⟩ := hc'
  have d2 : (if vv then 1#64 else 0#64) = fvB l' a2 b2 := by
    apply BitVec.eq_of_toNat_eq
    have hx : (fvB l' a2 b2).toNat < 2 := Nat.lt_of_lt_of_le hm2 (by rcases h2' with rfl | rfl <;> decide)
    rw [← c3]
    have hx' : (fvB l' a2 b2).toNat = 0 ∨ (fvB l' a2 b2).toNat = 1 := by omega
    rcases hx' with h | h <;> rw [h] <;> rfl
  have d4 : lb = fvB l' a4 b4 := BitVec.eq_of_toNat_eq (by omega)
  rw [← hw]
  unfold valB fldL
  rw [← c1, ← c2, ← c4, ← c6, d2, d4, ofInt_nat, ofInt_nat, ofInt_nat, ofInt_nat]
  rfl
end Go.Proofs.YteingnaojnbchaaDoor
