/- cdb: Parse. -/
import Derived.Test.YtmoobfpmijdoaaaDoorXCd1
namespace Go.Proofs.YtmoobfpmijdoaaaDoor
open Go.RowKit
set_option linter.unusedVariables false
set_option linter.unusedSimpArgs false
set_option maxRecDepth 4000

def fvB (l : List (BitVec 8)) (a b : Int) : BitVec 64 := if b = 0 then 0#64 else numTo l a.toNat (szB b) &&& onesB b
theorem fvI_B (l : List (BitVec 8)) (a b : Int) : fvI l a b = ((fvB l a b).toNat : Int) := by
  unfold fvI fvB
  split
  · rfl
  · rfl
theorem fvB_lt (l : List (BitVec 8)) (a b : Int) (h : PlOk a b) : (fvB l a b).toNat < 2 ^ b.toNat := by
  unfold fvB
  split
  · rename_i h0; subst h0; decide
  · rw [BitVec.toNat_and]
    refine Nat.lt_of_le_of_lt (Nat.and_le_right) ?_
    rcases h.bits with rfl | rfl | rfl | rfl | rfl | rfl | rfl | rfl <;> decide
theorem fvB_fits (l : List (BitVec 8)) (a b : Int) (h : PlOk a b) (h0 : b ≠ 0) : fitsB (szB b) (fvB l a b) = true := by
  have h1 := fvB_lt l a b h
  unfold fitsB
  rw [decide_eq_true_eq]
  apply Nat.div_eq_of_lt
  refine Nat.lt_of_lt_of_le h1 ?_
  rcases h.bits with rfl | rfl | rfl | rfl | rfl | rfl | rfl | rfl <;> decide
theorem fvB_low (l : List (BitVec 8)) (a b : Int) (h : PlOk a b) (hb : b ≤ 32) : 0 ≤ ((fvB l a b).toNat : Int) ∧ ((fvB l a b).toNat : Int) < 9223372036854775808 := by
  have h1 := fvB_lt l a b h
  have h2 : (2 : Nat) ^ b.toNat ≤ 2 ^ 32 := Nat.pow_le_pow_right (by omega) (by omega)
  omega
/-- a row of the table is so -/
structure RowOk (r : CR) : Prop where
  six : ∃ o a0 b0 a1 b1 a2 b2 a3 b3 a4 b4 a5 b5, r = ⟨o, [(a0, b0), (a1, b1), (a2, b2), (a3, b3), (a4, b4), (a5, b5)]⟩ ∧ (0 ≤ o ∧ o < 256) ∧ PlOk a0 b0 ∧ PlOk a1 b1 ∧ PlOk a2 b2 ∧ PlOk a3 b3 ∧ PlOk a4 b4 ∧ PlOk a5 b5 ∧ b0 ≤ 32 ∧ b1 ≤ 32 ∧ b3 ≤ 32 ∧ b5 ≤ 32
theorem rowK_ok (k : Nat) (hk : k < 14) : RowOk (rowK k) := by
  have hk' : k = 0 ∨ k = 1 ∨ k = 2 ∨ k = 3 ∨ k = 4 ∨ k = 5 ∨ k = 6 ∨ k = 7 ∨ k = 8 ∨ k = 9 ∨ k = 10 ∨ k = 11 ∨ k = 12 ∨ k = 13 := by omega
  rcases hk' with rfl | rfl | rfl | rfl | rfl | rfl | rfl | rfl | rfl | rfl | rfl | rfl | rfl | rfl <;> exact ⟨⟨_, _, _, _, _, _, _, _, _, _, _, _, _, rfl, by decide, ⟨by decide, by decide, by decide⟩, ⟨by decide, by decide, by decide⟩, ⟨by decide, by decide, by decide⟩, ⟨by decide, by decide, by decide⟩, ⟨by decide, by decide, by decide⟩, ⟨by decide, by decide, by decide⟩, by decide, by decide, by decide, by decide⟩⟩
theorem findR_ok {op : Int} {r : CR} (h : findR op = some r) : RowOk r ∧ r.o = op := by
  unfold findR at h
  have h1 := List.mem_of_find?_eq_some h
  have h2 := List.find?_some h
  obtain ⟨k, hk, rfl⟩ := List.mem_iff_getElem.1 h1
  have hk' : k < 14 := by simpa [tbl] using hk
  have e : rowK k = tbl[k] := by unfold rowK; rw [List.getD_eq_getElem?_getD, List.getElem?_eq_getElem hk]; rfl
  refine ⟨by have := rowK_ok k hk'; rw [e] at this; exact this, by simpa using h2⟩
def fldL (r : CR) (l : List (BitVec 8)) : List ((Int × Int) × BitVec 64) := r.ps.map (fun p => (p, fvB l p.1 p.2))
def cdbZ : List Value := [.int .i64 0, .int .i64 0, .int .i64 0, .bool false, .int .i64 0, .int .u64 0, .int .i64 0]
def cdbL (o : Int) (fs : List Int) : List Value := [.int .i64 o, .int .i64 (fs.getD 0 0), .int .i64 (fs.getD 1 0), .bool (fs.getD 2 0 == 1), .int .i64 (fs.getD 3 0), .int .u64 (fs.getD 4 0), .int .i64 (fs.getD 5 0)]
/-- what Parse answers: the command's cells, and the error -/
def paR (l : List (BitVec 8)) : List Value × Int :=
  if l.length ≠ 16 then (cdbZ, 3) else match findR (bt l 0) with
    | none => (cdbZ, 1)
    | some r => if wrF r.o (fldL r l) 6 = l then (cdbL r.o ((fldL r l).map (fun q => (q.2.toNat : Int))), 0) else (cdbZ, 11)
set_option maxHeartbeats 4000000 in
theorem cParse_any (a : Option Addr) (c : Nat) (l : List (BitVec 8)) (w : World) (hT : TblAt w) (hr : Row w a l) (hlen : l.length ≤ 140737488355328) :
    Calls Tryd.prog 17 #[.slice a l.length c] w fun e w' => e = .returned (.tuple #[.agg (paR l).1.toArray, .int .i64 (paR l).2]) ∧ Below w.heap.size w w' := by
  have B0 := Blk.new' w 35 [.int .i64 0, .int .i64 0, .int .i64 0, .bool false, .int .i64 0, .int .u64 0, .int .i64 0]
  have b0_ : Below w.heap.size w (w.alloc (.cells #[.int .i64 0, .int .i64 0, .int .i64 0, .bool false, .int .i64 0, .int .u64 0, .int .i64 0] 35)) := (Below.refl _ _).alloc (Nat.le_refl _) _
  obtain ⟨w0, hw0⟩ : ∃ w0, w0 = w.alloc (.cells #[.int .i64 0, .int .i64 0, .int .i64 0, .bool false, .int .i64 0, .int .u64 0, .int .i64 0] 35) := ⟨_, rfl⟩
  rw [← hw0] at B0 b0_
  have H0 : Hid (Blk w0 w.heap.size 35 [.int .i64 0, .int .i64 0, .int .i64 0, .bool false, .int .i64 0, .int .u64 0, .int .i64 0] ∧ Below w.heap.size w w0) := ⟨B0, b0_⟩
  have HT : Hid _ := hT.later b0_
  have HR : Hid _ := hr
  clear B0 b0_ hT hr
  by_cases h16 : l.length = 16
  · have e0 : Hid (paR l = match findR (bt l 0) with | none => (cdbZ, 1) | some r => if wrF r.o (fldL r l) 6 = l then (cdbL r.o ((fldL r l).map (fun q => (q.2.toNat : Int))), 0) else (cdbZ, 11)) := if_neg (by simpa using h16)
    have hra : ∃ bb off, a = some ⟨bb, off, none⟩ ∧ w0.cell? ⟨bb, off, none⟩ = some (.int .u8 (bt l 0)) := by
      rcases Row.later HR.out H0.out.2 with e | ⟨bb, off, rfl, hc⟩
      · rw [e] at h16; simp at h16
      · exact ⟨bb, off, rfl, hc 0 (by omega)⟩
    obtain ⟨bb, off, rfl, hc0⟩ := hra
    have hbd := bt_bd l 0
    have HF : Hid _ := find_any (bt l 0) w0 HT.out
    have HOp : Hid (∀ r, findR (bt l 0) = some r → RowOk r ∧ r.o = bt l 0) := fun r h => findR_ok h
    generalize bt l 0 = op at *
    have v9 : IntKind.i64.wrap op = op := by rw [IntKind.wrap_i64]; omega
    clear hbd
    have hl16 : Hid _ := h16
    rw [h16]
    clear h16
    go_enter Tryd.func17, Tryd.ntmps17
    go_upto_region 1 with fail
    rw [← hw0]
    clear hw0
    go_wp2_with fail
    refine (Calls.mono HF.out) ?_
    rintro e w1 ⟨rfl, b1_⟩
    have H1 : Hid (Blk w1 w.heap.size 35 [.int .i64 0, .int .i64 0, .int .i64 0, .bool false, .int .i64 0, .int .u64 0, .int .i64 0] ∧ Below w.heap.size w w1) := ⟨H0.out.1.laterB b1_, below_then H0.out.2 b1_⟩
    clear b1_ HF H0 hc0 HT v9
    cases hfr : findR op with
    | none =>
      have e1 : Hid (paR l = (cdbZ, 1)) := by show _ = _; rw [e0.out, hfr]
      have b2_ : Below w1.heap.size w1 (w1.alloc (.cells #[.int .u8 0, .int .u8 0, .int .u8 0, .int .u8 0, .int .u8 0, .int .u8 0, .int .u8 0, .int .u8 0, .int .u8 0, .int .u8 0, .int .u8 0, .int .u8 0, .int .u8 0] 81)) := (Below.refl _ _).alloc (Nat.le_refl _) _
      obtain ⟨w2, hw2⟩ : ∃ w2, w2 = w1.alloc (.cells #[.int .u8 0, .int .u8 0, .int .u8 0, .int .u8 0, .int .u8 0, .int .u8 0, .int .u8 0, .int .u8 0, .int .u8 0, .int .u8 0, .int .u8 0, .int .u8 0, .int .u8 0] 81) := ⟨_, rfl⟩
      rw [← hw2] at b2_
      have H2 : Hid (Blk w2 w.heap.size 35 [.int .i64 0, .int .i64 0, .int .i64 0, .bool false, .int .i64 0, .int .u64 0, .int .i64 0] ∧ Below w.heap.size w w2) := ⟨H1.out.1.laterB b2_, below_then H1.out.2 b2_⟩
      clear b2_ H1
      rw [show ((none : Option CR).getD ⟨0, [(0, 0), (0, 0), (0, 0), (0, 0), (0, 0), (0, 0)]⟩).cells.toArray = #[.int .u8 0, .int .u8 0, .int .u8 0, .int .u8 0, .int .u8 0, .int .u8 0, .int .u8 0, .int .u8 0, .int .u8 0, .int .u8 0, .int .u8 0, .int .u8 0, .int .u8 0] from rfl, show (none : Option CR).isSome = false from rfl]
      have s0 := ck_at (H2.out.1) 0
      have s1 := ck_at (H2.out.1) 1
      have s2 := ck_at (H2.out.1) 2
      have s3 := ck_at (H2.out.1) 3
      have s4 := ck_at (H2.out.1) 4
      have s5 := ck_at (H2.out.1) 5
      have s6 := ck_at (H2.out.1) 6
      have g0 := ck_fz (H2.out.1) 0
      have g1 := ck_fz (H2.out.1) 1
      have g2 := ck_fz (H2.out.1) 2
      have g3 := ck_fz (H2.out.1) 3
      have g4 := ck_fz (H2.out.1) 4
      have g5 := ck_fz (H2.out.1) 5
      have g6 := ck_fz (H2.out.1) 6
      simp only [List.getElem?_cons_zero, List.getElem?_cons_succ] at s0 s1 s2 s3 s4 s5 s6
      have R1 := (((((((H2.out.1).set 0 (.int .i64 0)).set 1 (.int .i64 0)).set 2 (.int .i64 0)).set 3 (.bool false)).set 4 (.int .i64 0)).set 5 (.int .u64 0)).set 6 (.int .i64 0)
      simp only [List.set_cons_zero, List.set_cons_succ] at R1
      have R2 := (((((((H2.out.2).setCell (p := ⟨w.heap.size, 0, none⟩) (Nat.le_refl _) (.int .i64 0)).setCell (p := ⟨w.heap.size, 1, none⟩) (Nat.le_refl _) (.int .i64 0)).setCell (p := ⟨w.heap.size, 2, none⟩) (Nat.le_refl _) (.int .i64 0)).setCell (p := ⟨w.heap.size, 3, none⟩) (Nat.le_refl _) (.bool false)).setCell (p := ⟨w.heap.size, 4, none⟩) (Nat.le_refl _) (.int .i64 0)).setCell (p := ⟨w.heap.size, 5, none⟩) (Nat.le_refl _) (.int .u64 0)).setCell (p := ⟨w.heap.size, 6, none⟩) (Nat.le_refl _) (.int .i64 0)
      have G : Hid _ := And.intro R1 R2
      clear R1 R2
      go_upto_region 4 with fail
      rw [← hw2]
      clear hw2
      go_wp2
      clear s0 g0 s1 g1 s2 g2 s3 g3 s4 g4 s5 g5 s6 g6
      generalize (((((((w2).setCell ⟨w.heap.size, 0, none⟩ (.int .i64 0)).setCell ⟨w.heap.size, 1, none⟩ (.int .i64 0)).setCell ⟨w.heap.size, 2, none⟩ (.int .i64 0)).setCell ⟨w.heap.size, 3, none⟩ (.bool false)).setCell ⟨w.heap.size, 4, none⟩ (.int .i64 0)).setCell ⟨w.heap.size, 5, none⟩ (.int .u64 0)).setCell ⟨w.heap.size, 6, none⟩ (.int .i64 0) = wf at *
      have r0 := ck_at G.out.1 0
      have r1 := ck_at G.out.1 1
      have r2 := ck_at G.out.1 2
      have r3 := ck_at G.out.1 3
      have r4 := ck_at G.out.1 4
      have r5 := ck_at G.out.1 5
      have r6 := ck_at G.out.1 6
      simp only [List.getElem?_cons_zero, List.getElem?_cons_succ] at r0 r1 r2 r3 r4 r5 r6
      refine bodyPost_ret (v := .tuple #[.agg #[.int .i64 0, .int .i64 0, .int .i64 0, .bool false, .int .i64 0, .int .u64 0, .int .i64 0], .int .i64 1]) (by simp [results, Tryd.results17, go_sem, r0, r1, r2, r3, r4, r5, r6]) rfl ?_
      exact ⟨by rw [e1.out]; rfl, G.out.2⟩
    | some r =>
      obtain ⟨hok, hop⟩ := HOp.out r hfr
      obtain ⟨o, a0, b0, a1, b1, a2, b2, a3, b3, a4, b4, a5, b5, rfl, ho, p0, p1, p2, p3, p4, p5, q0, q1, q3, q5⟩ := hok.six
      have e1 : Hid (paR l = if wrF o [((a0, b0), fvB l a0 b0), ((a1, b1), fvB l a1 b1), ((a2, b2), fvB l a2 b2), ((a3, b3), fvB l a3 b3), ((a4, b4), fvB l a4 b4), ((a5, b5), fvB l a5 b5)] 6 = l then (cdbL o [((fvB l a0 b0).toNat : Int), ((fvB l a1 b1).toNat : Int), ((fvB l a2 b2).toNat : Int), ((fvB l a3 b3).toNat : Int), ((fvB l a4 b4).toNat : Int), ((fvB l a5 b5).toNat : Int)], 0) else (cdbZ, 11)) := by show _ = _; rw [e0.out, hfr]; rfl
      clear e0 hok hop hfr HOp
      rw [show ((some (⟨o, [(a0, b0), (a1, b1), (a2, b2), (a3, b3), (a4, b4), (a5, b5)]⟩ : CR)).getD ⟨0, [(0, 0), (0, 0), (0, 0), (0, 0), (0, 0), (0, 0)]⟩).cells.toArray = #[.int .u8 o, .int .u8 a0, .int .u8 b0, .int .u8 a1, .int .u8 b1, .int .u8 a2, .int .u8 b2, .int .u8 a3, .int .u8 b3, .int .u8 a4, .int .u8 b4, .int .u8 a5, .int .u8 b5] from rfl, show (some (⟨o, [(a0, b0), (a1, b1), (a2, b2), (a3, b3), (a4, b4), (a5, b5)]⟩ : CR)).isSome = true from rfl]
      have B2 := Blk.new' w1 81 [.int .u8 o, .int .u8 a0, .int .u8 b0, .int .u8 a1, .int .u8 b1, .int .u8 a2, .int .u8 b2, .int .u8 a3, .int .u8 b3, .int .u8 a4, .int .u8 b4, .int .u8 a5, .int .u8 b5]
      have b2_ : Below w1.heap.size w1 (w1.alloc (.cells #[.int .u8 o, .int .u8 a0, .int .u8 b0, .int .u8 a1, .int .u8 b1, .int .u8 a2, .int .u8 b2, .int .u8 a3, .int .u8 b3, .int .u8 a4, .int .u8 b4, .int .u8 a5, .int .u8 b5] 81)) := (Below.refl _ _).alloc (Nat.le_refl _) _
      obtain ⟨w2, hw2⟩ : ∃ w2, w2 = w1.alloc (.cells #[.int .u8 o, .int .u8 a0, .int .u8 b0, .int .u8 a1, .int .u8 b1, .int .u8 a2, .int .u8 b2, .int .u8 a3, .int .u8 b3, .int .u8 a4, .int .u8 b4, .int .u8 a5, .int .u8 b5] 81) := ⟨_, rfl⟩
      rw [← hw2] at B2 b2_
      obtain ⟨rb, hrb⟩ : ∃ g, g = w1.heap.size := ⟨_, rfl⟩
      rw [← hrb] at B2
      have H2 : Hid (Blk w2 w.heap.size 35 [.int .i64 0, .int .i64 0, .int .i64 0, .bool false, .int .i64 0, .int .u64 0, .int .i64 0] ∧ Below w.heap.size w w2 ∧ Blk w2 rb 81 [.int .u8 o, .int .u8 a0, .int .u8 b0, .int .u8 a1, .int .u8 b1, .int .u8 a2, .int .u8 b2, .int .u8 a3, .int .u8 b3, .int .u8 a4, .int .u8 b4, .int .u8 a5, .int .u8 b5]) := ⟨H1.out.1.laterB b2_, below_then H1.out.2 b2_, B2⟩
      clear b2_ H1 B2
      have y0 := ck_at H2.out.2.2 0
      have y1 := ck_at H2.out.2.2 1
      have y2 := ck_at H2.out.2.2 2
      have y3 := ck_at H2.out.2.2 3
      have y4 := ck_at H2.out.2.2 4
      have y5 := ck_at H2.out.2.2 5
      have y6 := ck_at H2.out.2.2 6
      have y7 := ck_at H2.out.2.2 7
      have y8 := ck_at H2.out.2.2 8
      have y9 := ck_at H2.out.2.2 9
      have y10 := ck_at H2.out.2.2 10
      have y11 := ck_at H2.out.2.2 11
      have y12 := ck_at H2.out.2.2 12
      simp only [List.getElem?_cons_zero, List.getElem?_cons_succ] at y0 y1 y2 y3 y4 y5 y6 y7 y8 y9 y10 y11 y12
      have HRd0 := cRead_any o a0 b0 a1 b1 a2 b2 a3 b3 a4 b4 a5 b5 (some ⟨bb, off, none⟩) c l w2 hl16.out (Row.later HR.out H2.out.2.1) p0 p1 p2 p3 p4 p5
      simp only [fvI_B] at HRd0
      have HRd : Hid _ := HRd0
      clear HRd0
      go_upto_region 4 with fail
      rw [← hw2, ← hrb]
      clear hw2 hrb
      go_wp2_with fail
      clear y0 y1 y2 y3 y4 y5 y6 y7 y8 y9 y10 y11 y12
      refine (Calls.mono HRd.out) ?_
      rintro e w3 ⟨rfl, b3_⟩
      have H3 : Hid (Blk w3 w.heap.size 35 [.int .i64 0, .int .i64 0, .int .i64 0, .bool false, .int .i64 0, .int .u64 0, .int .i64 0] ∧ Below w.heap.size w w3 ∧ Blk w3 rb 81 [.int .u8 o, .int .u8 a0, .int .u8 b0, .int .u8 a1, .int .u8 b1, .int .u8 a2, .int .u8 b2, .int .u8 a3, .int .u8 b3, .int .u8 a4, .int .u8 b4, .int .u8 a5, .int .u8 b5]) := ⟨H2.out.1.laterB b3_, below_then H2.out.2.1 b3_, H2.out.2.2.laterB b3_⟩
      clear b3_ H2 HRd
      have B4 := Blk.new' w3 84 [.int .u64 ((fvB l a0 b0).toNat : Int), .int .u64 ((fvB l a1 b1).toNat : Int), .int .u64 ((fvB l a2 b2).toNat : Int), .int .u64 ((fvB l a3 b3).toNat : Int), .int .u64 ((fvB l a4 b4).toNat : Int), .int .u64 ((fvB l a5 b5).toNat : Int)]
      have b4_ : Below w3.heap.size w3 (w3.alloc (.cells #[.int .u64 ((fvB l a0 b0).toNat : Int), .int .u64 ((fvB l a1 b1).toNat : Int), .int .u64 ((fvB l a2 b2).toNat : Int), .int .u64 ((fvB l a3 b3).toNat : Int), .int .u64 ((fvB l a4 b4).toNat : Int), .int .u64 ((fvB l a5 b5).toNat : Int)] 84)) := (Below.refl _ _).alloc (Nat.le_refl _) _
      obtain ⟨w4, hw4⟩ : ∃ w4, w4 = w3.alloc (.cells #[.int .u64 ((fvB l a0 b0).toNat : Int), .int .u64 ((fvB l a1 b1).toNat : Int), .int .u64 ((fvB l a2 b2).toNat : Int), .int .u64 ((fvB l a3 b3).toNat : Int), .int .u64 ((fvB l a4 b4).toNat : Int), .int .u64 ((fvB l a5 b5).toNat : Int)] 84) := ⟨_, rfl⟩
      rw [← hw4] at B4 b4_
      obtain ⟨vb, hvb⟩ : ∃ g, g = w3.heap.size := ⟨_, rfl⟩
      rw [← hvb] at B4
      have H4 : Hid (Blk w4 w.heap.size 35 [.int .i64 0, .int .i64 0, .int .i64 0, .bool false, .int .i64 0, .int .u64 0, .int .i64 0] ∧ Below w.heap.size w w4 ∧ Blk w4 rb 81 [.int .u8 o, .int .u8 a0, .int .u8 b0, .int .u8 a1, .int .u8 b1, .int .u8 a2, .int .u8 b2, .int .u8 a3, .int .u8 b3, .int .u8 a4, .int .u8 b4, .int .u8 a5, .int .u8 b5] ∧ Blk w4 vb 84 [.int .u64 ((fvB l a0 b0).toNat : Int), .int .u64 ((fvB l a1 b1).toNat : Int), .int .u64 ((fvB l a2 b2).toNat : Int), .int .u64 ((fvB l a3 b3).toNat : Int), .int .u64 ((fvB l a4 b4).toNat : Int), .int .u64 ((fvB l a5 b5).toNat : Int)]) := ⟨H3.out.1.laterB b4_, below_then H3.out.2.1 b4_, H3.out.2.2.laterB b4_, B4⟩
      clear b4_ H3 B4
      have HWr : Hid _ := cWrite_any o a0 b0 a1 b1 a2 b2 a3 b3 a4 b4 a5 b5 (fvB l a0 b0) (fvB l a1 b1) (fvB l a2 b2) (fvB l a3 b3) (fvB l a4 b4) (fvB l a5 b5) w4 ho p0 p1 p2 p3 p4 p5 (fvB_fits l a0 b0 p0) (fvB_fits l a1 b1 p1) (fvB_fits l a2 b2 p2) (fvB_fits l a3 b3 p3) (fvB_fits l a4 b4 p4) (fvB_fits l a5 b5 p5)
      have HCm : Hid (∀ X, _) := fun X => cCommand_any o a0 b0 a1 b1 a2 b2 a3 b3 a4 b4 a5 b5 ((fvB l a0 b0).toNat : Int) ((fvB l a1 b1).toNat : Int) ((fvB l a2 b2).toNat : Int) ((fvB l a3 b3).toNat : Int) ((fvB l a4 b4).toNat : Int) ((fvB l a5 b5).toNat : Int) X ho (fvB_low l a0 b0 p0 q0) (fvB_low l a1 b1 p1 q1) (fvB_low l a3 b3 p3 q3) (fvB_low l a5 b5 p5 q5)
      generalize hF0 : ((fvB l a0 b0).toNat : Int) = F0 at *
      generalize hF1 : ((fvB l a1 b1).toNat : Int) = F1 at *
      generalize hF2 : ((fvB l a2 b2).toNat : Int) = F2 at *
      generalize hF3 : ((fvB l a3 b3).toNat : Int) = F3 at *
      generalize hF4 : ((fvB l a4 b4).toNat : Int) = F4 at *
      generalize hF5 : ((fvB l a5 b5).toNat : Int) = F5 at *
      skip
      have y0 := ck_at H4.out.2.2.1 0
      have y1 := ck_at H4.out.2.2.1 1
      have y2 := ck_at H4.out.2.2.1 2
      have y3 := ck_at H4.out.2.2.1 3
      have y4 := ck_at H4.out.2.2.1 4
      have y5 := ck_at H4.out.2.2.1 5
      have y6 := ck_at H4.out.2.2.1 6
      have y7 := ck_at H4.out.2.2.1 7
      have y8 := ck_at H4.out.2.2.1 8
      have y9 := ck_at H4.out.2.2.1 9
      have y10 := ck_at H4.out.2.2.1 10
      have y11 := ck_at H4.out.2.2.1 11
      have y12 := ck_at H4.out.2.2.1 12
      have x0 := ck_at H4.out.2.2.2 0
      have x1 := ck_at H4.out.2.2.2 1
      have x2 := ck_at H4.out.2.2.2 2
      have x3 := ck_at H4.out.2.2.2 3
      have x4 := ck_at H4.out.2.2.2 4
      have x5 := ck_at H4.out.2.2.2 5
      simp only [List.getElem?_cons_zero, List.getElem?_cons_succ] at y0 y1 y2 y3 y4 y5 y6 y7 y8 y9 y10 y11 y12 x0 x1 x2 x3 x4 x5
      generalize hWL : wrF o [((a0, b0), fvB l a0 b0), ((a1, b1), fvB l a1 b1), ((a2, b2), fvB l a2 b2), ((a3, b3), fvB l a3 b3), ((a4, b4), fvB l a4 b4), ((a5, b5), fvB l a5 b5)] 6 = WL at *
      clear hWL
      go_upto_region 7 with fail
      rw [← hw4, ← hvb]
      clear hw4 hvb
      go_wp2_with fail
      clear y0 y1 y2 y3 y4 y5 y6 y7 y8 y9 y10 y11 y12 x0 x1 x2 x3 x4 x5
      refine (Calls.mono HWr.out) ?_
      rintro e w5 ⟨z, rfl, o5, b5_⟩
      obtain ⟨az, cz, rfl, -, -, hrz, -, -⟩ := o5.open
      have H5 : Hid (Blk w5 w.heap.size 35 [.int .i64 0, .int .i64 0, .int .i64 0, .bool false, .int .i64 0, .int .u64 0, .int .i64 0] ∧ Below w.heap.size w w5 ∧ Blk w5 rb 81 [.int .u8 o, .int .u8 a0, .int .u8 b0, .int .u8 a1, .int .u8 b1, .int .u8 a2, .int .u8 b2, .int .u8 a3, .int .u8 b3, .int .u8 a4, .int .u8 b4, .int .u8 a5, .int .u8 b5] ∧ Blk w5 vb 84 [.int .u64 F0, .int .u64 F1, .int .u64 F2, .int .u64 F3, .int .u64 F4, .int .u64 F5]) := ⟨H4.out.1.laterB b5_, below_then H4.out.2.1 b5_, H4.out.2.2.1.laterB b5_, H4.out.2.2.2.laterB b5_⟩
      have HE0 := cEq_any az (some ⟨bb, off, none⟩) cz c WL l w5 hrz (Row.later HR.out H5.out.2.1)
      rw [hl16.out] at HE0
      have HEq : Hid _ := HE0
      clear HE0 hrz o5 b5_ H4 HWr
      go_wp2_with fail
      refine (Calls.mono HEq.out) ?_
      rintro e _ ⟨rfl, rfl⟩
      clear HEq
      by_cases he : WL = l
      · rw [decide_eq_true he]
        have e2 : Hid (paR l = (cdbL o [F0, F1, F2, F3, F4, F5], 0)) := by show _ = _; rw [e1.out, if_pos he]
        clear he
        have y0 := ck_at H5.out.2.2.1 0
        have y1 := ck_at H5.out.2.2.1 1
        have y2 := ck_at H5.out.2.2.1 2
        have y3 := ck_at H5.out.2.2.1 3
        have y4 := ck_at H5.out.2.2.1 4
        have y5 := ck_at H5.out.2.2.1 5
        have y6 := ck_at H5.out.2.2.1 6
        have y7 := ck_at H5.out.2.2.1 7
        have y8 := ck_at H5.out.2.2.1 8
        have y9 := ck_at H5.out.2.2.1 9
        have y10 := ck_at H5.out.2.2.1 10
        have y11 := ck_at H5.out.2.2.1 11
        have y12 := ck_at H5.out.2.2.1 12
        have x0 := ck_at H5.out.2.2.2 0
        have x1 := ck_at H5.out.2.2.2 1
        have x2 := ck_at H5.out.2.2.2 2
        have x3 := ck_at H5.out.2.2.2 3
        have x4 := ck_at H5.out.2.2.2 4
        have x5 := ck_at H5.out.2.2.2 5
        simp only [List.getElem?_cons_zero, List.getElem?_cons_succ] at y0 y1 y2 y3 y4 y5 y6 y7 y8 y9 y10 y11 y12 x0 x1 x2 x3 x4 x5
        go_wp2_with fail
        clear y0 y1 y2 y3 y4 y5 y6 y7 y8 y9 y10 y11 y12 x0 x1 x2 x3 x4 x5
        refine (Calls.mono (HCm.out w5)) ?_
        rintro e w6 ⟨rfl, b6_⟩
        have H6 : Hid (Blk w6 w.heap.size 35 [.int .i64 0, .int .i64 0, .int .i64 0, .bool false, .int .i64 0, .int .u64 0, .int .i64 0] ∧ Below w.heap.size w w6) := ⟨H5.out.1.laterB b6_, below_then H5.out.2.1 b6_⟩
        clear b6_ H5 HCm
        have s0 := ck_at (H6.out.1) 0
        have s1 := ck_at (H6.out.1) 1
        have s2 := ck_at (H6.out.1) 2
        have s3 := ck_at (H6.out.1) 3
        have s4 := ck_at (H6.out.1) 4
        have s5 := ck_at (H6.out.1) 5
        have s6 := ck_at (H6.out.1) 6
        have g0 := ck_fz (H6.out.1) 0
        have g1 := ck_fz (H6.out.1) 1
        have g2 := ck_fz (H6.out.1) 2
        have g3 := ck_fz (H6.out.1) 3
        have g4 := ck_fz (H6.out.1) 4
        have g5 := ck_fz (H6.out.1) 5
        have g6 := ck_fz (H6.out.1) 6
        simp only [List.getElem?_cons_zero, List.getElem?_cons_succ] at s0 s1 s2 s3 s4 s5 s6
        have R1 := (((((((H6.out.1).set 0 (.int .i64 o)).set 1 (.int .i64 F0)).set 2 (.int .i64 F1)).set 3 (.bool (F2 == 1))).set 4 (.int .i64 F3)).set 5 (.int .u64 F4)).set 6 (.int .i64 F5)
        simp only [List.set_cons_zero, List.set_cons_succ] at R1
        have R2 := (((((((H6.out.2).setCell (p := ⟨w.heap.size, 0, none⟩) (Nat.le_refl _) (.int .i64 o)).setCell (p := ⟨w.heap.size, 1, none⟩) (Nat.le_refl _) (.int .i64 F0)).setCell (p := ⟨w.heap.size, 2, none⟩) (Nat.le_refl _) (.int .i64 F1)).setCell (p := ⟨w.heap.size, 3, none⟩) (Nat.le_refl _) (.bool (F2 == 1))).setCell (p := ⟨w.heap.size, 4, none⟩) (Nat.le_refl _) (.int .i64 F3)).setCell (p := ⟨w.heap.size, 5, none⟩) (Nat.le_refl _) (.int .u64 F4)).setCell (p := ⟨w.heap.size, 6, none⟩) (Nat.le_refl _) (.int .i64 F5)
        have G : Hid _ := And.intro R1 R2
        clear R1 R2
        go_wp2
        clear s0 g0 s1 g1 s2 g2 s3 g3 s4 g4 s5 g5 s6 g6
        generalize (((((((w6).setCell ⟨w.heap.size, 0, none⟩ (.int .i64 o)).setCell ⟨w.heap.size, 1, none⟩ (.int .i64 F0)).setCell ⟨w.heap.size, 2, none⟩ (.int .i64 F1)).setCell ⟨w.heap.size, 3, none⟩ (.bool (F2 == 1))).setCell ⟨w.heap.size, 4, none⟩ (.int .i64 F3)).setCell ⟨w.heap.size, 5, none⟩ (.int .u64 F4)).setCell ⟨w.heap.size, 6, none⟩ (.int .i64 F5) = wf at *
        have r0 := ck_at G.out.1 0
        have r1 := ck_at G.out.1 1
        have r2 := ck_at G.out.1 2
        have r3 := ck_at G.out.1 3
        have r4 := ck_at G.out.1 4
        have r5 := ck_at G.out.1 5
        have r6 := ck_at G.out.1 6
        simp only [List.getElem?_cons_zero, List.getElem?_cons_succ] at r0 r1 r2 r3 r4 r5 r6
        refine bodyPost_ret (v := .tuple #[.agg #[.int .i64 o, .int .i64 F0, .int .i64 F1, .bool (F2 == 1), .int .i64 F3, .int .u64 F4, .int .i64 F5], .int .i64 0]) (by simp [results, Tryd.results17, go_sem, r0, r1, r2, r3, r4, r5, r6]) rfl ?_
        exact ⟨by rw [e2.out]; rfl, G.out.2⟩
      · rw [decide_eq_false he]
        have e2 : Hid (paR l = (cdbZ, 11)) := by show _ = _; rw [e1.out, if_neg he]
        clear he
        have s0 := ck_at (H5.out.1) 0
        have s1 := ck_at (H5.out.1) 1
        have s2 := ck_at (H5.out.1) 2
        have s3 := ck_at (H5.out.1) 3
        have s4 := ck_at (H5.out.1) 4
        have s5 := ck_at (H5.out.1) 5
        have s6 := ck_at (H5.out.1) 6
        have g0 := ck_fz (H5.out.1) 0
        have g1 := ck_fz (H5.out.1) 1
        have g2 := ck_fz (H5.out.1) 2
        have g3 := ck_fz (H5.out.1) 3
        have g4 := ck_fz (H5.out.1) 4
        have g5 := ck_fz (H5.out.1) 5
        have g6 := ck_fz (H5.out.1) 6
        simp only [List.getElem?_cons_zero, List.getElem?_cons_succ] at s0 s1 s2 s3 s4 s5 s6
        have R1 := (((((((H5.out.1).set 0 (.int .i64 0)).set 1 (.int .i64 0)).set 2 (.int .i64 0)).set 3 (.bool false)).set 4 (.int .i64 0)).set 5 (.int .u64 0)).set 6 (.int .i64 0)
        simp only [List.set_cons_zero, List.set_cons_succ] at R1
        have R2 := (((((((H5.out.2.1).setCell (p := ⟨w.heap.size, 0, none⟩) (Nat.le_refl _) (.int .i64 0)).setCell (p := ⟨w.heap.size, 1, none⟩) (Nat.le_refl _) (.int .i64 0)).setCell (p := ⟨w.heap.size, 2, none⟩) (Nat.le_refl _) (.int .i64 0)).setCell (p := ⟨w.heap.size, 3, none⟩) (Nat.le_refl _) (.bool false)).setCell (p := ⟨w.heap.size, 4, none⟩) (Nat.le_refl _) (.int .i64 0)).setCell (p := ⟨w.heap.size, 5, none⟩) (Nat.le_refl _) (.int .u64 0)).setCell (p := ⟨w.heap.size, 6, none⟩) (Nat.le_refl _) (.int .i64 0)
        have G : Hid _ := And.intro R1 R2
        clear R1 R2
        go_wp2
        clear s0 g0 s1 g1 s2 g2 s3 g3 s4 g4 s5 g5 s6 g6
        generalize (((((((w5).setCell ⟨w.heap.size, 0, none⟩ (.int .i64 0)).setCell ⟨w.heap.size, 1, none⟩ (.int .i64 0)).setCell ⟨w.heap.size, 2, none⟩ (.int .i64 0)).setCell ⟨w.heap.size, 3, none⟩ (.bool false)).setCell ⟨w.heap.size, 4, none⟩ (.int .i64 0)).setCell ⟨w.heap.size, 5, none⟩ (.int .u64 0)).setCell ⟨w.heap.size, 6, none⟩ (.int .i64 0) = wf at *
        have r0 := ck_at G.out.1 0
        have r1 := ck_at G.out.1 1
        have r2 := ck_at G.out.1 2
        have r3 := ck_at G.out.1 3
        have r4 := ck_at G.out.1 4
        have r5 := ck_at G.out.1 5
        have r6 := ck_at G.out.1 6
        simp only [List.getElem?_cons_zero, List.getElem?_cons_succ] at r0 r1 r2 r3 r4 r5 r6
        refine bodyPost_ret (v := .tuple #[.agg #[.int .i64 0, .int .i64 0, .int .i64 0, .bool false, .int .i64 0, .int .u64 0, .int .i64 0], .int .i64 11]) (by simp [results, Tryd.results17, go_sem, r0, r1, r2, r3, r4, r5, r6]) rfl ?_
        exact ⟨by rw [e2.out]; rfl, G.out.2⟩
  · have e1 : Hid (paR l = (cdbZ, 3)) := if_pos h16
    have d1 : ((l.length : Int) != 16) = true := by simpa using (by omega : ¬ (l.length : Int) = 16)
    have s0 := ck_at (H0.out.1) 0
    have s1 := ck_at (H0.out.1) 1
    have s2 := ck_at (H0.out.1) 2
    have s3 := ck_at (H0.out.1) 3
    have s4 := ck_at (H0.out.1) 4
    have s5 := ck_at (H0.out.1) 5
    have s6 := ck_at (H0.out.1) 6
    have g0 := ck_fz (H0.out.1) 0
    have g1 := ck_fz (H0.out.1) 1
    have g2 := ck_fz (H0.out.1) 2
    have g3 := ck_fz (H0.out.1) 3
    have g4 := ck_fz (H0.out.1) 4
    have g5 := ck_fz (H0.out.1) 5
    have g6 := ck_fz (H0.out.1) 6
    simp only [List.getElem?_cons_zero, List.getElem?_cons_succ] at s0 s1 s2 s3 s4 s5 s6
    have R1 := (((((((H0.out.1).set 0 (.int .i64 0)).set 1 (.int .i64 0)).set 2 (.int .i64 0)).set 3 (.bool false)).set 4 (.int .i64 0)).set 5 (.int .u64 0)).set 6 (.int .i64 0)
    simp only [List.set_cons_zero, List.set_cons_succ] at R1
    have R2 := (((((((H0.out.2).setCell (p := ⟨w.heap.size, 0, none⟩) (Nat.le_refl _) (.int .i64 0)).setCell (p := ⟨w.heap.size, 1, none⟩) (Nat.le_refl _) (.int .i64 0)).setCell (p := ⟨w.heap.size, 2, none⟩) (Nat.le_refl _) (.int .i64 0)).setCell (p := ⟨w.heap.size, 3, none⟩) (Nat.le_refl _) (.bool false)).setCell (p := ⟨w.heap.size, 4, none⟩) (Nat.le_refl _) (.int .i64 0)).setCell (p := ⟨w.heap.size, 5, none⟩) (Nat.le_refl _) (.int .u64 0)).setCell (p := ⟨w.heap.size, 6, none⟩) (Nat.le_refl _) (.int .i64 0)
    have G : Hid _ := And.intro R1 R2
    clear R1 R2
    clear h16
    go_enter Tryd.func17, Tryd.ntmps17
    go_upto_region 1 with fail
    rw [← hw0]
    clear hw0
    go_wp2
    clear s0 g0 s1 g1 s2 g2 s3 g3 s4 g4 s5 g5 s6 g6
    generalize (((((((w0).setCell ⟨w.heap.size, 0, none⟩ (.int .i64 0)).setCell ⟨w.heap.size, 1, none⟩ (.int .i64 0)).setCell ⟨w.heap.size, 2, none⟩ (.int .i64 0)).setCell ⟨w.heap.size, 3, none⟩ (.bool false)).setCell ⟨w.heap.size, 4, none⟩ (.int .i64 0)).setCell ⟨w.heap.size, 5, none⟩ (.int .u64 0)).setCell ⟨w.heap.size, 6, none⟩ (.int .i64 0) = wf at *
    have r0 := ck_at G.out.1 0
    have r1 := ck_at G.out.1 1
    have r2 := ck_at G.out.1 2
    have r3 := ck_at G.out.1 3
    have r4 := ck_at G.out.1 4
    have r5 := ck_at G.out.1 5
    have r6 := ck_at G.out.1 6
    simp only [List.getElem?_cons_zero, List.getElem?_cons_succ] at r0 r1 r2 r3 r4 r5 r6
    refine bodyPost_ret (v := .tuple #[.agg #[.int .i64 0, .int .i64 0, .int .i64 0, .bool false, .int .i64 0, .int .u64 0, .int .i64 0], .int .i64 3]) (by simp [results, Tryd.results17, go_sem, r0, r1, r2, r3, r4, r5, r6]) rfl ?_
    exact ⟨by rw [e1.out]; rfl, G.out.2⟩
end Go.Proofs.YtmoobfpmijdoaaaDoor

/- cdb: known. -/
namespace Go.Proofs.YtmoobfpmijdoaaaDoor
open Go.RowKit
set_option linter.unusedVariables false
set_option linter.unusedSimpArgs false
set_option maxRecDepth 4000

theorem ck_row {w : World} {g : Nat} {t : TypeId} {l : List (BitVec 8)} (h : Blk w g t (vals l)) : Row w (some ⟨g, 0, none⟩) l := by
  refine .inr ⟨g, 0, rfl, fun i hi => ?_⟩
  rw [Nat.zero_add, ck_at h i, vals_at l i hi]
theorem pa_1 : paR [40#8, 0#8, 0#8, 0#8, 0#8, 5#8, 0#8, 0#8, 2#8, 0#8, 0#8, 0#8, 0#8, 0#8, 0#8, 0#8] = ([.int .i64 40, .int .i64 0, .int .i64 0, .bool false, .int .i64 0, .int .u64 5, .int .i64 2], 0) := by kernel_rfl
theorem pa_2 : paR [40#8, 1#8, 0#8, 0#8, 0#8, 5#8, 0#8, 0#8, 2#8, 0#8, 0#8, 0#8, 0#8, 0#8, 0#8, 0#8] = ([.int .i64 0, .int .i64 0, .int .i64 0, .bool false, .int .i64 0, .int .u64 0, .int .i64 0], 11) := by kernel_rfl
set_option maxHeartbeats 400000 in
theorem times_1 (w : World) : Calls Tryd.prog 53 #[.int .i64 2, .int .i64 64] w fun e w' => e = .returned (.int .i64 128) ∧ w = w' := by
  go_enter Tryd.func53, Tryd.ntmps53
  go_wp2
  go_ret
  exact ⟨rfl, rfl⟩
set_option maxHeartbeats 400000 in
theorem in_1 (w : World) : Calls Tryd.prog 18 #[.agg #[.int .i64 40, .int .i64 0, .int .i64 0, .bool false, .int .i64 0, .int .u64 5, .int .i64 2]] w fun e w' => e = .returned (.int .i64 128) ∧ Below w.heap.size w w' := by
  have b1 : Below w.heap.size w (w.alloc (.cells #[.int .i64 40, .int .i64 0, .int .i64 0, .bool false, .int .i64 0, .int .u64 5, .int .i64 2] 35)) := (Below.refl _ _).alloc (Nat.le_refl _) _
  have B1 := Blk.new' w 35 [.int .i64 40, .int .i64 0, .int .i64 0, .bool false, .int .i64 0, .int .u64 5, .int .i64 2]
  have k0 := ck_at B1 0
  have k6 := ck_at B1 6
  simp only [List.getElem?_cons_zero, List.getElem?_cons_succ] at k0 k6
  have H1 : Hid _ := b1
  clear b1 B1
  go_enter Tryd.func18, Tryd.ntmps18
  go_wp2_with fail
  refine (Calls.mono (times_1 _)) ?_
  rintro e _ ⟨rfl, rfl⟩
  clear k0 k6
  go_wp2
  go_ret
  exact ⟨rfl, H1.out⟩
set_option maxHeartbeats 1000000 in
theorem known15_any (w : World) (hT : TblAt w) : Calls Tryd.prog 15 #[] w fun e w' => e = .returned (.bool true) ∧ Below w.heap.size w w' := by
  have BA := Blk.new' w 5 [.int .u8 40, .int .u8 0, .int .u8 0, .int .u8 0, .int .u8 0, .int .u8 5, .int .u8 0, .int .u8 0, .int .u8 2, .int .u8 0, .int .u8 0, .int .u8 0, .int .u8 0, .int .u8 0, .int .u8 0, .int .u8 0]
  have ba_ : Below w.heap.size w (w.alloc (.cells #[.int .u8 40, .int .u8 0, .int .u8 0, .int .u8 0, .int .u8 0, .int .u8 5, .int .u8 0, .int .u8 0, .int .u8 2, .int .u8 0, .int .u8 0, .int .u8 0, .int .u8 0, .int .u8 0, .int .u8 0, .int .u8 0] 5)) := (Below.refl _ _).alloc (Nat.le_refl _) _
  obtain ⟨w1, hw1⟩ : ∃ w1, w1 = w.alloc (.cells #[.int .u8 40, .int .u8 0, .int .u8 0, .int .u8 0, .int .u8 0, .int .u8 5, .int .u8 0, .int .u8 0, .int .u8 2, .int .u8 0, .int .u8 0, .int .u8 0, .int .u8 0, .int .u8 0, .int .u8 0, .int .u8 0] 5) := ⟨_, rfl⟩
  rw [← hw1] at BA ba_
  have HP0 := cParse_any (some ⟨w.heap.size, 0, none⟩) 16 [40#8, 0#8, 0#8, 0#8, 0#8, 5#8, 0#8, 0#8, 2#8, 0#8, 0#8, 0#8, 0#8, 0#8, 0#8, 0#8] w1 (hT.later ba_) (ck_row (l := [40#8, 0#8, 0#8, 0#8, 0#8, 5#8, 0#8, 0#8, 2#8, 0#8, 0#8, 0#8, 0#8, 0#8, 0#8, 0#8]) BA) (by decide)
  rw [pa_1] at HP0
  have HP : Hid _ := HP0
  have H1 : Hid _ := And.intro BA ba_
  have HT : Hid _ := hT
  clear HP0 BA ba_ hT
  go_enter Tryd.func15, Tryd.ntmps15
  go_upto_region 2 with fail
  rw [← hw1]
  clear hw1
  go_wp2_with fail
  refine (Calls.mono HP.out) ?_
  rintro e w2 ⟨rfl, b2_⟩
  have H2 : Hid _ := And.intro (H1.out.1.laterB b2_) (below_then H1.out.2 b2_)
  clear b2_ H1 HP
  have B3 := Blk.new' w2 35 [.int .i64 40, .int .i64 0, .int .i64 0, .bool false, .int .i64 0, .int .u64 5, .int .i64 2]
  have b3_ : Below w2.heap.size w2 (w2.alloc (.cells #[.int .i64 40, .int .i64 0, .int .i64 0, .bool false, .int .i64 0, .int .u64 5, .int .i64 2] 35)) := (Below.refl _ _).alloc (Nat.le_refl _) _
  obtain ⟨w3, hw3⟩ : ∃ w3, w3 = w2.alloc (.cells #[.int .i64 40, .int .i64 0, .int .i64 0, .bool false, .int .i64 0, .int .u64 5, .int .i64 2] 35) := ⟨_, rfl⟩
  rw [← hw3] at B3 b3_
  have BA3 := H2.out.1.laterB b3_
  have y1 := ck_at BA3 1
  have f1 := ck_fz BA3 1
  simp only [List.getElem?_cons_zero, List.getElem?_cons_succ] at y1
  have hne : w.heap.size ≠ w2.heap.size := by have := H2.out.1.lt; omega
  have BA4 := BA3.set 1 (.int .u8 1)
  simp only [List.set_cons_zero, List.set_cons_succ] at BA4
  have B4 := B3.grown (grown_set w3 w.heap.size 1 (.int .u8 1)) (by simpa using Ne.symm hne)
  have b4_ := (below_then H2.out.2 b3_).setCell (p := ⟨w.heap.size, 1, none⟩) (Nat.le_refl _) (.int .u8 1)
  obtain ⟨w4, hw4⟩ : ∃ w4, w4 = w3.setCell ⟨w.heap.size, 1, none⟩ (.int .u8 1) := ⟨_, rfl⟩
  rw [← hw4] at BA4 B4 b4_
  have HP0 := cParse_any (some ⟨w.heap.size, 0, none⟩) 16 [40#8, 1#8, 0#8, 0#8, 0#8, 5#8, 0#8, 0#8, 2#8, 0#8, 0#8, 0#8, 0#8, 0#8, 0#8, 0#8] w4 (TblAt.later HT.out b4_) (ck_row (l := [40#8, 1#8, 0#8, 0#8, 0#8, 5#8, 0#8, 0#8, 2#8, 0#8, 0#8, 0#8, 0#8, 0#8, 0#8, 0#8]) BA4) (by decide)
  rw [pa_2] at HP0
  have HP : Hid _ := HP0
  obtain ⟨cb, hcb⟩ : ∃ g, g = w2.heap.size := ⟨_, rfl⟩
  rw [← hcb] at B4
  have H4 : Hid _ := And.intro B4 b4_
  clear HP0 BA3 BA4 B4 b4_ B3 b3_ hne H2 HT
  go_upto_region 3 with fail
  rw [← hw3, ← hcb]
  clear hw3 hcb
  go_upto_region 4 with fail
  rw [← hw4]
  clear hw4 y1 f1
  go_wp2_with fail
  refine (Calls.mono HP.out) ?_
  rintro e w5 ⟨rfl, b5_⟩
  have B5 := H4.out.1.laterB b5_
  have b6_ : Below w5.heap.size w5 (w5.alloc (.cells #[.int .i64 0, .int .i64 0, .int .i64 0, .bool false, .int .i64 0, .int .u64 0, .int .i64 0] 35)) := (Below.refl _ _).alloc (Nat.le_refl _) _
  have B6 := B5.laterB b6_
  have F6 : Hid _ := below_then (below_then H4.out.2 b5_) b6_
  obtain ⟨w6, hw6⟩ : ∃ w6, w6 = w5.alloc (.cells #[.int .i64 0, .int .i64 0, .int .i64 0, .bool false, .int .i64 0, .int .u64 0, .int .i64 0] 35) := ⟨_, rfl⟩
  rw [← hw6] at B6 F6
  have k0 := ck_at B6 0
  have k1 := ck_at B6 1
  have k2 := ck_at B6 2
  have k3 := ck_at B6 3
  have k4 := ck_at B6 4
  have k5 := ck_at B6 5
  have k6 := ck_at B6 6
  simp only [List.getElem?_cons_zero, List.getElem?_cons_succ] at k0 k1 k2 k3 k4 k5 k6
  clear B5 b5_ b6_ B6 H4 HP
  go_upto_region 5 with fail
  rw [← hw6]
  clear hw6
  go_wp2_with fail
  refine (Calls.mono (in_1 w6)) ?_
  rintro e w7 ⟨rfl, b7_⟩
  have F : Hid _ := below_then F6.out b7_
  clear b7_ F6 k0 k1 k2 k3 k4 k5 k6
  go_wp2
  go_ret
  exact ⟨rfl, F.out⟩
end Go.Proofs.YtmoobfpmijdoaaaDoor
