/- cdb: a place's takes, a command's values. -/
import Derived.Test.YtmoobfpmijdoaaaDoorXCd7
namespace Go.Proofs.YtmoobfpmijdoaaaDoor
open Go.RowKit
set_option linter.unusedVariables false
set_option linter.unusedSimpArgs false
set_option maxRecDepth 4000

/-- a number goes into a place's bits -/
def tkB (b : Int) (m : BitVec 64) : Bool := decide (m.toNat ≤ (onesB b).toNat)
theorem tkB_fits {a b : Int} {m : BitVec 64} (h : PlOk a b) (h0 : b ≠ 0) (ht : tkB b m = true) : fitsB (szB b) m = true := by
  unfold tkB at ht
  rw [decide_eq_true_eq] at ht
  have hm := m.isLt
  unfold fitsB
  rw [decide_eq_true_eq]
  apply Nat.div_eq_of_lt
  have h1 : m.toNat ≤ (onesB b).toNat := by omega
  rcases h.bits with rfl | rfl | rfl | rfl | rfl | rfl | rfl | rfl
  · exact absurd rfl h0
  all_goals (refine Nat.lt_of_le_of_lt h1 ?_; decide)
theorem n64_wrap (s : Int) : IntKind.u64.wrap s = ((BitVec.ofInt 64 s).toNat : Int) := by
  rw [BitVec.toNat_ofInt]
  have h := Int.emod_nonneg s (b := ((2 ^ 64 : Nat) : Int)) (by decide)
  rw [Int.toNat_of_nonneg h]
  rfl
set_option maxHeartbeats 400000 in
theorem cTakes_any (a b : Int) (m : BitVec 64) (w : World) (h : BitsOk b) :
    Calls Tryd.prog 48 #[.agg #[.int .u8 a, .int .u8 b], .int .u64 (m.toNat : Int)] w fun e w' => e = .returned (.bool (tkB b m)) ∧ Below w.heap.size w w' := by
  have b1 : Below w.heap.size w (w.alloc (.cells #[.int .u8 a, .int .u8 b] 78)) := (Below.refl _ _).alloc (Nat.le_refl _) _
  have B1 := Blk.new' w 78 [.int .u8 a, .int .u8 b]
  obtain ⟨w1, hw1⟩ : ∃ w1, w1 = w.alloc (.cells #[.int .u8 a, .int .u8 b] 78) := ⟨_, rfl⟩
  rw [← hw1] at b1 B1
  have k0 := ck_at B1 0
  have k1 := ck_at B1 1
  simp only [List.getElem?_cons_zero, List.getElem?_cons_succ] at k0 k1
  have H1 : Hid _ := And.intro b1 B1
  have HO : Hid _ := cOnes_any a b w1 h
  clear b1 B1 h
  have HE : Hid (tkB b m = decide (m.toNat ≤ (onesB b).toNat)) := rfl
  generalize tkB b m = tb at *
  generalize onesB b = ob at *
  go_enter Tryd.func48, Tryd.ntmps48
  go_upto_region 1 with fail
  rw [← hw1]
  clear hw1
  go_wp2_with fail
  refine (Calls.mono HO.out) ?_
  rintro e w2 ⟨rfl, b2⟩
  have H2 : Hid _ := below_then H1.out.1 b2
  clear b2 k0 k1 HO H1
  go_wp2
  go_ret
  exact ⟨by rw [HE.out]; rfl, H2.out⟩

/-- what a command's fields say -/
def valB (s p : Int) (v : Bool) (t : Int) (lb : BitVec 64) (n : Int) : List (BitVec 64) := [BitVec.ofInt 64 s, BitVec.ofInt 64 p, if v then 1#64 else 0#64, BitVec.ofInt 64 t, lb, BitVec.ofInt 64 n]
set_option maxHeartbeats 2000000 in
theorem cValues_any (o s p : Int) (v : Bool) (t : Int) (lb : BitVec 64) (n : Int) (w : World) :
    Calls Tryd.prog 46 #[.agg #[.int .i64 o, .int .i64 s, .int .i64 p, .bool v, .int .i64 t, .int .u64 (lb.toNat : Int), .int .i64 n]] w fun e w' => e = .returned (.agg #[.int .u64 ((BitVec.ofInt 64 s).toNat : Int), .int .u64 ((BitVec.ofInt 64 p).toNat : Int), .int .u64 ((if v then 1#64 else 0#64).toNat : Int), .int .u64 ((BitVec.ofInt 64 t).toNat : Int), .int .u64 (lb.toNat : Int), .int .u64 ((BitVec.ofInt 64 n).toNat : Int)]) ∧ Below w.heap.size w w' := by
  have B0 := Blk.new' w 35 [.int .i64 o, .int .i64 s, .int .i64 p, .bool v, .int .i64 t, .int .u64 (lb.toNat : Int), .int .i64 n]
  have b0_ : Below w.heap.size w (w.alloc (.cells #[.int .i64 o, .int .i64 s, .int .i64 p, .bool v, .int .i64 t, .int .u64 (lb.toNat : Int), .int .i64 n] 35)) := (Below.refl _ _).alloc (Nat.le_refl _) _
  obtain ⟨w0, hw0⟩ : ∃ w0, w0 = w.alloc (.cells #[.int .i64 o, .int .i64 s, .int .i64 p, .bool v, .int .i64 t, .int .u64 (lb.toNat : Int), .int .i64 n] 35) := ⟨_, rfl⟩
  have z0 : w0.heap.size = w.heap.size + 1 := by rw [hw0]; simp
  rw [← hw0] at B0 b0_
  have B1 := Blk.new' w0 84 [.int .u64 0, .int .u64 0, .int .u64 0, .int .u64 0, .int .u64 0, .int .u64 0]
  have b1_ : Below w0.heap.size w0 (w0.alloc (.cells #[.int .u64 0, .int .u64 0, .int .u64 0, .int .u64 0, .int .u64 0, .int .u64 0] 84)) := (Below.refl _ _).alloc (Nat.le_refl _) _
  obtain ⟨w1, hw1⟩ : ∃ w1, w1 = w0.alloc (.cells #[.int .u64 0, .int .u64 0, .int .u64 0, .int .u64 0, .int .u64 0, .int .u64 0] 84) := ⟨_, rfl⟩
  have z1 : w1.heap.size = w.heap.size + 2 := by rw [hw1]; simp [z0]
  rw [← hw1] at B1 b1_
  rw [z0] at B1
  have v0 := n64_wrap s
  have v1 := n64_wrap p
  have v3 := n64_wrap t
  have v5 := n64_wrap n
  generalize ((BitVec.ofInt 64 s).toNat : Int) = M0 at *
  generalize ((BitVec.ofInt 64 p).toNat : Int) = M1 at *
  generalize ((BitVec.ofInt 64 t).toNat : Int) = M3 at *
  generalize ((BitVec.ofInt 64 n).toNat : Int) = M5 at *
  generalize (lb.toNat : Int) = L4 at *
  have B2 := Blk.new' w1 84 [.int .u64 M0, .int .u64 M1, .int .u64 0, .int .u64 M3, .int .u64 L4, .int .u64 M5]
  have b2_ : Below w1.heap.size w1 (w1.alloc (.cells #[.int .u64 M0, .int .u64 M1, .int .u64 0, .int .u64 M3, .int .u64 L4, .int .u64 M5] 84)) := (Below.refl _ _).alloc (Nat.le_refl _) _
  obtain ⟨w2, hw2⟩ : ∃ w2, w2 = w1.alloc (.cells #[.int .u64 M0, .int .u64 M1, .int .u64 0, .int .u64 M3, .int .u64 L4, .int .u64 M5] 84) := ⟨_, rfl⟩
  rw [← hw2] at B2 b2_
  rw [z1] at B2
  have S1 : Hid _ := And.intro (below_then b0_ (below_then b1_ b2_)) (And.intro (B1.laterB b2_) B2)
  have B0' := B0.laterB b1_
  have y0 := ck_at B0' 0
  have y1 := ck_at B0' 1
  have y2 := ck_at B0' 2
  have y3 := ck_at B0' 3
  have y4 := ck_at B0' 4
  have y5 := ck_at B0' 5
  have y6 := ck_at B0' 6
  have q3 := ck_at (B0'.laterB b2_) 3
  simp only [List.getElem?_cons_zero, List.getElem?_cons_succ] at q3 y0 y1 y2 y3 y4 y5 y6
  clear B0 b0_ B1 b1_ B2 b2_ B0' z0 
  go_enter Tryd.func46, Tryd.ntmps46
  go_upto_region 1 with fail
  rw [← hw0, ← hw1]
  clear hw0 hw1
  go_upto_region 2 with fail
  rw [← hw2]
  clear hw2 y0 y1 y2 y3 y4 y5 y6
  have HV : Hid _ := z1
  clear z1
  cases v with
  | false =>
    have X2 := S1.out
    have c0 := ck_at X2.2.2 0
    have c1 := ck_at X2.2.2 1
    have c2 := ck_at X2.2.2 2
    have c3 := ck_at X2.2.2 3
    have c4 := ck_at X2.2.2 4
    have c5 := ck_at X2.2.2 5
    have rz0 := ck_at X2.2.1 0
    have rz1 := ck_at X2.2.1 1
    have rz2 := ck_at X2.2.1 2
    have rz3 := ck_at X2.2.1 3
    have rz4 := ck_at X2.2.1 4
    have rz5 := ck_at X2.2.1 5
    have rf0 := ck_fz X2.2.1 0
    have rf1 := ck_fz X2.2.1 1
    have rf2 := ck_fz X2.2.1 2
    have rf3 := ck_fz X2.2.1 3
    have rf4 := ck_fz X2.2.1 4
    have rf5 := ck_fz X2.2.1 5
    simp only [List.getElem?_cons_zero, List.getElem?_cons_succ] at c0 rz0 c1 rz1 c2 rz2 c3 rz3 c4 rz4 c5 rz5
    have R1 := ((((((X2.2.1).set 0 (.int .u64 M0)).set 1 (.int .u64 M1)).set 2 (.int .u64 0)).set 3 (.int .u64 M3)).set 4 (.int .u64 L4)).set 5 (.int .u64 M5)
    simp only [List.set_cons_zero, List.set_cons_succ] at R1
    have R2 := ((((((X2.1).setCell (p := ⟨w.heap.size + 1, 0, none⟩) (show w.heap.size ≤ w.heap.size + 1 by omega) (.int .u64 M0)).setCell (p := ⟨w.heap.size + 1, 1, none⟩) (show w.heap.size ≤ w.heap.size + 1 by omega) (.int .u64 M1)).setCell (p := ⟨w.heap.size + 1, 2, none⟩) (show w.heap.size ≤ w.heap.size + 1 by omega) (.int .u64 0)).setCell (p := ⟨w.heap.size + 1, 3, none⟩) (show w.heap.size ≤ w.heap.size + 1 by omega) (.int .u64 M3)).setCell (p := ⟨w.heap.size + 1, 4, none⟩) (show w.heap.size ≤ w.heap.size + 1 by omega) (.int .u64 L4)).setCell (p := ⟨w.heap.size + 1, 5, none⟩) (show w.heap.size ≤ w.heap.size + 1 by omega) (.int .u64 M5)
    have G : Hid _ := And.intro R1 R2
    clear R1 R2 X2
    go_wp2
    clear c0 rz0 rf0 c1 rz1 rf1 c2 rz2 rf2 c3 rz3 rf3 c4 rz4 rf4 c5 rz5 rf5
    generalize ((((((w2).setCell ⟨w.heap.size + 1, 0, none⟩ (.int .u64 M0)).setCell ⟨w.heap.size + 1, 1, none⟩ (.int .u64 M1)).setCell ⟨w.heap.size + 1, 2, none⟩ (.int .u64 0)).setCell ⟨w.heap.size + 1, 3, none⟩ (.int .u64 M3)).setCell ⟨w.heap.size + 1, 4, none⟩ (.int .u64 L4)).setCell ⟨w.heap.size + 1, 5, none⟩ (.int .u64 M5) = wf at *
    have r0 := ck_at G.out.1 0
    have r1 := ck_at G.out.1 1
    have r2 := ck_at G.out.1 2
    have r3 := ck_at G.out.1 3
    have r4 := ck_at G.out.1 4
    have r5 := ck_at G.out.1 5
    simp only [List.getElem?_cons_zero, List.getElem?_cons_succ] at r0 r1 r2 r3 r4 r5
    refine bodyPost_ret (v := .agg #[.int .u64 M0, .int .u64 M1, .int .u64 0, .int .u64 M3, .int .u64 L4, .int .u64 M5]) (by simp [results, Tryd.results46, go_sem, r0, r1, r2, r3, r4, r5]) rfl ?_
    exact ⟨rfl, G.out.2⟩
  | true =>
    have d2 := ck_at S1.out.2.2 2
    have g2 := ck_fz S1.out.2.2 2
    simp only [List.getElem?_cons_zero, List.getElem?_cons_succ] at d2
    have X2 : Below w.heap.size w (w2.setCell ⟨w.heap.size + 2, 2, none⟩ (.int .u64 1)) ∧ Blk (w2.setCell ⟨w.heap.size + 2, 2, none⟩ (.int .u64 1)) (w.heap.size + 1) 84 [.int .u64 0, .int .u64 0, .int .u64 0, .int .u64 0, .int .u64 0, .int .u64 0] ∧ Blk (w2.setCell ⟨w.heap.size + 2, 2, none⟩ (.int .u64 1)) (w.heap.size + 2) 84 [.int .u64 M0, .int .u64 M1, .int .u64 1, .int .u64 M3, .int .u64 L4, .int .u64 M5] := ⟨S1.out.1.setCell (show w.heap.size ≤ w.heap.size + 2 by omega) _, S1.out.2.1.grown (grown_set _ _ _ _) (by simp), by have h := S1.out.2.2.set 2 (.int .u64 1); exact h⟩
    obtain ⟨w3, hw3⟩ : ∃ w3, w3 = w2.setCell ⟨w.heap.size + 2, 2, none⟩ (.int .u64 1) := ⟨_, rfl⟩
    rw [← hw3] at X2
    have X3 : Hid _ := X2
    clear X2
    go_upto_region 4 with fail
    rw [← hw3]
    clear hw3 d2 g2 q3
    have X2 := X3.out
    clear X3
    have c0 := ck_at X2.2.2 0
    have c1 := ck_at X2.2.2 1
    have c2 := ck_at X2.2.2 2
    have c3 := ck_at X2.2.2 3
    have c4 := ck_at X2.2.2 4
    have c5 := ck_at X2.2.2 5
    have rz0 := ck_at X2.2.1 0
    have rz1 := ck_at X2.2.1 1
    have rz2 := ck_at X2.2.1 2
    have rz3 := ck_at X2.2.1 3
    have rz4 := ck_at X2.2.1 4
    have rz5 := ck_at X2.2.1 5
    have rf0 := ck_fz X2.2.1 0
    have rf1 := ck_fz X2.2.1 1
    have rf2 := ck_fz X2.2.1 2
    have rf3 := ck_fz X2.2.1 3
    have rf4 := ck_fz X2.2.1 4
    have rf5 := ck_fz X2.2.1 5
    simp only [List.getElem?_cons_zero, List.getElem?_cons_succ] at c0 rz0 c1 rz1 c2 rz2 c3 rz3 c4 rz4 c5 rz5
    have R1 := ((((((X2.2.1).set 0 (.int .u64 M0)).set 1 (.int .u64 M1)).set 2 (.int .u64 1)).set 3 (.int .u64 M3)).set 4 (.int .u64 L4)).set 5 (.int .u64 M5)
    simp only [List.set_cons_zero, List.set_cons_succ] at R1
    have R2 := ((((((X2.1).setCell (p := ⟨w.heap.size + 1, 0, none⟩) (show w.heap.size ≤ w.heap.size + 1 by omega) (.int .u64 M0)).setCell (p := ⟨w.heap.size + 1, 1, none⟩) (show w.heap.size ≤ w.heap.size + 1 by omega) (.int .u64 M1)).setCell (p := ⟨w.heap.size + 1, 2, none⟩) (show w.heap.size ≤ w.heap.size + 1 by omega) (.int .u64 1)).setCell (p := ⟨w.heap.size + 1, 3, none⟩) (show w.heap.size ≤ w.heap.size + 1 by omega) (.int .u64 M3)).setCell (p := ⟨w.heap.size + 1, 4, none⟩) (show w.heap.size ≤ w.heap.size + 1 by omega) (.int .u64 L4)).setCell (p := ⟨w.heap.size + 1, 5, none⟩) (show w.heap.size ≤ w.heap.size + 1 by omega) (.int .u64 M5)
    have G : Hid _ := And.intro R1 R2
    clear R1 R2 X2
    go_wp2
    clear c0 rz0 rf0 c1 rz1 rf1 c2 rz2 rf2 c3 rz3 rf3 c4 rz4 rf4 c5 rz5 rf5
    generalize ((((((w3).setCell ⟨w.heap.size + 1, 0, none⟩ (.int .u64 M0)).setCell ⟨w.heap.size + 1, 1, none⟩ (.int .u64 M1)).setCell ⟨w.heap.size + 1, 2, none⟩ (.int .u64 1)).setCell ⟨w.heap.size + 1, 3, none⟩ (.int .u64 M3)).setCell ⟨w.heap.size + 1, 4, none⟩ (.int .u64 L4)).setCell ⟨w.heap.size + 1, 5, none⟩ (.int .u64 M5) = wf at *
    have r0 := ck_at G.out.1 0
    have r1 := ck_at G.out.1 1
    have r2 := ck_at G.out.1 2
    have r3 := ck_at G.out.1 3
    have r4 := ck_at G.out.1 4
    have r5 := ck_at G.out.1 5
    simp only [List.getElem?_cons_zero, List.getElem?_cons_succ] at r0 r1 r2 r3 r4 r5
    refine bodyPost_ret (v := .agg #[.int .u64 M0, .int .u64 M1, .int .u64 1, .int .u64 M3, .int .u64 L4, .int .u64 M5]) (by simp [results, Tryd.results46, go_sem, r0, r1, r2, r3, r4, r5]) rfl ?_
    exact ⟨rfl, G.out.2⟩
end Go.Proofs.YtmoobfpmijdoaaaDoor

/- cdb: Build. -/
namespace Go.Proofs.YtmoobfpmijdoaaaDoor
open Go.RowKit
set_option linter.unusedVariables false
set_option linter.unusedSimpArgs false
set_option maxRecDepth 4000

/-- a field goes into its place -/
def vOk (p : Int × Int) (m : BitVec 64) : Bool := decide (p.2 = 0) || tkB p.2 m
/-- a field without a place says nothing -/
def zOk (p : Int × Int) (m : BitVec 64) : Bool := decide (p.2 ≠ 0) || !((m.toNat : Int) != 0)
def buQ (op : Int) (vs : List (BitVec 64)) : Option (List (BitVec 8)) × Int := match findR op with
  | none => (none, 1)
  | some r => if (r.ps.zip vs).all (fun q => vOk q.1 q.2) then (if (r.ps.zip vs).all (fun q => zOk q.1 q.2) then (some (wrF r.o (r.ps.zip vs) 6), 0) else (none, 11)) else (none, 3)
/-- what Build answers -/
def buR (op sv pv : Int) (vv : Bool) (tv : Int) (lb : BitVec 64) (nv : Int) : Option (List (BitVec 8)) × Int := buQ op (valB sv pv vv tv lb nv)
def BuAns (w w' : World) (z : Value) : Option (List (BitVec 8)) → Prop
  | none => z = .slice none 0 0
  | some l => Own w' w.heap.size z l
theorem take_step {α : Type} {P : α → Prop} {l : List α} {j : Nat} {q : α} (hq : l[j]? = some q) (h : ∀ x ∈ l.take j, P x) (h' : P q) : ∀ x ∈ l.take (j + 1), P x := by
  intro x hx
  rw [List.take_add_one, hq, List.mem_append] at hx
  rcases hx with hx | hx
  · exact h x hx
  · simp at hx; rw [hx]; exact h'
structure BuS (w W : World) (rb vb : Nat) (cr cv : List Value) : Prop where
  below : Below w.heap.size w W
  r : Blk W rb 81 cr
  v : Blk W vb 84 cv
theorem BuS.later {w W W' : World} {rb vb : Nat} {cr cv : List Value} (h : BuS w W rb vb cr cv) (b : Below W.heap.size W W') : BuS w W' rb vb cr cv := ⟨below_then h.below b, h.r.laterB b, h.v.laterB b⟩
set_option maxHeartbeats 8000000 in
theorem cBuild_any (op sv pv : Int) (vv : Bool) (tv : Int) (lb : BitVec 64) (nv : Int) (w : World) (hT : TblAt w) :
    Calls Tryd.prog 16 #[.agg #[.int .i64 op, .int .i64 sv, .int .i64 pv, .bool vv, .int .i64 tv, .int .u64 (lb.toNat : Int), .int .i64 nv]] w fun e w' => ∃ z, e = .returned (.tuple #[z, .int .i64 (buR op sv pv vv tv lb nv).2]) ∧ BuAns w w' z (buR op sv pv vv tv lb nv).1 ∧ Below w.heap.size w w' := by
  have B0 := Blk.new' w 35 [.int .i64 op, .int .i64 sv, .int .i64 pv, .bool vv, .int .i64 tv, .int .u64 (lb.toNat : Int), .int .i64 nv]
  have b0_ : Below w.heap.size w (w.alloc (.cells #[.int .i64 op, .int .i64 sv, .int .i64 pv, .bool vv, .int .i64 tv, .int .u64 (lb.toNat : Int), .int .i64 nv] 35)) := (Below.refl _ _).alloc (Nat.le_refl _) _
  obtain ⟨w0, hw0⟩ : ∃ w0, w0 = w.alloc (.cells #[.int .i64 op, .int .i64 sv, .int .i64 pv, .bool vv, .int .i64 tv, .int .u64 (lb.toNat : Int), .int .i64 nv] 35) := ⟨_, rfl⟩
  rw [← hw0] at B0 b0_
  have H0 : Hid (Blk w0 w.heap.size 35 [.int .i64 op, .int .i64 sv, .int .i64 pv, .bool vv, .int .i64 tv, .int .u64 (lb.toNat : Int), .int .i64 nv] ∧ Below w.heap.size w w0) := ⟨B0, b0_⟩
  have y0 := ck_at B0 0
  have y1 := ck_at B0 1
  have y2 := ck_at B0 2
  have y3 := ck_at B0 3
  have y4 := ck_at B0 4
  have y5 := ck_at B0 5
  have y6 := ck_at B0 6
  simp only [List.getElem?_cons_zero, List.getElem?_cons_succ] at y0 y1 y2 y3 y4 y5 y6
  have HF : Hid _ := find_any op w0 (hT.later b0_)
  have HOp : Hid (∀ r, findR op = some r → RowOk r ∧ r.o = op) := fun r h => findR_ok h
  clear B0 b0_ hT
  go_enter Tryd.func16, Tryd.ntmps16
  go_upto_region 1 with fail
  rw [← hw0]
  clear hw0
  go_wp2_with fail
  refine (Calls.mono HF.out) ?_
  rintro e w1 ⟨rfl, b1_⟩
  have H1 : Hid (Blk w1 w.heap.size 35 [.int .i64 op, .int .i64 sv, .int .i64 pv, .bool vv, .int .i64 tv, .int .u64 (lb.toNat : Int), .int .i64 nv] ∧ Below w.heap.size w w1) := ⟨H0.out.1.laterB b1_, below_then H0.out.2 b1_⟩
  clear b1_ HF H0 y0 y1 y2 y3 y4 y5 y6
  cases hfr : findR op with
  | none =>
    have e1 : Hid (buR op sv pv vv tv lb nv = (none, 1)) := by show _ = _; unfold buR buQ; rw [hfr]
    have b2_ : Below w1.heap.size w1 (w1.alloc (.cells #[.int .u8 0, .int .u8 0, .int .u8 0, .int .u8 0, .int .u8 0, .int .u8 0, .int .u8 0, .int .u8 0, .int .u8 0, .int .u8 0, .int .u8 0, .int .u8 0, .int .u8 0] 81)) := (Below.refl _ _).alloc (Nat.le_refl _) _
    obtain ⟨w2, hw2⟩ : ∃ w2, w2 = w1.alloc (.cells #[.int .u8 0, .int .u8 0, .int .u8 0, .int .u8 0, .int .u8 0, .int .u8 0, .int .u8 0, .int .u8 0, .int .u8 0, .int .u8 0, .int .u8 0, .int .u8 0, .int .u8 0] 81) := ⟨_, rfl⟩
    rw [← hw2] at b2_
    have H2 : Hid (Below w.heap.size w w2) := below_then H1.out.2 b2_
    clear b2_ H1 hfr
    rw [show ((none : Option CR).getD ⟨0, [(0, 0), (0, 0), (0, 0), (0, 0), (0, 0), (0, 0)]⟩).cells.toArray = #[.int .u8 0, .int .u8 0, .int .u8 0, .int .u8 0, .int .u8 0, .int .u8 0, .int .u8 0, .int .u8 0, .int .u8 0, .int .u8 0, .int .u8 0, .int .u8 0, .int .u8 0] from rfl, show (none : Option CR).isSome = false from rfl]
    go_upto_region 2 with fail
    rw [← hw2]
    clear hw2
    go_wp2
    refine bodyPost_ret (v := .tuple #[.slice none 0 0, .int .i64 1]) (by first | rfl | simp [results, Tryd.results16, go_sem]) rfl ?_
    exact ⟨.slice none 0 0, by rw [e1.out], by rw [e1.out]; exact rfl, H2.out⟩
  | some r =>
    obtain ⟨hok, hop⟩ := HOp.out r hfr
    obtain ⟨o, a0, b0, a1, b1, a2, b2, a3, b3, a4, b4, a5, b5, rfl, ho, p0, p1, p2, p3, p4, p5, q0, q1, q3, q5⟩ := hok.six
    have e1 : Hid (buR op sv pv vv tv lb nv = if ([((a0, b0), BitVec.ofInt 64 sv), ((a1, b1), BitVec.ofInt 64 pv), ((a2, b2), (if vv then 1#64 else 0#64)), ((a3, b3), BitVec.ofInt 64 tv), ((a4, b4), lb), ((a5, b5), BitVec.ofInt 64 nv)]).all (fun q => vOk q.1 q.2) then (if ([((a0, b0), BitVec.ofInt 64 sv), ((a1, b1), BitVec.ofInt 64 pv), ((a2, b2), (if vv then 1#64 else 0#64)), ((a3, b3), BitVec.ofInt 64 tv), ((a4, b4), lb), ((a5, b5), BitVec.ofInt 64 nv)]).all (fun q => zOk q.1 q.2) then (some (wrF o [((a0, b0), BitVec.ofInt 64 sv), ((a1, b1), BitVec.ofInt 64 pv), ((a2, b2), (if vv then 1#64 else 0#64)), ((a3, b3), BitVec.ofInt 64 tv), ((a4, b4), lb), ((a5, b5), BitVec.ofInt 64 nv)] 6), 0) else (none, 11)) else (none, 3)) := by show _ = _; unfold buR buQ; rw [hfr]; rfl
    clear hok hop hfr HOp q0 q1 q3 q5
    have HV : Hid (∀ X, _) := fun X => cValues_any op sv pv vv tv lb nv X
    generalize BitVec.ofInt 64 sv = m0 at e1 HV
    generalize BitVec.ofInt 64 pv = m1 at e1 HV
    generalize (if vv then 1#64 else 0#64) = m2 at e1 HV
    generalize BitVec.ofInt 64 tv = m3 at e1 HV
    generalize BitVec.ofInt 64 nv = m5 at e1 HV
    obtain ⟨QA, hQA⟩ : ∃ QA, QA = [((a0, b0), m0), ((a1, b1), m1), ((a2, b2), m2), ((a3, b3), m3), ((a4, b4), lb), ((a5, b5), m5)] := ⟨_, rfl⟩
    rw [← hQA] at e1
    have J0 : Hid (QA[0]? = some ((a0, b0), m0)) := by show _ = _; rw [hQA]; rfl
    have J1 : Hid (QA[1]? = some ((a1, b1), m1)) := by show _ = _; rw [hQA]; rfl
    have J2 : Hid (QA[2]? = some ((a2, b2), m2)) := by show _ = _; rw [hQA]; rfl
    have J3 : Hid (QA[3]? = some ((a3, b3), m3)) := by show _ = _; rw [hQA]; rfl
    have J4 : Hid (QA[4]? = some ((a4, b4), lb)) := by show _ = _; rw [hQA]; rfl
    have J5 : Hid (QA[5]? = some ((a5, b5), m5)) := by show _ = _; rw [hQA]; rfl
    have JL : Hid (QA.take 6 = QA) := by show _ = _; rw [hQA]; rfl
    have HQ : Hid _ := hQA
    clear hQA
    have EB : Hid (∀ q, q ∈ QA → vOk q.1 q.2 = false → buR op sv pv vv tv lb nv = (none, 3)) := by
      intro q hq hv
      rw [e1.out, if_neg]
      intro h
      have h2 := List.all_eq_true.1 h q hq
      rw [hv] at h2
      cases h2
    have EZ : Hid ((∀ q ∈ QA.take 6, vOk q.1 q.2 = true) → ∀ q, q ∈ QA → zOk q.1 q.2 = false → buR op sv pv vv tv lb nv = (none, 11)) := by
      intro hg q hq hv
      rw [JL.out] at hg
      rw [e1.out, if_pos (List.all_eq_true.2 hg), if_neg]
      intro h
      have h2 := List.all_eq_true.1 h q hq
      rw [hv] at h2
      cases h2
    have EO : Hid ((∀ q ∈ QA.take 6, vOk q.1 q.2 = true) → (∀ q ∈ QA.take 6, zOk q.1 q.2 = true) → buR op sv pv vv tv lb nv = (some (wrF o QA 6), 0)) := by
      intro hg hz
      rw [JL.out] at hg hz
      rw [e1.out, if_pos (List.all_eq_true.2 hg), if_pos (List.all_eq_true.2 hz)]
    clear e1
    rw [show ((some (⟨o, [(a0, b0), (a1, b1), (a2, b2), (a3, b3), (a4, b4), (a5, b5)]⟩ : CR)).getD ⟨0, [(0, 0), (0, 0), (0, 0), (0, 0), (0, 0), (0, 0)]⟩).cells.toArray = #[.int .u8 o, .int .u8 a0, .int .u8 b0, .int .u8 a1, .int .u8 b1, .int .u8 a2, .int .u8 b2, .int .u8 a3, .int .u8 b3, .int .u8 a4, .int .u8 b4, .int .u8 a5, .int .u8 b5] from rfl, show (some (⟨o, [(a0, b0), (a1, b1), (a2, b2), (a3, b3), (a4, b4), (a5, b5)]⟩ : CR)).isSome = true from rfl]
    have B2 := Blk.new' w1 81 [.int .u8 o, .int .u8 a0, .int .u8 b0, .int .u8 a1, .int .u8 b1, .int .u8 a2, .int .u8 b2, .int .u8 a3, .int .u8 b3, .int .u8 a4, .int .u8 b4, .int .u8 a5, .int .u8 b5]
    have b2_ : Below w1.heap.size w1 (w1.alloc (.cells #[.int .u8 o, .int .u8 a0, .int .u8 b0, .int .u8 a1, .int .u8 b1, .int .u8 a2, .int .u8 b2, .int .u8 a3, .int .u8 b3, .int .u8 a4, .int .u8 b4, .int .u8 a5, .int .u8 b5] 81)) := (Below.refl _ _).alloc (Nat.le_refl _) _
    obtain ⟨w2, hw2⟩ : ∃ w2, w2 = w1.alloc (.cells #[.int .u8 o, .int .u8 a0, .int .u8 b0, .int .u8 a1, .int .u8 b1, .int .u8 a2, .int .u8 b2, .int .u8 a3, .int .u8 b3, .int .u8 a4, .int .u8 b4, .int .u8 a5, .int .u8 b5] 81) := ⟨_, rfl⟩
    rw [← hw2] at B2 b2_
    obtain ⟨rb, hrb⟩ : ∃ g, g = w1.heap.size := ⟨_, rfl⟩
    rw [← hrb] at B2
    have H2 : Hid (Blk w2 w.heap.size 35 [.int .i64 op, .int .i64 sv, .int .i64 pv, .bool vv, .int .i64 tv, .int .u64 (lb.toNat : Int), .int .i64 nv] ∧ Below w.heap.size w w2 ∧ Blk w2 rb 81 [.int .u8 o, .int .u8 a0, .int .u8 b0, .int .u8 a1, .int .u8 b1, .int .u8 a2, .int .u8 b2, .int .u8 a3, .int .u8 b3, .int .u8 a4, .int .u8 b4, .int .u8 a5, .int .u8 b5]) := ⟨H1.out.1.laterB b2_, below_then H1.out.2 b2_, B2⟩
    clear b2_ H1 B2
    have y0 := ck_at H2.out.1 0
    have y1 := ck_at H2.out.1 1
    have y2 := ck_at H2.out.1 2
    have y3 := ck_at H2.out.1 3
    have y4 := ck_at H2.out.1 4
    have y5 := ck_at H2.out.1 5
    have y6 := ck_at H2.out.1 6
    simp only [List.getElem?_cons_zero, List.getElem?_cons_succ] at y0 y1 y2 y3 y4 y5 y6
    go_upto_region 2 with fail
    rw [← hw2, ← hrb]
    clear hw2 hrb
    go_wp2_with fail
    clear y0 y1 y2 y3 y4 y5 y6
    refine (Calls.mono (HV.out w2)) ?_
    rintro e w3 ⟨rfl, b3_⟩
    clear HV
    have B4 := Blk.new' w3 84 [.int .u64 (m0.toNat : Int), .int .u64 (m1.toNat : Int), .int .u64 (m2.toNat : Int), .int .u64 (m3.toNat : Int), .int .u64 (lb.toNat : Int), .int .u64 (m5.toNat : Int)]
    have b4_ : Below w3.heap.size w3 (w3.alloc (.cells #[.int .u64 (m0.toNat : Int), .int .u64 (m1.toNat : Int), .int .u64 (m2.toNat : Int), .int .u64 (m3.toNat : Int), .int .u64 (lb.toNat : Int), .int .u64 (m5.toNat : Int)] 84)) := (Below.refl _ _).alloc (Nat.le_refl _) _
    obtain ⟨w4, hw4⟩ : ∃ w4, w4 = w3.alloc (.cells #[.int .u64 (m0.toNat : Int), .int .u64 (m1.toNat : Int), .int .u64 (m2.toNat : Int), .int .u64 (m3.toNat : Int), .int .u64 (lb.toNat : Int), .int .u64 (m5.toNat : Int)] 84) := ⟨_, rfl⟩
    rw [← hw4] at B4 b4_
    obtain ⟨vb, hvb⟩ : ∃ g, g = w3.heap.size := ⟨_, rfl⟩
    rw [← hvb] at B4
    have S4 : Hid (BuS w w4 rb vb [.int .u8 o, .int .u8 a0, .int .u8 b0, .int .u8 a1, .int .u8 b1, .int .u8 a2, .int .u8 b2, .int .u8 a3, .int .u8 b3, .int .u8 a4, .int .u8 b4, .int .u8 a5, .int .u8 b5] [.int .u64 (m0.toNat : Int), .int .u64 (m1.toNat : Int), .int .u64 (m2.toNat : Int), .int .u64 (m3.toNat : Int), .int .u64 (lb.toNat : Int), .int .u64 (m5.toNat : Int)]) := ⟨below_then H2.out.2.1 (below_then b3_ b4_), H2.out.2.2.laterB (below_then b3_ b4_), B4⟩
    clear b3_ b4_ H2 B4
    have y0 := ck_at S4.out.r 0
    have y1 := ck_at S4.out.r 1
    have y2 := ck_at S4.out.r 2
    have y3 := ck_at S4.out.r 3
    have y4 := ck_at S4.out.r 4
    have y5 := ck_at S4.out.r 5
    have y6 := ck_at S4.out.r 6
    have y7 := ck_at S4.out.r 7
    have y8 := ck_at S4.out.r 8
    have y9 := ck_at S4.out.r 9
    have y10 := ck_at S4.out.r 10
    have y11 := ck_at S4.out.r 11
    have y12 := ck_at S4.out.r 12
    simp only [List.getElem?_cons_zero, List.getElem?_cons_succ] at y0 y1 y2 y3 y4 y5 y6 y7 y8 y9 y10 y11 y12
    go_upto_region 5 with fail
    rw [← hw4, ← hvb]
    clear hw4 hvb
    go_wp2_with fail
    clear y0 y1 y2 y3 y4 y5 y6 y7 y8 y9 y10 y11 y12
    have PF0 : Hid _ := p0
    have PF1 : Hid _ := p1
    have PF2 : Hid _ := p2
    have PF3 : Hid _ := p3
    have PF4 : Hid _ := p4
    have PF5 : Hid _ := p5
    clear p0 p1 p2 p3 p4 p5
    have HO : Hid _ := ho
    clear ho
    go_loopw [23] (fun iv wr => ∃ k : Nat, k ≤ 6 ∧ iv = .int .i64 k ∧ BuS w wr rb vb [.int .u8 o, .int .u8 a0, .int .u8 b0, .int .u8 a1, .int .u8 b1, .int .u8 a2, .int .u8 b2, .int .u8 a3, .int .u8 b3, .int .u8 a4, .int .u8 b4, .int .u8 a5, .int .u8 b5] [.int .u64 (m0.toNat : Int), .int .u64 (m1.toNat : Int), .int .u64 (m2.toNat : Int), .int .u64 (m3.toNat : Int), .int .u64 (lb.toNat : Int), .int .u64 (m5.toNat : Int)] ∧ (∀ q ∈ QA.take k, vOk q.1 q.2 = true)) (fun iv _ => 6 - (intOf iv).toNat)
    case atStart => exact ⟨0, by omega, rfl, S4.out, by simp⟩
    case round =>
      clear S4
      obtain ⟨k, hk, rfl, hS, hP⟩ := hrel
      have hk' : k = 0 ∨ k = 1 ∨ k = 2 ∨ k = 3 ∨ k = 4 ∨ k = 5 ∨ k = 6 := by omega
      rcases hk' with rfl | rfl | rfl | rfl | rfl | rfl | rfl
      · have hix : ∀ X : World, (Instr.index 79 (.agg #[.int .u8 a0, .int .u8 b0, .int .u8 a1, .int .u8 b1, .int .u8 a2, .int .u8 b2, .int .u8 a3, .int .u8 b3, .int .u8 a4, .int .u8 b4, .int .u8 a5, .int .u8 b5]) (.int .i64 0)).run Tryd.prog X = .ok (.agg #[.int .u8 a0, .int .u8 b0]) X := fun _ => by first | rfl | kernel_rfl
        have B3 := Blk.new' wr 78 [.int .u8 a0, .int .u8 b0]
        have b3_ : Below wr.heap.size wr (wr.alloc (.cells #[.int .u8 a0, .int .u8 b0] 78)) := (Below.refl _ _).alloc (Nat.le_refl _) _
        obtain ⟨w5, hw5⟩ : ∃ w5, w5 = wr.alloc (.cells #[.int .u8 a0, .int .u8 b0] 78) := ⟨_, rfl⟩
        rw [← hw5] at B3 b3_
        have S5 : Hid _ := And.intro (hS.later b3_) B3
        have HP : Hid _ := hP
        clear hS hP B3 b3_
        go_upto_region 8 with fail
        rw [← hw5]
        clear hw5 hix
        by_cases hb : b0 = 0
        · have HTh : Hid (∀ X : World, Calls Tryd.prog 47 #[.agg #[.int .u8 a0, .int .u8 b0]] X fun e w' => e = .returned (.bool false) ∧ Below X.heap.size X w') := fun X => by have h := cThere_any a0 b0 X; rw [decide_eq_false (by omega)] at h; exact h
          have F : Hid (∀ X, Below w5.heap.size w5 X → BuS w X rb vb [.int .u8 o, .int .u8 a0, .int .u8 b0, .int .u8 a1, .int .u8 b1, .int .u8 a2, .int .u8 b2, .int .u8 a3, .int .u8 b3, .int .u8 a4, .int .u8 b4, .int .u8 a5, .int .u8 b5] [.int .u64 (m0.toNat : Int), .int .u64 (m1.toNat : Int), .int .u64 (m2.toNat : Int), .int .u64 (m3.toNat : Int), .int .u64 (lb.toNat : Int), .int .u64 (m5.toNat : Int)] ∧ (∀ q ∈ QA.take 1, vOk q.1 q.2 = true)) := fun X bX => ⟨S5.out.1.later bX, take_step J0.out HP.out (by show (decide (b0 = 0) || _) = true; rw [decide_eq_true hb]; rfl)⟩
          clear hb
          refine wp_region_held_drew (S := fun W => Below w5.heap.size w5 W) (by kernel_rfl) ((Below.refl _ _).drew) (fun hS => ?_)
          have B0 : Below w5.heap.size w5 w5.drew := ((Below.refl _ _).drew)
          refine any_take (i := 0) (v := ?_) rfl (by kernel_rfl) (by kernel_rfl) (by kernel_rfl) (by exact fun _ _ _ h => h) (by rfl) ?_ hS ?_
          rotate_left
          · ((intro w hSw; have c0 := ck_later (show w5.cell? ⟨wr.heap.size, 0, none⟩ = _ from ck_at S5.out.2 0) hSw; have c1 := ck_later (show w5.cell? ⟨wr.heap.size, 1, none⟩ = _ from ck_at S5.out.2 1) hSw; have c2 := ck_later (show w5.cell? ⟨vb, 0, none⟩ = some (.int .u64 (m0.toNat : Int)) from ck_at S5.out.1.v 0) hSw; go_simp) <;> with_reducible rfl)
          (try simp only [Act.put, List.setIfInBounds_toArray, List.set_cons_zero, List.set_cons_succ])
          refine any_one (i := 1) rfl (by kernel_rfl) (fun K hK => ?_)
          go_simp
          refine (Calls.mono (HTh.out _)) ?_
          rintro e x1 ⟨rfl, hbR⟩
          have B1 : Below w5.heap.size w5 x1 := below_then B0 hbR
          go_wp2_with fail
          refine hK.out _ _ (by first | exact B1 | exact hbR | exact below_then hS hbR) (any_weaken (S' := fun W => Below x1.heap.size x1 W) (fun W hW => by first | exact below_then B1 hW | exact below_then hbR hW | exact below_then (below_then hS hbR) hW) _ _ _ _ ?_)
          clear hK K hS hbR
          have hS : Below x1.heap.size x1 x1 := Below.refl _ _
          refine any_take (i := 2) (v := ?_) rfl (by kernel_rfl) (by kernel_rfl) (by kernel_rfl) (by exact fun _ _ _ h => h) (by rfl) ?_ hS ?_
          rotate_left
          · ((intro w hSw; (try dsimp only at hSw); go_simp) <;> with_reducible rfl)
          (try simp only [Act.put, List.setIfInBounds_toArray, List.set_cons_zero, List.set_cons_succ])
          refine any_skip (i := 3) rfl (by kernel_rfl) (by kernel_rfl) (by kernel_rfl) (by exact fun _ _ _ h => h) (by rfl) hS ?_
          (try simp only [Act.put, List.setIfInBounds_toArray, List.set_cons_zero, List.set_cons_succ])
          refine any_skip (i := 4) rfl (by kernel_rfl) (by kernel_rfl) (by kernel_rfl) (by exact fun _ _ _ h => h) (by rfl) hS ?_
          (try simp only [Act.put, List.setIfInBounds_toArray, List.set_cons_zero, List.set_cons_succ])
          refine any_skip (i := 5) rfl (by kernel_rfl) (by kernel_rfl) (by kernel_rfl) (by exact fun _ _ _ h => h) (by rfl) hS ?_
          (try simp only [Act.put, List.setIfInBounds_toArray, List.set_cons_zero, List.set_cons_succ])
          refine any_skip (i := 6) rfl (by kernel_rfl) (by kernel_rfl) (by kernel_rfl) (by exact fun _ _ _ h => h) (by rfl) hS ?_
          (try simp only [Act.put, List.setIfInBounds_toArray, List.set_cons_zero, List.set_cons_succ])
          refine any_skip (i := 7) rfl (by kernel_rfl) (by kernel_rfl) (by kernel_rfl) (by exact fun _ _ _ h => h) (by rfl) hS ?_
          (try simp only [Act.put, List.setIfInBounds_toArray, List.set_cons_zero, List.set_cons_succ])
          refine any_skip (i := 8) rfl (by kernel_rfl) (by kernel_rfl) (by kernel_rfl) (by exact fun _ _ _ h => h) (by rfl) hS ?_
          (try simp only [Act.put, List.setIfInBounds_toArray, List.set_cons_zero, List.set_cons_succ])
          refine any_take (i := 9) (v := ?_) rfl (by kernel_rfl) (by kernel_rfl) (by kernel_rfl) (by exact fun _ _ _ h => h) (by rfl) ?_ hS ?_
          rotate_left
          · ((intro w hSw; (try dsimp only at hSw); go_simp) <;> with_reducible rfl)
          (try simp only [Act.put, List.setIfInBounds_toArray, List.set_cons_zero, List.set_cons_succ])
          refine wpAnyH_done (by kernel_rfl) ?_ _
          have F2 : Hid _ := F.out _ B1
          clear F hS B0 B1 S5 HP HTh
          go_wp2
          go_roundw
          case rel => exact ⟨1, by omega, rfl, F2.out.1, F2.out.2⟩
          case measure => simp [intOf]
        · have HTh : Hid (∀ X : World, Calls Tryd.prog 47 #[.agg #[.int .u8 a0, .int .u8 b0]] X fun e w' => e = .returned (.bool true) ∧ Below X.heap.size X w') := fun X => by have h := cThere_any a0 b0 X; rw [decide_eq_true (by have := PF0.out.size; omega)] at h; exact h
          have HTk : Hid (∀ X, _) := fun X => cTakes_any a0 b0 m0 X PF0.out.bits
          have F : Hid (tkB b0 m0 = true → ∀ X, Below w5.heap.size w5 X → BuS w X rb vb [.int .u8 o, .int .u8 a0, .int .u8 b0, .int .u8 a1, .int .u8 b1, .int .u8 a2, .int .u8 b2, .int .u8 a3, .int .u8 b3, .int .u8 a4, .int .u8 b4, .int .u8 a5, .int .u8 b5] [.int .u64 (m0.toNat : Int), .int .u64 (m1.toNat : Int), .int .u64 (m2.toNat : Int), .int .u64 (m3.toNat : Int), .int .u64 (lb.toNat : Int), .int .u64 (m5.toNat : Int)] ∧ (∀ q ∈ QA.take 1, vOk q.1 q.2 = true)) := fun ht X bX => ⟨S5.out.1.later bX, take_step J0.out HP.out (by show (_ || tkB b0 m0) = true; rw [ht, Bool.or_true])⟩
          have N : Hid (tkB b0 m0 = false → ∀ X, Below w5.heap.size w5 X → buR op sv pv vv tv lb nv = (none, 3) ∧ Below w.heap.size w X) := fun ht X bX => ⟨EB.out _ (List.mem_of_getElem? J0.out) (by show (decide (b0 = 0) || tkB b0 m0) = false; rw [ht, decide_eq_false hb]; rfl), (S5.out.1.later bX).below⟩
          clear hb
          generalize htk : tkB b0 m0 = tk at F N HTk
          clear htk
          refine wp_region_held_drew (S := fun W => Below w5.heap.size w5 W) (by kernel_rfl) ((Below.refl _ _).drew) (fun hS => ?_)
          have B0 : Below w5.heap.size w5 w5.drew := ((Below.refl _ _).drew)
          refine any_take (i := 0) (v := ?_) rfl (by kernel_rfl) (by kernel_rfl) (by kernel_rfl) (by exact fun _ _ _ h => h) (by rfl) ?_ hS ?_
          rotate_left
          · ((intro w hSw; have c0 := ck_later (show w5.cell? ⟨wr.heap.size, 0, none⟩ = _ from ck_at S5.out.2 0) hSw; have c1 := ck_later (show w5.cell? ⟨wr.heap.size, 1, none⟩ = _ from ck_at S5.out.2 1) hSw; have c2 := ck_later (show w5.cell? ⟨vb, 0, none⟩ = some (.int .u64 (m0.toNat : Int)) from ck_at S5.out.1.v 0) hSw; go_simp) <;> with_reducible rfl)
          (try simp only [Act.put, List.setIfInBounds_toArray, List.set_cons_zero, List.set_cons_succ])
          refine any_one (i := 1) rfl (by kernel_rfl) (fun K hK => ?_)
          go_simp
          refine (Calls.mono (HTh.out _)) ?_
          rintro e x1 ⟨rfl, hbR⟩
          have B1 : Below w5.heap.size w5 x1 := below_then B0 hbR
          go_wp2_with fail
          refine hK.out _ _ (by first | exact B1 | exact hbR | exact below_then hS hbR) (any_weaken (S' := fun W => Below x1.heap.size x1 W) (fun W hW => by first | exact below_then B1 hW | exact below_then hbR hW | exact below_then (below_then hS hbR) hW) _ _ _ _ ?_)
          clear hK K hS hbR
          have hS : Below x1.heap.size x1 x1 := Below.refl _ _
          refine any_take (i := 2) (v := ?_) rfl (by kernel_rfl) (by kernel_rfl) (by kernel_rfl) (by exact fun _ _ _ h => h) (by rfl) ?_ hS ?_
          rotate_left
          · ((intro w hSw; (try dsimp only at hSw); go_simp) <;> with_reducible rfl)
          (try simp only [Act.put, List.setIfInBounds_toArray, List.set_cons_zero, List.set_cons_succ])
          refine any_take (i := 3) (v := ?_) rfl (by kernel_rfl) (by kernel_rfl) (by kernel_rfl) (by exact fun _ _ _ h => h) (by rfl) ?_ hS ?_
          rotate_left
          · ((intro w hSw; have c0 := ck_later (show w5.cell? ⟨wr.heap.size, 0, none⟩ = _ from ck_at S5.out.2 0) (below_then B1 hSw); have c1 := ck_later (show w5.cell? ⟨wr.heap.size, 1, none⟩ = _ from ck_at S5.out.2 1) (below_then B1 hSw); have c2 := ck_later (show w5.cell? ⟨vb, 0, none⟩ = some (.int .u64 (m0.toNat : Int)) from ck_at S5.out.1.v 0) (below_then B1 hSw); go_simp) <;> with_reducible rfl)
          (try simp only [Act.put, List.setIfInBounds_toArray, List.set_cons_zero, List.set_cons_succ])
          refine any_take (i := 4) (v := ?_) rfl (by kernel_rfl) (by kernel_rfl) (by kernel_rfl) (by exact fun _ _ _ h => h) (by rfl) ?_ hS ?_
          rotate_left
          · ((intro w hSw; have c0 := ck_later (show w5.cell? ⟨wr.heap.size, 0, none⟩ = _ from ck_at S5.out.2 0) (below_then B1 hSw); have c1 := ck_later (show w5.cell? ⟨wr.heap.size, 1, none⟩ = _ from ck_at S5.out.2 1) (below_then B1 hSw); have c2 := ck_later (show w5.cell? ⟨vb, 0, none⟩ = some (.int .u64 (m0.toNat : Int)) from ck_at S5.out.1.v 0) (below_then B1 hSw); go_simp) <;> with_reducible rfl)
          (try simp only [Act.put, List.setIfInBounds_toArray, List.set_cons_zero, List.set_cons_succ])
          refine any_take (i := 5) (v := ?_) rfl (by kernel_rfl) (by kernel_rfl) (by kernel_rfl) (by exact fun _ _ _ h => h) (by rfl) ?_ hS ?_
          rotate_left
          · ((intro w hSw; have c0 := ck_later (show w5.cell? ⟨wr.heap.size, 0, none⟩ = _ from ck_at S5.out.2 0) (below_then B1 hSw); have c1 := ck_later (show w5.cell? ⟨wr.heap.size, 1, none⟩ = _ from ck_at S5.out.2 1) (below_then B1 hSw); have c2 := ck_later (show w5.cell? ⟨vb, 0, none⟩ = some (.int .u64 (m0.toNat : Int)) from ck_at S5.out.1.v 0) (below_then B1 hSw); go_simp) <;> with_reducible rfl)
          (try simp only [Act.put, List.setIfInBounds_toArray, List.set_cons_zero, List.set_cons_succ])
          refine any_take (i := 6) (v := ?_) rfl (by kernel_rfl) (by kernel_rfl) (by kernel_rfl) (by exact fun _ _ _ h => h) (by rfl) ?_ hS ?_
          rotate_left
          · ((intro w hSw; have c0 := ck_later (show w5.cell? ⟨wr.heap.size, 0, none⟩ = _ from ck_at S5.out.2 0) (below_then B1 hSw); have c1 := ck_later (show w5.cell? ⟨wr.heap.size, 1, none⟩ = _ from ck_at S5.out.2 1) (below_then B1 hSw); have c2 := ck_later (show w5.cell? ⟨vb, 0, none⟩ = some (.int .u64 (m0.toNat : Int)) from ck_at S5.out.1.v 0) (below_then B1 hSw); go_simp) <;> with_reducible rfl)
          (try simp only [Act.put, List.setIfInBounds_toArray, List.set_cons_zero, List.set_cons_succ])
          refine any_one (i := 7) rfl (by kernel_rfl) (fun K hK => ?_)
          go_simp
          refine (Calls.mono (HTk.out _)) ?_
          rintro e x2 ⟨rfl, hbR⟩
          have B2 : Below w5.heap.size w5 x2 := below_then B1 hbR
          go_wp2_with fail
          refine hK.out _ _ (by first | exact B2 | exact hbR | exact below_then hS hbR) (any_weaken (S' := fun W => Below x2.heap.size x2 W) (fun W hW => by first | exact below_then B2 hW | exact below_then hbR hW | exact below_then (below_then hS hbR) hW) _ _ _ _ ?_)
          clear hK K hS hbR
          have hS : Below x2.heap.size x2 x2 := Below.refl _ _
          refine any_take (i := 8) (v := ?_) rfl (by kernel_rfl) (by kernel_rfl) (by kernel_rfl) (by exact fun _ _ _ h => h) (by rfl) ?_ hS ?_
          rotate_left
          · ((intro w hSw; (try dsimp only at hSw); go_simp) <;> with_reducible rfl)
          (try simp only [Act.put, List.setIfInBounds_toArray, List.set_cons_zero, List.set_cons_succ])
          refine any_take (i := 9) (v := ?_) rfl (by kernel_rfl) (by kernel_rfl) (by kernel_rfl) (by exact fun _ _ _ h => h) (by rfl) ?_ hS ?_
          rotate_left
          · ((intro w hSw; (try dsimp only at hSw); go_simp) <;> with_reducible rfl)
          (try simp only [Act.put, List.setIfInBounds_toArray, List.set_cons_zero, List.set_cons_succ])
          refine wpAnyH_done (by kernel_rfl) ?_ _
          cases tk with
          | true =>
            have F2 : Hid _ := F.out rfl _ B2
            clear F N hS B0 B1 B2 S5 HP HTh HTk
            go_wp2
            go_roundw
            case rel => exact ⟨1, by omega, rfl, F2.out.1, F2.out.2⟩
            case measure => simp [intOf]
          | false =>
            have F2 : Hid _ := N.out rfl _ B2
            clear F N hS B0 B1 B2 S5 HP HTh HTk
            go_wp2
            refine bodyPost_ret (v := .tuple #[.slice none 0 0, .int .i64 3]) (by first | rfl | simp [results, Tryd.results16, go_sem]) rfl ?_
            exact ⟨.slice none 0 0, by rw [F2.out.1], by rw [F2.out.1]; exact rfl, F2.out.2⟩
      · have hix : ∀ X : World, (Instr.index 79 (.agg #[.int .u8 a0, .int .u8 b0, .int .u8 a1, .int .u8 b1, .int .u8 a2, .int .u8 b2, .int .u8 a3, .int .u8 b3, .int .u8 a4, .int .u8 b4, .int .u8 a5, .int .u8 b5]) (.int .i64 1)).run Tryd.prog X = .ok (.agg #[.int .u8 a1, .int .u8 b1]) X := fun _ => by first | rfl | kernel_rfl
        have B3 := Blk.new' wr 78 [.int .u8 a1, .int .u8 b1]
        have b3_ : Below wr.heap.size wr (wr.alloc (.cells #[.int .u8 a1, .int .u8 b1] 78)) := (Below.refl _ _).alloc (Nat.le_refl _) _
        obtain ⟨w5, hw5⟩ : ∃ w5, w5 = wr.alloc (.cells #[.int .u8 a1, .int .u8 b1] 78) := ⟨_, rfl⟩
        rw [← hw5] at B3 b3_
        have S5 : Hid _ := And.intro (hS.later b3_) B3
        have HP : Hid _ := hP
        clear hS hP B3 b3_
        go_upto_region 8 with fail
        rw [← hw5]
        clear hw5 hix
        by_cases hb : b1 = 0
        · have HTh : Hid (∀ X : World, Calls Tryd.prog 47 #[.agg #[.int .u8 a1, .int .u8 b1]] X fun e w' => e = .returned (.bool false) ∧ Below X.heap.size X w') := fun X => by have h := cThere_any a1 b1 X; rw [decide_eq_false (by omega)] at h; exact h
          have F : Hid (∀ X, Below w5.heap.size w5 X → BuS w X rb vb [.int .u8 o, .int .u8 a0, .int .u8 b0, .int .u8 a1, .int .u8 b1, .int .u8 a2, .int .u8 b2, .int .u8 a3, .int .u8 b3, .int .u8 a4, .int .u8 b4, .int .u8 a5, .int .u8 b5] [.int .u64 (m0.toNat : Int), .int .u64 (m1.toNat : Int), .int .u64 (m2.toNat : Int), .int .u64 (m3.toNat : Int), .int .u64 (lb.toNat : Int), .int .u64 (m5.toNat : Int)] ∧ (∀ q ∈ QA.take 2, vOk q.1 q.2 = true)) := fun X bX => ⟨S5.out.1.later bX, take_step J1.out HP.out (by show (decide (b1 = 0) || _) = true; rw [decide_eq_true hb]; rfl)⟩
          clear hb
          refine wp_region_held_drew (S := fun W => Below w5.heap.size w5 W) (by kernel_rfl) ((Below.refl _ _).drew) (fun hS => ?_)
          have B0 : Below w5.heap.size w5 w5.drew := ((Below.refl _ _).drew)
          refine any_take (i := 0) (v := ?_) rfl (by kernel_rfl) (by kernel_rfl) (by kernel_rfl) (by exact fun _ _ _ h => h) (by rfl) ?_ hS ?_
          rotate_left
          · ((intro w hSw; have c0 := ck_later (show w5.cell? ⟨wr.heap.size, 0, none⟩ = _ from ck_at S5.out.2 0) hSw; have c1 := ck_later (show w5.cell? ⟨wr.heap.size, 1, none⟩ = _ from ck_at S5.out.2 1) hSw; have c2 := ck_later (show w5.cell? ⟨vb, 1, none⟩ = some (.int .u64 (m1.toNat : Int)) from ck_at S5.out.1.v 1) hSw; go_simp) <;> with_reducible rfl)
          (try simp only [Act.put, List.setIfInBounds_toArray, List.set_cons_zero, List.set_cons_succ])
          refine any_one (i := 1) rfl (by kernel_rfl) (fun K hK => ?_)
          go_simp
          refine (Calls.mono (HTh.out _)) ?_
          rintro e x1 ⟨rfl, hbR⟩
          have B1 : Below w5.heap.size w5 x1 := below_then B0 hbR
          go_wp2_with fail
          refine hK.out _ _ (by first | exact B1 | exact hbR | exact below_then hS hbR) (any_weaken (S' := fun W => Below x1.heap.size x1 W) (fun W hW => by first | exact below_then B1 hW | exact below_then hbR hW | exact below_then (below_then hS hbR) hW) _ _ _ _ ?_)
          clear hK K hS hbR
          have hS : Below x1.heap.size x1 x1 := Below.refl _ _
          refine any_take (i := 2) (v := ?_) rfl (by kernel_rfl) (by kernel_rfl) (by kernel_rfl) (by exact fun _ _ _ h => h) (by rfl) ?_ hS ?_
          rotate_left
          · ((intro w hSw; (try dsimp only at hSw); go_simp) <;> with_reducible rfl)
          (try simp only [Act.put, List.setIfInBounds_toArray, List.set_cons_zero, List.set_cons_succ])
          refine any_skip (i := 3) rfl (by kernel_rfl) (by kernel_rfl) (by kernel_rfl) (by exact fun _ _ _ h => h) (by rfl) hS ?_
          (try simp only [Act.put, List.setIfInBounds_toArray, List.set_cons_zero, List.set_cons_succ])
          refine any_skip (i := 4) rfl (by kernel_rfl) (by kernel_rfl) (by kernel_rfl) (by exact fun _ _ _ h => h) (by rfl) hS ?_
          (try simp only [Act.put, List.setIfInBounds_toArray, List.set_cons_zero, List.set_cons_succ])
          refine any_skip (i := 5) rfl (by kernel_rfl) (by kernel_rfl) (by kernel_rfl) (by exact fun _ _ _ h => h) (by rfl) hS ?_
          (try simp only [Act.put, List.setIfInBounds_toArray, List.set_cons_zero, List.set_cons_succ])
          refine any_skip (i := 6) rfl (by kernel_rfl) (by kernel_rfl) (by kernel_rfl) (by exact fun _ _ _ h => h) (by rfl) hS ?_
          (try simp only [Act.put, List.setIfInBounds_toArray, List.set_cons_zero, List.set_cons_succ])
          refine any_skip (i := 7) rfl (by kernel_rfl) (by kernel_rfl) (by kernel_rfl) (by exact fun _ _ _ h => h) (by rfl) hS ?_
          (try simp only [Act.put, List.setIfInBounds_toArray, List.set_cons_zero, List.set_cons_succ])
          refine any_skip (i := 8) rfl (by kernel_rfl) (by kernel_rfl) (by kernel_rfl) (by exact fun _ _ _ h => h) (by rfl) hS ?_
          (try simp only [Act.put, List.setIfInBounds_toArray, List.set_cons_zero, List.set_cons_succ])
          refine any_take (i := 9) (v := ?_) rfl (by kernel_rfl) (by kernel_rfl) (by kernel_rfl) (by exact fun _ _ _ h => h) (by rfl) ?_ hS ?_
          rotate_left
          · ((intro w hSw; (try dsimp only at hSw); go_simp) <;> with_reducible rfl)
          (try simp only [Act.put, List.setIfInBounds_toArray, List.set_cons_zero, List.set_cons_succ])
          refine wpAnyH_done (by kernel_rfl) ?_ _
          have F2 : Hid _ := F.out _ B1
          clear F hS B0 B1 S5 HP HTh
          go_wp2
          go_roundw
          case rel => exact ⟨2, by omega, rfl, F2.out.1, F2.out.2⟩
          case measure => simp [intOf]
        · have HTh : Hid (∀ X : World, Calls Tryd.prog 47 #[.agg #[.int .u8 a1, .int .u8 b1]] X fun e w' => e = .returned (.bool true) ∧ Below X.heap.size X w') := fun X => by have h := cThere_any a1 b1 X; rw [decide_eq_true (by have := PF1.out.size; omega)] at h; exact h
          have HTk : Hid (∀ X, _) := fun X => cTakes_any a1 b1 m1 X PF1.out.bits
          have F : Hid (tkB b1 m1 = true → ∀ X, Below w5.heap.size w5 X → BuS w X rb vb [.int .u8 o, .int .u8 a0, .int .u8 b0, .int .u8 a1, .int .u8 b1, .int .u8 a2, .int .u8 b2, .int .u8 a3, .int .u8 b3, .int .u8 a4, .int .u8 b4, .int .u8 a5, .int .u8 b5] [.int .u64 (m0.toNat : Int), .int .u64 (m1.toNat : Int), .int .u64 (m2.toNat : Int), .int .u64 (m3.toNat : Int), .int .u64 (lb.toNat : Int), .int .u64 (m5.toNat : Int)] ∧ (∀ q ∈ QA.take 2, vOk q.1 q.2 = true)) := fun ht X bX => ⟨S5.out.1.later bX, take_step J1.out HP.out (by show (_ || tkB b1 m1) = true; rw [ht, Bool.or_true])⟩
          have N : Hid (tkB b1 m1 = false → ∀ X, Below w5.heap.size w5 X → buR op sv pv vv tv lb nv = (none, 3) ∧ Below w.heap.size w X) := fun ht X bX => ⟨EB.out _ (List.mem_of_getElem? J1.out) (by show (decide (b1 = 0) || tkB b1 m1) = false; rw [ht, decide_eq_false hb]; rfl), (S5.out.1.later bX).below⟩
          clear hb
          generalize htk : tkB b1 m1 = tk at F N HTk
          clear htk
          refine wp_region_held_drew (S := fun W => Below w5.heap.size w5 W) (by kernel_rfl) ((Below.refl _ _).drew) (fun hS => ?_)
          have B0 : Below w5.heap.size w5 w5.drew := ((Below.refl _ _).drew)
          refine any_take (i := 0) (v := ?_) rfl (by kernel_rfl) (by kernel_rfl) (by kernel_rfl) (by exact fun _ _ _ h => h) (by rfl) ?_ hS ?_
          rotate_left
          · ((intro w hSw; have c0 := ck_later (show w5.cell? ⟨wr.heap.size, 0, none⟩ = _ from ck_at S5.out.2 0) hSw; have c1 := ck_later (show w5.cell? ⟨wr.heap.size, 1, none⟩ = _ from ck_at S5.out.2 1) hSw; have c2 := ck_later (show w5.cell? ⟨vb, 1, none⟩ = some (.int .u64 (m1.toNat : Int)) from ck_at S5.out.1.v 1) hSw; go_simp) <;> with_reducible rfl)
          (try simp only [Act.put, List.setIfInBounds_toArray, List.set_cons_zero, List.set_cons_succ])
          refine any_one (i := 1) rfl (by kernel_rfl) (fun K hK => ?_)
          go_simp
          refine (Calls.mono (HTh.out _)) ?_
          rintro e x1 ⟨rfl, hbR⟩
          have B1 : Below w5.heap.size w5 x1 := below_then B0 hbR
          go_wp2_with fail
          refine hK.out _ _ (by first | exact B1 | exact hbR | exact below_then hS hbR) (any_weaken (S' := fun W => Below x1.heap.size x1 W) (fun W hW => by first | exact below_then B1 hW | exact below_then hbR hW | exact below_then (below_then hS hbR) hW) _ _ _ _ ?_)
          clear hK K hS hbR
          have hS : Below x1.heap.size x1 x1 := Below.refl _ _
          refine any_take (i := 2) (v := ?_) rfl (by kernel_rfl) (by kernel_rfl) (by kernel_rfl) (by exact fun _ _ _ h => h) (by rfl) ?_ hS ?_
          rotate_left
          · ((intro w hSw; (try dsimp only at hSw); go_simp) <;> with_reducible rfl)
          (try simp only [Act.put, List.setIfInBounds_toArray, List.set_cons_zero, List.set_cons_succ])
          refine any_take (i := 3) (v := ?_) rfl (by kernel_rfl) (by kernel_rfl) (by kernel_rfl) (by exact fun _ _ _ h => h) (by rfl) ?_ hS ?_
          rotate_left
          · ((intro w hSw; have c0 := ck_later (show w5.cell? ⟨wr.heap.size, 0, none⟩ = _ from ck_at S5.out.2 0) (below_then B1 hSw); have c1 := ck_later (show w5.cell? ⟨wr.heap.size, 1, none⟩ = _ from ck_at S5.out.2 1) (below_then B1 hSw); have c2 := ck_later (show w5.cell? ⟨vb, 1, none⟩ = some (.int .u64 (m1.toNat : Int)) from ck_at S5.out.1.v 1) (below_then B1 hSw); go_simp) <;> with_reducible rfl)
          (try simp only [Act.put, List.setIfInBounds_toArray, List.set_cons_zero, List.set_cons_succ])
          refine any_take (i := 4) (v := ?_) rfl (by kernel_rfl) (by kernel_rfl) (by kernel_rfl) (by exact fun _ _ _ h => h) (by rfl) ?_ hS ?_
          rotate_left
          · ((intro w hSw; have c0 := ck_later (show w5.cell? ⟨wr.heap.size, 0, none⟩ = _ from ck_at S5.out.2 0) (below_then B1 hSw); have c1 := ck_later (show w5.cell? ⟨wr.heap.size, 1, none⟩ = _ from ck_at S5.out.2 1) (below_then B1 hSw); have c2 := ck_later (show w5.cell? ⟨vb, 1, none⟩ = some (.int .u64 (m1.toNat : Int)) from ck_at S5.out.1.v 1) (below_then B1 hSw); go_simp) <;> with_reducible rfl)
          (try simp only [Act.put, List.setIfInBounds_toArray, List.set_cons_zero, List.set_cons_succ])
          refine any_take (i := 5) (v := ?_) rfl (by kernel_rfl) (by kernel_rfl) (by kernel_rfl) (by exact fun _ _ _ h => h) (by rfl) ?_ hS ?_
          rotate_left
          · ((intro w hSw; have c0 := ck_later (show w5.cell? ⟨wr.heap.size, 0, none⟩ = _ from ck_at S5.out.2 0) (below_then B1 hSw); have c1 := ck_later (show w5.cell? ⟨wr.heap.size, 1, none⟩ = _ from ck_at S5.out.2 1) (below_then B1 hSw); have c2 := ck_later (show w5.cell? ⟨vb, 1, none⟩ = some (.int .u64 (m1.toNat : Int)) from ck_at S5.out.1.v 1) (below_then B1 hSw); go_simp) <;> with_reducible rfl)
          (try simp only [Act.put, List.setIfInBounds_toArray, List.set_cons_zero, List.set_cons_succ])
          refine any_take (i := 6) (v := ?_) rfl (by kernel_rfl) (by kernel_rfl) (by kernel_rfl) (by exact fun _ _ _ h => h) (by rfl) ?_ hS ?_
          rotate_left
          · ((intro w hSw; have c0 := ck_later (show w5.cell? ⟨wr.heap.size, 0, none⟩ = _ from ck_at S5.out.2 0) (below_then B1 hSw); have c1 := ck_later (show w5.cell? ⟨wr.heap.size, 1, none⟩ = _ from ck_at S5.out.2 1) (below_then B1 hSw); have c2 := ck_later (show w5.cell? ⟨vb, 1, none⟩ = some (.int .u64 (m1.toNat : Int)) from ck_at S5.out.1.v 1) (below_then B1 hSw); go_simp) <;> with_reducible rfl)
          (try simp only [Act.put, List.setIfInBounds_toArray, List.set_cons_zero, List.set_cons_succ])
          refine any_one (i := 7) rfl (by kernel_rfl) (fun K hK => ?_)
          go_simp
          refine (Calls.mono (HTk.out _)) ?_
          rintro e x2 ⟨rfl, hbR⟩
          have B2 : Below w5.heap.size w5 x2 := below_then B1 hbR
          go_wp2_with fail
          refine hK.out _ _ (by first | exact B2 | exact hbR | exact below_then hS hbR) (any_weaken (S' := fun W => Below x2.heap.size x2 W) (fun W hW => by first | exact below_then B2 hW | exact below_then hbR hW | exact below_then (below_then hS hbR) hW) _ _ _ _ ?_)
          clear hK K hS hbR
          have hS : Below x2.heap.size x2 x2 := Below.refl _ _
          refine any_take (i := 8) (v := ?_) rfl (by kernel_rfl) (by kernel_rfl) (by kernel_rfl) (by exact fun _ _ _ h => h) (by rfl) ?_ hS ?_
          rotate_left
          · ((intro w hSw; (try dsimp only at hSw); go_simp) <;> with_reducible rfl)
          (try simp only [Act.put, List.setIfInBounds_toArray, List.set_cons_zero, List.set_cons_succ])
          refine any_take (i := 9) (v := ?_) rfl (by kernel_rfl) (by kernel_rfl) (by kernel_rfl) (by exact fun _ _ _ h => h) (by rfl) ?_ hS ?_
          rotate_left
          · ((intro w hSw; (try dsimp only at hSw); go_simp) <;> with_reducible rfl)
          (try simp only [Act.put, List.setIfInBounds_toArray, List.set_cons_zero, List.set_cons_succ])
          refine wpAnyH_done (by kernel_rfl) ?_ _
          cases tk with
          | true =>
            have F2 : Hid _ := F.out rfl _ B2
            clear F N hS B0 B1 B2 S5 HP HTh HTk
            go_wp2
            go_roundw
            case rel => exact ⟨2, by omega, rfl, F2.out.1, F2.out.2⟩
            case measure => simp [intOf]
          | false =>
            have F2 : Hid _ := N.out rfl _ B2
            clear F N hS B0 B1 B2 S5 HP HTh HTk
            go_wp2
            refine bodyPost_ret (v := .tuple #[.slice none 0 0, .int .i64 3]) (by first | rfl | simp [results, Tryd.results16, go_sem]) rfl ?_
            exact ⟨.slice none 0 0, by rw [F2.out.1], by rw [F2.out.1]; exact rfl, F2.out.2⟩
      · have hix : ∀ X : World, (Instr.index 79 (.agg #[.int .u8 a0, .int .u8 b0, .int .u8 a1, .int .u8 b1, .int .u8 a2, .int .u8 b2, .int .u8 a3, .int .u8 b3, .int .u8 a4, .int .u8 b4, .int .u8 a5, .int .u8 b5]) (.int .i64 2)).run Tryd.prog X = .ok (.agg #[.int .u8 a2, .int .u8 b2]) X := fun _ => by first | rfl | kernel_rfl
        have B3 := Blk.new' wr 78 [.int .u8 a2, .int .u8 b2]
        have b3_ : Below wr.heap.size wr (wr.alloc (.cells #[.int .u8 a2, .int .u8 b2] 78)) := (Below.refl _ _).alloc (Nat.le_refl _) _
        obtain ⟨w5, hw5⟩ : ∃ w5, w5 = wr.alloc (.cells #[.int .u8 a2, .int .u8 b2] 78) := ⟨_, rfl⟩
        rw [← hw5] at B3 b3_
        have S5 : Hid _ := And.intro (hS.later b3_) B3
        have HP : Hid _ := hP
        clear hS hP B3 b3_
        go_upto_region 8 with fail
        rw [← hw5]
        clear hw5 hix
        by_cases hb : b2 = 0
        · have HTh : Hid (∀ X : World, Calls Tryd.prog 47 #[.agg #[.int .u8 a2, .int .u8 b2]] X fun e w' => e = .returned (.bool false) ∧ Below X.heap.size X w') := fun X => by have h := cThere_any a2 b2 X; rw [decide_eq_false (by omega)] at h; exact h
          have F : Hid (∀ X, Below w5.heap.size w5 X → BuS w X rb vb [.int .u8 o, .int .u8 a0, .int .u8 b0, .int .u8 a1, .int .u8 b1, .int .u8 a2, .int .u8 b2, .int .u8 a3, .int .u8 b3, .int .u8 a4, .int .u8 b4, .int .u8 a5, .int .u8 b5] [.int .u64 (m0.toNat : Int), .int .u64 (m1.toNat : Int), .int .u64 (m2.toNat : Int), .int .u64 (m3.toNat : Int), .int .u64 (lb.toNat : Int), .int .u64 (m5.toNat : Int)] ∧ (∀ q ∈ QA.take 3, vOk q.1 q.2 = true)) := fun X bX => ⟨S5.out.1.later bX, take_step J2.out HP.out (by show (decide (b2 = 0) || _) = true; rw [decide_eq_true hb]; rfl)⟩
          clear hb
          refine wp_region_held_drew (S := fun W => Below w5.heap.size w5 W) (by kernel_rfl) ((Below.refl _ _).drew) (fun hS => ?_)
          have B0 : Below w5.heap.size w5 w5.drew := ((Below.refl _ _).drew)
          refine any_take (i := 0) (v := ?_) rfl (by kernel_rfl) (by kernel_rfl) (by kernel_rfl) (by exact fun _ _ _ h => h) (by rfl) ?_ hS ?_
          rotate_left
          · ((intro w hSw; have c0 := ck_later (show w5.cell? ⟨wr.heap.size, 0, none⟩ = _ from ck_at S5.out.2 0) hSw; have c1 := ck_later (show w5.cell? ⟨wr.heap.size, 1, none⟩ = _ from ck_at S5.out.2 1) hSw; have c2 := ck_later (show w5.cell? ⟨vb, 2, none⟩ = some (.int .u64 (m2.toNat : Int)) from ck_at S5.out.1.v 2) hSw; go_simp) <;> with_reducible rfl)
          (try simp only [Act.put, List.setIfInBounds_toArray, List.set_cons_zero, List.set_cons_succ])
          refine any_one (i := 1) rfl (by kernel_rfl) (fun K hK => ?_)
          go_simp
          refine (Calls.mono (HTh.out _)) ?_
          rintro e x1 ⟨rfl, hbR⟩
          have B1 : Below w5.heap.size w5 x1 := below_then B0 hbR
          go_wp2_with fail
          refine hK.out _ _ (by first | exact B1 | exact hbR | exact below_then hS hbR) (any_weaken (S' := fun W => Below x1.heap.size x1 W) (fun W hW => by first | exact below_then B1 hW | exact below_then hbR hW | exact below_then (below_then hS hbR) hW) _ _ _ _ ?_)
          clear hK K hS hbR
          have hS : Below x1.heap.size x1 x1 := Below.refl _ _
          refine any_take (i := 2) (v := ?_) rfl (by kernel_rfl) (by kernel_rfl) (by kernel_rfl) (by exact fun _ _ _ h => h) (by rfl) ?_ hS ?_
          rotate_left
          · ((intro w hSw; (try dsimp only at hSw); go_simp) <;> with_reducible rfl)
          (try simp only [Act.put, List.setIfInBounds_toArray, List.set_cons_zero, List.set_cons_succ])
          refine any_skip (i := 3) rfl (by kernel_rfl) (by kernel_rfl) (by kernel_rfl) (by exact fun _ _ _ h => h) (by rfl) hS ?_
          (try simp only [Act.put, List.setIfInBounds_toArray, List.set_cons_zero, List.set_cons_succ])
          refine any_skip (i := 4) rfl (by kernel_rfl) (by kernel_rfl) (by kernel_rfl) (by exact fun _ _ _ h => h) (by rfl) hS ?_
          (try simp only [Act.put, List.setIfInBounds_toArray, List.set_cons_zero, List.set_cons_succ])
          refine any_skip (i := 5) rfl (by kernel_rfl) (by kernel_rfl) (by kernel_rfl) (by exact fun _ _ _ h => h) (by rfl) hS ?_
          (try simp only [Act.put, List.setIfInBounds_toArray, List.set_cons_zero, List.set_cons_succ])
          refine any_skip (i := 6) rfl (by kernel_rfl) (by kernel_rfl) (by kernel_rfl) (by exact fun _ _ _ h => h) (by rfl) hS ?_
          (try simp only [Act.put, List.setIfInBounds_toArray, List.set_cons_zero, List.set_cons_succ])
          refine any_skip (i := 7) rfl (by kernel_rfl) (by kernel_rfl) (by kernel_rfl) (by exact fun _ _ _ h => h) (by rfl) hS ?_
          (try simp only [Act.put, List.setIfInBounds_toArray, List.set_cons_zero, List.set_cons_succ])
          refine any_skip (i := 8) rfl (by kernel_rfl) (by kernel_rfl) (by kernel_rfl) (by exact fun _ _ _ h => h) (by rfl) hS ?_
          (try simp only [Act.put, List.setIfInBounds_toArray, List.set_cons_zero, List.set_cons_succ])
          refine any_take (i := 9) (v := ?_) rfl (by kernel_rfl) (by kernel_rfl) (by kernel_rfl) (by exact fun _ _ _ h => h) (by rfl) ?_ hS ?_
          rotate_left
          · ((intro w hSw; (try dsimp only at hSw); go_simp) <;> with_reducible rfl)
          (try simp only [Act.put, List.setIfInBounds_toArray, List.set_cons_zero, List.set_cons_succ])
          refine wpAnyH_done (by kernel_rfl) ?_ _
          have F2 : Hid _ := F.out _ B1
          clear F hS B0 B1 S5 HP HTh
          go_wp2
          go_roundw
          case rel => exact ⟨3, by omega, rfl, F2.out.1, F2.out.2⟩
          case measure => simp [intOf]
        · have HTh : Hid (∀ X : World, Calls Tryd.prog 47 #[.agg #[.int .u8 a2, .int .u8 b2]] X fun e w' => e = .returned (.bool true) ∧ Below X.heap.size X w') := fun X => by have h := cThere_any a2 b2 X; rw [decide_eq_true (by have := PF2.out.size; omega)] at h; exact h
          have HTk : Hid (∀ X, _) := fun X => cTakes_any a2 b2 m2 X PF2.out.bits
          have F : Hid (tkB b2 m2 = true → ∀ X, Below w5.heap.size w5 X → BuS w X rb vb [.int .u8 o, .int .u8 a0, .int .u8 b0, .int .u8 a1, .int .u8 b1, .int .u8 a2, .int .u8 b2, .int .u8 a3, .int .u8 b3, .int .u8 a4, .int .u8 b4, .int .u8 a5, .int .u8 b5] [.int .u64 (m0.toNat : Int), .int .u64 (m1.toNat : Int), .int .u64 (m2.toNat : Int), .int .u64 (m3.toNat : Int), .int .u64 (lb.toNat : Int), .int .u64 (m5.toNat : Int)] ∧ (∀ q ∈ QA.take 3, vOk q.1 q.2 = true)) := fun ht X bX => ⟨S5.out.1.later bX, take_step J2.out HP.out (by show (_ || tkB b2 m2) = true; rw [ht, Bool.or_true])⟩
          have N : Hid (tkB b2 m2 = false → ∀ X, Below w5.heap.size w5 X → buR op sv pv vv tv lb nv = (none, 3) ∧ Below w.heap.size w X) := fun ht X bX => ⟨EB.out _ (List.mem_of_getElem? J2.out) (by show (decide (b2 = 0) || tkB b2 m2) = false; rw [ht, decide_eq_false hb]; rfl), (S5.out.1.later bX).below⟩
          clear hb
          generalize htk : tkB b2 m2 = tk at F N HTk
          clear htk
          refine wp_region_held_drew (S := fun W => Below w5.heap.size w5 W) (by kernel_rfl) ((Below.refl _ _).drew) (fun hS => ?_)
          have B0 : Below w5.heap.size w5 w5.drew := ((Below.refl _ _).drew)
          refine any_take (i := 0) (v := ?_) rfl (by kernel_rfl) (by kernel_rfl) (by kernel_rfl) (by exact fun _ _ _ h => h) (by rfl) ?_ hS ?_
          rotate_left
          · ((intro w hSw; have c0 := ck_later (show w5.cell? ⟨wr.heap.size, 0, none⟩ = _ from ck_at S5.out.2 0) hSw; have c1 := ck_later (show w5.cell? ⟨wr.heap.size, 1, none⟩ = _ from ck_at S5.out.2 1) hSw; have c2 := ck_later (show w5.cell? ⟨vb, 2, none⟩ = some (.int .u64 (m2.toNat : Int)) from ck_at S5.out.1.v 2) hSw; go_simp) <;> with_reducible rfl)
          (try simp only [Act.put, List.setIfInBounds_toArray, List.set_cons_zero, List.set_cons_succ])
          refine any_one (i := 1) rfl (by kernel_rfl) (fun K hK => ?_)
          go_simp
          refine (Calls.mono (HTh.out _)) ?_
          rintro e x1 ⟨rfl, hbR⟩
          have B1 : Below w5.heap.size w5 x1 := below_then B0 hbR
          go_wp2_with fail
          refine hK.out _ _ (by first | exact B1 | exact hbR | exact below_then hS hbR) (any_weaken (S' := fun W => Below x1.heap.size x1 W) (fun W hW => by first | exact below_then B1 hW | exact below_then hbR hW | exact below_then (below_then hS hbR) hW) _ _ _ _ ?_)
          clear hK K hS hbR
          have hS : Below x1.heap.size x1 x1 := Below.refl _ _
          refine any_take (i := 2) (v := ?_) rfl (by kernel_rfl) (by kernel_rfl) (by kernel_rfl) (by exact fun _ _ _ h => h) (by rfl) ?_ hS ?_
          rotate_left
          · ((intro w hSw; (try dsimp only at hSw); go_simp) <;> with_reducible rfl)
          (try simp only [Act.put, List.setIfInBounds_toArray, List.set_cons_zero, List.set_cons_succ])
          refine any_take (i := 3) (v := ?_) rfl (by kernel_rfl) (by kernel_rfl) (by kernel_rfl) (by exact fun _ _ _ h => h) (by rfl) ?_ hS ?_
          rotate_left
          · ((intro w hSw; have c0 := ck_later (show w5.cell? ⟨wr.heap.size, 0, none⟩ = _ from ck_at S5.out.2 0) (below_then B1 hSw); have c1 := ck_later (show w5.cell? ⟨wr.heap.size, 1, none⟩ = _ from ck_at S5.out.2 1) (below_then B1 hSw); have c2 := ck_later (show w5.cell? ⟨vb, 2, none⟩ = some (.int .u64 (m2.toNat : Int)) from ck_at S5.out.1.v 2) (below_then B1 hSw); go_simp) <;> with_reducible rfl)
          (try simp only [Act.put, List.setIfInBounds_toArray, List.set_cons_zero, List.set_cons_succ])
          refine any_take (i := 4) (v := ?_) rfl (by kernel_rfl) (by kernel_rfl) (by kernel_rfl) (by exact fun _ _ _ h => h) (by rfl) ?_ hS ?_
          rotate_left
          · ((intro w hSw; have c0 := ck_later (show w5.cell? ⟨wr.heap.size, 0, none⟩ = _ from ck_at S5.out.2 0) (below_then B1 hSw); have c1 := ck_later (show w5.cell? ⟨wr.heap.size, 1, none⟩ = _ from ck_at S5.out.2 1) (below_then B1 hSw); have c2 := ck_later (show w5.cell? ⟨vb, 2, none⟩ = some (.int .u64 (m2.toNat : Int)) from ck_at S5.out.1.v 2) (below_then B1 hSw); go_simp) <;> with_reducible rfl)
          (try simp only [Act.put, List.setIfInBounds_toArray, List.set_cons_zero, List.set_cons_succ])
          refine any_take (i := 5) (v := ?_) rfl (by kernel_rfl) (by kernel_rfl) (by kernel_rfl) (by exact fun _ _ _ h => h) (by rfl) ?_ hS ?_
          rotate_left
          · ((intro w hSw; have c0 := ck_later (show w5.cell? ⟨wr.heap.size, 0, none⟩ = _ from ck_at S5.out.2 0) (below_then B1 hSw); have c1 := ck_later (show w5.cell? ⟨wr.heap.size, 1, none⟩ = _ from ck_at S5.out.2 1) (below_then B1 hSw); have c2 := ck_later (show w5.cell? ⟨vb, 2, none⟩ = some (.int .u64 (m2.toNat : Int)) from ck_at S5.out.1.v 2) (below_then B1 hSw); go_simp) <;> with_reducible rfl)
          (try simp only [Act.put, List.setIfInBounds_toArray, List.set_cons_zero, List.set_cons_succ])
          refine any_take (i := 6) (v := ?_) rfl (by kernel_rfl) (by kernel_rfl) (by kernel_rfl) (by exact fun _ _ _ h => h) (by rfl) ?_ hS ?_
          rotate_left
          · ((intro w hSw; have c0 := ck_later (show w5.cell? ⟨wr.heap.size, 0, none⟩ = _ from ck_at S5.out.2 0) (below_then B1 hSw); have c1 := ck_later (show w5.cell? ⟨wr.heap.size, 1, none⟩ = _ from ck_at S5.out.2 1) (below_then B1 hSw); have c2 := ck_later (show w5.cell? ⟨vb, 2, none⟩ = some (.int .u64 (m2.toNat : Int)) from ck_at S5.out.1.v 2) (below_then B1 hSw); go_simp) <;> with_reducible rfl)
          (try simp only [Act.put, List.setIfInBounds_toArray, List.set_cons_zero, List.set_cons_succ])
          refine any_one (i := 7) rfl (by kernel_rfl) (fun K hK => ?_)
          go_simp
          refine (Calls.mono (HTk.out _)) ?_
          rintro e x2 ⟨rfl, hbR⟩
          have B2 : Below w5.heap.size w5 x2 := below_then B1 hbR
          go_wp2_with fail
          refine hK.out _ _ (by first | exact B2 | exact hbR | exact below_then hS hbR) (any_weaken (S' := fun W => Below x2.heap.size x2 W) (fun W hW => by first | exact below_then B2 hW | exact below_then hbR hW | exact below_then (below_then hS hbR) hW) _ _ _ _ ?_)
          clear hK K hS hbR
          have hS : Below x2.heap.size x2 x2 := Below.refl _ _
          refine any_take (i := 8) (v := ?_) rfl (by kernel_rfl) (by kernel_rfl) (by kernel_rfl) (by exact fun _ _ _ h => h) (by rfl) ?_ hS ?_
          rotate_left
          · ((intro w hSw; (try dsimp only at hSw); go_simp) <;> with_reducible rfl)
          (try simp only [Act.put, List.setIfInBounds_toArray, List.set_cons_zero, List.set_cons_succ])
          refine any_take (i := 9) (v := ?_) rfl (by kernel_rfl) (by kernel_rfl) (by kernel_rfl) (by exact fun _ _ _ h => h) (by rfl) ?_ hS ?_
          rotate_left
          · ((intro w hSw; (try dsimp only at hSw); go_simp) <;> with_reducible rfl)
          (try simp only [Act.put, List.setIfInBounds_toArray, List.set_cons_zero, List.set_cons_succ])
          refine wpAnyH_done (by kernel_rfl) ?_ _
          cases tk with
          | true =>
            have F2 : Hid _ := F.out rfl _ B2
            clear F N hS B0 B1 B2 S5 HP HTh HTk
            go_wp2
            go_roundw
            case rel => exact ⟨3, by omega, rfl, F2.out.1, F2.out.2⟩
            case measure => simp [intOf]
          | false =>
            have F2 : Hid _ := N.out rfl _ B2
            clear F N hS B0 B1 B2 S5 HP HTh HTk
            go_wp2
            refine bodyPost_ret (v := .tuple #[.slice none 0 0, .int .i64 3]) (by first | rfl | simp [results, Tryd.results16, go_sem]) rfl ?_
            exact ⟨.slice none 0 0, by rw [F2.out.1], by rw [F2.out.1]; exact rfl, F2.out.2⟩
      · have hix : ∀ X : World, (Instr.index 79 (.agg #[.int .u8 a0, .int .u8 b0, .int .u8 a1, .int .u8 b1, .int .u8 a2, .int .u8 b2, .int .u8 a3, .int .u8 b3, .int .u8 a4, .int .u8 b4, .int .u8 a5, .int .u8 b5]) (.int .i64 3)).run Tryd.prog X = .ok (.agg #[.int .u8 a3, .int .u8 b3]) X := fun _ => by first | rfl | kernel_rfl
        have B3 := Blk.new' wr 78 [.int .u8 a3, .int .u8 b3]
        have b3_ : Below wr.heap.size wr (wr.alloc (.cells #[.int .u8 a3, .int .u8 b3] 78)) := (Below.refl _ _).alloc (Nat.le_refl _) _
        obtain ⟨w5, hw5⟩ : ∃ w5, w5 = wr.alloc (.cells #[.int .u8 a3, .int .u8 b3] 78) := ⟨_, rfl⟩
        rw [← hw5] at B3 b3_
        have S5 : Hid _ := And.intro (hS.later b3_) B3
        have HP : Hid _ := hP
        clear hS hP B3 b3_
        go_upto_region 8 with fail
        rw [← hw5]
        clear hw5 hix
        by_cases hb : b3 = 0
        · have HTh : Hid (∀ X : World, Calls Tryd.prog 47 #[.agg #[.int .u8 a3, .int .u8 b3]] X fun e w' => e = .returned (.bool false) ∧ Below X.heap.size X w') := fun X => by have h := cThere_any a3 b3 X; rw [decide_eq_false (by omega)] at h; exact h
          have F : Hid (∀ X, Below w5.heap.size w5 X → BuS w X rb vb [.int .u8 o, .int .u8 a0, .int .u8 b0, .int .u8 a1, .int .u8 b1, .int .u8 a2, .int .u8 b2, .int .u8 a3, .int .u8 b3, .int .u8 a4, .int .u8 b4, .int .u8 a5, .int .u8 b5] [.int .u64 (m0.toNat : Int), .int .u64 (m1.toNat : Int), .int .u64 (m2.toNat : Int), .int .u64 (m3.toNat : Int), .int .u64 (lb.toNat : Int), .int .u64 (m5.toNat : Int)] ∧ (∀ q ∈ QA.take 4, vOk q.1 q.2 = true)) := fun X bX => ⟨S5.out.1.later bX, take_step J3.out HP.out (by show (decide (b3 = 0) || _) = true; rw [decide_eq_true hb]; rfl)⟩
          clear hb
          refine wp_region_held_drew (S := fun W => Below w5.heap.size w5 W) (by kernel_rfl) ((Below.refl _ _).drew) (fun hS => ?_)
          have B0 : Below w5.heap.size w5 w5.drew := ((Below.refl _ _).drew)
          refine any_take (i := 0) (v := ?_) rfl (by kernel_rfl) (by kernel_rfl) (by kernel_rfl) (by exact fun _ _ _ h => h) (by rfl) ?_ hS ?_
          rotate_left
          · ((intro w hSw; have c0 := ck_later (show w5.cell? ⟨wr.heap.size, 0, none⟩ = _ from ck_at S5.out.2 0) hSw; have c1 := ck_later (show w5.cell? ⟨wr.heap.size, 1, none⟩ = _ from ck_at S5.out.2 1) hSw; have c2 := ck_later (show w5.cell? ⟨vb, 3, none⟩ = some (.int .u64 (m3.toNat : Int)) from ck_at S5.out.1.v 3) hSw; go_simp) <;> with_reducible rfl)
          (try simp only [Act.put, List.setIfInBounds_toArray, List.set_cons_zero, List.set_cons_succ])
          refine any_one (i := 1) rfl (by kernel_rfl) (fun K hK => ?_)
          go_simp
          refine (Calls.mono (HTh.out _)) ?_
          rintro e x1 ⟨rfl, hbR⟩
          have B1 : Below w5.heap.size w5 x1 := below_then B0 hbR
          go_wp2_with fail
          refine hK.out _ _ (by first | exact B1 | exact hbR | exact below_then hS hbR) (any_weaken (S' := fun W => Below x1.heap.size x1 W) (fun W hW => by first | exact below_then B1 hW | exact below_then hbR hW | exact below_then (below_then hS hbR) hW) _ _ _ _ ?_)
          clear hK K hS hbR
          have hS : Below x1.heap.size x1 x1 := Below.refl _ _
          refine any_take (i := 2) (v := ?_) rfl (by kernel_rfl) (by kernel_rfl) (by kernel_rfl) (by exact fun _ _ _ h => h) (by rfl) ?_ hS ?_
          rotate_left
          · ((intro w hSw; (try dsimp only at hSw); go_simp) <;> with_reducible rfl)
          (try simp only [Act.put, List.setIfInBounds_toArray, List.set_cons_zero, List.set_cons_succ])
          refine any_skip (i := 3) rfl (by kernel_rfl) (by kernel_rfl) (by kernel_rfl) (by exact fun _ _ _ h => h) (by rfl) hS ?_
          (try simp only [Act.put, List.setIfInBounds_toArray, List.set_cons_zero, List.set_cons_succ])
          refine any_skip (i := 4) rfl (by kernel_rfl) (by kernel_rfl) (by kernel_rfl) (by exact fun _ _ _ h => h) (by rfl) hS ?_
          (try simp only [Act.put, List.setIfInBounds_toArray, List.set_cons_zero, List.set_cons_succ])
          refine any_skip (i := 5) rfl (by kernel_rfl) (by kernel_rfl) (by kernel_rfl) (by exact fun _ _ _ h => h) (by rfl) hS ?_
          (try simp only [Act.put, List.setIfInBounds_toArray, List.set_cons_zero, List.set_cons_succ])
          refine any_skip (i := 6) rfl (by kernel_rfl) (by kernel_rfl) (by kernel_rfl) (by exact fun _ _ _ h => h) (by rfl) hS ?_
          (try simp only [Act.put, List.setIfInBounds_toArray, List.set_cons_zero, List.set_cons_succ])
          refine any_skip (i := 7) rfl (by kernel_rfl) (by kernel_rfl) (by kernel_rfl) (by exact fun _ _ _ h => h) (by rfl) hS ?_
          (try simp only [Act.put, List.setIfInBounds_toArray, List.set_cons_zero, List.set_cons_succ])
          refine any_skip (i := 8) rfl (by kernel_rfl) (by kernel_rfl) (by kernel_rfl) (by exact fun _ _ _ h => h) (by rfl) hS ?_
          (try simp only [Act.put, List.setIfInBounds_toArray, List.set_cons_zero, List.set_cons_succ])
          refine any_take (i := 9) (v := ?_) rfl (by kernel_rfl) (by kernel_rfl) (by kernel_rfl) (by exact fun _ _ _ h => h) (by rfl) ?_ hS ?_
          rotate_left
          · ((intro w hSw; (try dsimp only at hSw); go_simp) <;> with_reducible rfl)
          (try simp only [Act.put, List.setIfInBounds_toArray, List.set_cons_zero, List.set_cons_succ])
          refine wpAnyH_done (by kernel_rfl) ?_ _
          have F2 : Hid _ := F.out _ B1
          clear F hS B0 B1 S5 HP HTh
          go_wp2
          go_roundw
          case rel => exact ⟨4, by omega, rfl, F2.out.1, F2.out.2⟩
          case measure => simp [intOf]
        · have HTh : Hid (∀ X : World, Calls Tryd.prog 47 #[.agg #[.int .u8 a3, .int .u8 b3]] X fun e w' => e = .returned (.bool true) ∧ Below X.heap.size X w') := fun X => by have h := cThere_any a3 b3 X; rw [decide_eq_true (by have := PF3.out.size; omega)] at h; exact h
          have HTk : Hid (∀ X, _) := fun X => cTakes_any a3 b3 m3 X PF3.out.bits
          have F : Hid (tkB b3 m3 = true → ∀ X, Below w5.heap.size w5 X → BuS w X rb vb [.int .u8 o, .int .u8 a0, .int .u8 b0, .int .u8 a1, .int .u8 b1, .int .u8 a2, .int .u8 b2, .int .u8 a3, .int .u8 b3, .int .u8 a4, .int .u8 b4, .int .u8 a5, .int .u8 b5] [.int .u64 (m0.toNat : Int), .int .u64 (m1.toNat : Int), .int .u64 (m2.toNat : Int), .int .u64 (m3.toNat : Int), .int .u64 (lb.toNat : Int), .int .u64 (m5.toNat : Int)] ∧ (∀ q ∈ QA.take 4, vOk q.1 q.2 = true)) := fun ht X bX => ⟨S5.out.1.later bX, take_step J3.out HP.out (by show (_ || tkB b3 m3) = true; rw [ht, Bool.or_true])⟩
          have N : Hid (tkB b3 m3 = false → ∀ X, Below w5.heap.size w5 X → buR op sv pv vv tv lb nv = (none, 3) ∧ Below w.heap.size w X) := fun ht X bX => ⟨EB.out _ (List.mem_of_getElem? J3.out) (by show (decide (b3 = 0) || tkB b3 m3) = false; rw [ht, decide_eq_false hb]; rfl), (S5.out.1.later bX).below⟩
          clear hb
          generalize htk : tkB b3 m3 = tk at F N HTk
          clear htk
          refine wp_region_held_drew (S := fun W => Below w5.heap.size w5 W) (by kernel_rfl) ((Below.refl _ _).drew) (fun hS => ?_)
          have B0 : Below w5.heap.size w5 w5.drew := ((Below.refl _ _).drew)
          refine any_take (i := 0) (v := ?_) rfl (by kernel_rfl) (by kernel_rfl) (by kernel_rfl) (by exact fun _ _ _ h => h) (by rfl) ?_ hS ?_
          rotate_left
          · ((intro w hSw; have c0 := ck_later (show w5.cell? ⟨wr.heap.size, 0, none⟩ = _ from ck_at S5.out.2 0) hSw; have c1 := ck_later (show w5.cell? ⟨wr.heap.size, 1, none⟩ = _ from ck_at S5.out.2 1) hSw; have c2 := ck_later (show w5.cell? ⟨vb, 3, none⟩ = some (.int .u64 (m3.toNat : Int)) from ck_at S5.out.1.v 3) hSw; go_simp) <;> with_reducible rfl)
          (try simp only [Act.put, List.setIfInBounds_toArray, List.set_cons_zero, List.set_cons_succ])
          refine any_one (i := 1) rfl (by kernel_rfl) (fun K hK => ?_)
          go_simp
          refine (Calls.mono (HTh.out _)) ?_
          rintro e x1 ⟨rfl, hbR⟩
          have B1 : Below w5.heap.size w5 x1 := below_then B0 hbR
          go_wp2_with fail
          refine hK.out _ _ (by first | exact B1 | exact hbR | exact below_then hS hbR) (any_weaken (S' := fun W => Below x1.heap.size x1 W) (fun W hW => by first | exact below_then B1 hW | exact below_then hbR hW | exact below_then (below_then hS hbR) hW) _ _ _ _ ?_)
          clear hK K hS hbR
          have hS : Below x1.heap.size x1 x1 := Below.refl _ _
          refine any_take (i := 2) (v := ?_) rfl (by kernel_rfl) (by kernel_rfl) (by kernel_rfl) (by exact fun _ _ _ h => h) (by rfl) ?_ hS ?_
          rotate_left
          · ((intro w hSw; (try dsimp only at hSw); go_simp) <;> with_reducible rfl)
          (try simp only [Act.put, List.setIfInBounds_toArray, List.set_cons_zero, List.set_cons_succ])
          refine any_take (i := 3) (v := ?_) rfl (by kernel_rfl) (by kernel_rfl) (by kernel_rfl) (by exact fun _ _ _ h => h) (by rfl) ?_ hS ?_
          rotate_left
          · ((intro w hSw; have c0 := ck_later (show w5.cell? ⟨wr.heap.size, 0, none⟩ = _ from ck_at S5.out.2 0) (below_then B1 hSw); have c1 := ck_later (show w5.cell? ⟨wr.heap.size, 1, none⟩ = _ from ck_at S5.out.2 1) (below_then B1 hSw); have c2 := ck_later (show w5.cell? ⟨vb, 3, none⟩ = some (.int .u64 (m3.toNat : Int)) from ck_at S5.out.1.v 3) (below_then B1 hSw); go_simp) <;> with_reducible rfl)
          (try simp only [Act.put, List.setIfInBounds_toArray, List.set_cons_zero, List.set_cons_succ])
          refine any_take (i := 4) (v := ?_) rfl (by kernel_rfl) (by kernel_rfl) (by kernel_rfl) (by exact fun _ _ _ h => h) (by rfl) ?_ hS ?_
          rotate_left
          · ((intro w hSw; have c0 := ck_later (show w5.cell? ⟨wr.heap.size, 0, none⟩ = _ from ck_at S5.out.2 0) (below_then B1 hSw); have c1 := ck_later (show w5.cell? ⟨wr.heap.size, 1, none⟩ = _ from ck_at S5.out.2 1) (below_then B1 hSw); have c2 := ck_later (show w5.cell? ⟨vb, 3, none⟩ = some (.int .u64 (m3.toNat : Int)) from ck_at S5.out.1.v 3) (below_then B1 hSw); go_simp) <;> with_reducible rfl)
          (try simp only [Act.put, List.setIfInBounds_toArray, List.set_cons_zero, List.set_cons_succ])
          refine any_take (i := 5) (v := ?_) rfl (by kernel_rfl) (by kernel_rfl) (by kernel_rfl) (by exact fun _ _ _ h => h) (by rfl) ?_ hS ?_
          rotate_left
          · ((intro w hSw; have c0 := ck_later (show w5.cell? ⟨wr.heap.size, 0, none⟩ = _ from ck_at S5.out.2 0) (below_then B1 hSw); have c1 := ck_later (show w5.cell? ⟨wr.heap.size, 1, none⟩ = _ from ck_at S5.out.2 1) (below_then B1 hSw); have c2 := ck_later (show w5.cell? ⟨vb, 3, none⟩ = some (.int .u64 (m3.toNat : Int)) from ck_at S5.out.1.v 3) (below_then B1 hSw); go_simp) <;> with_reducible rfl)
          (try simp only [Act.put, List.setIfInBounds_toArray, List.set_cons_zero, List.set_cons_succ])
          refine any_take (i := 6) (v := ?_) rfl (by kernel_rfl) (by kernel_rfl) (by kernel_rfl) (by exact fun _ _ _ h => h) (by rfl) ?_ hS ?_
          rotate_left
          · ((intro w hSw; have c0 := ck_later (show w5.cell? ⟨wr.heap.size, 0, none⟩ = _ from ck_at S5.out.2 0) (below_then B1 hSw); have c1 := ck_later (show w5.cell? ⟨wr.heap.size, 1, none⟩ = _ from ck_at S5.out.2 1) (below_then B1 hSw); have c2 := ck_later (show w5.cell? ⟨vb, 3, none⟩ = some (.int .u64 (m3.toNat : Int)) from ck_at S5.out.1.v 3) (below_then B1 hSw); go_simp) <;> with_reducible rfl)
          (try simp only [Act.put, List.setIfInBounds_toArray, List.set_cons_zero, List.set_cons_succ])
          refine any_one (i := 7) rfl (by kernel_rfl) (fun K hK => ?_)
          go_simp
          refine (Calls.mono (HTk.out _)) ?_
          rintro e x2 ⟨rfl, hbR⟩
          have B2 : Below w5.heap.size w5 x2 := below_then B1 hbR
          go_wp2_with fail
          refine hK.out _ _ (by first | exact B2 | exact hbR | exact below_then hS hbR) (any_weaken (S' := fun W => Below x2.heap.size x2 W) (fun W hW => by first | exact below_then B2 hW | exact below_then hbR hW | exact below_then (below_then hS hbR) hW) _ _ _ _ ?_)
          clear hK K hS hbR
          have hS : Below x2.heap.size x2 x2 := Below.refl _ _
          refine any_take (i := 8) (v := ?_) rfl (by kernel_rfl) (by kernel_rfl) (by kernel_rfl) (by exact fun _ _ _ h => h) (by rfl) ?_ hS ?_
          rotate_left
          · ((intro w hSw; (try dsimp only at hSw); go_simp) <;> with_reducible rfl)
          (try simp only [Act.put, List.setIfInBounds_toArray, List.set_cons_zero, List.set_cons_succ])
          refine any_take (i := 9) (v := ?_) rfl (by kernel_rfl) (by kernel_rfl) (by kernel_rfl) (by exact fun _ _ _ h => h) (by rfl) ?_ hS ?_
          rotate_left
          · ((intro w hSw; (try dsimp only at hSw); go_simp) <;> with_reducible rfl)
          (try simp only [Act.put, List.setIfInBounds_toArray, List.set_cons_zero, List.set_cons_succ])
          refine wpAnyH_done (by kernel_rfl) ?_ _
          cases tk with
          | true =>
            have F2 : Hid _ := F.out rfl _ B2
            clear F N hS B0 B1 B2 S5 HP HTh HTk
            go_wp2
            go_roundw
            case rel => exact ⟨4, by omega, rfl, F2.out.1, F2.out.2⟩
            case measure => simp [intOf]
          | false =>
            have F2 : Hid _ := N.out rfl _ B2
            clear F N hS B0 B1 B2 S5 HP HTh HTk
            go_wp2
            refine bodyPost_ret (v := .tuple #[.slice none 0 0, .int .i64 3]) (by first | rfl | simp [results, Tryd.results16, go_sem]) rfl ?_
            exact ⟨.slice none 0 0, by rw [F2.out.1], by rw [F2.out.1]; exact rfl, F2.out.2⟩
      · have hix : ∀ X : World, (Instr.index 79 (.agg #[.int .u8 a0, .int .u8 b0, .int .u8 a1, .int .u8 b1, .int .u8 a2, .int .u8 b2, .int .u8 a3, .int .u8 b3, .int .u8 a4, .int .u8 b4, .int .u8 a5, .int .u8 b5]) (.int .i64 4)).run Tryd.prog X = .ok (.agg #[.int .u8 a4, .int .u8 b4]) X := fun _ => by first | rfl | kernel_rfl
        have B3 := Blk.new' wr 78 [.int .u8 a4, .int .u8 b4]
        have b3_ : Below wr.heap.size wr (wr.alloc (.cells #[.int .u8 a4, .int .u8 b4] 78)) := (Below.refl _ _).alloc (Nat.le_refl _) _
        obtain ⟨w5, hw5⟩ : ∃ w5, w5 = wr.alloc (.cells #[.int .u8 a4, .int .u8 b4] 78) := ⟨_, rfl⟩
        rw [← hw5] at B3 b3_
        have S5 : Hid _ := And.intro (hS.later b3_) B3
        have HP : Hid _ := hP
        clear hS hP B3 b3_
        go_upto_region 8 with fail
        rw [← hw5]
        clear hw5 hix
        by_cases hb : b4 = 0
        · have HTh : Hid (∀ X : World, Calls Tryd.prog 47 #[.agg #[.int .u8 a4, .int .u8 b4]] X fun e w' => e = .returned (.bool false) ∧ Below X.heap.size X w') := fun X => by have h := cThere_any a4 b4 X; rw [decide_eq_false (by omega)] at h; exact h
          have F : Hid (∀ X, Below w5.heap.size w5 X → BuS w X rb vb [.int .u8 o, .int .u8 a0, .int .u8 b0, .int .u8 a1, .int .u8 b1, .int .u8 a2, .int .u8 b2, .int .u8 a3, .int .u8 b3, .int .u8 a4, .int .u8 b4, .int .u8 a5, .int .u8 b5] [.int .u64 (m0.toNat : Int), .int .u64 (m1.toNat : Int), .int .u64 (m2.toNat : Int), .int .u64 (m3.toNat : Int), .int .u64 (lb.toNat : Int), .int .u64 (m5.toNat : Int)] ∧ (∀ q ∈ QA.take 5, vOk q.1 q.2 = true)) := fun X bX => ⟨S5.out.1.later bX, take_step J4.out HP.out (by show (decide (b4 = 0) || _) = true; rw [decide_eq_true hb]; rfl)⟩
          clear hb
          refine wp_region_held_drew (S := fun W => Below w5.heap.size w5 W) (by kernel_rfl) ((Below.refl _ _).drew) (fun hS => ?_)
          have B0 : Below w5.heap.size w5 w5.drew := ((Below.refl _ _).drew)
          refine any_take (i := 0) (v := ?_) rfl (by kernel_rfl) (by kernel_rfl) (by kernel_rfl) (by exact fun _ _ _ h => h) (by rfl) ?_ hS ?_
          rotate_left
          · ((intro w hSw; have c0 := ck_later (show w5.cell? ⟨wr.heap.size, 0, none⟩ = _ from ck_at S5.out.2 0) hSw; have c1 := ck_later (show w5.cell? ⟨wr.heap.size, 1, none⟩ = _ from ck_at S5.out.2 1) hSw; have c2 := ck_later (show w5.cell? ⟨vb, 4, none⟩ = some (.int .u64 (lb.toNat : Int)) from ck_at S5.out.1.v 4) hSw; go_simp) <;> with_reducible rfl)
          (try simp only [Act.put, List.setIfInBounds_toArray, List.set_cons_zero, List.set_cons_succ])
          refine any_one (i := 1) rfl (by kernel_rfl) (fun K hK => ?_)
          go_simp
          refine (Calls.mono (HTh.out _)) ?_
          rintro e x1 ⟨rfl, hbR⟩
          have B1 : Below w5.heap.size w5 x1 := below_then B0 hbR
          go_wp2_with fail
          refine hK.out _ _ (by first | exact B1 | exact hbR | exact below_then hS hbR) (any_weaken (S' := fun W => Below x1.heap.size x1 W) (fun W hW => by first | exact below_then B1 hW | exact below_then hbR hW | exact below_then (below_then hS hbR) hW) _ _ _ _ ?_)
          clear hK K hS hbR
          have hS : Below x1.heap.size x1 x1 := Below.refl _ _
          refine any_take (i := 2) (v := ?_) rfl (by kernel_rfl) (by kernel_rfl) (by kernel_rfl) (by exact fun _ _ _ h => h) (by rfl) ?_ hS ?_
          rotate_left
          · ((intro w hSw; (try dsimp only at hSw); go_simp) <;> with_reducible rfl)
          (try simp only [Act.put, List.setIfInBounds_toArray, List.set_cons_zero, List.set_cons_succ])
          refine any_skip (i := 3) rfl (by kernel_rfl) (by kernel_rfl) (by kernel_rfl) (by exact fun _ _ _ h => h) (by rfl) hS ?_
          (try simp only [Act.put, List.setIfInBounds_toArray, List.set_cons_zero, List.set_cons_succ])
          refine any_skip (i := 4) rfl (by kernel_rfl) (by kernel_rfl) (by kernel_rfl) (by exact fun _ _ _ h => h) (by rfl) hS ?_
          (try simp only [Act.put, List.setIfInBounds_toArray, List.set_cons_zero, List.set_cons_succ])
          refine any_skip (i := 5) rfl (by kernel_rfl) (by kernel_rfl) (by kernel_rfl) (by exact fun _ _ _ h => h) (by rfl) hS ?_
          (try simp only [Act.put, List.setIfInBounds_toArray, List.set_cons_zero, List.set_cons_succ])
          refine any_skip (i := 6) rfl (by kernel_rfl) (by kernel_rfl) (by kernel_rfl) (by exact fun _ _ _ h => h) (by rfl) hS ?_
          (try simp only [Act.put, List.setIfInBounds_toArray, List.set_cons_zero, List.set_cons_succ])
          refine any_skip (i := 7) rfl (by kernel_rfl) (by kernel_rfl) (by kernel_rfl) (by exact fun _ _ _ h => h) (by rfl) hS ?_
          (try simp only [Act.put, List.setIfInBounds_toArray, List.set_cons_zero, List.set_cons_succ])
          refine any_skip (i := 8) rfl (by kernel_rfl) (by kernel_rfl) (by kernel_rfl) (by exact fun _ _ _ h => h) (by rfl) hS ?_
          (try simp only [Act.put, List.setIfInBounds_toArray, List.set_cons_zero, List.set_cons_succ])
          refine any_take (i := 9) (v := ?_) rfl (by kernel_rfl) (by kernel_rfl) (by kernel_rfl) (by exact fun _ _ _ h => h) (by rfl) ?_ hS ?_
          rotate_left
          · ((intro w hSw; (try dsimp only at hSw); go_simp) <;> with_reducible rfl)
          (try simp only [Act.put, List.setIfInBounds_toArray, List.set_cons_zero, List.set_cons_succ])
          refine wpAnyH_done (by kernel_rfl) ?_ _
          have F2 : Hid _ := F.out _ B1
          clear F hS B0 B1 S5 HP HTh
          go_wp2
          go_roundw
          case rel => exact ⟨5, by omega, rfl, F2.out.1, F2.out.2⟩
          case measure => simp [intOf]
        · have HTh : Hid (∀ X : World, Calls Tryd.prog 47 #[.agg #[.int .u8 a4, .int .u8 b4]] X fun e w' => e = .returned (.bool true) ∧ Below X.heap.size X w') := fun X => by have h := cThere_any a4 b4 X; rw [decide_eq_true (by have := PF4.out.size; omega)] at h; exact h
          have HTk : Hid (∀ X, _) := fun X => cTakes_any a4 b4 lb X PF4.out.bits
          have F : Hid (tkB b4 lb = true → ∀ X, Below w5.heap.size w5 X → BuS w X rb vb [.int .u8 o, .int .u8 a0, .int .u8 b0, .int .u8 a1, .int .u8 b1, .int .u8 a2, .int .u8 b2, .int .u8 a3, .int .u8 b3, .int .u8 a4, .int .u8 b4, .int .u8 a5, .int .u8 b5] [.int .u64 (m0.toNat : Int), .int .u64 (m1.toNat : Int), .int .u64 (m2.toNat : Int), .int .u64 (m3.toNat : Int), .int .u64 (lb.toNat : Int), .int .u64 (m5.toNat : Int)] ∧ (∀ q ∈ QA.take 5, vOk q.1 q.2 = true)) := fun ht X bX => ⟨S5.out.1.later bX, take_step J4.out HP.out (by show (_ || tkB b4 lb) = true; rw [ht, Bool.or_true])⟩
          have N : Hid (tkB b4 lb = false → ∀ X, Below w5.heap.size w5 X → buR op sv pv vv tv lb nv = (none, 3) ∧ Below w.heap.size w X) := fun ht X bX => ⟨EB.out _ (List.mem_of_getElem? J4.out) (by show (decide (b4 = 0) || tkB b4 lb) = false; rw [ht, decide_eq_false hb]; rfl), (S5.out.1.later bX).below⟩
          clear hb
          generalize htk : tkB b4 lb = tk at F N HTk
          clear htk
          refine wp_region_held_drew (S := fun W => Below w5.heap.size w5 W) (by kernel_rfl) ((Below.refl _ _).drew) (fun hS => ?_)
          have B0 : Below w5.heap.size w5 w5.drew := ((Below.refl _ _).drew)
          refine any_take (i := 0) (v := ?_) rfl (by kernel_rfl) (by kernel_rfl) (by kernel_rfl) (by exact fun _ _ _ h => h) (by rfl) ?_ hS ?_
          rotate_left
          · ((intro w hSw; have c0 := ck_later (show w5.cell? ⟨wr.heap.size, 0, none⟩ = _ from ck_at S5.out.2 0) hSw; have c1 := ck_later (show w5.cell? ⟨wr.heap.size, 1, none⟩ = _ from ck_at S5.out.2 1) hSw; have c2 := ck_later (show w5.cell? ⟨vb, 4, none⟩ = some (.int .u64 (lb.toNat : Int)) from ck_at S5.out.1.v 4) hSw; go_simp) <;> with_reducible rfl)
          (try simp only [Act.put, List.setIfInBounds_toArray, List.set_cons_zero, List.set_cons_succ])
          refine any_one (i := 1) rfl (by kernel_rfl) (fun K hK => ?_)
          go_simp
          refine (Calls.mono (HTh.out _)) ?_
          rintro e x1 ⟨rfl, hbR⟩
          have B1 : Below w5.heap.size w5 x1 := below_then B0 hbR
          go_wp2_with fail
          refine hK.out _ _ (by first | exact B1 | exact hbR | exact below_then hS hbR) (any_weaken (S' := fun W => Below x1.heap.size x1 W) (fun W hW => by first | exact below_then B1 hW | exact below_then hbR hW | exact below_then (below_then hS hbR) hW) _ _ _ _ ?_)
          clear hK K hS hbR
          have hS : Below x1.heap.size x1 x1 := Below.refl _ _
          refine any_take (i := 2) (v := ?_) rfl (by kernel_rfl) (by kernel_rfl) (by kernel_rfl) (by exact fun _ _ _ h => h) (by rfl) ?_ hS ?_
          rotate_left
          · ((intro w hSw; (try dsimp only at hSw); go_simp) <;> with_reducible rfl)
          (try simp only [Act.put, List.setIfInBounds_toArray, List.set_cons_zero, List.set_cons_succ])
          refine any_take (i := 3) (v := ?_) rfl (by kernel_rfl) (by kernel_rfl) (by kernel_rfl) (by exact fun _ _ _ h => h) (by rfl) ?_ hS ?_
          rotate_left
          · ((intro w hSw; have c0 := ck_later (show w5.cell? ⟨wr.heap.size, 0, none⟩ = _ from ck_at S5.out.2 0) (below_then B1 hSw); have c1 := ck_later (show w5.cell? ⟨wr.heap.size, 1, none⟩ = _ from ck_at S5.out.2 1) (below_then B1 hSw); have c2 := ck_later (show w5.cell? ⟨vb, 4, none⟩ = some (.int .u64 (lb.toNat : Int)) from ck_at S5.out.1.v 4) (below_then B1 hSw); go_simp) <;> with_reducible rfl)
          (try simp only [Act.put, List.setIfInBounds_toArray, List.set_cons_zero, List.set_cons_succ])
          refine any_take (i := 4) (v := ?_) rfl (by kernel_rfl) (by kernel_rfl) (by kernel_rfl) (by exact fun _ _ _ h => h) (by rfl) ?_ hS ?_
          rotate_left
          · ((intro w hSw; have c0 := ck_later (show w5.cell? ⟨wr.heap.size, 0, none⟩ = _ from ck_at S5.out.2 0) (below_then B1 hSw); have c1 := ck_later (show w5.cell? ⟨wr.heap.size, 1, none⟩ = _ from ck_at S5.out.2 1) (below_then B1 hSw); have c2 := ck_later (show w5.cell? ⟨vb, 4, none⟩ = some (.int .u64 (lb.toNat : Int)) from ck_at S5.out.1.v 4) (below_then B1 hSw); go_simp) <;> with_reducible rfl)
          (try simp only [Act.put, List.setIfInBounds_toArray, List.set_cons_zero, List.set_cons_succ])
          refine any_take (i := 5) (v := ?_) rfl (by kernel_rfl) (by kernel_rfl) (by kernel_rfl) (by exact fun _ _ _ h => h) (by rfl) ?_ hS ?_
          rotate_left
          · ((intro w hSw; have c0 := ck_later (show w5.cell? ⟨wr.heap.size, 0, none⟩ = _ from ck_at S5.out.2 0) (below_then B1 hSw); have c1 := ck_later (show w5.cell? ⟨wr.heap.size, 1, none⟩ = _ from ck_at S5.out.2 1) (below_then B1 hSw); have c2 := ck_later (show w5.cell? ⟨vb, 4, none⟩ = some (.int .u64 (lb.toNat : Int)) from ck_at S5.out.1.v 4) (below_then B1 hSw); go_simp) <;> with_reducible rfl)
          (try simp only [Act.put, List.setIfInBounds_toArray, List.set_cons_zero, List.set_cons_succ])
          refine any_take (i := 6) (v := ?_) rfl (by kernel_rfl) (by kernel_rfl) (by kernel_rfl) (by exact fun _ _ _ h => h) (by rfl) ?_ hS ?_
          rotate_left
          · ((intro w hSw; have c0 := ck_later (show w5.cell? ⟨wr.heap.size, 0, none⟩ = _ from ck_at S5.out.2 0) (below_then B1 hSw); have c1 := ck_later (show w5.cell? ⟨wr.heap.size, 1, none⟩ = _ from ck_at S5.out.2 1) (below_then B1 hSw); have c2 := ck_later (show w5.cell? ⟨vb, 4, none⟩ = some (.int .u64 (lb.toNat : Int)) from ck_at S5.out.1.v 4) (below_then B1 hSw); go_simp) <;> with_reducible rfl)
          (try simp only [Act.put, List.setIfInBounds_toArray, List.set_cons_zero, List.set_cons_succ])
          refine any_one (i := 7) rfl (by kernel_rfl) (fun K hK => ?_)
          go_simp
          refine (Calls.mono (HTk.out _)) ?_
          rintro e x2 ⟨rfl, hbR⟩
          have B2 : Below w5.heap.size w5 x2 := below_then B1 hbR
          go_wp2_with fail
          refine hK.out _ _ (by first | exact B2 | exact hbR | exact below_then hS hbR) (any_weaken (S' := fun W => Below x2.heap.size x2 W) (fun W hW => by first | exact below_then B2 hW | exact below_then hbR hW | exact below_then (below_then hS hbR) hW) _ _ _ _ ?_)
          clear hK K hS hbR
          have hS : Below x2.heap.size x2 x2 := Below.refl _ _
          refine any_take (i := 8) (v := ?_) rfl (by kernel_rfl) (by kernel_rfl) (by kernel_rfl) (by exact fun _ _ _ h => h) (by rfl) ?_ hS ?_
          rotate_left
          · ((intro w hSw; (try dsimp only at hSw); go_simp) <;> with_reducible rfl)
          (try simp only [Act.put, List.setIfInBounds_toArray, List.set_cons_zero, List.set_cons_succ])
          refine any_take (i := 9) (v := ?_) rfl (by kernel_rfl) (by kernel_rfl) (by kernel_rfl) (by exact fun _ _ _ h => h) (by rfl) ?_ hS ?_
          rotate_left
          · ((intro w hSw; (try dsimp only at hSw); go_simp) <;> with_reducible rfl)
          (try simp only [Act.put, List.setIfInBounds_toArray, List.set_cons_zero, List.set_cons_succ])
          refine wpAnyH_done (by kernel_rfl) ?_ _
          cases tk with
          | true =>
            have F2 : Hid _ := F.out rfl _ B2
            clear F N hS B0 B1 B2 S5 HP HTh HTk
            go_wp2
            go_roundw
            case rel => exact ⟨5, by omega, rfl, F2.out.1, F2.out.2⟩
            case measure => simp [intOf]
          | false =>
            have F2 : Hid _ := N.out rfl _ B2
            clear F N hS B0 B1 B2 S5 HP HTh HTk
            go_wp2
            refine bodyPost_ret (v := .tuple #[.slice none 0 0, .int .i64 3]) (by first | rfl | simp [results, Tryd.results16, go_sem]) rfl ?_
            exact ⟨.slice none 0 0, by rw [F2.out.1], by rw [F2.out.1]; exact rfl, F2.out.2⟩
      · have hix : ∀ X : World, (Instr.index 79 (.agg #[.int .u8 a0, .int .u8 b0, .int .u8 a1, .int .u8 b1, .int .u8 a2, .int .u8 b2, .int .u8 a3, .int .u8 b3, .int .u8 a4, .int .u8 b4, .int .u8 a5, .int .u8 b5]) (.int .i64 5)).run Tryd.prog X = .ok (.agg #[.int .u8 a5, .int .u8 b5]) X := fun _ => by first | rfl | kernel_rfl
        have B3 := Blk.new' wr 78 [.int .u8 a5, .int .u8 b5]
        have b3_ : Below wr.heap.size wr (wr.alloc (.cells #[.int .u8 a5, .int .u8 b5] 78)) := (Below.refl _ _).alloc (Nat.le_refl _) _
        obtain ⟨w5, hw5⟩ : ∃ w5, w5 = wr.alloc (.cells #[.int .u8 a5, .int .u8 b5] 78) := ⟨_, rfl⟩
        rw [← hw5] at B3 b3_
        have S5 : Hid _ := And.intro (hS.later b3_) B3
        have HP : Hid _ := hP
        clear hS hP B3 b3_
        go_upto_region 8 with fail
        rw [← hw5]
        clear hw5 hix
        by_cases hb : b5 = 0
        · have HTh : Hid (∀ X : World, Calls Tryd.prog 47 #[.agg #[.int .u8 a5, .int .u8 b5]] X fun e w' => e = .returned (.bool false) ∧ Below X.heap.size X w') := fun X => by have h := cThere_any a5 b5 X; rw [decide_eq_false (by omega)] at h; exact h
          have F : Hid (∀ X, Below w5.heap.size w5 X → BuS w X rb vb [.int .u8 o, .int .u8 a0, .int .u8 b0, .int .u8 a1, .int .u8 b1, .int .u8 a2, .int .u8 b2, .int .u8 a3, .int .u8 b3, .int .u8 a4, .int .u8 b4, .int .u8 a5, .int .u8 b5] [.int .u64 (m0.toNat : Int), .int .u64 (m1.toNat : Int), .int .u64 (m2.toNat : Int), .int .u64 (m3.toNat : Int), .int .u64 (lb.toNat : Int), .int .u64 (m5.toNat : Int)] ∧ (∀ q ∈ QA.take 6, vOk q.1 q.2 = true)) := fun X bX => ⟨S5.out.1.later bX, take_step J5.out HP.out (by show (decide (b5 = 0) || _) = true; rw [decide_eq_true hb]; rfl)⟩
          clear hb
          refine wp_region_held_drew (S := fun W => Below w5.heap.size w5 W) (by kernel_rfl) ((Below.refl _ _).drew) (fun hS => ?_)
          have B0 : Below w5.heap.size w5 w5.drew := ((Below.refl _ _).drew)
          refine any_take (i := 0) (v := ?_) rfl (by kernel_rfl) (by kernel_rfl) (by kernel_rfl) (by exact fun _ _ _ h => h) (by rfl) ?_ hS ?_
          rotate_left
          · ((intro w hSw; have c0 := ck_later (show w5.cell? ⟨wr.heap.size, 0, none⟩ = _ from ck_at S5.out.2 0) hSw; have c1 := ck_later (show w5.cell? ⟨wr.heap.size, 1, none⟩ = _ from ck_at S5.out.2 1) hSw; have c2 := ck_later (show w5.cell? ⟨vb, 5, none⟩ = some (.int .u64 (m5.toNat : Int)) from ck_at S5.out.1.v 5) hSw; go_simp) <;> with_reducible rfl)
          (try simp only [Act.put, List.setIfInBounds_toArray, List.set_cons_zero, List.set_cons_succ])
          refine any_one (i := 1) rfl (by kernel_rfl) (fun K hK => ?_)
          go_simp
          refine (Calls.mono (HTh.out _)) ?_
          rintro e x1 ⟨rfl, hbR⟩
          have B1 : Below w5.heap.size w5 x1 := below_then B0 hbR
          go_wp2_with fail
          refine hK.out _ _ (by first | exact B1 | exact hbR | exact below_then hS hbR) (any_weaken (S' := fun W => Below x1.heap.size x1 W) (fun W hW => by first | exact below_then B1 hW | exact below_then hbR hW | exact below_then (below_then hS hbR) hW) _ _ _ _ ?_)
          clear hK K hS hbR
          have hS : Below x1.heap.size x1 x1 := Below.refl _ _
          refine any_take (i := 2) (v := ?_) rfl (by kernel_rfl) (by kernel_rfl) (by kernel_rfl) (by exact fun _ _ _ h => h) (by rfl) ?_ hS ?_
          rotate_left
          · ((intro w hSw; (try dsimp only at hSw); go_simp) <;> with_reducible rfl)
          (try simp only [Act.put, List.setIfInBounds_toArray, List.set_cons_zero, List.set_cons_succ])
          refine any_skip (i := 3) rfl (by kernel_rfl) (by kernel_rfl) (by kernel_rfl) (by exact fun _ _ _ h => h) (by rfl) hS ?_
          (try simp only [Act.put, List.setIfInBounds_toArray, List.set_cons_zero, List.set_cons_succ])
          refine any_skip (i := 4) rfl (by kernel_rfl) (by kernel_rfl) (by kernel_rfl) (by exact fun _ _ _ h => h) (by rfl) hS ?_
          (try simp only [Act.put, List.setIfInBounds_toArray, List.set_cons_zero, List.set_cons_succ])
          refine any_skip (i := 5) rfl (by kernel_rfl) (by kernel_rfl) (by kernel_rfl) (by exact fun _ _ _ h => h) (by rfl) hS ?_
          (try simp only [Act.put, List.setIfInBounds_toArray, List.set_cons_zero, List.set_cons_succ])
          refine any_skip (i := 6) rfl (by kernel_rfl) (by kernel_rfl) (by kernel_rfl) (by exact fun _ _ _ h => h) (by rfl) hS ?_
          (try simp only [Act.put, List.setIfInBounds_toArray, List.set_cons_zero, List.set_cons_succ])
          refine any_skip (i := 7) rfl (by kernel_rfl) (by kernel_rfl) (by kernel_rfl) (by exact fun _ _ _ h => h) (by rfl) hS ?_
          (try simp only [Act.put, List.setIfInBounds_toArray, List.set_cons_zero, List.set_cons_succ])
          refine any_skip (i := 8) rfl (by kernel_rfl) (by kernel_rfl) (by kernel_rfl) (by exact fun _ _ _ h => h) (by rfl) hS ?_
          (try simp only [Act.put, List.setIfInBounds_toArray, List.set_cons_zero, List.set_cons_succ])
          refine any_take (i := 9) (v := ?_) rfl (by kernel_rfl) (by kernel_rfl) (by kernel_rfl) (by exact fun _ _ _ h => h) (by rfl) ?_ hS ?_
          rotate_left
          · ((intro w hSw; (try dsimp only at hSw); go_simp) <;> with_reducible rfl)
          (try simp only [Act.put, List.setIfInBounds_toArray, List.set_cons_zero, List.set_cons_succ])
          refine wpAnyH_done (by kernel_rfl) ?_ _
          have F2 : Hid _ := F.out _ B1
          clear F hS B0 B1 S5 HP HTh
          go_wp2
          go_roundw
          case rel => exact ⟨6, by omega, rfl, F2.out.1, F2.out.2⟩
          case measure => simp [intOf]
        · have HTh : Hid (∀ X : World, Calls Tryd.prog 47 #[.agg #[.int .u8 a5, .int .u8 b5]] X fun e w' => e = .returned (.bool true) ∧ Below X.heap.size X w') := fun X => by have h := cThere_any a5 b5 X; rw [decide_eq_true (by have := PF5.out.size; omega)] at h; exact h
          have HTk : Hid (∀ X, _) := fun X => cTakes_any a5 b5 m5 X PF5.out.bits
          have F : Hid (tkB b5 m5 = true → ∀ X, Below w5.heap.size w5 X → BuS w X rb vb [.int .u8 o, .int .u8 a0, .int .u8 b0, .int .u8 a1, .int .u8 b1, .int .u8 a2, .int .u8 b2, .int .u8 a3, .int .u8 b3, .int .u8 a4, .int .u8 b4, .int .u8 a5, .int .u8 b5] [.int .u64 (m0.toNat : Int), .int .u64 (m1.toNat : Int), .int .u64 (m2.toNat : Int), .int .u64 (m3.toNat : Int), .int .u64 (lb.toNat : Int), .int .u64 (m5.toNat : Int)] ∧ (∀ q ∈ QA.take 6, vOk q.1 q.2 = true)) := fun ht X bX => ⟨S5.out.1.later bX, take_step J5.out HP.out (by show (_ || tkB b5 m5) = true; rw [ht, Bool.or_true])⟩
          have N : Hid (tkB b5 m5 = false → ∀ X, Below w5.heap.size w5 X → buR op sv pv vv tv lb nv = (none, 3) ∧ Below w.heap.size w X) := fun ht X bX => ⟨EB.out _ (List.mem_of_getElem? J5.out) (by show (decide (b5 = 0) || tkB b5 m5) = false; rw [ht, decide_eq_false hb]; rfl), (S5.out.1.later bX).below⟩
          clear hb
          generalize htk : tkB b5 m5 = tk at F N HTk
          clear htk
          refine wp_region_held_drew (S := fun W => Below w5.heap.size w5 W) (by kernel_rfl) ((Below.refl _ _).drew) (fun hS => ?_)
          have B0 : Below w5.heap.size w5 w5.drew := ((Below.refl _ _).drew)
          refine any_take (i := 0) (v := ?_) rfl (by kernel_rfl) (by kernel_rfl) (by kernel_rfl) (by exact fun _ _ _ h => h) (by rfl) ?_ hS ?_
          rotate_left
          · ((intro w hSw; have c0 := ck_later (show w5.cell? ⟨wr.heap.size, 0, none⟩ = _ from ck_at S5.out.2 0) hSw; have c1 := ck_later (show w5.cell? ⟨wr.heap.size, 1, none⟩ = _ from ck_at S5.out.2 1) hSw; have c2 := ck_later (show w5.cell? ⟨vb, 5, none⟩ = some (.int .u64 (m5.toNat : Int)) from ck_at S5.out.1.v 5) hSw; go_simp) <;> with_reducible rfl)
          (try simp only [Act.put, List.setIfInBounds_toArray, List.set_cons_zero, List.set_cons_succ])
          refine any_one (i := 1) rfl (by kernel_rfl) (fun K hK => ?_)
          go_simp
          refine (Calls.mono (HTh.out _)) ?_
          rintro e x1 ⟨rfl, hbR⟩
          have B1 : Below w5.heap.size w5 x1 := below_then B0 hbR
          go_wp2_with fail
          refine hK.out _ _ (by first | exact B1 | exact hbR | exact below_then hS hbR) (any_weaken (S' := fun W => Below x1.heap.size x1 W) (fun W hW => by first | exact below_then B1 hW | exact below_then hbR hW | exact below_then (below_then hS hbR) hW) _ _ _ _ ?_)
          clear hK K hS hbR
          have hS : Below x1.heap.size x1 x1 := Below.refl _ _
          refine any_take (i := 2) (v := ?_) rfl (by kernel_rfl) (by kernel_rfl) (by kernel_rfl) (by exact fun _ _ _ h => h) (by rfl) ?_ hS ?_
          rotate_left
          · ((intro w hSw; (try dsimp only at hSw); go_simp) <;> with_reducible rfl)
          (try simp only [Act.put, List.setIfInBounds_toArray, List.set_cons_zero, List.set_cons_succ])
          refine any_take (i := 3) (v := ?_) rfl (by kernel_rfl) (by kernel_rfl) (by kernel_rfl) (by exact fun _ _ _ h => h) (by rfl) ?_ hS ?_
          rotate_left
          · ((intro w hSw; have c0 := ck_later (show w5.cell? ⟨wr.heap.size, 0, none⟩ = _ from ck_at S5.out.2 0) (below_then B1 hSw); have c1 := ck_later (show w5.cell? ⟨wr.heap.size, 1, none⟩ = _ from ck_at S5.out.2 1) (below_then B1 hSw); have c2 := ck_later (show w5.cell? ⟨vb, 5, none⟩ = some (.int .u64 (m5.toNat : Int)) from ck_at S5.out.1.v 5) (below_then B1 hSw); go_simp) <;> with_reducible rfl)
          (try simp only [Act.put, List.setIfInBounds_toArray, List.set_cons_zero, List.set_cons_succ])
          refine any_take (i := 4) (v := ?_) rfl (by kernel_rfl) (by kernel_rfl) (by kernel_rfl) (by exact fun _ _ _ h => h) (by rfl) ?_ hS ?_
          rotate_left
          · ((intro w hSw; have c0 := ck_later (show w5.cell? ⟨wr.heap.size, 0, none⟩ = _ from ck_at S5.out.2 0) (below_then B1 hSw); have c1 := ck_later (show w5.cell? ⟨wr.heap.size, 1, none⟩ = _ from ck_at S5.out.2 1) (below_then B1 hSw); have c2 := ck_later (show w5.cell? ⟨vb, 5, none⟩ = some (.int .u64 (m5.toNat : Int)) from ck_at S5.out.1.v 5) (below_then B1 hSw); go_simp) <;> with_reducible rfl)
          (try simp only [Act.put, List.setIfInBounds_toArray, List.set_cons_zero, List.set_cons_succ])
          refine any_take (i := 5) (v := ?_) rfl (by kernel_rfl) (by kernel_rfl) (by kernel_rfl) (by exact fun _ _ _ h => h) (by rfl) ?_ hS ?_
          rotate_left
          · ((intro w hSw; have c0 := ck_later (show w5.cell? ⟨wr.heap.size, 0, none⟩ = _ from ck_at S5.out.2 0) (below_then B1 hSw); have c1 := ck_later (show w5.cell? ⟨wr.heap.size, 1, none⟩ = _ from ck_at S5.out.2 1) (below_then B1 hSw); have c2 := ck_later (show w5.cell? ⟨vb, 5, none⟩ = some (.int .u64 (m5.toNat : Int)) from ck_at S5.out.1.v 5) (below_then B1 hSw); go_simp) <;> with_reducible rfl)
          (try simp only [Act.put, List.setIfInBounds_toArray, List.set_cons_zero, List.set_cons_succ])
          refine any_take (i := 6) (v := ?_) rfl (by kernel_rfl) (by kernel_rfl) (by kernel_rfl) (by exact fun _ _ _ h => h) (by rfl) ?_ hS ?_
          rotate_left
          · ((intro w hSw; have c0 := ck_later (show w5.cell? ⟨wr.heap.size, 0, none⟩ = _ from ck_at S5.out.2 0) (below_then B1 hSw); have c1 := ck_later (show w5.cell? ⟨wr.heap.size, 1, none⟩ = _ from ck_at S5.out.2 1) (below_then B1 hSw); have c2 := ck_later (show w5.cell? ⟨vb, 5, none⟩ = some (.int .u64 (m5.toNat : Int)) from ck_at S5.out.1.v 5) (below_then B1 hSw); go_simp) <;> with_reducible rfl)
          (try simp only [Act.put, List.setIfInBounds_toArray, List.set_cons_zero, List.set_cons_succ])
          refine any_one (i := 7) rfl (by kernel_rfl) (fun K hK => ?_)
          go_simp
          refine (Calls.mono (HTk.out _)) ?_
          rintro e x2 ⟨rfl, hbR⟩
          have B2 : Below w5.heap.size w5 x2 := below_then B1 hbR
          go_wp2_with fail
          refine hK.out _ _ (by first | exact B2 | exact hbR | exact below_then hS hbR) (any_weaken (S' := fun W => Below x2.heap.size x2 W) (fun W hW => by first | exact below_then B2 hW | exact below_then hbR hW | exact below_then (below_then hS hbR) hW) _ _ _ _ ?_)
          clear hK K hS hbR
          have hS : Below x2.heap.size x2 x2 := Below.refl _ _
          refine any_take (i := 8) (v := ?_) rfl (by kernel_rfl) (by kernel_rfl) (by kernel_rfl) (by exact fun _ _ _ h => h) (by rfl) ?_ hS ?_
          rotate_left
          · ((intro w hSw; (try dsimp only at hSw); go_simp) <;> with_reducible rfl)
          (try simp only [Act.put, List.setIfInBounds_toArray, List.set_cons_zero, List.set_cons_succ])
          refine any_take (i := 9) (v := ?_) rfl (by kernel_rfl) (by kernel_rfl) (by kernel_rfl) (by exact fun _ _ _ h => h) (by rfl) ?_ hS ?_
          rotate_left
          · ((intro w hSw; (try dsimp only at hSw); go_simp) <;> with_reducible rfl)
          (try simp only [Act.put, List.setIfInBounds_toArray, List.set_cons_zero, List.set_cons_succ])
          refine wpAnyH_done (by kernel_rfl) ?_ _
          cases tk with
          | true =>
            have F2 : Hid _ := F.out rfl _ B2
            clear F N hS B0 B1 B2 S5 HP HTh HTk
            go_wp2
            go_roundw
            case rel => exact ⟨6, by omega, rfl, F2.out.1, F2.out.2⟩
            case measure => simp [intOf]
          | false =>
            have F2 : Hid _ := N.out rfl _ B2
            clear F N hS B0 B1 B2 S5 HP HTh HTk
            go_wp2
            refine bodyPost_ret (v := .tuple #[.slice none 0 0, .int .i64 3]) (by first | rfl | simp [results, Tryd.results16, go_sem]) rfl ?_
            exact ⟨.slice none 0 0, by rw [F2.out.1], by rw [F2.out.1]; exact rfl, F2.out.2⟩
      · rw [show ((6 : Nat) : Int) = 6 from rfl]
        have HG : Hid _ := hP
        have S7 : Hid _ := hS
        clear hP hS
        have y0 := ck_at S7.out.r 0
        have y1 := ck_at S7.out.r 1
        have y2 := ck_at S7.out.r 2
        have y3 := ck_at S7.out.r 3
        have y4 := ck_at S7.out.r 4
        have y5 := ck_at S7.out.r 5
        have y6 := ck_at S7.out.r 6
        have y7 := ck_at S7.out.r 7
        have y8 := ck_at S7.out.r 8
        have y9 := ck_at S7.out.r 9
        have y10 := ck_at S7.out.r 10
        have y11 := ck_at S7.out.r 11
        have y12 := ck_at S7.out.r 12
        simp only [List.getElem?_cons_zero, List.getElem?_cons_succ] at y0 y1 y2 y3 y4 y5 y6 y7 y8 y9 y10 y11 y12
        go_upto_region 11 with fail
        go_wp2_with fail
        clear y0 y1 y2 y3 y4 y5 y6 y7 y8 y9 y10 y11 y12
        go_loopw [40] (fun iv wr => ∃ k : Nat, k ≤ 6 ∧ iv = .int .i64 k ∧ BuS w wr rb vb [.int .u8 o, .int .u8 a0, .int .u8 b0, .int .u8 a1, .int .u8 b1, .int .u8 a2, .int .u8 b2, .int .u8 a3, .int .u8 b3, .int .u8 a4, .int .u8 b4, .int .u8 a5, .int .u8 b5] [.int .u64 (m0.toNat : Int), .int .u64 (m1.toNat : Int), .int .u64 (m2.toNat : Int), .int .u64 (m3.toNat : Int), .int .u64 (lb.toNat : Int), .int .u64 (m5.toNat : Int)] ∧ (∀ q ∈ QA.take k, zOk q.1 q.2 = true)) (fun iv _ => 6 - (intOf iv).toNat)
        case atStart => exact ⟨0, by omega, rfl, S7.out, by simp⟩
        case round =>
          clear S7
          obtain ⟨k, hk, rfl, hS, hP⟩ := hrel
          have hk' : k = 0 ∨ k = 1 ∨ k = 2 ∨ k = 3 ∨ k = 4 ∨ k = 5 ∨ k = 6 := by omega
          rcases hk' with rfl | rfl | rfl | rfl | rfl | rfl | rfl
          · have hix : ∀ X : World, (Instr.index 79 (.agg #[.int .u8 a0, .int .u8 b0, .int .u8 a1, .int .u8 b1, .int .u8 a2, .int .u8 b2, .int .u8 a3, .int .u8 b3, .int .u8 a4, .int .u8 b4, .int .u8 a5, .int .u8 b5]) (.int .i64 0)).run Tryd.prog X = .ok (.agg #[.int .u8 a0, .int .u8 b0]) X := fun _ => by first | rfl | kernel_rfl
            have B3 := Blk.new' wr 78 [.int .u8 a0, .int .u8 b0]
            have b3_ : Below wr.heap.size wr (wr.alloc (.cells #[.int .u8 a0, .int .u8 b0] 78)) := (Below.refl _ _).alloc (Nat.le_refl _) _
            obtain ⟨w5, hw5⟩ : ∃ w5, w5 = wr.alloc (.cells #[.int .u8 a0, .int .u8 b0] 78) := ⟨_, rfl⟩
            rw [← hw5] at B3 b3_
            have S5 : Hid _ := And.intro (hS.later b3_) B3
            have HP : Hid _ := hP
            clear hS hP B3 b3_
            go_upto_region 14 with fail
            rw [← hw5]
            clear hw5 hix
            have c0 := ck_at S5.out.2 0
            have c1 := ck_at S5.out.2 1
            simp only [List.getElem?_cons_zero, List.getElem?_cons_succ] at c0 c1
            go_wp2_with fail
            clear c0 c1
            refine (Calls.mono (cThere_any _ _ _)) ?_
            rintro e w6 ⟨rfl, b6_⟩
            have S6 : Hid _ := S5.out.1.later b6_
            clear b6_ S5
            obtain ⟨M, hM⟩ : ∃ M : Int, M = (m0.toNat : Int) := ⟨_, rfl⟩
            have c2 : w6.cell? ⟨vb, 0, none⟩ = some (.int .u64 (m0.toNat : Int)) := ck_at S6.out.v 0
            rw [← hM] at c2
            have NZ : Hid (b0 = 0 → (M != 0) = true → buR op sv pv vv tv lb nv = (none, 11)) := fun h0 h1 => EZ.out HG.out _ (List.mem_of_getElem? J0.out) (by show (decide (b0 ≠ 0) || !((m0.toNat : Int) != 0)) = false; rw [← hM, h1, decide_eq_false (by simpa using h0)]; rfl)
            have FZ : Hid (b0 ≠ 0 ∨ (M != 0) = false → ∀ q ∈ QA.take 1, zOk q.1 q.2 = true) := fun h => take_step J0.out HP.out (by show (decide (b0 ≠ 0) || !((m0.toNat : Int) != 0)) = true; rw [← hM]; rcases h with h | h <;> simp [h])
            clear hM
            by_cases hb : b0 = 0
            · have d1 : decide (b0 > 0) = false := decide_eq_false (by omega)
              cases d2 : (M != 0) with
              | true =>
                have F2 : Hid _ := And.intro (NZ.out hb d2) S6.out.below
                clear FZ NZ S6 HP hb
                go_wp2
                refine bodyPost_ret (v := .tuple #[.slice none 0 0, .int .i64 11]) (by first | rfl | simp [results, Tryd.results16, go_sem]) rfl ?_
                exact ⟨.slice none 0 0, by rw [F2.out.1], by rw [F2.out.1]; exact rfl, F2.out.2⟩
              | false =>
                have F2 : Hid _ := And.intro S6.out (FZ.out (Or.inr d2))
                clear hb
                clear FZ NZ S6 HP
                go_wp2
                go_roundw
                case rel => exact ⟨1, by omega, rfl, F2.out.1, F2.out.2⟩
                case measure => simp [intOf]
            · have d1 : decide (b0 > 0) = true := decide_eq_true (by have := PF0.out.size; omega)
              have F2 : Hid _ := And.intro S6.out (FZ.out (Or.inl hb))
              clear hb c2
              clear FZ NZ S6 HP
              go_wp2
              go_roundw
              case rel => exact ⟨1, by omega, rfl, F2.out.1, F2.out.2⟩
              case measure => simp [intOf]
          · have hix : ∀ X : World, (Instr.index 79 (.agg #[.int .u8 a0, .int .u8 b0, .int .u8 a1, .int .u8 b1, .int .u8 a2, .int .u8 b2, .int .u8 a3, .int .u8 b3, .int .u8 a4, .int .u8 b4, .int .u8 a5, .int .u8 b5]) (.int .i64 1)).run Tryd.prog X = .ok (.agg #[.int .u8 a1, .int .u8 b1]) X := fun _ => by first | rfl | kernel_rfl
            have B3 := Blk.new' wr 78 [.int .u8 a1, .int .u8 b1]
            have b3_ : Below wr.heap.size wr (wr.alloc (.cells #[.int .u8 a1, .int .u8 b1] 78)) := (Below.refl _ _).alloc (Nat.le_refl _) _
            obtain ⟨w5, hw5⟩ : ∃ w5, w5 = wr.alloc (.cells #[.int .u8 a1, .int .u8 b1] 78) := ⟨_, rfl⟩
            rw [← hw5] at B3 b3_
            have S5 : Hid _ := And.intro (hS.later b3_) B3
            have HP : Hid _ := hP
            clear hS hP B3 b3_
            go_upto_region 14 with fail
            rw [← hw5]
            clear hw5 hix
            have c0 := ck_at S5.out.2 0
            have c1 := ck_at S5.out.2 1
            simp only [List.getElem?_cons_zero, List.getElem?_cons_succ] at c0 c1
            go_wp2_with fail
            clear c0 c1
            refine (Calls.mono (cThere_any _ _ _)) ?_
            rintro e w6 ⟨rfl, b6_⟩
            have S6 : Hid _ := S5.out.1.later b6_
            clear b6_ S5
            obtain ⟨M, hM⟩ : ∃ M : Int, M = (m1.toNat : Int) := ⟨_, rfl⟩
            have c2 : w6.cell? ⟨vb, 1, none⟩ = some (.int .u64 (m1.toNat : Int)) := ck_at S6.out.v 1
            rw [← hM] at c2
            have NZ : Hid (b1 = 0 → (M != 0) = true → buR op sv pv vv tv lb nv = (none, 11)) := fun h0 h1 => EZ.out HG.out _ (List.mem_of_getElem? J1.out) (by show (decide (b1 ≠ 0) || !((m1.toNat : Int) != 0)) = false; rw [← hM, h1, decide_eq_false (by simpa using h0)]; rfl)
            have FZ : Hid (b1 ≠ 0 ∨ (M != 0) = false → ∀ q ∈ QA.take 2, zOk q.1 q.2 = true) := fun h => take_step J1.out HP.out (by show (decide (b1 ≠ 0) || !((m1.toNat : Int) != 0)) = true; rw [← hM]; rcases h with h | h <;> simp [h])
            clear hM
            by_cases hb : b1 = 0
            · have d1 : decide (b1 > 0) = false := decide_eq_false (by omega)
              cases d2 : (M != 0) with
              | true =>
                have F2 : Hid _ := And.intro (NZ.out hb d2) S6.out.below
                clear FZ NZ S6 HP hb
                go_wp2
                refine bodyPost_ret (v := .tuple #[.slice none 0 0, .int .i64 11]) (by first | rfl | simp [results, Tryd.results16, go_sem]) rfl ?_
                exact ⟨.slice none 0 0, by rw [F2.out.1], by rw [F2.out.1]; exact rfl, F2.out.2⟩
              | false =>
                have F2 : Hid _ := And.intro S6.out (FZ.out (Or.inr d2))
                clear hb
                clear FZ NZ S6 HP
                go_wp2
                go_roundw
                case rel => exact ⟨2, by omega, rfl, F2.out.1, F2.out.2⟩
                case measure => simp [intOf]
            · have d1 : decide (b1 > 0) = true := decide_eq_true (by have := PF1.out.size; omega)
              have F2 : Hid _ := And.intro S6.out (FZ.out (Or.inl hb))
              clear hb c2
              clear FZ NZ S6 HP
              go_wp2
              go_roundw
              case rel => exact ⟨2, by omega, rfl, F2.out.1, F2.out.2⟩
              case measure => simp [intOf]
          · have hix : ∀ X : World, (Instr.index 79 (.agg #[.int .u8 a0, .int .u8 b0, .int .u8 a1, .int .u8 b1, .int .u8 a2, .int .u8 b2, .int .u8 a3, .int .u8 b3, .int .u8 a4, .int .u8 b4, .int .u8 a5, .int .u8 b5]) (.int .i64 2)).run Tryd.prog X = .ok (.agg #[.int .u8 a2, .int .u8 b2]) X := fun _ => by first | rfl | kernel_rfl
            have B3 := Blk.new' wr 78 [.int .u8 a2, .int .u8 b2]
            have b3_ : Below wr.heap.size wr (wr.alloc (.cells #[.int .u8 a2, .int .u8 b2] 78)) := (Below.refl _ _).alloc (Nat.le_refl _) _
            obtain ⟨w5, hw5⟩ : ∃ w5, w5 = wr.alloc (.cells #[.int .u8 a2, .int .u8 b2] 78) := ⟨_, rfl⟩
            rw [← hw5] at B3 b3_
            have S5 : Hid _ := And.intro (hS.later b3_) B3
            have HP : Hid _ := hP
            clear hS hP B3 b3_
            go_upto_region 14 with fail
            rw [← hw5]
            clear hw5 hix
            have c0 := ck_at S5.out.2 0
            have c1 := ck_at S5.out.2 1
            simp only [List.getElem?_cons_zero, List.getElem?_cons_succ] at c0 c1
            go_wp2_with fail
            clear c0 c1
            refine (Calls.mono (cThere_any _ _ _)) ?_
            rintro e w6 ⟨rfl, b6_⟩
            have S6 : Hid _ := S5.out.1.later b6_
            clear b6_ S5
            obtain ⟨M, hM⟩ : ∃ M : Int, M = (m2.toNat : Int) := ⟨_, rfl⟩
            have c2 : w6.cell? ⟨vb, 2, none⟩ = some (.int .u64 (m2.toNat : Int)) := ck_at S6.out.v 2
            rw [← hM] at c2
            have NZ : Hid (b2 = 0 → (M != 0) = true → buR op sv pv vv tv lb nv = (none, 11)) := fun h0 h1 => EZ.out HG.out _ (List.mem_of_getElem? J2.out) (by show (decide (b2 ≠ 0) || !((m2.toNat : Int) != 0)) = false; rw [← hM, h1, decide_eq_false (by simpa using h0)]; rfl)
            have FZ : Hid (b2 ≠ 0 ∨ (M != 0) = false → ∀ q ∈ QA.take 3, zOk q.1 q.2 = true) := fun h => take_step J2.out HP.out (by show (decide (b2 ≠ 0) || !((m2.toNat : Int) != 0)) = true; rw [← hM]; rcases h with h | h <;> simp [h])
            clear hM
            by_cases hb : b2 = 0
            · have d1 : decide (b2 > 0) = false := decide_eq_false (by omega)
              cases d2 : (M != 0) with
              | true =>
                have F2 : Hid _ := And.intro (NZ.out hb d2) S6.out.below
                clear FZ NZ S6 HP hb
                go_wp2
                refine bodyPost_ret (v := .tuple #[.slice none 0 0, .int .i64 11]) (by first | rfl | simp [results, Tryd.results16, go_sem]) rfl ?_
                exact ⟨.slice none 0 0, by rw [F2.out.1], by rw [F2.out.1]; exact rfl, F2.out.2⟩
              | false =>
                have F2 : Hid _ := And.intro S6.out (FZ.out (Or.inr d2))
                clear hb
                clear FZ NZ S6 HP
                go_wp2
                go_roundw
                case rel => exact ⟨3, by omega, rfl, F2.out.1, F2.out.2⟩
                case measure => simp [intOf]
            · have d1 : decide (b2 > 0) = true := decide_eq_true (by have := PF2.out.size; omega)
              have F2 : Hid _ := And.intro S6.out (FZ.out (Or.inl hb))
              clear hb c2
              clear FZ NZ S6 HP
              go_wp2
              go_roundw
              case rel => exact ⟨3, by omega, rfl, F2.out.1, F2.out.2⟩
              case measure => simp [intOf]
          · have hix : ∀ X : World, (Instr.index 79 (.agg #[.int .u8 a0, .int .u8 b0, .int .u8 a1, .int .u8 b1, .int .u8 a2, .int .u8 b2, .int .u8 a3, .int .u8 b3, .int .u8 a4, .int .u8 b4, .int .u8 a5, .int .u8 b5]) (.int .i64 3)).run Tryd.prog X = .ok (.agg #[.int .u8 a3, .int .u8 b3]) X := fun _ => by first | rfl | kernel_rfl
            have B3 := Blk.new' wr 78 [.int .u8 a3, .int .u8 b3]
            have b3_ : Below wr.heap.size wr (wr.alloc (.cells #[.int .u8 a3, .int .u8 b3] 78)) := (Below.refl _ _).alloc (Nat.le_refl _) _
            obtain ⟨w5, hw5⟩ : ∃ w5, w5 = wr.alloc (.cells #[.int .u8 a3, .int .u8 b3] 78) := ⟨_, rfl⟩
            rw [← hw5] at B3 b3_
            have S5 : Hid _ := And.intro (hS.later b3_) B3
            have HP : Hid _ := hP
            clear hS hP B3 b3_
            go_upto_region 14 with fail
            rw [← hw5]
            clear hw5 hix
            have c0 := ck_at S5.out.2 0
            have c1 := ck_at S5.out.2 1
            simp only [List.getElem?_cons_zero, List.getElem?_cons_succ] at c0 c1
            go_wp2_with fail
            clear c0 c1
            refine (Calls.mono (cThere_any _ _ _)) ?_
            rintro e w6 ⟨rfl, b6_⟩
            have S6 : Hid _ := S5.out.1.later b6_
            clear b6_ S5
            obtain ⟨M, hM⟩ : ∃ M : Int, M = (m3.toNat : Int) := ⟨_, rfl⟩
            have c2 : w6.cell? ⟨vb, 3, none⟩ = some (.int .u64 (m3.toNat : Int)) := ck_at S6.out.v 3
            rw [← hM] at c2
            have NZ : Hid (b3 = 0 → (M != 0) = true → buR op sv pv vv tv lb nv = (none, 11)) := fun h0 h1 => EZ.out HG.out _ (List.mem_of_getElem? J3.out) (by show (decide (b3 ≠ 0) || !((m3.toNat : Int) != 0)) = false; rw [← hM, h1, decide_eq_false (by simpa using h0)]; rfl)
            have FZ : Hid (b3 ≠ 0 ∨ (M != 0) = false → ∀ q ∈ QA.take 4, zOk q.1 q.2 = true) := fun h => take_step J3.out HP.out (by show (decide (b3 ≠ 0) || !((m3.toNat : Int) != 0)) = true; rw [← hM]; rcases h with h | h <;> simp [h])
            clear hM
            by_cases hb : b3 = 0
            · have d1 : decide (b3 > 0) = false := decide_eq_false (by omega)
              cases d2 : (M != 0) with
              | true =>
                have F2 : Hid _ := And.intro (NZ.out hb d2) S6.out.below
                clear FZ NZ S6 HP hb
                go_wp2
                refine bodyPost_ret (v := .tuple #[.slice none 0 0, .int .i64 11]) (by first | rfl | simp [results, Tryd.results16, go_sem]) rfl ?_
                exact ⟨.slice none 0 0, by rw [F2.out.1], by rw [F2.out.1]; exact rfl, F2.out.2⟩
              | false =>
                have F2 : Hid _ := And.intro S6.out (FZ.out (Or.inr d2))
                clear hb
                clear FZ NZ S6 HP
                go_wp2
                go_roundw
                case rel => exact ⟨4, by omega, rfl, F2.out.1, F2.out.2⟩
                case measure => simp [intOf]
            · have d1 : decide (b3 > 0) = true := decide_eq_true (by have := PF3.out.size; omega)
              have F2 : Hid _ := And.intro S6.out (FZ.out (Or.inl hb))
              clear hb c2
              clear FZ NZ S6 HP
              go_wp2
              go_roundw
              case rel => exact ⟨4, by omega, rfl, F2.out.1, F2.out.2⟩
              case measure => simp [intOf]
          · have hix : ∀ X : World, (Instr.index 79 (.agg #[.int .u8 a0, .int .u8 b0, .int .u8 a1, .int .u8 b1, .int .u8 a2, .int .u8 b2, .int .u8 a3, .int .u8 b3, .int .u8 a4, .int .u8 b4, .int .u8 a5, .int .u8 b5]) (.int .i64 4)).run Tryd.prog X = .ok (.agg #[.int .u8 a4, .int .u8 b4]) X := fun _ => by first | rfl | kernel_rfl
            have B3 := Blk.new' wr 78 [.int .u8 a4, .int .u8 b4]
            have b3_ : Below wr.heap.size wr (wr.alloc (.cells #[.int .u8 a4, .int .u8 b4] 78)) := (Below.refl _ _).alloc (Nat.le_refl _) _
            obtain ⟨w5, hw5⟩ : ∃ w5, w5 = wr.alloc (.cells #[.int .u8 a4, .int .u8 b4] 78) := ⟨_, rfl⟩
            rw [← hw5] at B3 b3_
            have S5 : Hid _ := And.intro (hS.later b3_) B3
            have HP : Hid _ := hP
            clear hS hP B3 b3_
            go_upto_region 14 with fail
            rw [← hw5]
            clear hw5 hix
            have c0 := ck_at S5.out.2 0
            have c1 := ck_at S5.out.2 1
            simp only [List.getElem?_cons_zero, List.getElem?_cons_succ] at c0 c1
            go_wp2_with fail
            clear c0 c1
            refine (Calls.mono (cThere_any _ _ _)) ?_
            rintro e w6 ⟨rfl, b6_⟩
            have S6 : Hid _ := S5.out.1.later b6_
            clear b6_ S5
            obtain ⟨M, hM⟩ : ∃ M : Int, M = (lb.toNat : Int) := ⟨_, rfl⟩
            have c2 : w6.cell? ⟨vb, 4, none⟩ = some (.int .u64 (lb.toNat : Int)) := ck_at S6.out.v 4
            rw [← hM] at c2
            have NZ : Hid (b4 = 0 → (M != 0) = true → buR op sv pv vv tv lb nv = (none, 11)) := fun h0 h1 => EZ.out HG.out _ (List.mem_of_getElem? J4.out) (by show (decide (b4 ≠ 0) || !((lb.toNat : Int) != 0)) = false; rw [← hM, h1, decide_eq_false (by simpa using h0)]; rfl)
            have FZ : Hid (b4 ≠ 0 ∨ (M != 0) = false → ∀ q ∈ QA.take 5, zOk q.1 q.2 = true) := fun h => take_step J4.out HP.out (by show (decide (b4 ≠ 0) || !((lb.toNat : Int) != 0)) = true; rw [← hM]; rcases h with h | h <;> simp [h])
            clear hM
            by_cases hb : b4 = 0
            · have d1 : decide (b4 > 0) = false := decide_eq_false (by omega)
              cases d2 : (M != 0) with
              | true =>
                have F2 : Hid _ := And.intro (NZ.out hb d2) S6.out.below
                clear FZ NZ S6 HP hb
                go_wp2
                refine bodyPost_ret (v := .tuple #[.slice none 0 0, .int .i64 11]) (by first | rfl | simp [results, Tryd.results16, go_sem]) rfl ?_
                exact ⟨.slice none 0 0, by rw [F2.out.1], by rw [F2.out.1]; exact rfl, F2.out.2⟩
              | false =>
                have F2 : Hid _ := And.intro S6.out (FZ.out (Or.inr d2))
                clear hb
                clear FZ NZ S6 HP
                go_wp2
                go_roundw
                case rel => exact ⟨5, by omega, rfl, F2.out.1, F2.out.2⟩
                case measure => simp [intOf]
            · have d1 : decide (b4 > 0) = true := decide_eq_true (by have := PF4.out.size; omega)
              have F2 : Hid _ := And.intro S6.out (FZ.out (Or.inl hb))
              clear hb c2
              clear FZ NZ S6 HP
              go_wp2
              go_roundw
              case rel => exact ⟨5, by omega, rfl, F2.out.1, F2.out.2⟩
              case measure => simp [intOf]
          · have hix : ∀ X : World, (Instr.index 79 (.agg #[.int .u8 a0, .int .u8 b0, .int .u8 a1, .int .u8 b1, .int .u8 a2, .int .u8 b2, .int .u8 a3, .int .u8 b3, .int .u8 a4, .int .u8 b4, .int .u8 a5, .int .u8 b5]) (.int .i64 5)).run Tryd.prog X = .ok (.agg #[.int .u8 a5, .int .u8 b5]) X := fun _ => by first | rfl | kernel_rfl
            have B3 := Blk.new' wr 78 [.int .u8 a5, .int .u8 b5]
            have b3_ : Below wr.heap.size wr (wr.alloc (.cells #[.int .u8 a5, .int .u8 b5] 78)) := (Below.refl _ _).alloc (Nat.le_refl _) _
            obtain ⟨w5, hw5⟩ : ∃ w5, w5 = wr.alloc (.cells #[.int .u8 a5, .int .u8 b5] 78) := ⟨_, rfl⟩
            rw [← hw5] at B3 b3_
            have S5 : Hid _ := And.intro (hS.later b3_) B3
            have HP : Hid _ := hP
            clear hS hP B3 b3_
            go_upto_region 14 with fail
            rw [← hw5]
            clear hw5 hix
            have c0 := ck_at S5.out.2 0
            have c1 := ck_at S5.out.2 1
            simp only [List.getElem?_cons_zero, List.getElem?_cons_succ] at c0 c1
            go_wp2_with fail
            clear c0 c1
            refine (Calls.mono (cThere_any _ _ _)) ?_
            rintro e w6 ⟨rfl, b6_⟩
            have S6 : Hid _ := S5.out.1.later b6_
            clear b6_ S5
            obtain ⟨M, hM⟩ : ∃ M : Int, M = (m5.toNat : Int) := ⟨_, rfl⟩
            have c2 : w6.cell? ⟨vb, 5, none⟩ = some (.int .u64 (m5.toNat : Int)) := ck_at S6.out.v 5
            rw [← hM] at c2
            have NZ : Hid (b5 = 0 → (M != 0) = true → buR op sv pv vv tv lb nv = (none, 11)) := fun h0 h1 => EZ.out HG.out _ (List.mem_of_getElem? J5.out) (by show (decide (b5 ≠ 0) || !((m5.toNat : Int) != 0)) = false; rw [← hM, h1, decide_eq_false (by simpa using h0)]; rfl)
            have FZ : Hid (b5 ≠ 0 ∨ (M != 0) = false → ∀ q ∈ QA.take 6, zOk q.1 q.2 = true) := fun h => take_step J5.out HP.out (by show (decide (b5 ≠ 0) || !((m5.toNat : Int) != 0)) = true; rw [← hM]; rcases h with h | h <;> simp [h])
            clear hM
            by_cases hb : b5 = 0
            · have d1 : decide (b5 > 0) = false := decide_eq_false (by omega)
              cases d2 : (M != 0) with
              | true =>
                have F2 : Hid _ := And.intro (NZ.out hb d2) S6.out.below
                clear FZ NZ S6 HP hb
                go_wp2
                refine bodyPost_ret (v := .tuple #[.slice none 0 0, .int .i64 11]) (by first | rfl | simp [results, Tryd.results16, go_sem]) rfl ?_
                exact ⟨.slice none 0 0, by rw [F2.out.1], by rw [F2.out.1]; exact rfl, F2.out.2⟩
              | false =>
                have F2 : Hid _ := And.intro S6.out (FZ.out (Or.inr d2))
                clear hb
                clear FZ NZ S6 HP
                go_wp2
                go_roundw
                case rel => exact ⟨6, by omega, rfl, F2.out.1, F2.out.2⟩
                case measure => simp [intOf]
            · have d1 : decide (b5 > 0) = true := decide_eq_true (by have := PF5.out.size; omega)
              have F2 : Hid _ := And.intro S6.out (FZ.out (Or.inl hb))
              clear hb c2
              clear FZ NZ S6 HP
              go_wp2
              go_roundw
              case rel => exact ⟨6, by omega, rfl, F2.out.1, F2.out.2⟩
              case measure => simp [intOf]
          · have HZ : Hid _ := hP
            have S7 : Hid _ := hS
            clear hP hS
            have t0 : b0 ≠ 0 → fitsB (szB b0) m0 = true := fun h0 => tkB_fits PF0.out h0 (by have h := HG.out _ (by rw [JL.out]; exact List.mem_of_getElem? J0.out); have h2 : (decide (b0 = 0) || tkB b0 m0) = true := h; rw [decide_eq_false h0] at h2; simpa using h2)
            have t1 : b1 ≠ 0 → fitsB (szB b1) m1 = true := fun h0 => tkB_fits PF1.out h0 (by have h := HG.out _ (by rw [JL.out]; exact List.mem_of_getElem? J1.out); have h2 : (decide (b1 = 0) || tkB b1 m1) = true := h; rw [decide_eq_false h0] at h2; simpa using h2)
            have t2 : b2 ≠ 0 → fitsB (szB b2) m2 = true := fun h0 => tkB_fits PF2.out h0 (by have h := HG.out _ (by rw [JL.out]; exact List.mem_of_getElem? J2.out); have h2 : (decide (b2 = 0) || tkB b2 m2) = true := h; rw [decide_eq_false h0] at h2; simpa using h2)
            have t3 : b3 ≠ 0 → fitsB (szB b3) m3 = true := fun h0 => tkB_fits PF3.out h0 (by have h := HG.out _ (by rw [JL.out]; exact List.mem_of_getElem? J3.out); have h2 : (decide (b3 = 0) || tkB b3 m3) = true := h; rw [decide_eq_false h0] at h2; simpa using h2)
            have t4 : b4 ≠ 0 → fitsB (szB b4) lb = true := fun h0 => tkB_fits PF4.out h0 (by have h := HG.out _ (by rw [JL.out]; exact List.mem_of_getElem? J4.out); have h2 : (decide (b4 = 0) || tkB b4 lb) = true := h; rw [decide_eq_false h0] at h2; simpa using h2)
            have t5 : b5 ≠ 0 → fitsB (szB b5) m5 = true := fun h0 => tkB_fits PF5.out h0 (by have h := HG.out _ (by rw [JL.out]; exact List.mem_of_getElem? J5.out); have h2 : (decide (b5 = 0) || tkB b5 m5) = true := h; rw [decide_eq_false h0] at h2; simpa using h2)
            have HW : Hid (∀ X, _) := fun X => cWrite_any o a0 b0 a1 b1 a2 b2 a3 b3 a4 b4 a5 b5 m0 m1 m2 m3 lb m5 X HO.out PF0.out PF1.out PF2.out PF3.out PF4.out PF5.out t0 t1 t2 t3 t4 t5
            clear t0 t1 t2 t3 t4 t5
            rw [← HQ.out] at HW
            have EE : Hid _ := EO.out HG.out HZ.out
            have y0 := ck_at S7.out.r 0
            have y1 := ck_at S7.out.r 1
            have y2 := ck_at S7.out.r 2
            have y3 := ck_at S7.out.r 3
            have y4 := ck_at S7.out.r 4
            have y5 := ck_at S7.out.r 5
            have y6 := ck_at S7.out.r 6
            have y7 := ck_at S7.out.r 7
            have y8 := ck_at S7.out.r 8
            have y9 := ck_at S7.out.r 9
            have y10 := ck_at S7.out.r 10
            have y11 := ck_at S7.out.r 11
            have y12 := ck_at S7.out.r 12
            have x0 := ck_at S7.out.v 0
            have x1 := ck_at S7.out.v 1
            have x2 := ck_at S7.out.v 2
            have x3 := ck_at S7.out.v 3
            have x4 := ck_at S7.out.v 4
            have x5 := ck_at S7.out.v 5
            simp only [List.getElem?_cons_zero, List.getElem?_cons_succ] at y0 y1 y2 y3 y4 y5 y6 y7 y8 y9 y10 y11 y12 x0 x1 x2 x3 x4 x5
            go_wp2_with fail
            clear y0 y1 y2 y3 y4 y5 y6 y7 y8 y9 y10 y11 y12 x0 x1 x2 x3 x4 x5
            refine (Calls.mono (HW.out _)) ?_
            rintro e w8 ⟨z, rfl, o8, b8_⟩
            have G : Hid _ := And.intro (o8.lower S7.out.below.size) (below_then S7.out.below b8_)
            clear o8 b8_ S7 HW
            go_wp2
            refine bodyPost_ret (v := .tuple #[z, .int .i64 0]) (by first | rfl | simp [results, Tryd.results16, go_sem]) rfl ?_
            exact ⟨z, by rw [EE.out], by rw [EE.out]; exact G.out.1, G.out.2⟩
end Go.Proofs.YtmoobfpmijdoaaaDoor

/- cdb: given and taken; what is parsed from other bytes is another command. -/
namespace Go.Proofs.YtmoobfpmijdoaaaDoor
open Go.RowKit
set_option linter.unusedVariables false
set_option linter.unusedSimpArgs false
set_option maxRecDepth 4000

set_option maxHeartbeats 1000000 in
theorem given15_any (c0 c1 c2 : Int) (c3 : Bool) (c4 c5 c6 : Int) (w : World) :
    Calls Tryd.prog 21 #[.agg #[.int .i64 c0, .int .i64 c1, .int .i64 c2, .bool c3, .int .i64 c4, .int .u64 c5, .int .i64 c6]] w fun e w' => e = .returned (.agg #[.int .i64 c0, .int .i64 c1, .int .i64 c2, .bool c3, .int .i64 c4, .int .u64 c5, .int .i64 c6]) ∧ Below w.heap.size w w' := by
  have B0 := Blk.new' w 42 [.int .i64 c0, .int .i64 c1, .int .i64 c2, .bool c3, .int .i64 c4, .int .u64 c5, .int .i64 c6]
  have b0_ : Below w.heap.size w (w.alloc (.cells #[.int .i64 c0, .int .i64 c1, .int .i64 c2, .bool c3, .int .i64 c4, .int .u64 c5, .int .i64 c6] 42)) := (Below.refl _ _).alloc (Nat.le_refl _) _
  obtain ⟨w0, hw0⟩ : ∃ w0, w0 = w.alloc (.cells #[.int .i64 c0, .int .i64 c1, .int .i64 c2, .bool c3, .int .i64 c4, .int .u64 c5, .int .i64 c6] 42) := ⟨_, rfl⟩
  have z0 : w0.heap.size = w.heap.size + 1 := by rw [hw0]; simp
  rw [← hw0] at B0 b0_
  have B1 := Blk.new' w0 35 [.int .i64 0, .int .i64 0, .int .i64 0, .bool false, .int .i64 0, .int .u64 0, .int .i64 0]
  have b1_ : Below w0.heap.size w0 (w0.alloc (.cells #[.int .i64 0, .int .i64 0, .int .i64 0, .bool false, .int .i64 0, .int .u64 0, .int .i64 0] 35)) := (Below.refl _ _).alloc (Nat.le_refl _) _
  obtain ⟨w1, hw1⟩ : ∃ w1, w1 = w0.alloc (.cells #[.int .i64 0, .int .i64 0, .int .i64 0, .bool false, .int .i64 0, .int .u64 0, .int .i64 0] 35) := ⟨_, rfl⟩
  rw [← hw1] at B1 b1_
  rw [z0] at B1
  have b2_ : Below w.heap.size w w1 := below_then b0_ b1_
  have B0' := B0.laterB b1_
  have x0 := ck_at B0' 0
  have x1 := ck_at B0' 1
  have x2 := ck_at B0' 2
  have x3 := ck_at B0' 3
  have x4 := ck_at B0' 4
  have x5 := ck_at B0' 5
  have x6 := ck_at B0' 6
  have z0' := ck_at B1 0
  have z1' := ck_at B1 1
  have z2' := ck_at B1 2
  have z3' := ck_at B1 3
  have z4' := ck_at B1 4
  have z5' := ck_at B1 5
  have z6' := ck_at B1 6
  have f0 := ck_fz B1 0
  have f1 := ck_fz B1 1
  have f2 := ck_fz B1 2
  have f3 := ck_fz B1 3
  have f4 := ck_fz B1 4
  have f5 := ck_fz B1 5
  have f6 := ck_fz B1 6
  simp only [List.getElem?_cons_zero, List.getElem?_cons_succ] at x0 z0' x1 z1' x2 z2' x3 z3' x4 z4' x5 z5' x6 z6'
  have R1 := (((((((B1).set 0 (.int .i64 c0)).set 1 (.int .i64 c1)).set 2 (.int .i64 c2)).set 3 (.bool c3)).set 4 (.int .i64 c4)).set 5 (.int .u64 c5)).set 6 (.int .i64 c6)
  simp only [List.set_cons_zero, List.set_cons_succ] at R1
  have R2 := (((((((b2_).setCell (p := ⟨w.heap.size + 1, 0, none⟩) (show w.heap.size ≤ w.heap.size + 1 by omega) (.int .i64 c0)).setCell (p := ⟨w.heap.size + 1, 1, none⟩) (show w.heap.size ≤ w.heap.size + 1 by omega) (.int .i64 c1)).setCell (p := ⟨w.heap.size + 1, 2, none⟩) (show w.heap.size ≤ w.heap.size + 1 by omega) (.int .i64 c2)).setCell (p := ⟨w.heap.size + 1, 3, none⟩) (show w.heap.size ≤ w.heap.size + 1 by omega) (.bool c3)).setCell (p := ⟨w.heap.size + 1, 4, none⟩) (show w.heap.size ≤ w.heap.size + 1 by omega) (.int .i64 c4)).setCell (p := ⟨w.heap.size + 1, 5, none⟩) (show w.heap.size ≤ w.heap.size + 1 by omega) (.int .u64 c5)).setCell (p := ⟨w.heap.size + 1, 6, none⟩) (show w.heap.size ≤ w.heap.size + 1 by omega) (.int .i64 c6)
  have G : Hid _ := And.intro R1 R2
  clear R1 R2 B0 b0_ B1 b1_ b2_ z0 B0'
  go_enter Tryd.func21, Tryd.ntmps21
  go_upto_region 1 with fail
  rw [← hw0, ← hw1]
  clear hw0 hw1
  go_wp2
  clear x0 z0' f0 x1 z1' f1 x2 z2' f2 x3 z3' f3 x4 z4' f4 x5 z5' f5 x6 z6' f6
  generalize (((((((w1).setCell ⟨w.heap.size + 1, 0, none⟩ (.int .i64 c0)).setCell ⟨w.heap.size + 1, 1, none⟩ (.int .i64 c1)).setCell ⟨w.heap.size + 1, 2, none⟩ (.int .i64 c2)).setCell ⟨w.heap.size + 1, 3, none⟩ (.bool c3)).setCell ⟨w.heap.size + 1, 4, none⟩ (.int .i64 c4)).setCell ⟨w.heap.size + 1, 5, none⟩ (.int .u64 c5)).setCell ⟨w.heap.size + 1, 6, none⟩ (.int .i64 c6) = wf at *
  have r0 := ck_at G.out.1 0
  have r1 := ck_at G.out.1 1
  have r2 := ck_at G.out.1 2
  have r3 := ck_at G.out.1 3
  have r4 := ck_at G.out.1 4
  have r5 := ck_at G.out.1 5
  have r6 := ck_at G.out.1 6
  simp only [List.getElem?_cons_zero, List.getElem?_cons_succ] at r0 r1 r2 r3 r4 r5 r6
  refine bodyPost_ret (v := .agg #[.int .i64 c0, .int .i64 c1, .int .i64 c2, .bool c3, .int .i64 c4, .int .u64 c5, .int .i64 c6]) (by simp [results, Tryd.results21, go_sem, r0, r1, r2, r3, r4, r5, r6]) rfl ?_
  exact ⟨rfl, G.out.2⟩
set_option maxHeartbeats 1000000 in
theorem taken15_any (c0 c1 c2 : Int) (c3 : Bool) (c4 c5 c6 : Int) (w : World) :
    Calls Tryd.prog 23 #[.agg #[.int .i64 c0, .int .i64 c1, .int .i64 c2, .bool c3, .int .i64 c4, .int .u64 c5, .int .i64 c6]] w fun e w' => e = .returned (.agg #[.int .i64 c0, .int .i64 c1, .int .i64 c2, .bool c3, .int .i64 c4, .int .u64 c5, .int .i64 c6]) ∧ Below w.heap.size w w' := by
  have B0 := Blk.new' w 35 [.int .i64 c0, .int .i64 c1, .int .i64 c2, .bool c3, .int .i64 c4, .int .u64 c5, .int .i64 c6]
  have b0_ : Below w.heap.size w (w.alloc (.cells #[.int .i64 c0, .int .i64 c1, .int .i64 c2, .bool c3, .int .i64 c4, .int .u64 c5, .int .i64 c6] 35)) := (Below.refl _ _).alloc (Nat.le_refl _) _
  obtain ⟨w0, hw0⟩ : ∃ w0, w0 = w.alloc (.cells #[.int .i64 c0, .int .i64 c1, .int .i64 c2, .bool c3, .int .i64 c4, .int .u64 c5, .int .i64 c6] 35) := ⟨_, rfl⟩
  have z0 : w0.heap.size = w.heap.size + 1 := by rw [hw0]; simp
  rw [← hw0] at B0 b0_
  have B1 := Blk.new' w0 42 [.int .i64 0, .int .i64 0, .int .i64 0, .bool false, .int .i64 0, .int .u64 0, .int .i64 0]
  have b1_ : Below w0.heap.size w0 (w0.alloc (.cells #[.int .i64 0, .int .i64 0, .int .i64 0, .bool false, .int .i64 0, .int .u64 0, .int .i64 0] 42)) := (Below.refl _ _).alloc (Nat.le_refl _) _
  obtain ⟨w1, hw1⟩ : ∃ w1, w1 = w0.alloc (.cells #[.int .i64 0, .int .i64 0, .int .i64 0, .bool false, .int .i64 0, .int .u64 0, .int .i64 0] 42) := ⟨_, rfl⟩
  rw [← hw1] at B1 b1_
  rw [z0] at B1
  have b2_ : Below w.heap.size w w1 := below_then b0_ b1_
  have B0' := B0.laterB b1_
  have x0 := ck_at B0' 0
  have x1 := ck_at B0' 1
  have x2 := ck_at B0' 2
  have x3 := ck_at B0' 3
  have x4 := ck_at B0' 4
  have x5 := ck_at B0' 5
  have x6 := ck_at B0' 6
  have z0' := ck_at B1 0
  have z1' := ck_at B1 1
  have z2' := ck_at B1 2
  have z3' := ck_at B1 3
  have z4' := ck_at B1 4
  have z5' := ck_at B1 5
  have z6' := ck_at B1 6
  have f0 := ck_fz B1 0
  have f1 := ck_fz B1 1
  have f2 := ck_fz B1 2
  have f3 := ck_fz B1 3
  have f4 := ck_fz B1 4
  have f5 := ck_fz B1 5
  have f6 := ck_fz B1 6
  simp only [List.getElem?_cons_zero, List.getElem?_cons_succ] at x0 z0' x1 z1' x2 z2' x3 z3' x4 z4' x5 z5' x6 z6'
  have R1 := (((((((B1).set 0 (.int .i64 c0)).set 1 (.int .i64 c1)).set 2 (.int .i64 c2)).set 3 (.bool c3)).set 4 (.int .i64 c4)).set 5 (.int .u64 c5)).set 6 (.int .i64 c6)
  simp only [List.set_cons_zero, List.set_cons_succ] at R1
  have R2 := (((((((b2_).setCell (p := ⟨w.heap.size + 1, 0, none⟩) (show w.heap.size ≤ w.heap.size + 1 by omega) (.int .i64 c0)).setCell (p := ⟨w.heap.size + 1, 1, none⟩) (show w.heap.size ≤ w.heap.size + 1 by omega) (.int .i64 c1)).setCell (p := ⟨w.heap.size + 1, 2, none⟩) (show w.heap.size ≤ w.heap.size + 1 by omega) (.int .i64 c2)).setCell (p := ⟨w.heap.size + 1, 3, none⟩) (show w.heap.size ≤ w.heap.size + 1 by omega) (.bool c3)).setCell (p := ⟨w.heap.size + 1, 4, none⟩) (show w.heap.size ≤ w.heap.size + 1 by omega) (.int .i64 c4)).setCell (p := ⟨w.heap.size + 1, 5, none⟩) (show w.heap.size ≤ w.heap.size + 1 by omega) (.int .u64 c5)).setCell (p := ⟨w.heap.size + 1, 6, none⟩) (show w.heap.size ≤ w.heap.size + 1 by omega) (.int .i64 c6)
  have G : Hid _ := And.intro R1 R2
  clear R1 R2 B0 b0_ B1 b1_ b2_ z0 B0'
  go_enter Tryd.func23, Tryd.ntmps23
  go_upto_region 1 with fail
  rw [← hw0, ← hw1]
  clear hw0 hw1
  go_wp2
  clear x0 z0' f0 x1 z1' f1 x2 z2' f2 x3 z3' f3 x4 z4' f4 x5 z5' f5 x6 z6' f6
  generalize (((((((w1).setCell ⟨w.heap.size + 1, 0, none⟩ (.int .i64 c0)).setCell ⟨w.heap.size + 1, 1, none⟩ (.int .i64 c1)).setCell ⟨w.heap.size + 1, 2, none⟩ (.int .i64 c2)).setCell ⟨w.heap.size + 1, 3, none⟩ (.bool c3)).setCell ⟨w.heap.size + 1, 4, none⟩ (.int .i64 c4)).setCell ⟨w.heap.size + 1, 5, none⟩ (.int .u64 c5)).setCell ⟨w.heap.size + 1, 6, none⟩ (.int .i64 c6) = wf at *
  have r0 := ck_at G.out.1 0
  have r1 := ck_at G.out.1 1
  have r2 := ck_at G.out.1 2
  have r3 := ck_at G.out.1 3
  have r4 := ck_at G.out.1 4
  have r5 := ck_at G.out.1 5
  have r6 := ck_at G.out.1 6
  simp only [List.getElem?_cons_zero, List.getElem?_cons_succ] at r0 r1 r2 r3 r4 r5 r6
  refine bodyPost_ret (v := .agg #[.int .i64 c0, .int .i64 c1, .int .i64 c2, .bool c3, .int .i64 c4, .int .u64 c5, .int .i64 c6]) (by simp [results, Tryd.results23, go_sem, r0, r1, r2, r3, r4, r5, r6]) rfl ?_
  exact ⟨rfl, G.out.2⟩

theorem bu_cases (op sv pv : Int) (vv : Bool) (tv : Int) (lb : BitVec 64) (nv : Int) :
    (∃ r, findR op = some r ∧ buR op sv pv vv tv lb nv = (some (wrF r.o (r.ps.zip (valB sv pv vv tv lb nv)) 6), 0)) ∨ ∃ E, buR op sv pv vv tv lb nv = (none, E) ∧ E ≠ 0 := by
  unfold buR buQ
  split
  · exact .inr ⟨1, rfl, by decide⟩
  · rename_i r hr
    split
    · split
      · exact .inl ⟨r, hr, rfl⟩
      · exact .inr ⟨11, rfl, by decide⟩
    · exact .inr ⟨3, rfl, by decide⟩
theorem wrF_len {o : Int} {qs : List ((Int × Int) × BitVec 64)} (h : ∀ q ∈ qs, PlOk q.1.1 q.1.2) (k : Nat) : (wrF o qs k).length = 16 := by
  unfold wrF
  have h2 : ∀ (l : List ((Int × Int) × BitVec 64)) (x : List (BitVec 8)), (∀ q ∈ l, PlOk q.1.1 q.1.2) → x.length = 16 → (l.foldl (fun l q => layF l q.1.1 q.1.2 q.2) x).length = 16 := by
    intro l
    induction l with
    | nil => intro x _ hx; exact hx
    | cons q r ih =>
      intro x hq hx
      exact ih _ (fun y hy => hq y (List.mem_cons_of_mem _ hy)) (layF_len (hq q (List.mem_cons_self ..)) hx)
  exact h2 _ _ (fun q hq => h q (List.mem_of_mem_take hq)) (by simp [opL])
theorem bits2_ok (k : Nat) (hk : k < 14) : ((rowK k).ps.getD 2 (0, 0)).2 = 0 ∨ ((rowK k).ps.getD 2 (0, 0)).2 = 1 := by
  have hk' : k = 0 ∨ k = 1 ∨ k = 2 ∨ k = 3 ∨ k = 4 ∨ k = 5 ∨ k = 6 ∨ k = 7 ∨ k = 8 ∨ k = 9 ∨ k = 10 ∨ k = 11 ∨ k = 12 ∨ k = 13 := by omega
  rcases hk' with rfl | rfl | rfl | rfl | rfl | rfl | rfl | rfl | rfl | rfl | rfl | rfl | rfl | rfl <;> decide
theorem find_bits2 {op : Int} {r : CR} (h : findR op = some r) : (r.ps.getD 2 (0, 0)).2 = 0 ∨ (r.ps.getD 2 (0, 0)).2 = 1 := by
  unfold findR at h
  have h1 := List.mem_of_find?_eq_some h
  obtain ⟨k, hk, rfl⟩ := List.mem_iff_getElem.1 h1
  have hk' : k < 14 := by simpa [tbl] using hk
  have e : rowK k = tbl[k] := by unfold rowK; rw [List.getD_eq_getElem?_getD, List.getElem?_eq_getElem hk]; rfl
  have := bits2_ok k hk'
  rw [e] at this
  exact this
theorem pa_cases (l : List (BitVec 8)) : (∃ r, findR (bt l 0) = some r ∧ wrF r.o (fldL r l) 6 = l ∧ paR l = (cdbL r.o ((fldL r l).map (fun q => (q.2.toNat : Int))), 0)) ∨ ∃ E, paR l = (cdbZ, E) ∧ E ≠ 0 := by
  unfold paR
  split
  · exact .inr ⟨3, rfl, by decide⟩
  · split
    · exact .inr ⟨1, rfl, by decide⟩
    · rename_i r hr
      split
      · rename_i h
        exact .inl ⟨r, hr, h, rfl⟩
      · exact .inr ⟨11, rfl, by decide⟩
theorem ofInt_nat (x : BitVec 64) : BitVec.ofInt 64 (x.toNat : Int) = x := by
  apply BitVec.eq_of_toNat_eq
  rw [BitVec.toNat_ofInt]
  have := x.isLt
  omega
/-- bytes that are parsed as a command that these bytes were built of are these bytes -/
theorem parse_build {op sv pv : Int} {vv : Bool} {tv : Int} {lb : BitVec 64} {nv : Int} {l' : List (BitVec 8)} {r r' : CR} (hr : findR op = some r) (hr' : findR (bt l' 0) = some r')
    (hw : wrF r'.o (fldL r' l') 6 = l') (hc : cdbL r'.o ((fldL r' l').map (fun q => (q.2.toNat : Int))) = [.int .i64 op, .int .i64 sv, .int .i64 pv, .bool vv, .int .i64 tv, .int .u64 (lb.toNat : Int), .int .i64 nv]) :
    wrF r.o (r.ps.zip (valB sv pv vv tv lb nv)) 6 = l' := by
  have k1 := findR_ok hr
  have k2 := findR_ok hr'
  have e0 : r'.o = op := by have := hc; simp only [cdbL, List.cons.injEq, Value.int.injEq] at this; exact this.1.2
  have e1 : r' = r := by
    have h3 : bt l' 0 = op := by rw [← k2.2, e0]
    rw [h3, hr] at hr'
    exact (Option.some.inj hr').symm
  subst e1
  have h2 := find_bits2 hr
  obtain ⟨o, a0, b0, a1, b1, a2, b2, a3, b3, a4, b4, a5, b5, rfl, ho, p0, p1, p2, p3, p4, p5, q0, q1, q3, q5⟩ := k1.1.six
  have hm2 := fvB_lt l' a2 b2 p2
  have h2' : b2 = 0 ∨ b2 = 1 := h2
  have hc' := hc
  simp only [cdbL, fldL, List.map_cons, List.map_nil, List.getD_cons_zero, List.getD_cons_succ, List.cons.injEq, Value.int.injEq, Value.bool.injEq, true_and, and_true] at hc'
  obtain ⟨_, c1, c2, c3, c4, c5, c6⟩ := hc'
  have d2 : (if vv then 1#64 else 0#64) = fvB l' a2 b2 := by
    apply BitVec.eq_of_toNat_eq
    have hx : (fvB l' a2 b2).toNat < 2 := Nat.lt_of_lt_of_le hm2 (by rcases h2' with rfl | rfl <;> decide)
    rw [← c3]
    have hx' : (fvB l' a2 b2).toNat = 0 ∨ (fvB l' a2 b2).toNat = 1 := by omega
    rcases hx' with h | h <;> rw [h] <;> rfl
  have d4 : lb = fvB l' a4 b4 := BitVec.eq_of_toNat_eq (by omega)
  rw [← hw]
  unfold valB fldL
  rw [← c1, ← c2, ← c4, ← c6, d2, d4, ofInt_nat, ofInt_nat, ofInt_nat, ofInt_nat]
  rfl
end Go.Proofs.YtmoobfpmijdoaaaDoor

/- cdb: Size; what stands behind a command. -/
namespace Go.Proofs.YtmoobfpmijdoaaaDoor
open Go.RowKit
set_option linter.unusedVariables false
set_option linter.unusedSimpArgs false
set_option maxRecDepth 4000

def sizC : List Value := [.int .u8 6, .int .u8 10, .int .u8 10, .int .u8 0, .int .u8 16, .int .u8 12]
def SizAt (w : World) : Prop := ∀ j v, sizC[j]? = some v → w.cell? ⟨0, j, none⟩ = some v
theorem SizAt.later {w w' : World} (h : SizAt w) (hb : Below w.heap.size w w') : SizAt w' := fun j v hj => ck_later (h j v hj) hb
def szK (o : Int) : Int := if o < 32 then 6 else if o < 96 then 10 else if o < 160 then 16 else 12
/-- an operation's size -/
def szO (op : Int) : Int := match findR op with
  | none => 0
  | some r => szK r.o
theorem findR_row {op : Int} {r : CR} (h : findR op = some r) : ∃ k, k < 14 ∧ r = rowK k ∧ r.o = op := by
  unfold findR at h
  have h1 := List.mem_of_find?_eq_some h
  have h2 := List.find?_some h
  obtain ⟨k, hk, rfl⟩ := List.mem_iff_getElem.1 h1
  have hk' : k < 14 := by simpa [tbl] using hk
  have e : rowK k = tbl[k] := by unfold rowK; rw [List.getD_eq_getElem?_getD, List.getElem?_eq_getElem hk]; rfl
  exact ⟨k, hk', e.symm, by simpa using h2⟩
theorem layF_at {l : List (BitVec 8)} {a b : Int} {x : BitVec 64} {i : Nat} (h : PlOk a b) (hl : l.length = 16) (hi : b = 0 ∨ i < a.toNat ∨ a.toNat + szB b ≤ i) : bt (layF l a b x) i = bt l i := by
  unfold layF
  split
  · rfl
  · rename_i h0
    have hw := h.wide h0
    have hf := h.fit
    have hb : (be (szB b) x).length = szB b := be_length _ _ (by omega)
    rcases hi with hi | hi
    · exact absurd hi h0
    · exact over_other l _ _ i (by rw [hb, hl]; exact hf) (by rw [hb]; exact hi)
theorem wrF_at {o : Int} {qs : List ((Int × Int) × BitVec 64)} {i : Nat} (h : ∀ q ∈ qs, PlOk q.1.1 q.1.2) (hi : ∀ q ∈ qs, q.1.2 = 0 ∨ i < q.1.1.toNat ∨ q.1.1.toNat + szB q.1.2 ≤ i) (k : Nat) : bt (wrF o qs k) i = bt (opL o) i := by
  unfold wrF
  have h2 : ∀ (l : List ((Int × Int) × BitVec 64)) (x : List (BitVec 8)), (∀ q ∈ l, q ∈ qs) → x.length = 16 → bt (l.foldl (fun l q => layF l q.1.1 q.1.2 q.2) x) i = bt x i := by
    intro l
    induction l with
    | nil => intro x _ hx; rfl
    | cons q r ih =>
      intro x hq hx
      have hm := hq q (List.mem_cons_self ..)
      exact (ih _ (fun y hy => hq y (List.mem_cons_of_mem _ hy)) (layF_len (h q hm) hx)).trans (layF_at (h q hm) hx (hi q hm))
  exact h2 _ _ (fun q hq => List.mem_of_mem_take hq) (by simp [opL])
def freeB (r : CR) (i : Nat) : Bool := r.ps.all (fun p => decide (p.2 = 0 ∨ i < p.1.toNat ∨ p.1.toNat + szB p.2 ≤ i))
theorem free_rows : ∀ k : Fin 14, (0 ≤ (rowK k.val).o ∧ (rowK k.val).o < 256 ∧ 6 ≤ szK (rowK k.val).o ∧ szK (rowK k.val).o ≤ 16) ∧ ∀ i : Fin 16, (i.val = 0 ∨ szK (rowK k.val).o - 1 ≤ (i.val : Int)) → freeB (rowK k.val) i.val = true := by decide +kernel
theorem bt_zero (o : Int) (i : Nat) (h : 0 < i) : bt (opL o) i = 0 := by
  obtain ⟨j, rfl⟩ : ∃ j, i = j + 1 := ⟨i - 1, by omega⟩
  unfold bt opL
  rw [List.getD_cons_succ, List.getD_eq_getElem?_getD, List.getElem?_replicate]
  split <;> rfl
/-- a command's bytes behind it, and its first one -/
theorem bu_free {op : Int} {r : CR} {vs : List (BitVec 64)} (h : findR op = some r) : (6 ≤ szO op ∧ szO op ≤ 16 ∧ 0 ≤ op ∧ op < 256) ∧ bt (wrF r.o (r.ps.zip vs) 6) 0 = op ∧ ∀ i : Nat, i < 16 → szO op - 1 ≤ (i : Int) → bt (wrF r.o (r.ps.zip vs) 6) i = 0 := by
  obtain ⟨k, hk, hr, ho⟩ := findR_row h
  have F := free_rows ⟨k, hk⟩
  have es : szO op = szK r.o := by unfold szO; rw [h]
  have hfree : ∀ i : Nat, i < 16 → (i = 0 ∨ szO op - 1 ≤ (i : Int)) → ∀ q ∈ r.ps.zip vs, q.1.2 = 0 ∨ i < q.1.1.toNat ∨ q.1.1.toNat + szB q.1.2 ≤ i := by
    intro i hi hc q hq
    have h1 := F.2 ⟨i, hi⟩ (by rw [es, hr] at hc; exact hc)
    have h2 := List.all_eq_true.1 h1 q.1 (by show q.1 ∈ (rowK k).ps; rw [← hr]; exact (List.of_mem_zip hq).1)
    exact of_decide_eq_true h2
  have hz : ∀ q ∈ r.ps.zip vs, PlOk q.1.1 q.1.2 := by
    intro q hq
    obtain ⟨o, a0, b0, a1, b1, a2, b2, a3, b3, a4, b4, a5, b5, rfl, ho, p0, p1, p2, p3, p4, p5, -⟩ := (findR_ok h).1.six
    have h1 := (List.of_mem_zip hq).1
    simp only [List.mem_cons, List.not_mem_nil, or_false] at h1
    rcases h1 with h1 | h1 | h1 | h1 | h1 | h1 <;> rw [h1] <;> assumption
  have F1 := F.1
  have eo : (rowK k).o = op := by rw [← hr]; exact ho
  simp only [eo] at F1
  rw [ho] at es
  refine ⟨by omega, ?_, fun i hi hc => ?_⟩
  · rw [wrF_at hz (hfree 0 (by omega) (.inl rfl)) 6]
    show ((c8 r.o).toNat : Int) = op
    rw [ho]
    exact c8_val (by omega)
  · rw [wrF_at hz (hfree i hi (.inr hc)) 6]
    exact bt_zero _ _ (by omega)
set_option maxHeartbeats 4000000 in
theorem cSizeOp_any (op : Int) (w : World) (hT : TblAt w) (hS : SizAt w) :
    Calls Tryd.prog 20 #[.int .i64 op] w fun e w' => e = .returned (.int .i64 (szO op)) ∧ Below w.heap.size w w' := by
  have HF : Hid _ := find_any op w hT
  have HS : Hid _ := hS
  clear hT hS
  go_enter Tryd.func20, Tryd.ntmps20
  go_wp2_with fail
  refine (Calls.mono HF.out) ?_
  rintro e w1 ⟨rfl, b1_⟩
  have H1 : Hid (Below w.heap.size w w1) := b1_
  clear b1_ HF
  cases hfr : findR op with
  | none =>
    have e1 : Hid (szO op = 0) := by show _ = _; unfold szO; rw [hfr]
    have b2_ : Below w1.heap.size w1 (w1.alloc (.cells #[.int .u8 0, .int .u8 0, .int .u8 0, .int .u8 0, .int .u8 0, .int .u8 0, .int .u8 0, .int .u8 0, .int .u8 0, .int .u8 0, .int .u8 0, .int .u8 0, .int .u8 0] 81)) := (Below.refl _ _).alloc (Nat.le_refl _) _
    obtain ⟨w2, hw2⟩ : ∃ w2, w2 = w1.alloc (.cells #[.int .u8 0, .int .u8 0, .int .u8 0, .int .u8 0, .int .u8 0, .int .u8 0, .int .u8 0, .int .u8 0, .int .u8 0, .int .u8 0, .int .u8 0, .int .u8 0, .int .u8 0] 81) := ⟨_, rfl⟩
    rw [← hw2] at b2_
    have H2 : Hid _ := below_then H1.out b2_
    clear b2_ H1 hfr
    rw [show ((none : Option CR).getD ⟨0, [(0, 0), (0, 0), (0, 0), (0, 0), (0, 0), (0, 0)]⟩).cells.toArray = #[.int .u8 0, .int .u8 0, .int .u8 0, .int .u8 0, .int .u8 0, .int .u8 0, .int .u8 0, .int .u8 0, .int .u8 0, .int .u8 0, .int .u8 0, .int .u8 0, .int .u8 0] from rfl, show (none : Option CR).isSome = false from rfl]
    go_upto_region 2 with fail
    rw [← hw2]
    clear hw2
    go_wp2
    go_ret
    exact ⟨by rw [e1.out]; rfl, H2.out⟩
  | some r =>
    obtain ⟨k, hk, hrk, hro⟩ := findR_row hfr
    have e1 : Hid (szO op = szK (rowK k).o) := by show _ = _; unfold szO; rw [hfr, hrk]
    subst hrk
    clear hfr hro
    have hk' : k = 0 ∨ k = 1 ∨ k = 2 ∨ k = 3 ∨ k = 4 ∨ k = 5 ∨ k = 6 ∨ k = 7 ∨ k = 8 ∨ k = 9 ∨ k = 10 ∨ k = 11 ∨ k = 12 ∨ k = 13 := by omega
    clear hk
    rcases hk' with rfl | rfl | rfl | rfl | rfl | rfl | rfl | rfl | rfl | rfl | rfl | rfl | rfl | rfl
    · have B2 := Blk.new' w1 81 [.int .u8 0, .int .u8 0, .int .u8 0, .int .u8 0, .int .u8 0, .int .u8 0, .int .u8 0, .int .u8 0, .int .u8 0, .int .u8 0, .int .u8 0, .int .u8 0, .int .u8 0]
      have b2_ : Below w1.heap.size w1 (w1.alloc (.cells #[.int .u8 0, .int .u8 0, .int .u8 0, .int .u8 0, .int .u8 0, .int .u8 0, .int .u8 0, .int .u8 0, .int .u8 0, .int .u8 0, .int .u8 0, .int .u8 0, .int .u8 0] 81)) := (Below.refl _ _).alloc (Nat.le_refl _) _
      obtain ⟨w2, hw2⟩ : ∃ w2, w2 = w1.alloc (.cells #[.int .u8 0, .int .u8 0, .int .u8 0, .int .u8 0, .int .u8 0, .int .u8 0, .int .u8 0, .int .u8 0, .int .u8 0, .int .u8 0, .int .u8 0, .int .u8 0, .int .u8 0] 81) := ⟨_, rfl⟩
      rw [← hw2] at B2 b2_
      have H2 : Hid _ := below_then H1.out b2_
      have y0 := ck_at B2 0
      simp only [List.getElem?_cons_zero] at y0
      have sc := (SizAt.later HS.out H2.out) 0 (.int .u8 6) rfl
      clear b2_ H1 B2
      rw [show ((some (rowK 0)).getD ⟨0, [(0, 0), (0, 0), (0, 0), (0, 0), (0, 0), (0, 0)]⟩).cells.toArray = #[.int .u8 0, .int .u8 0, .int .u8 0, .int .u8 0, .int .u8 0, .int .u8 0, .int .u8 0, .int .u8 0, .int .u8 0, .int .u8 0, .int .u8 0, .int .u8 0, .int .u8 0] from rfl, show (some (rowK 0)).isSome = true from rfl]
      go_upto_region 2 with fail
      rw [← hw2]
      clear hw2
      go_wp2
      go_ret
      exact ⟨by rw [e1.out]; rfl, H2.out⟩
    · have B2 := Blk.new' w1 81 [.int .u8 3, .int .u8 0, .int .u8 0, .int .u8 0, .int .u8 0, .int .u8 0, .int .u8 0, .int .u8 0, .int .u8 0, .int .u8 0, .int .u8 0, .int .u8 4, .int .u8 8]
      have b2_ : Below w1.heap.size w1 (w1.alloc (.cells #[.int .u8 3, .int .u8 0, .int .u8 0, .int .u8 0, .int .u8 0, .int .u8 0, .int .u8 0, .int .u8 0, .int .u8 0, .int .u8 0, .int .u8 0, .int .u8 4, .int .u8 8] 81)) := (Below.refl _ _).alloc (Nat.le_refl _) _
      obtain ⟨w2, hw2⟩ : ∃ w2, w2 = w1.alloc (.cells #[.int .u8 3, .int .u8 0, .int .u8 0, .int .u8 0, .int .u8 0, .int .u8 0, .int .u8 0, .int .u8 0, .int .u8 0, .int .u8 0, .int .u8 0, .int .u8 4, .int .u8 8] 81) := ⟨_, rfl⟩
      rw [← hw2] at B2 b2_
      have H2 : Hid _ := below_then H1.out b2_
      have y0 := ck_at B2 0
      simp only [List.getElem?_cons_zero] at y0
      have sc := (SizAt.later HS.out H2.out) 0 (.int .u8 6) rfl
      clear b2_ H1 B2
      rw [show ((some (rowK 1)).getD ⟨0, [(0, 0), (0, 0), (0, 0), (0, 0), (0, 0), (0, 0)]⟩).cells.toArray = #[.int .u8 3, .int .u8 0, .int .u8 0, .int .u8 0, .int .u8 0, .int .u8 0, .int .u8 0, .int .u8 0, .int .u8 0, .int .u8 0, .int .u8 0, .int .u8 4, .int .u8 8] from rfl, show (some (rowK 1)).isSome = true from rfl]
      go_upto_region 2 with fail
      rw [← hw2]
      clear hw2
      go_wp2
      go_ret
      exact ⟨by rw [e1.out]; rfl, H2.out⟩
    · have B2 := Blk.new' w1 81 [.int .u8 18, .int .u8 0, .int .u8 0, .int .u8 2, .int .u8 8, .int .u8 1, .int .u8 1, .int .u8 0, .int .u8 0, .int .u8 0, .int .u8 0, .int .u8 3, .int .u8 16]
      have b2_ : Below w1.heap.size w1 (w1.alloc (.cells #[.int .u8 18, .int .u8 0, .int .u8 0, .int .u8 2, .int .u8 8, .int .u8 1, .int .u8 1, .int .u8 0, .int .u8 0, .int .u8 0, .int .u8 0, .int .u8 3, .int .u8 16] 81)) := (Below.refl _ _).alloc (Nat.le_refl _) _
      obtain ⟨w2, hw2⟩ : ∃ w2, w2 = w1.alloc (.cells #[.int .u8 18, .int .u8 0, .int .u8 0, .int .u8 2, .int .u8 8, .int .u8 1, .int .u8 1, .int .u8 0, .int .u8 0, .int .u8 0, .int .u8 0, .int .u8 3, .int .u8 16] 81) := ⟨_, rfl⟩
      rw [← hw2] at B2 b2_
      have H2 : Hid _ := below_then H1.out b2_
      have y0 := ck_at B2 0
      simp only [List.getElem?_cons_zero] at y0
      have sc := (SizAt.later HS.out H2.out) 0 (.int .u8 6) rfl
      clear b2_ H1 B2
      rw [show ((some (rowK 2)).getD ⟨0, [(0, 0), (0, 0), (0, 0), (0, 0), (0, 0), (0, 0)]⟩).cells.toArray = #[.int .u8 18, .int .u8 0, .int .u8 0, .int .u8 2, .int .u8 8, .int .u8 1, .int .u8 1, .int .u8 0, .int .u8 0, .int .u8 0, .int .u8 0, .int .u8 3, .int .u8 16] from rfl, show (some (rowK 2)).isSome = true from rfl]
      go_upto_region 2 with fail
      rw [← hw2]
      clear hw2
      go_wp2
      go_ret
      exact ⟨by rw [e1.out]; rfl, H2.out⟩
    · have B2 := Blk.new' w1 81 [.int .u8 37, .int .u8 0, .int .u8 0, .int .u8 0, .int .u8 0, .int .u8 0, .int .u8 0, .int .u8 0, .int .u8 0, .int .u8 0, .int .u8 0, .int .u8 0, .int .u8 0]
      have b2_ : Below w1.heap.size w1 (w1.alloc (.cells #[.int .u8 37, .int .u8 0, .int .u8 0, .int .u8 0, .int .u8 0, .int .u8 0, .int .u8 0, .int .u8 0, .int .u8 0, .int .u8 0, .int .u8 0, .int .u8 0, .int .u8 0] 81)) := (Below.refl _ _).alloc (Nat.le_refl _) _
      obtain ⟨w2, hw2⟩ : ∃ w2, w2 = w1.alloc (.cells #[.int .u8 37, .int .u8 0, .int .u8 0, .int .u8 0, .int .u8 0, .int .u8 0, .int .u8 0, .int .u8 0, .int .u8 0, .int .u8 0, .int .u8 0, .int .u8 0, .int .u8 0] 81) := ⟨_, rfl⟩
      rw [← hw2] at B2 b2_
      have H2 : Hid _ := below_then H1.out b2_
      have y0 := ck_at B2 0
      simp only [List.getElem?_cons_zero] at y0
      have sc := (SizAt.later HS.out H2.out) 1 (.int .u8 10) rfl
      clear b2_ H1 B2
      rw [show ((some (rowK 3)).getD ⟨0, [(0, 0), (0, 0), (0, 0), (0, 0), (0, 0), (0, 0)]⟩).cells.toArray = #[.int .u8 37, .int .u8 0, .int .u8 0, .int .u8 0, .int .u8 0, .int .u8 0, .int .u8 0, .int .u8 0, .int .u8 0, .int .u8 0, .int .u8 0, .int .u8 0, .int .u8 0] from rfl, show (some (rowK 3)).isSome = true from rfl]
      go_upto_region 2 with fail
      rw [← hw2]
      clear hw2
      go_wp2
      go_ret
      exact ⟨by rw [e1.out]; rfl, H2.out⟩
    · have B2 := Blk.new' w1 81 [.int .u8 40, .int .u8 0, .int .u8 0, .int .u8 0, .int .u8 0, .int .u8 0, .int .u8 0, .int .u8 0, .int .u8 0, .int .u8 2, .int .u8 32, .int .u8 7, .int .u8 16]
      have b2_ : Below w1.heap.size w1 (w1.alloc (.cells #[.int .u8 40, .int .u8 0, .int .u8 0, .int .u8 0, .int .u8 0, .int .u8 0, .int .u8 0, .int .u8 0, .int .u8 0, .int .u8 2, .int .u8 32, .int .u8 7, .int .u8 16] 81)) := (Below.refl _ _).alloc (Nat.le_refl _) _
      obtain ⟨w2, hw2⟩ : ∃ w2, w2 = w1.alloc (.cells #[.int .u8 40, .int .u8 0, .int .u8 0, .int .u8 0, .int .u8 0, .int .u8 0, .int .u8 0, .int .u8 0, .int .u8 0, .int .u8 2, .int .u8 32, .int .u8 7, .int .u8 16] 81) := ⟨_, rfl⟩
      rw [← hw2] at B2 b2_
      have H2 : Hid _ := below_then H1.out b2_
      have y0 := ck_at B2 0
      simp only [List.getElem?_cons_zero] at y0
      have sc := (SizAt.later HS.out H2.out) 1 (.int .u8 10) rfl
      clear b2_ H1 B2
      rw [show ((some (rowK 4)).getD ⟨0, [(0, 0), (0, 0), (0, 0), (0, 0), (0, 0), (0, 0)]⟩).cells.toArray = #[.int .u8 40, .int .u8 0, .int .u8 0, .int .u8 0, .int .u8 0, .int .u8 0, .int .u8 0, .int .u8 0, .int .u8 0, .int .u8 2, .int .u8 32, .int .u8 7, .int .u8 16] from rfl, show (some (rowK 4)).isSome = true from rfl]
      go_upto_region 2 with fail
      rw [← hw2]
      clear hw2
      go_wp2
      go_ret
      exact ⟨by rw [e1.out]; rfl, H2.out⟩
    · have B2 := Blk.new' w1 81 [.int .u8 42, .int .u8 0, .int .u8 0, .int .u8 0, .int .u8 0, .int .u8 0, .int .u8 0, .int .u8 0, .int .u8 0, .int .u8 2, .int .u8 32, .int .u8 7, .int .u8 16]
      have b2_ : Below w1.heap.size w1 (w1.alloc (.cells #[.int .u8 42, .int .u8 0, .int .u8 0, .int .u8 0, .int .u8 0, .int .u8 0, .int .u8 0, .int .u8 0, .int .u8 0, .int .u8 2, .int .u8 32, .int .u8 7, .int .u8 16] 81)) := (Below.refl _ _).alloc (Nat.le_refl _) _
      obtain ⟨w2, hw2⟩ : ∃ w2, w2 = w1.alloc (.cells #[.int .u8 42, .int .u8 0, .int .u8 0, .int .u8 0, .int .u8 0, .int .u8 0, .int .u8 0, .int .u8 0, .int .u8 0, .int .u8 2, .int .u8 32, .int .u8 7, .int .u8 16] 81) := ⟨_, rfl⟩
      rw [← hw2] at B2 b2_
      have H2 : Hid _ := below_then H1.out b2_
      have y0 := ck_at B2 0
      simp only [List.getElem?_cons_zero] at y0
      have sc := (SizAt.later HS.out H2.out) 1 (.int .u8 10) rfl
      clear b2_ H1 B2
      rw [show ((some (rowK 5)).getD ⟨0, [(0, 0), (0, 0), (0, 0), (0, 0), (0, 0), (0, 0)]⟩).cells.toArray = #[.int .u8 42, .int .u8 0, .int .u8 0, .int .u8 0, .int .u8 0, .int .u8 0, .int .u8 0, .int .u8 0, .int .u8 0, .int .u8 2, .int .u8 32, .int .u8 7, .int .u8 16] from rfl, show (some (rowK 5)).isSome = true from rfl]
      go_upto_region 2 with fail
      rw [← hw2]
      clear hw2
      go_wp2
      go_ret
      exact ⟨by rw [e1.out]; rfl, H2.out⟩
    · have B2 := Blk.new' w1 81 [.int .u8 53, .int .u8 0, .int .u8 0, .int .u8 0, .int .u8 0, .int .u8 0, .int .u8 0, .int .u8 0, .int .u8 0, .int .u8 2, .int .u8 32, .int .u8 7, .int .u8 16]
      have b2_ : Below w1.heap.size w1 (w1.alloc (.cells #[.int .u8 53, .int .u8 0, .int .u8 0, .int .u8 0, .int .u8 0, .int .u8 0, .int .u8 0, .int .u8 0, .int .u8 0, .int .u8 2, .int .u8 32, .int .u8 7, .int .u8 16] 81)) := (Below.refl _ _).alloc (Nat.le_refl _) _
      obtain ⟨w2, hw2⟩ : ∃ w2, w2 = w1.alloc (.cells #[.int .u8 53, .int .u8 0, .int .u8 0, .int .u8 0, .int .u8 0, .int .u8 0, .int .u8 0, .int .u8 0, .int .u8 0, .int .u8 2, .int .u8 32, .int .u8 7, .int .u8 16] 81) := ⟨_, rfl⟩
      rw [← hw2] at B2 b2_
      have H2 : Hid _ := below_then H1.out b2_
      have y0 := ck_at B2 0
      simp only [List.getElem?_cons_zero] at y0
      have sc := (SizAt.later HS.out H2.out) 1 (.int .u8 10) rfl
      clear b2_ H1 B2
      rw [show ((some (rowK 6)).getD ⟨0, [(0, 0), (0, 0), (0, 0), (0, 0), (0, 0), (0, 0)]⟩).cells.toArray = #[.int .u8 53, .int .u8 0, .int .u8 0, .int .u8 0, .int .u8 0, .int .u8 0, .int .u8 0, .int .u8 0, .int .u8 0, .int .u8 2, .int .u8 32, .int .u8 7, .int .u8 16] from rfl, show (some (rowK 6)).isSome = true from rfl]
      go_upto_region 2 with fail
      rw [← hw2]
      clear hw2
      go_wp2
      go_ret
      exact ⟨by rw [e1.out]; rfl, H2.out⟩
    · have B2 := Blk.new' w1 81 [.int .u8 66, .int .u8 0, .int .u8 0, .int .u8 0, .int .u8 0, .int .u8 0, .int .u8 0, .int .u8 0, .int .u8 0, .int .u8 0, .int .u8 0, .int .u8 7, .int .u8 16]
      have b2_ : Below w1.heap.size w1 (w1.alloc (.cells #[.int .u8 66, .int .u8 0, .int .u8 0, .int .u8 0, .int .u8 0, .int .u8 0, .int .u8 0, .int .u8 0, .int .u8 0, .int .u8 0, .int .u8 0, .int .u8 7, .int .u8 16] 81)) := (Below.refl _ _).alloc (Nat.le_refl _) _
      obtain ⟨w2, hw2⟩ : ∃ w2, w2 = w1.alloc (.cells #[.int .u8 66, .int .u8 0, .int .u8 0, .int .u8 0, .int .u8 0, .int .u8 0, .int .u8 0, .int .u8 0, .int .u8 0, .int .u8 0, .int .u8 0, .int .u8 7, .int .u8 16] 81) := ⟨_, rfl⟩
      rw [← hw2] at B2 b2_
      have H2 : Hid _ := below_then H1.out b2_
      have y0 := ck_at B2 0
      simp only [List.getElem?_cons_zero] at y0
      have sc := (SizAt.later HS.out H2.out) 2 (.int .u8 10) rfl
      clear b2_ H1 B2
      rw [show ((some (rowK 7)).getD ⟨0, [(0, 0), (0, 0), (0, 0), (0, 0), (0, 0), (0, 0)]⟩).cells.toArray = #[.int .u8 66, .int .u8 0, .int .u8 0, .int .u8 0, .int .u8 0, .int .u8 0, .int .u8 0, .int .u8 0, .int .u8 0, .int .u8 0, .int .u8 0, .int .u8 7, .int .u8 16] from rfl, show (some (rowK 7)).isSome = true from rfl]
      go_upto_region 2 with fail
      rw [← hw2]
      clear hw2
      go_wp2
      go_ret
      exact ⟨by rw [e1.out]; rfl, H2.out⟩
    · have B2 := Blk.new' w1 81 [.int .u8 94, .int .u8 1, .int .u8 5, .int .u8 0, .int .u8 0, .int .u8 0, .int .u8 0, .int .u8 0, .int .u8 0, .int .u8 0, .int .u8 0, .int .u8 7, .int .u8 16]
      have b2_ : Below w1.heap.size w1 (w1.alloc (.cells #[.int .u8 94, .int .u8 1, .int .u8 5, .int .u8 0, .int .u8 0, .int .u8 0, .int .u8 0, .int .u8 0, .int .u8 0, .int .u8 0, .int .u8 0, .int .u8 7, .int .u8 16] 81)) := (Below.refl _ _).alloc (Nat.le_refl _) _
      obtain ⟨w2, hw2⟩ : ∃ w2, w2 = w1.alloc (.cells #[.int .u8 94, .int .u8 1, .int .u8 5, .int .u8 0, .int .u8 0, .int .u8 0, .int .u8 0, .int .u8 0, .int .u8 0, .int .u8 0, .int .u8 0, .int .u8 7, .int .u8 16] 81) := ⟨_, rfl⟩
      rw [← hw2] at B2 b2_
      have H2 : Hid _ := below_then H1.out b2_
      have y0 := ck_at B2 0
      simp only [List.getElem?_cons_zero] at y0
      have sc := (SizAt.later HS.out H2.out) 2 (.int .u8 10) rfl
      clear b2_ H1 B2
      rw [show ((some (rowK 8)).getD ⟨0, [(0, 0), (0, 0), (0, 0), (0, 0), (0, 0), (0, 0)]⟩).cells.toArray = #[.int .u8 94, .int .u8 1, .int .u8 5, .int .u8 0, .int .u8 0, .int .u8 0, .int .u8 0, .int .u8 0, .int .u8 0, .int .u8 0, .int .u8 0, .int .u8 7, .int .u8 16] from rfl, show (some (rowK 8)).isSome = true from rfl]
      go_upto_region 2 with fail
      rw [← hw2]
      clear hw2
      go_wp2
      go_ret
      exact ⟨by rw [e1.out]; rfl, H2.out⟩
    · have B2 := Blk.new' w1 81 [.int .u8 95, .int .u8 1, .int .u8 5, .int .u8 0, .int .u8 0, .int .u8 0, .int .u8 0, .int .u8 2, .int .u8 4, .int .u8 0, .int .u8 0, .int .u8 5, .int .u8 32]
      have b2_ : Below w1.heap.size w1 (w1.alloc (.cells #[.int .u8 95, .int .u8 1, .int .u8 5, .int .u8 0, .int .u8 0, .int .u8 0, .int .u8 0, .int .u8 2, .int .u8 4, .int .u8 0, .int .u8 0, .int .u8 5, .int .u8 32] 81)) := (Below.refl _ _).alloc (Nat.le_refl _) _
      obtain ⟨w2, hw2⟩ : ∃ w2, w2 = w1.alloc (.cells #[.int .u8 95, .int .u8 1, .int .u8 5, .int .u8 0, .int .u8 0, .int .u8 0, .int .u8 0, .int .u8 2, .int .u8 4, .int .u8 0, .int .u8 0, .int .u8 5, .int .u8 32] 81) := ⟨_, rfl⟩
      rw [← hw2] at B2 b2_
      have H2 : Hid _ := below_then H1.out b2_
      have y0 := ck_at B2 0
      simp only [List.getElem?_cons_zero] at y0
      have sc := (SizAt.later HS.out H2.out) 2 (.int .u8 10) rfl
      clear b2_ H1 B2
      rw [show ((some (rowK 9)).getD ⟨0, [(0, 0), (0, 0), (0, 0), (0, 0), (0, 0), (0, 0)]⟩).cells.toArray = #[.int .u8 95, .int .u8 1, .int .u8 5, .int .u8 0, .int .u8 0, .int .u8 0, .int .u8 0, .int .u8 2, .int .u8 4, .int .u8 0, .int .u8 0, .int .u8 5, .int .u8 32] from rfl, show (some (rowK 9)).isSome = true from rfl]
      go_upto_region 2 with fail
      rw [← hw2]
      clear hw2
      go_wp2
      go_ret
      exact ⟨by rw [e1.out]; rfl, H2.out⟩
    · have B2 := Blk.new' w1 81 [.int .u8 136, .int .u8 0, .int .u8 0, .int .u8 0, .int .u8 0, .int .u8 0, .int .u8 0, .int .u8 0, .int .u8 0, .int .u8 2, .int .u8 64, .int .u8 10, .int .u8 32]
      have b2_ : Below w1.heap.size w1 (w1.alloc (.cells #[.int .u8 136, .int .u8 0, .int .u8 0, .int .u8 0, .int .u8 0, .int .u8 0, .int .u8 0, .int .u8 0, .int .u8 0, .int .u8 2, .int .u8 64, .int .u8 10, .int .u8 32] 81)) := (Below.refl _ _).alloc (Nat.le_refl _) _
      obtain ⟨w2, hw2⟩ : ∃ w2, w2 = w1.alloc (.cells #[.int .u8 136, .int .u8 0, .int .u8 0, .int .u8 0, .int .u8 0, .int .u8 0, .int .u8 0, .int .u8 0, .int .u8 0, .int .u8 2, .int .u8 64, .int .u8 10, .int .u8 32] 81) := ⟨_, rfl⟩
      rw [← hw2] at B2 b2_
      have H2 : Hid _ := below_then H1.out b2_
      have y0 := ck_at B2 0
      simp only [List.getElem?_cons_zero] at y0
      have sc := (SizAt.later HS.out H2.out) 4 (.int .u8 16) rfl
      clear b2_ H1 B2
      rw [show ((some (rowK 10)).getD ⟨0, [(0, 0), (0, 0), (0, 0), (0, 0), (0, 0), (0, 0)]⟩).cells.toArray = #[.int .u8 136, .int .u8 0, .int .u8 0, .int .u8 0, .int .u8 0, .int .u8 0, .int .u8 0, .int .u8 0, .int .u8 0, .int .u8 2, .int .u8 64, .int .u8 10, .int .u8 32] from rfl, show (some (rowK 10)).isSome = true from rfl]
      go_upto_region 2 with fail
      rw [← hw2]
      clear hw2
      go_wp2
      go_ret
      exact ⟨by rw [e1.out]; rfl, H2.out⟩
    · have B2 := Blk.new' w1 81 [.int .u8 138, .int .u8 0, .int .u8 0, .int .u8 0, .int .u8 0, .int .u8 0, .int .u8 0, .int .u8 0, .int .u8 0, .int .u8 2, .int .u8 64, .int .u8 10, .int .u8 32]
      have b2_ : Below w1.heap.size w1 (w1.alloc (.cells #[.int .u8 138, .int .u8 0, .int .u8 0, .int .u8 0, .int .u8 0, .int .u8 0, .int .u8 0, .int .u8 0, .int .u8 0, .int .u8 2, .int .u8 64, .int .u8 10, .int .u8 32] 81)) := (Below.refl _ _).alloc (Nat.le_refl _) _
      obtain ⟨w2, hw2⟩ : ∃ w2, w2 = w1.alloc (.cells #[.int .u8 138, .int .u8 0, .int .u8 0, .int .u8 0, .int .u8 0, .int .u8 0, .int .u8 0, .int .u8 0, .int .u8 0, .int .u8 2, .int .u8 64, .int .u8 10, .int .u8 32] 81) := ⟨_, rfl⟩
      rw [← hw2] at B2 b2_
      have H2 : Hid _ := below_then H1.out b2_
      have y0 := ck_at B2 0
      simp only [List.getElem?_cons_zero] at y0
      have sc := (SizAt.later HS.out H2.out) 4 (.int .u8 16) rfl
      clear b2_ H1 B2
      rw [show ((some (rowK 11)).getD ⟨0, [(0, 0), (0, 0), (0, 0), (0, 0), (0, 0), (0, 0)]⟩).cells.toArray = #[.int .u8 138, .int .u8 0, .int .u8 0, .int .u8 0, .int .u8 0, .int .u8 0, .int .u8 0, .int .u8 0, .int .u8 0, .int .u8 2, .int .u8 64, .int .u8 10, .int .u8 32] from rfl, show (some (rowK 11)).isSome = true from rfl]
      go_upto_region 2 with fail
      rw [← hw2]
      clear hw2
      go_wp2
      go_ret
      exact ⟨by rw [e1.out]; rfl, H2.out⟩
    · have B2 := Blk.new' w1 81 [.int .u8 160, .int .u8 0, .int .u8 0, .int .u8 2, .int .u8 8, .int .u8 0, .int .u8 0, .int .u8 0, .int .u8 0, .int .u8 0, .int .u8 0, .int .u8 6, .int .u8 32]
      have b2_ : Below w1.heap.size w1 (w1.alloc (.cells #[.int .u8 160, .int .u8 0, .int .u8 0, .int .u8 2, .int .u8 8, .int .u8 0, .int .u8 0, .int .u8 0, .int .u8 0, .int .u8 0, .int .u8 0, .int .u8 6, .int .u8 32] 81)) := (Below.refl _ _).alloc (Nat.le_refl _) _
      obtain ⟨w2, hw2⟩ : ∃ w2, w2 = w1.alloc (.cells #[.int .u8 160, .int .u8 0, .int .u8 0, .int .u8 2, .int .u8 8, .int .u8 0, .int .u8 0, .int .u8 0, .int .u8 0, .int .u8 0, .int .u8 0, .int .u8 6, .int .u8 32] 81) := ⟨_, rfl⟩
      rw [← hw2] at B2 b2_
      have H2 : Hid _ := below_then H1.out b2_
      have y0 := ck_at B2 0
      simp only [List.getElem?_cons_zero] at y0
      have sc := (SizAt.later HS.out H2.out) 5 (.int .u8 12) rfl
      clear b2_ H1 B2
      rw [show ((some (rowK 12)).getD ⟨0, [(0, 0), (0, 0), (0, 0), (0, 0), (0, 0), (0, 0)]⟩).cells.toArray = #[.int .u8 160, .int .u8 0, .int .u8 0, .int .u8 2, .int .u8 8, .int .u8 0, .int .u8 0, .int .u8 0, .int .u8 0, .int .u8 0, .int .u8 0, .int .u8 6, .int .u8 32] from rfl, show (some (rowK 12)).isSome = true from rfl]
      go_upto_region 2 with fail
      rw [← hw2]
      clear hw2
      go_wp2
      go_ret
      exact ⟨by rw [e1.out]; rfl, H2.out⟩
    · have B2 := Blk.new' w1 81 [.int .u8 163, .int .u8 1, .int .u8 5, .int .u8 0, .int .u8 0, .int .u8 0, .int .u8 0, .int .u8 0, .int .u8 0, .int .u8 0, .int .u8 0, .int .u8 6, .int .u8 32]
      have b2_ : Below w1.heap.size w1 (w1.alloc (.cells #[.int .u8 163, .int .u8 1, .int .u8 5, .int .u8 0, .int .u8 0, .int .u8 0, .int .u8 0, .int .u8 0, .int .u8 0, .int .u8 0, .int .u8 0, .int .u8 6, .int .u8 32] 81)) := (Below.refl _ _).alloc (Nat.le_refl _) _
      obtain ⟨w2, hw2⟩ : ∃ w2, w2 = w1.alloc (.cells #[.int .u8 163, .int .u8 1, .int .u8 5, .int .u8 0, .int .u8 0, .int .u8 0, .int .u8 0, .int .u8 0, .int .u8 0, .int .u8 0, .int .u8 0, .int .u8 6, .int .u8 32] 81) := ⟨_, rfl⟩
      rw [← hw2] at B2 b2_
      have H2 : Hid _ := below_then H1.out b2_
      have y0 := ck_at B2 0
      simp only [List.getElem?_cons_zero] at y0
      have sc := (SizAt.later HS.out H2.out) 5 (.int .u8 12) rfl
      clear b2_ H1 B2
      rw [show ((some (rowK 13)).getD ⟨0, [(0, 0), (0, 0), (0, 0), (0, 0), (0, 0), (0, 0)]⟩).cells.toArray = #[.int .u8 163, .int .u8 1, .int .u8 5, .int .u8 0, .int .u8 0, .int .u8 0, .int .u8 0, .int .u8 0, .int .u8 0, .int .u8 0, .int .u8 0, .int .u8 6, .int .u8 32] from rfl, show (some (rowK 13)).isSome = true from rfl]
      go_upto_region 2 with fail
      rw [← hw2]
      clear hw2
      go_wp2
      go_ret
      exact ⟨by rw [e1.out]; rfl, H2.out⟩
end Go.Proofs.YtmoobfpmijdoaaaDoor
