/- cdb: Build. -/
import Derived.Test.YteingnaojnbchaaDoorCdC
namespace Go.Proofs.YteingnaojnbchaaDoor
open Go.RowKit
set_option linter.unusedVariables false
set_option linter.unusedSimpArgs false
set_option maxRecDepth 4000

/-- a field goes into its place -/
def vOk (p : Int × Int) (m : BitVec 64) : Bool := decide (p.2 = 0) || tkB p.2 m
/-- a field without a place says nothing -/
def zOk (p : Int × Int) (m : BitVec 64) : Bool := decide (p.2 ≠ 0) || !((m.toNat : Int) != 0)
def buQ (op : Int) (vs : List (BitVec 64)) : Option (List (BitVec 8)) × Int := match findR op with
  | none => (none, 1)
  | some r => if (r.ps.zip vs).all (fun q => vOk q.1 q.2) then (if (r.ps.zip vs).all (fun q => zOk q.1 q.2) then (some (wrF r.o (r.ps.zip vs) 6), 0) else (none, 11)) else (none, 3)
/-- what Build answers -/
def buR (op sv pv : Int) (vv : Bool) (tv : Int) (lb : BitVec 64) (nv : Int) : Option (List (BitVec 8)) × Int := buQ op (valB sv pv vv tv lb nv)
def BuAns (w w' : World) (z : Value) : Option (List (BitVec 8)) → Prop
  | none => z = .slice none 0 0
  | some l => Own w' w.heap.size z l
theorem take_step {α : Type} {P : α → Prop} {l : List α} {j : Nat} {q : α} (hq : l[j]? = some q) (h : ∀ x ∈ l.take j, P x) (h' : P q) : ∀ x ∈ l.take (j + 1), P x := by
  intro x hx
  rw [List.take_add_one, hq, List.mem_append] at hx
  rcases hx with hx | hx
  · exact h x hx
  · simp at hx; rw [hx]; exact h'
structure BuS (w W : World) (rb vb : Nat) (cr cv : List Value) : Prop where
  below : Below w.heap.size w W
  r : Blk W rb 81 cr
  v : Blk W vb 84 cv
theorem BuS.later {w W W' : World} {rb vb : Nat} {cr cv : List Value} (h : BuS w W rb vb cr cv) (b : Below W.heap.size W W') : BuS w W' rb vb cr cv := ⟨below_then h.below b, h.r.laterB b, h.v.laterB b⟩
set_option maxHeartbeats 8000000 in
theorem cBuild_any (op sv pv : Int) (vv : Bool) (tv : Int) (lb : BitVec 64) (nv : Int) (w : World) (hT : TblAt w) :
    Calls Tryd.prog 16 #[.agg #[.int .i64 op, .int .i64 sv, .int .i64 pv, .bool vv, .int .i64 tv, .int .u64 (lb.toNat : Int), .int .i64 nv]] w fun e w' => ∃ z, e = .returned (.tuple #[z, .int .i64 (buR op sv pv vv tv lb nv).2]) ∧ BuAns w w' z (buR op sv pv vv tv lb nv).1 ∧ Below w.heap.size w w' := by
  have B0 := Blk.new' w 35 [.int .i64 op, .int .i64 sv, .int .i64 pv, .bool vv, .int .i64 tv, .int .u64 (lb.toNat : Int), .int .i64 nv]
  have b0_ : Below w.heap.size w (w.alloc (.cells #[.int .i64 op, .int .i64 sv, .int .i64 pv, .bool vv, .int .i64 tv, .int .u64 (lb.toNat : Int), .int .i64 nv] 35)) := (Below.refl _ _).alloc (Nat.le_refl _) _
  obtain ⟨w0, hw0⟩ : ∃ w0, w0 = w.alloc (.cells #[.int .i64 op, .int .i64 sv, .int .i64 pv, .bool vv, .int .i64 tv, .int .u64 (lb.toNat : Int), .int .i64 nv] 35) := ⟨_, rfl⟩
  rw [← hw0] at B0 b0_
  have H0 : Hid (Blk w0 w.heap.size 35 [.int .i64 op, .int .i64 sv, .int .i64 pv, .bool vv, .int .i64 tv, .int .u64 (lb.toNat : Int), .int .i64 nv] ∧ Below w.heap.size w w0) := ⟨B0, b0_⟩
  have y0 := ck_at B0 0
  have y1 := ck_at B0 1
  have y2 := ck_at B0 2
  have y3 := ck_at B0 3
  have y4 := ck_at B0 4
  have y5 := ck_at B0 5
  have y6 := ck_at B0 6
  simp only [List.getElem?_cons_zero, List.getElem?_cons_succ] at y0 y1 y2 y3 y4 y5 y6
  have HF : Hid _ := find_any op w0 (hT.later b0_)
  have HOp : Hid (∀ r, findR op = some r → RowOk r ∧ r.o = op) := fun r h => findR_ok h
  clear B0 b0_ hT
  go_enter Tryd.func16, Tryd.ntmps16
  go_upto_region 1 with fail
  rw [← hw0]
  clear hw0
  go_wp2_with fail
  refine (Calls.mono HF.out) ?_
  rintro e w1 ⟨rfl, b1_⟩
  have H1 : Hid (Blk w1 w.heap.size 35 [.int .i64 op, .int .i64 sv, .int .i64 pv, .bool vv, .int .i64 tv, .int .u64 (lb.toNat : Int), .int .i64 nv] ∧ Below w.heap.size w w1) := ⟨H0.out.1.laterB b1_, below_then H0.out.2 b1_⟩
  clear b1_ HF H0 y0 y1 y2 y3 y4 y5 y6
  cases hfr : findR op with
  | none =>
    have e1 : Hid (buR op sv pv vv tv lb nv = (none, 1)) := by show _ = _; unfold buR buQ; rw [hfr]
    have b2_ : Below w1.heap.size w1 (w1.alloc (.cells #[.int .u8 0, .int .u8 0, .int .u8 0, .int .u8 0, .int .u8 0, .int .u8 0, .int .u8 0, .int .u8 0, .int .u8 0, .int .u8 0, .int .u8 0, .int .u8 0, .int .u8 0] 81)) := (Below.refl _ _).alloc (Nat.le_refl _) _
    obtain ⟨w2, hw2⟩ : ∃ w2, w2 = w1.alloc (.cells #[.int .u8 0, .int .u8 0, .int .u8 0, .int .u8 0, .int .u8 0, .int .u8 0, .int .u8 0, .int .u8 0, .int .u8 0, .int .u8 0, .int .u8 0, .int .u8 0, .int .u8 0] 81) := ⟨_, rfl⟩
    rw [← hw2] at b2_
    have H2 : Hid (Below w.heap.size w w2) := below_then H1.out.2 b2_
    clear b2_ H1 hfr
    rw [show ((none : Option CR).getD ⟨0, [(0, 0), (0, 0), (0, 0), (0, 0), (0, 0), (0, 0)]⟩).cells.toArray = #[.int .u8 0, .int .u8 0, .int .u8 0, .int .u8 0, .int .u8 0, .int .u8 0, .int .u8 0, .int .u8 0, .int .u8 0, .int .u8 0, .int .u8 0, .int .u8 0, .int .u8 0] from rfl, show (none : Option CR).isSome = false from rfl]
    go_upto_region 2 with fail
    rw [← hw2]
    clear hw2
    go_wp2
    refine bodyPost_ret (v := .tuple #[.slice none 0 0, .int .i64 1]) (by first | rfl | simp [results, Tryd.results16, go_sem]) rfl ?_
    exact ⟨.slice none 0 0, by rw [e1.out], by rw [e1.out]; exact rfl, H2.out⟩
  | some r =>
    obtain ⟨hok, hop⟩ := HOp.out r hfr
    obtain ⟨o, a0, b0, a1, b1, a2, b2, a3, b3, a4, b4, a5, b5, rfl, ho, p0, p1, p2, p3, p4, p5, q0, q1, q3, q5⟩ := hok.six
    have e1 : Hid (buR op sv pv vv tv lb nv = if ([((a0, b0), BitVec.ofInt 64 sv), ((a1, b1), BitVec.ofInt 64 pv), ((a2, b2), (if vv then 1#64 else 0#64)), ((a3, b3), BitVec.ofInt 64 tv), ((a4, b4), lb), ((a5, b5), BitVec.ofInt 64 nv)]).all (fun q => vOk q.1 q.2) then (if ([((a0, b0), BitVec.ofInt 64 sv), ((a1, b1), BitVec.ofInt 64 pv), ((a2, b2), (if vv then 1#64 else 0#64)), ((a3, b3), BitVec.ofInt 64 tv), ((a4, b4), lb), ((a5, b5), BitVec.ofInt 64 nv)]).all (fun q => zOk q.1 q.2) then (some (wrF o [((a0, b0), BitVec.ofInt 64 sv), ((a1, b1), BitVec.ofInt 64 pv), ((a2, b2), (if vv then 1#64 else 0#64)), ((a3, b3), BitVec.ofInt 64 tv), ((a4, b4), lb), ((a5, b5), BitVec.ofInt 64 nv)] 6), 0) else (none, 11)) else (none, 3)) := by show _ = _; unfold buR buQ; rw [hfr]; rfl
    clear hok hop hfr HOp q0 q1 q3 q5
    have HV : Hid (∀ X, _) := fun X => cValues_any op sv pv vv tv lb nv X
    generalize BitVec.ofInt 64 sv = m0 at e1 HV
    generalize BitVec.ofInt 64 pv = m1 at e1 HV
    generalize (if vv then 1#64 else 0#64) = m2 at e1 HV
    generalize BitVec.ofInt 64 tv = m3 at e1 HV
    generalize BitVec.ofInt 64 nv = m5 at e1 HV
    obtain ⟨QA, hQA⟩ : ∃ QA, QA = [((a0, b0), m0), ((a1, b1), m1), ((a2, b2), m2), ((a3, b3), m3), ((a4, b4), lb), ((a5, b5), m5)] := ⟨_, rfl⟩
    rw [← hQA] at e1
    have J0 : Hid (QA[0]? = some ((a0, b0), m0)) := by show _ = _; rw [hQA]; rfl
    have J1 : Hid (QA[1]? = some ((a1, b1), m1)) := by show _ = _; rw [hQA]; rfl
    have J2 : Hid (QA[2]? = some ((a2, b2), m2)) := by show _ = _; rw [hQA]; rfl
    have J3 : Hid (QA[3]? = some ((a3, b3), m3)) := by show _ = _; rw [hQA]; rfl
    have J4 : Hid (QA[4]? = some ((a4, b4), lb)) := by show _ = _; rw [hQA]; rfl
    have J5 : Hid (QA[5]? = some ((a5, b5), m5)) := by show _ = _; rw [hQA]; rfl
    have JL : Hid (QA.take 6 = QA) := by show _ = _; rw [hQA]; rfl
    have HQ : Hid _ := hQA
    clear hQA
    have EB : Hid (∀ q, q ∈ QA → vOk q.1 q.2 = false → buR op sv pv vv tv lb nv = (none, 3)) := by
      intro q hq hv
      rw [e1.out, if_neg]
      intro h
      have h2 := List.all_eq_true.1 h q hq
      rw [hv] at h2
      cases h2
    have EZ : Hid ((∀ q ∈ QA.take 6, vOk q.1 q.2 = true) → ∀ q, q ∈ QA → zOk q.1 q.2 = false → buR op sv pv vv tv lb nv = (none, 11)) := by
      intro hg q hq hv
      rw [JL.out] at hg
      rw [e1.out, if_pos (List.all_eq_true.2 hg), if_neg]
      intro h
      have h2 := List.all_eq_true.1 h q hq
      rw [hv] at h2
      cases h2
    have EO : Hid ((∀ q ∈ QA.take 6, vOk q.1 q.2 = true) → (∀ q ∈ QA.take 6, zOk q.1 q.2 = true) → buR op sv pv vv tv lb nv = (some (wrF o QA 6), 0)) := by
      intro hg hz
      rw [JL.out] at hg hz
      rw [e1.out, if_pos (List.all_eq_true.2 hg), if_pos (List.all_eq_true.2 hz)]
    clear e1
    rw [show ((some (⟨o, [(a0, b0), (a1, b1), (a2, b2), (a3, b3), (a4, b4), (a5, b5)]⟩ : CR)).getD ⟨0, [(0, 0), (0, 0), (0, 0), (0, 0), (0, 0), (0, 0)]⟩).cells.toArray = #[.int .u8 o, .int .u8 a0, .int .u8 b0, .int .u8 a1, .int .u8 b1, .int .u8 a2, .int .u8 b2, .int .u8 a3, .int .u8 b3, .int .u8 a4, .int .u8 b4, .int .u8 a5, .int .u8 b5] from rfl, show (some (⟨o, [(a0, b0), (a1, b1), (a2, b2), (a3, b3), (a4, b4), (a5, b5)]⟩ : CR)).isSome = true from rfl]
    have B2 := Blk.new' w1 81 [.int .u8 o, .int .u8 a0, .int .u8 b0, .int .u8 a1, .int .u8 b1, .int .u8 a2, .int .u8 b2, .int .u8 a3, .int .u8 b3, .int .u8 a4, .int .u8 b4, .int .u8 a5, .int .u8 b5]
    have b2_ : Below w1.heap.size w1 (w1.alloc (.cells #[.int .u8 o, .int .u8 a0, .int .u8 b0, .int .u8 a1, .int .u8 b1, .int .u8 a2, .int .u8 b2, .int .u8 a3, .int .u8 b3, .int .u8 a4, .int .u8 b4, .int .u8 a5, .int .u8 b5] 81)) := (Below.refl _ _).alloc (Nat.le_refl _) _
    obtain ⟨w2, hw2⟩ : ∃ w2, w2 = w1.alloc (.cells #[.int .u8 o, .int .u8 a0, .int .u8 b0, .int .u8 a1, .int .u8 b1, .int .u8 a2, .int .u8 b2, .int .u8 a3, .int .u8 b3, .int .u8 a4, .int .u8 b4, .int .u8 a5, .int .u8 b5] 81) := ⟨_, rfl⟩
    rw [← hw2] at B2 b2_
    obtain ⟨rb, hrb⟩ : ∃ g, g = w1.heap.size := ⟨_, rfl⟩
    rw [← hrb] at B2
    have H2 : Hid (Blk w2 w.heap.size 35 [.int .i64 op, .int .i64 sv, .int .i64 pv, .bool vv, .int .i64 tv, .int .u64 (lb.toNat : Int), .int .i64 nv] ∧ Below w.heap.size w w2 ∧ Blk w2 rb 81 [.int .u8 o, .int .u8 a0, .int .u8 b0, .int .u8 a1, .int .u8 b1, .int .u8 a2, .int .u8 b2, .int .u8 a3, .int .u8 b3, .int .u8 a4, .int .u8 b4, .int .u8 a5, .int .u8 b5]) := ⟨H1.out.1.laterB b2_, below_then H1.out.2 b2_, B2⟩
    clear b2_ H1 B2
    have y0 := ck_at H2.out.1 0
    have y1 := ck_at H2.out.1 1
    have y2 := ck_at H2.out.1 2
    have y3 := ck_at H2.out.1 3
    have y4 := ck_at H2.out.1 4
    have y5 := ck_at H2.out.1 5
    have y6 := ck_at H2.out.1 6
    simp only [List.getElem?_cons_zero, List.getElem?_cons_succ] at y0 y1 y2 y3 y4 y5 y6
    go_upto_region 2 with fail
    rw [← hw2, ← hrb]
    clear hw2 hrb
    go_wp2_with fail
    clear y0 y1 y2 y3 y4 y5 y6
    refine (Calls.mono (HV.out w2)) ?_
    rintro e w3 ⟨rfl, b3_⟩
    clear HV
    have B4 := Blk.new' w3 84 [.int .u64 (m0.toNat : Int), .int .u64 (m1.toNat : Int), .int .u64 (m2.toNat : Int), .int .u64 (m3.toNat : Int), .int .u64 (lb.toNat : Int), .int .u64 (m5.toNat : Int)]
    have b4_ : Below w3.heap.size w3 (w3.alloc (.cells #[.int .u64 (m0.toNat : Int), .int .u64 (m1.toNat : Int), .int .u64 (m2.toNat : Int), .int .u64 (m3.toNat : Int), .int .u64 (lb.toNat : Int), .int .u64 (m5.toNat : Int)] 84)) := (Below.refl _ _).alloc (Nat.le_refl _) _
    obtain ⟨w4, hw4⟩ : ∃ w4, w4 = w3.alloc (.cells #[.int .u64 (m0.toNat : Int), .int .u64 (m1.toNat : Int), .int .u64 (m2.toNat : Int), .int .u64 (m3.toNat : Int), .int .u64 (lb.toNat : Int), .int .u64 (m5.toNat : Int)] 84) := ⟨_, rfl⟩
    rw [← hw4] at B4 b4_
    obtain ⟨vb, hvb⟩ : ∃ g, g = w3.heap.size := ⟨_, rfl⟩
    rw [← hvb] at B4
    have S4 : Hid (BuS w w4 rb vb [.int .u8 o, .int .u8 a0, .int .u8 b0, .int .u8 a1, .int .u8 b1, .int .u8 a2, .int .u8 b2, .int .u8 a3, .int .u8 b3, .int .u8 a4, .int .u8 b4, .int .u8 a5, .int .u8 b5] [.int .u64 (m0.toNat : Int), .int .u64 (m1.toNat : Int), .int .u64 (m2.toNat : Int), .int .u64 (m3.toNat : Int), .int .u64 (lb.toNat : Int), .int .u64 (m5.toNat : Int)]) := ⟨below_then H2.out.2.1 (below_then b3_ b4_), H2.out.2.2.laterB (below_then b3_ b4_), B4⟩
    clear b3_ b4_ H2 B4
    have y0 := ck_at S4.out.r 0
    have y1 := ck_at S4.out.r 1
    have y2 := ck_at S4.out.r 2
    have y3 := ck_at S4.out.r 3
    have y4 := ck_at S4.out.r 4
    have y5 := ck_at S4.out.r 5
    have y6 := ck_at S4.out.r 6
    have y7 := ck_at S4.out.r 7
    have y8 := ck_at S4.out.r 8
    have y9 := ck_at S4.out.r 9
    have y10 := ck_at S4.out.r 10
    have y11 := ck_at S4.out.r 11
    have y12 := ck_at S4.out.r 12
    simp only [List.getElem?_cons_zero, List.getElem?_cons_succ] at y0 y1 y2 y3 y4 y5 y6 y7 y8 y9 y10 y11 y12
    go_upto_region 5 with fail
    rw [← hw4, ← hvb]
    clear hw4 hvb
    go_wp2_with fail
    clear y0 y1 y2 y3 y4 y5 y6 y7 y8 y9 y10 y11 y12
    have PF0 : Hid _ := p0
    have PF1 : Hid _ := p1
    have PF2 : Hid _ := p2
    have PF3 : Hid _ := p3
    have PF4 : Hid _ := p4
    have PF5 : Hid _ := p5
    clear p0 p1 p2 p3 p4 p5
    have HO : Hid _ := ho
    clear ho
    go_loopw [23] (fun iv wr => ∃ k : Nat, k ≤ 6 ∧ iv = .int .i64 k ∧ BuS w wr rb vb [.int .u8 o, .int .u8 a0, .int .u8 b0, .int .u8 a1, .int .u8 b1, .int .u8 a2, .int .u8 b2, .int .u8 a3, .int .u8 b3, .int .u8 a4, .int .u8 b4, .int .u8 a5, .int .u8 b5] [.int .u64 (m0.toNat : Int), .int .u64 (m1.toNat : Int), .int .u64 (m2.toNat : Int), .int .u64 (m3.toNat : Int), .int .u64 (lb.toNat : Int), .int .u64 (m5.toNat : Int)] ∧ (∀ q ∈ QA.take k, vOk q.1 q.2 = true)) (fun iv _ => 6 - (intOf iv).toNat)
    case atStart => exact ⟨0, by omega, rfl, S4.out, by simp⟩
    case round =>
      clear S4
      obtain ⟨k, hk, rfl, hS, hP⟩ := hrel
      have hk' : k = 0 ∨ k = 1 ∨ k = 2 ∨ k = 3 ∨ k = 4 ∨ k = 5 ∨ k = 6 := by omega
      rcases hk' with rfl | rfl | rfl | rfl | rfl | rfl | rfl
      · have hix : ∀ X : World, (Instr.index 79 (.agg #[.int .u8 a0, .int .u8 b0, .int .u8 a1, .int .u8 b1, .int .u8 a2, .int .u8 b2, .int .u8 a3, .int .u8 b3, .int .u8 a4, .int .u8 b4, .int .u8 a5, .int .u8 b5]) (.int .i64 0)).run Tryd.prog X = .ok (.agg #[.int .u8 a0, .int .u8 b0]) X := fun _ => by first | rfl | kernel_rfl
        have B3 := Blk.new' wr 78 [.int .u8 a0, .int .u8 b0]
        have b3_ : Below wr.heap.size wr (wr.alloc (.cells #[.int .u8 a0, .int .u8 b0] 78)) := (Below.refl _ _).alloc (Nat.le_refl _) _
        obtain ⟨w5, hw5⟩ : ∃ w5, w5 = wr.alloc (.cells #[.int .u8 a0, .int .u8 b0] 78) := ⟨_, rfl⟩
        rw [← hw5] at B3 b3_
        have S5 : Hid _ := And.intro (hS.later b3_) B3
        have HP : Hid _ := hP
        clear hS hP B3 b3_
        go_upto_region 8 with fail
        rw [← hw5]
        clear hw5 hix
        by_cases hb : b0 = 0
        · have HTh : Hid (∀ X : World, Calls Tryd.prog 47 #[.agg #[.int .u8 a0, .int .u8 b0]] X fun e w' => e = .returned (.bool false) ∧ Below X.heap.size X w') := fun X => by have h := cThere_any a0 b0 X; rw [decide_eq_false (by omega)] at h; exact h
          have F : Hid (∀ X, Below w5.heap.size w5 X → BuS w X rb vb [.int .u8 o, .int .u8 a0, .int .u8 b0, .int .u8 a1, .int .u8 b1, .int .u8 a2, .int .u8 b2, .int .u8 a3, .int .u8 b3, .int .u8 a4, .int .u8 b4, .int .u8 a5, .int .u8 b5] [.int .u64 (m0.toNat : Int), .int .u64 (m1.toNat : Int), .int .u64 (m2.toNat : Int), .int .u64 (m3.toNat : Int), .int .u64 (lb.toNat : Int), .int .u64 (m5.toNat : Int)] ∧ (∀ q ∈ QA.take 1, vOk q.1 q.2 = true)) := fun X bX => ⟨S5.out.1.later bX, take_step J0.out HP.out (by show (decide (b0 = 0) || _) = true; rw [decide_eq_true hb]; rfl)⟩
          clear hb
          refine wp_region_held_drew (S := fun W => Below w5.heap.size w5 W) (by kernel_rfl) ((Below.refl _ _).drew) (fun hS => ?_)
          have B0 : Below w5.heap.size w5 w5.drew := ((Below.refl _ _).drew)
          refine any_take (i := 0) (v := ?_) rfl (by kernel_rfl) (by kernel_rfl) (by kernel_rfl) (by exact fun _ _ _ h => h) (by rfl) ?_ hS ?_
          rotate_left
          · ((intro w hSw; have c0 := ck_later (show w5.cell? ⟨wr.heap.size, 0, none⟩ = _ from ck_at S5.out.2 0) hSw; have c1 := ck_later (show w5.cell? ⟨wr.heap.size, 1, none⟩ = _ from ck_at S5.out.2 1) hSw; have c2 := ck_later (show w5.cell? ⟨vb, 0, none⟩ = some (.int .u64 (m0.toNat : Int)) from ck_at S5.out.1.v 0) hSw; go_simp) <;> with_reducible rfl)
          (try simp only [Act.put, List.setIfInBounds_toArray, List.set_cons_zero, List.set_cons_succ])
          refine any_one (i := 1) rfl (by kernel_rfl) (fun K hK => ?_)
          go_simp
          refine (Calls.mono (HTh.out _)) ?_
          rintro e x1 ⟨rfl, hbR⟩
          have B1 : Below w5.heap.size w5 x1 := below_then B0 hbR
          go_wp2_with fail
          refine hK.out _ _ (by first | exact B1 | exact hbR | exact below_then hS hbR) (any_weaken (S' := fun W => Below x1.heap.size x1 W) (fun W hW => by first | exact below_then B1 hW | exact below_then hbR hW | exact below_then (below_then hS hbR) hW) _ _ _ _ ?_)
          clear hK K hS hbR
          have hS : Below x1.heap.size x1 x1 := Below.refl _ _
          refine any_take (i := 2) (v := ?_) rfl (by kernel_rfl) (by kernel_rfl) (by kernel_rfl) (by exact fun _ _ _ h => h) (by rfl) ?_ hS ?_
          rotate_left
          · ((intro w hSw; (try dsimp only at hSw); go_simp) <;> with_reducible rfl)
          (try simp only [Act.put, List.setIfInBounds_toArray, List.set_cons_zero, List.set_cons_succ])
          refine any_skip (i := 3) rfl (by kernel_rfl) (by kernel_rfl) (by kernel_rfl) (by exact fun _ _ _ h => h) (by rfl) hS ?_
          (try simp only [Act.put, List.setIfInBounds_toArray, List.set_cons_zero, List.set_cons_succ])
          refine any_skip (i := 4) rfl (by kernel_rfl) (by kernel_rfl) (by kernel_rfl) (by exact fun _ _ _ h => h) (by rfl) hS ?_
          (try simp only [Act.put, List.setIfInBounds_toArray, List.set_cons_zero, List.set_cons_succ])
          refine any_skip (i := 5) rfl (by kernel_rfl) (by kernel_rfl) (by kernel_rfl) (by exact fun _ _ _ h => h) (by rfl) hS ?_
          (try simp only [Act.put, List.setIfInBounds_toArray, List.set_cons_zero, List.set_cons_succ])
          refine any_skip (i := 6) rfl (by kernel_rfl) (by kernel_rfl) (by kernel_rfl) (by exact fun _ _ _ h => h) (by rfl) hS ?_
          (try simp only [Act.put, List.setIfInBounds_toArray, List.set_cons_zero, List.set_cons_succ])
          refine any_skip (i := 7) rfl (by kernel_rfl) (by kernel_rfl) (by kernel_rfl) (by exact fun _ _ _ h => h) (by rfl) hS ?_
          (try simp only [Act.put, List.setIfInBounds_toArray, List.set_cons_zero, List.set_cons_succ])
          refine any_skip (i := 8) rfl (by kernel_rfl) (by kernel_rfl) (by kernel_rfl) (by exact fun _ _ _ h => h) (by rfl) hS ?_
          (try simp only [Act.put, List.setIfInBounds_toArray, List.set_cons_zero, List.set_cons_succ])
          refine any_take (i := 9) (v := ?_) rfl (by kernel_rfl) (by kernel_rfl) (by kernel_rfl) (by exact fun _ _ _ h => h) (by rfl) ?_ hS ?_
          rotate_left
          · ((intro w hSw; (try dsimp only at hSw); go_simp) <;> with_reducible rfl)
          (try simp only [Act.put, List.setIfInBounds_toArray, List.set_cons_zero, List.set_cons_succ])
          refine wpAnyH_done (by kernel_rfl) ?_ _
          have F2 : Hid _ := F.out _ B1
          clear F hS B0 B1 S5 HP HTh
          go_wp2
          go_roundw
          case rel => exact ⟨1, by omega, rfl, F2.out.1, F2.out.2⟩
          case measure => simp [intOf]
        · have HTh : Hid (∀ X : World, Calls Tryd.prog 47 #[.agg #[.int .u8 a0, .int .u8 b0]] X fun e w' => e = .returned (.bool true) ∧ Below X.heap.size X w') := fun X => by have h := cThere_any a0 b0 X; rw [decide_eq_true (by have := PF0.out.size; omega)] at h; exact h
          have HTk : Hid (∀ X, _) := fun X => cTakes_any a0 b0 m0 X PF0.out.bits
          have F : Hid (tkB b0 m0 = true → ∀ X, Below w5.heap.size w5 X → BuS w X rb vb [.int .u8 o, .int .u8 a0, .int .u8 b0, .int .u8 a1, .int .u8 b1, .int .u8 a2, .int .u8 b2, .int .u8 a3, .int .u8 b3, .int .u8 a4, .int .u8 b4, .int .u8 a5, .int .u8 b5] [.int .u64 (m0.toNat : Int), .int .u64 (m1.toNat : Int), .int .u64 (m2.toNat : Int), .int .u64 (m3.toNat : Int), .int .u64 (lb.toNat : Int), .int .u64 (m5.toNat : Int)] ∧ (∀ q ∈ QA.take 1, vOk q.1 q.2 = true)) := fun ht X bX => ⟨S5.out.1.later bX, take_step J0.out HP.out (by show (_ || tkB b0 m0) = true; rw [ht, Bool.or_true])⟩
          have N : Hid (tkB b0 m0 = false → ∀ X, Below w5.heap.size w5 X → buR op sv pv vv tv lb nv = (none, 3) ∧ Below w.heap.size w X) := fun ht X bX => ⟨EB.out _ (List.mem_of_getElem? J0.out) (by show (decide (b0 = 0) || tkB b0 m0) = false; rw [ht, decide_eq_false hb]; rfl), (S5.out.1.later bX).below⟩
          clear hb
          generalize htk : tkB b0 m0 = tk at F N HTk
          clear htk
          refine wp_region_held_drew (S := fun W => Below w5.heap.size w5 W) (by kernel_rfl) ((Below.refl _ _).drew) (fun hS => ?_)
          have B0 : Below w5.heap.size w5 w5.drew := ((Below.refl _ _).drew)
          refine any_take (i := 0) (v := ?_) rfl (by kernel_rfl) (by kernel_rfl) (by kernel_rfl) (by exact fun _ _ _ h => h) (by rfl) ?_ hS ?_
          rotate_left
          · ((intro w hSw; have c0 := ck_later (show w5.cell? ⟨wr.heap.size, 0, none⟩ = _ from ck_at S5.out.2 0) hSw; have c1 := ck_later (show w5.cell? ⟨wr.heap.size, 1, none⟩ = _ from ck_at S5.out.2 1) hSw; have c2 := ck_later (show w5.cell? ⟨vb, 0, none⟩ = some (.int .u64 (m0.toNat : Int)) from ck_at S5.out.1.v 0) hSw; go_simp) <;> with_reducible rfl)
          (try simp only [Act.put, List.setIfInBounds_toArray, List.set_cons_zero, List.set_cons_succ])
          refine any_one (i := 1) rfl (by kernel_rfl) (fun K hK => ?_)
          go_simp
          refine (Calls.mono (HTh.out _)) ?_
          rintro e x1 ⟨rfl, hbR⟩
          have B1 : Below w5.heap.size w5 x1 := below_then B0 hbR
          go_wp2_with fail
          refine hK.out _ _ (by first | exact B1 | exact hbR | exact below_then hS hbR) (any_weaken (S' := fun W => Below x1.heap.size x1 W) (fun W hW => by first | exact below_then B1 hW | exact below_then hbR hW | exact below_then (below_then hS hbR) hW) _ _ _ _ ?_)
          clear hK K hS hbR
          have hS : Below x1.heap.size x1 x1 := Below.refl _ _
          refine any_take (i := 2) (v := ?_) rfl (by kernel_rfl) (by kernel_rfl) (by kernel_rfl) (by exact fun _ _ _ h => h) (by rfl) ?_ hS ?_
          rotate_left
          · ((intro w hSw; (try dsimp only at hSw); go_simp) <;> with_reducible rfl)
          (try simp only [Act.put, List.setIfInBounds_toArray, List.set_cons_zero, List.set_cons_succ])
          refine any_take (i := 3) (v := ?_) rfl (by kernel_rfl) (by kernel_rfl) (by kernel_rfl) (by exact fun _ _ _ h => h) (by rfl) ?_ hS ?_
          rotate_left
          · ((intro w hSw; have c0 := ck_later (show w5.cell? ⟨wr.heap.size, 0, none⟩ = _ from ck_at S5.out.2 0) (below_then B1 hSw); have c1 := ck_later (show w5.cell? ⟨wr.heap.size, 1, none⟩ = _ from ck_at S5.out.2 1) (below_then B1 hSw); have c2 := ck_later (show w5.cell? ⟨vb, 0, none⟩ = some (.int .u64 (m0.toNat : Int)) from ck_at S5.out.1.v 0) (below_then B1 hSw); go_simp) <;> with_reducible rfl)
          (try simp only [Act.put, List.setIfInBounds_toArray, List.set_cons_zero, List.set_cons_succ])
          refine any_take (i := 4) (v := ?_) rfl (by kernel_rfl) (by kernel_rfl) (by kernel_rfl) (by exact fun _ _ _ h => h) (by rfl) ?_ hS ?_
          rotate_left
          · ((intro w hSw; have c0 := ck_later (show w5.cell? ⟨wr.heap.size, 0, none⟩ = _ from ck_at S5.out.2 0) (below_then B1 hSw); have c1 := ck_later (show w5.cell? ⟨wr.heap.size, 1, none⟩ = _ from ck_at S5.out.2 1) (below_then B1 hSw); have c2 := ck_later (show w5.cell? ⟨vb, 0, none⟩ = some (.int .u64 (m0.toNat : Int)) from ck_at S5.out.1.v 0) (below_then B1 hSw); go_simp) <;> with_reducible rfl)
          (try simp only [Act.put, List.setIfInBounds_toArray, List.set_cons_zero, List.set_cons_succ])
          refine any_take (i := 5) (v := ?_) rfl (by kernel_rfl) (by kernel_rfl) (by kernel_rfl) (by exact fun _ _ _ h => h) (by rfl) ?_ hS ?_
          rotate_left
          · ((intro w hSw; have c0 := ck_later (show w5.cell? ⟨wr.heap.size, 0, none⟩ = _ from ck_at S5.out.2 0) (below_then B1 hSw); have c1 := ck_later (show w5.cell? ⟨wr.heap.size, 1, none⟩ = _ from ck_at S5.out.2 1) (below_then B1 hSw); have c2 := ck_later (show w5.cell? ⟨vb, 0, none⟩ = some (.int .u64 (m0.toNat : Int)) from ck_at S5.out.1.v 0) (below_then B1 hSw); go_simp) <;> with_reducible rfl)
          (try simp only [Act.put, List.setIfInBounds_toArray, List.set_cons_zero, List.set_cons_succ])
          refine any_take (i := 6) (v := ?_) rfl (by kernel_rfl) (by kernel_rfl) (by kernel_rfl) (by exact fun _ _ _ h => h) (by rfl) ?_ hS ?_
          rotate_left
          · ((intro w hSw; have c0 := ck_later (show w5.cell? ⟨wr.heap.size, 0, none⟩ = _ from ck_at S5.out.2 0) (below_then B1 hSw); have c1 := ck_later (show w5.cell? ⟨wr.heap.size, 1, none⟩ = _ from ck_at S5.out.2 1) (below_then B1 hSw); have c2 := ck_later (show w5.cell? ⟨vb, 0, none⟩ = some (.int .u64 (m0.toNat : Int)) from ck_at S5.out.1.v 0) (below_then B1 hSw); go_simp) <;> with_reducible rfl)
          (try simp only [Act.put, List.setIfInBounds_toArray, List.set_cons_zero, List.set_cons_succ])
          refine any_one (i := 7) rfl (by kernel_rfl) (fun K hK => ?_)
          go_simp
          refine (Calls.mono (HTk.out _)) ?_
          rintro e x2 ⟨rfl, hbR⟩
          have B2 : Below w5.heap.size w5 x2 := below_then B1 hbR
          go_wp2_with fail
          refine hK.out _ _ (by first | exact B2 | exact hbR | exact below_then hS hbR) (any_weaken (S' := fun W => Below x2.heap.size x2 W) (fun W hW => by first | exact below_then B2 hW | exact below_then hbR hW | exact below_then (below_then hS hbR) hW) _ _ _ _ ?_)
          clear hK K hS hbR
          have hS : Below x2.heap.size x2 x2 := Below.refl _ _
          refine any_take (i := 8) (v := ?_) rfl (by kernel_rfl) (by kernel_rfl) (by kernel_rfl) (by exact fun _ _ _ h => h) (by rfl) ?_ hS ?_
          rotate_left
          · ((intro w hSw; (try dsimp only at hSw); go_simp) <;> with_reducible rfl)
          (try simp only [Act.put, List.setIfInBounds_toArray, List.set_cons_zero, List.set_cons_succ])
          refine any_take (i := 9) (v := ?_) rfl (by kernel_rfl) (by kernel_rfl) (by kernel_rfl) (by exact fun _ _ _ h => h) (by rfl) ?_ hS ?_
          rotate_left
          · ((intro w hSw; (try dsimp only at hSw); go_simp) <;> with_reducible rfl)
          (try simp only [Act.put, List.setIfInBounds_toArray, List.set_cons_zero, List.set_cons_succ])
          refine wpAnyH_done (by kernel_rfl) ?_ _
          cases tk with
          | true =>
            have F2 : Hid _ := F.out rfl _ B2
            clear F N hS B0 B1 B2 S5 HP HTh HTk
            go_wp2
            go_roundw
            case rel => exact ⟨1, by omega, rfl, F2.out.1, F2.out.2⟩
            case measure => simp [intOf]
          | false =>
            have F2 : Hid _ := N.out rfl _ B2
            clear F N hS B0 B1 B2 S5 HP HTh HTk
            go_wp2
            refine bodyPost_ret (v := .tuple #[.slice none 0 0, .int .i64 3]) (by first | rfl | simp [results, Tryd.results16, go_sem]) rfl ?_
            exact ⟨.slice none 0 0, by rw [F2.out.1], by rw [F2.out.1]; exact rfl, F2.out.2⟩
      · have hix : ∀ X : World, (Instr.index 79 (.agg #[.int .u8 a0, .int .u8 b0, .int .u8 a1, .int .u8 b1, .int .u8 a2, .int .u8 b2, .int .u8 a3, .int .u8 b3, .int .u8 a4, .int .u8 b4, .int .u8 a5, .int .u8 b5]) (.int .i64 1)).run Tryd.prog X = .ok (.agg #[.int .u8 a1, .int .u8 b1]) X := fun _ => by first | rfl | kernel_rfl
        have B3 := Blk.new' wr 78 [.int .u8 a1, .int .u8 b1]
        have b3_ : Below wr.heap.size wr (wr.alloc (.cells #[.int .u8 a1, .int .u8 b1] 78)) := (Below.refl _ _).alloc (Nat.le_refl _) _
        obtain ⟨w5, hw5⟩ : ∃ w5, w5 = wr.alloc (.cells #[.int .u8 a1, .int .u8 b1] 78) := ⟨_, rfl⟩
        rw [← hw5] at B3 b3_
        have S5 : Hid _ := And.intro (hS.later b3_) B3
        have HP : Hid _ := hP
        clear hS hP B3 b3_
        go_upto_region 8 with fail
        rw [← hw5]
        clear hw5 hix
        by_cases hb : b1 = 0
        · have HTh : Hid (∀ X : World, Calls Tryd.prog 47 #[.agg #[.int .u8 a1, .int .u8 b1]] X fun e w' => e = .returned (.bool false) ∧ Below X.heap.size X w') := fun X => by have h := cThere_any a1 b1 X; rw [decide_eq_false (by omega)] at h; exact h
          have F : Hid (∀ X, Below w5.heap.size w5 X → BuS w X rb vb [.int .u8 o, .int .u8 a0, .int .u8 b0, .int .u8 a1, .int .u8 b1, .int .u8 a2, .int .u8 b2, .int .u8 a3, .int .u8 b3, .int .u8 a4, .int .u8 b4, .int .u8 a5, .int .u8 b5] [.int .u64 (m0.toNat : Int), .int .u64 (m1.toNat : Int), .int .u64 (m2.toNat : Int), .int .u64 (m3.toNat : Int), .int .u64 (lb.toNat : Int), .int .u64 (m5.toNat : Int)] ∧ (∀ q ∈ QA.take 2, vOk q.1 q.2 = true)) := fun X bX => ⟨S5.out.1.later bX, take_step J1.out HP.out (by show (decide (b1 = 0) || _) = true; rw [decide_eq_true hb]; rfl)⟩
          clear hb
          refine wp_region_held_drew (S := fun W => Below w5.heap.size w5 W) (by kernel_rfl) ((Below.refl _ _).drew) (fun hS => ?_)
          have B0 : Below w5.heap.size w5 w5.drew := ((Below.refl _ _).drew)
          refine any_take (i := 0) (v := ?_) rfl (by kernel_rfl) (by kernel_rfl) (by kernel_rfl) (by exact fun _ _ _ h => h) (by rfl) ?_ hS ?_
          rotate_left
          · ((intro w hSw; have c0 := ck_later (show w5.cell? ⟨wr.heap.size, 0, none⟩ = _ from ck_at S5.out.2 0) hSw; have c1 := ck_later (show w5.cell? ⟨wr.heap.size, 1, none⟩ = _ from ck_at S5.out.2 1) hSw; have c2 := ck_later (show w5.cell? ⟨vb, 1, none⟩ = some (.int .u64 (m1.toNat : Int)) from ck_at S5.out.1.v 1) hSw; go_simp) <;> with_reducible rfl)
          (try simp only [Act.put, List.setIfInBounds_toArray, List.set_cons_zero, List.set_cons_succ])
          refine any_one (i := 1) rfl (by kernel_rfl) (fun K hK => ?_)
          go_simp
          refine (Calls.mono (HTh.out _)) ?_
          rintro e x1 ⟨rfl, hbR⟩
          have B1 : Below w5.heap.size w5 x1 := below_then B0 hbR
          go_wp2_with fail
          refine hK.out _ _ (by first | exact B1 | exact hbR | exact below_then hS hbR) (any_weaken (S' := fun W => Below x1.heap.size x1 W) (fun W hW => by first | exact below_then B1 hW | exact below_then hbR hW | exact below_then (below_then hS hbR) hW) _ _ _ _ ?_)
          clear hK K hS hbR
          have hS : Below x1.heap.size x1 x1 := Below.refl _ _
          refine any_take (i := 2) (v := ?_) rfl (by kernel_rfl) (by kernel_rfl) (by kernel_rfl) (by exact fun _ _ _ h => h) (by rfl) ?_ hS ?_
          rotate_left
          · ((intro w hSw; (try dsimp only at hSw); go_simp) <;> with_reducible rfl)
          (try simp only [Act.put, List.setIfInBounds_toArray, List.set_cons_zero, List.set_cons_succ])
          refine any_skip (i := 3) rfl (by kernel_rfl) (by kernel_rfl) (by kernel_rfl) (by exact fun _ _ _ h => h) (by rfl) hS ?_
          (try simp only [Act.put, List.setIfInBounds_toArray, List.set_cons_zero, List.set_cons_succ])
          refine any_skip (i := 4) rfl (by kernel_rfl) (by kernel_rfl) (by kernel_rfl) (by exact fun _ _ _ h => h) (by rfl) hS ?_
          (try simp only [Act.put, List.setIfInBounds_toArray, List.set_cons_zero, List.set_cons_succ])
          refine any_skip (i := 5) rfl (by kernel_rfl) (by kernel_rfl) (by kernel_rfl) (by exact fun _ _ _ h => h) (by rfl) hS ?_
          (try simp only [Act.put, List.setIfInBounds_toArray, List.set_cons_zero, List.set_cons_succ])
          refine any_skip (i := 6) rfl (by kernel_rfl) (by kernel_rfl) (by kernel_rfl) (by exact fun _ _ _ h => h) (by rfl) hS ?_
          (try simp only [Act.put, List.setIfInBounds_toArray, List.set_cons_zero, List.set_cons_succ])
          refine any_skip (i := 7) rfl (by kernel_rfl) (by kernel_rfl) (by kernel_rfl) (by exact fun _ _ _ h => h) (by rfl) hS ?_
          (try simp only [Act.put, List.setIfInBounds_toArray, List.set_cons_zero, List.set_cons_succ])
          refine any_skip (i := 8) rfl (by kernel_rfl) (by kernel_rfl) (by kernel_rfl) (by exact fun _ _ _ h => h) (by rfl) hS ?_
          (try simp only [Act.put, List.setIfInBounds_toArray, List.set_cons_zero, List.set_cons_succ])
          refine any_take (i := 9) (v := ?_) rfl (by kernel_rfl) (by kernel_rfl) (by kernel_rfl) (by exact fun _ _ _ h => h) (by rfl) ?_ hS ?_
          rotate_left
          · ((intro w hSw; (try dsimp only at hSw); go_simp) <;> with_reducible rfl)
          (try simp only [Act.put, List.setIfInBounds_toArray, List.set_cons_zero, List.set_cons_succ])
          refine wpAnyH_done (by kernel_rfl) ?_ _
          have F2 : Hid _ := F.out _ B1
          clear F hS B0 B1 S5 HP HTh
          go_wp2
          go_roundw
          case rel => exact ⟨2, by omega, rfl, F2.out.1, F2.out.2⟩
          case measure => simp [intOf]
        · have HTh : Hid (∀ X : World, Calls Tryd.prog 47 #[.agg #[.int .u8 a1, .int .u8 b1]] X fun e w' => e = .returned (.bool true) ∧ Below X.heap.size X w') := fun X => by have h := cThere_any a1 b1 X; rw [decide_eq_true (by have := PF1.out.size; omega)] at h; exact h
          have HTk : Hid (∀ X, _) := fun X => cTakes_any a1 b1 m1 X PF1.out.bits
          have F : Hid (tkB b1 m1 = true → ∀ X, Below w5.heap.size w5 X → BuS w X rb vb [.int .u8 o, .int .u8 a0, .int .u8 b0, .int .u8 a1, .int .u8 b1, .int .u8 a2, .int .u8 b2, .int .u8 a3, .int .u8 b3, .int .u8 a4, .int .u8 b4, .int .u8 a5, .int .u8 b5] [.int .u64 (m0.toNat : Int), .int .u64 (m1.toNat : Int), .int .u64 (m2.toNat : Int), .int .u64 (m3.toNat : Int), .int .u64 (lb.toNat : Int), .int .u64 (m5.toNat : Int)] ∧ (∀ q ∈ QA.take 2, vOk q.1 q.2 = true)) := fun ht X bX => ⟨S5.out.1.later bX, take_step J1.out HP.out (by show (_ || tkB b1 m1) = true; rw [ht, Bool.or_true])⟩
          have N : Hid (tkB b1 m1 = false → ∀ X, Below w5.heap.size w5 X → buR op sv pv vv tv lb nv = (none, 3) ∧ Below w.heap.size w X) := fun ht X bX => ⟨EB.out _ (List.mem_of_getElem? J1.out) (by show (decide (b1 = 0) || tkB b1 m1) = false; rw [ht, decide_eq_false hb]; rfl), (S5.out.1.later bX).below⟩
          clear hb
          generalize htk : tkB b1 m1 = tk at F N HTk
          clear htk
          refine wp_region_held_drew (S := fun W => Below w5.heap.size w5 W) (by kernel_rfl) ((Below.refl _ _).drew) (fun hS => ?_)
          have B0 : Below w5.heap.size w5 w5.drew := ((Below.refl _ _).drew)
          refine any_take (i := 0) (v := ?_) rfl (by kernel_rfl) (by kernel_rfl) (by kernel_rfl) (by exact fun _ _ _ h => h) (by rfl) ?_ hS ?_
          rotate_left
          · ((intro w hSw; have c0 := ck_later (show w5.cell? ⟨wr.heap.size, 0, none⟩ = _ from ck_at S5.out.2 0) hSw; have c1 := ck_later (show w5.cell? ⟨wr.heap.size, 1, none⟩ = _ from ck_at S5.out.2 1) hSw; have c2 := ck_later (show w5.cell? ⟨vb, 1, none⟩ = some (.int .u64 (m1.toNat : Int)) from ck_at S5.out.1.v 1) hSw; go_simp) <;> with_reducible rfl)
          (try simp only [Act.put, List.setIfInBounds_toArray, List.set_cons_zero, List.set_cons_succ])
          refine any_one (i := 1) rfl (by kernel_rfl) (fun K hK => ?_)
          go_simp
          refine (Calls.mono (HTh.out _)) ?_
          rintro e x1 ⟨rfl, hbR⟩
          have B1 : Below w5.heap.size w5 x1 := below_then B0 hbR
          go_wp2_with fail
          refine hK.out _ _ (by first | exact B1 | exact hbR | exact below_then hS hbR) (any_weaken (S' := fun W => Below x1.heap.size x1 W) (fun W hW => by first | exact below_then B1 hW | exact below_then hbR hW | exact below_then (below_then hS hbR) hW) _ _ _ _ ?_)
          clear hK K hS hbR
          have hS : Below x1.heap.size x1 x1 := Below.refl _ _
          refine any_take (i := 2) (v := ?_) rfl (by kernel_rfl) (by kernel_rfl) (by kernel_rfl) (by exact fun _ _ _ h => h) (by rfl) ?_ hS ?_
          rotate_left
          · ((intro w hSw; (try dsimp only at hSw); go_simp) <;> with_reducible rfl)
          (try simp only [Act.put, List.setIfInBounds_toArray, List.set_cons_zero, List.set_cons_succ])
          refine any_take (i := 3) (v := ?_) rfl (by kernel_rfl) (by kernel_rfl) (by kernel_rfl) (by exact fun _ _ _ h => h) (by rfl) ?_ hS ?_
          rotate_left
          · ((intro w hSw; have c0 := ck_later (show w5.cell? ⟨wr.heap.size, 0, none⟩ = _ from ck_at S5.out.2 0) (below_then B1 hSw); have c1 := ck_later (show w5.cell? ⟨wr.heap.size, 1, none⟩ = _ from ck_at S5.out.2 1) (below_then B1 hSw); have c2 := ck_later (show w5.cell? ⟨vb, 1, none⟩ = some (.int .u64 (m1.toNat : Int)) from ck_at S5.out.1.v 1) (below_then B1 hSw); go_simp) <;> with_reducible rfl)
          (try simp only [Act.put, List.setIfInBounds_toArray, List.set_cons_zero, List.set_cons_succ])
          refine any_take (i := 4) (v := ?_) rfl (by kernel_rfl) (by kernel_rfl) (by kernel_rfl) (by exact fun _ _ _ h => h) (by rfl) ?_ hS ?_
          rotate_left
          · ((intro w hSw; have c0 := ck_later (show w5.cell? ⟨wr.heap.size, 0, none⟩ = _ from ck_at S5.out.2 0) (below_then B1 hSw); have c1 := ck_later (show w5.cell? ⟨wr.heap.size, 1, none⟩ = _ from ck_at S5.out.2 1) (below_then B1 hSw); have c2 := ck_later (show w5.cell? ⟨vb, 1, none⟩ = some (.int .u64 (m1.toNat : Int)) from ck_at S5.out.1.v 1) (below_then B1 hSw); go_simp) <;> with_reducible rfl)
          (try simp only [Act.put, List.setIfInBounds_toArray, List.set_cons_zero, List.set_cons_succ])
          refine any_take (i := 5) (v := ?_) rfl (by kernel_rfl) (by kernel_rfl) (by kernel_rfl) (by exact fun _ _ _ h => h) (by rfl) ?_ hS ?_
          rotate_left
          · ((intro w hSw; have c0 := ck_later (show w5.cell? ⟨wr.heap.size, 0, none⟩ = _ from ck_at S5.out.2 0) (below_then B1 hSw); have c1 := ck_later (show w5.cell? ⟨wr.heap.size, 1, none⟩ = _ from ck_at S5.out.2 1) (below_then B1 hSw); have c2 := ck_later (show w5.cell? ⟨vb, 1, none⟩ = some (.int .u64 (m1.toNat : Int)) from ck_at S5.out.1.v 1) (below_then B1 hSw); go_simp) <;> with_reducible rfl)
          (try simp only [Act.put, List.setIfInBounds_toArray, List.set_cons_zero, List.set_cons_succ])
          refine any_take (i := 6) (v := ?_) rfl (by kernel_rfl) (by kernel_rfl) (by kernel_rfl) (by exact fun _ _ _ h => h) (by rfl) ?_ hS ?_
          rotate_left
          · ((intro w hSw; have c0 := ck_later (show w5.cell? ⟨wr.heap.size, 0, none⟩ = _ from ck_at S5.out.2 0) (below_then B1 hSw); have c1 := ck_later (show w5.cell? ⟨wr.heap.size, 1, none⟩ = _ from ck_at S5.out.2 1) (below_then B1 hSw); have c2 := ck_later (show w5.cell? ⟨vb, 1, none⟩ = some (.int .u64 (m1.toNat : Int)) from ck_at S5.out.1.v 1) (below_then B1 hSw); go_simp) <;> with_reducible rfl)
          (try simp only [Act.put, List.setIfInBounds_toArray, List.set_cons_zero, List.set_cons_succ])
          refine any_one (i := 7) rfl (by kernel_rfl) (fun K hK => ?_)
          go_simp
          refine (Calls.mono (HTk.out _)) ?_
          rintro e x2 ⟨rfl, hbR⟩
          have B2 : Below w5.heap.size w5 x2 := below_then B1 hbR
          go_wp2_with fail
          refine hK.out _ _ (by first | exact B2 | exact hbR | exact below_then hS hbR) (any_weaken (S' := fun W => Below x2.heap.size x2 W) (fun W hW => by first | exact below_then B2 hW | exact below_then hbR hW | exact below_then (below_then hS hbR) hW) _ _ _ _ ?_)
          clear hK K hS hbR
          have hS : Below x2.heap.size x2 x2 := Below.refl _ _
          refine any_take (i := 8) (v := ?_) rfl (by kernel_rfl) (by kernel_rfl) (by kernel_rfl) (by exact fun _ _ _ h => h) (by rfl) ?_ hS ?_
          rotate_left
          · ((intro w hSw; (try dsimp only at hSw); go_simp) <;> with_reducible rfl)
          (try simp only [Act.put, List.setIfInBounds_toArray, List.set_cons_zero, List.set_cons_succ])
          refine any_take (i := 9) (v := ?_) rfl (by kernel_rfl) (by kernel_rfl) (by kernel_rfl) (by exact fun _ _ _ h => h) (by rfl) ?_ hS ?_
          rotate_left
          · ((intro w hSw; (try dsimp only at hSw); go_simp) <;> with_reducible rfl)
          (try simp only [Act.put, List.setIfInBounds_toArray, List.set_cons_zero, List.set_cons_succ])
          refine wpAnyH_done (by kernel_rfl) ?_ _
          cases tk with
          | true =>
            have F2 : Hid _ := F.out rfl _ B2
            clear F N hS B0 B1 B2 S5 HP HTh HTk
            go_wp2
            go_roundw
            case rel => exact ⟨2, by omega, rfl, F2.out.1, F2.out.2⟩
            case measure => simp [intOf]
          | false =>
            have F2 : Hid _ := N.out rfl _ B2
            clear F N hS B0 B1 B2 S5 HP HTh HTk
            go_wp2
            refine bodyPost_ret (v := .tuple #[.slice none 0 0, .int .i64 3]) (by first | rfl | simp [results, Tryd.results16, go_sem]) rfl ?_
            exact ⟨.slice none 0 0, by rw [F2.out.1], by rw [F2.out.1]; exact rfl, F2.out.2⟩
      · have hix : ∀ X : World, (Instr.index 79 (.agg #[.int .u8 a0, .int .u8 b0, .int .u8 a1, .int .u8 b1, .int .u8 a2, .int .u8 b2, .int .u8 a3, .int .u8 b3, .int .u8 a4, .int .u8 b4, .int .u8 a5, .int .u8 b5]) (.int .i64 2)).run Tryd.prog X = .ok (.agg #[.int .u8 a2, .int .u8 b2]) X := fun _ => by first | rfl | kernel_rfl
        have B3 := Blk.new' wr 78 [.int .u8 a2, .int .u8 b2]
        have b3_ : Below wr.heap.size wr (wr.alloc (.cells #[.int .u8 a2, .int .u8 b2] 78)) := (Below.refl _ _).alloc (Nat.le_refl _) _
        obtain ⟨w5, hw5⟩ : ∃ w5, w5 = wr.alloc (.cells #[.int .u8 a2, .int .u8 b2] 78) := ⟨_, rfl⟩
        rw [← hw5] at B3 b3_
        have S5 : Hid _ := And.intro (hS.later b3_) B3
        have HP : Hid _ := hP
        clear hS hP B3 b3_
        go_upto_region 8 with fail
        rw [← hw5]
        clear hw5 hix
        by_cases hb : b2 = 0
        · have HTh : Hid (∀ X : World, Calls Tryd.prog 47 #[.agg #[.int .u8 a2, .int .u8 b2]] X fun e w' => e = .returned (.bool false) ∧ Below X.heap.size X w') := fun X => by have h := cThere_any a2 b2 X; rw [decide_eq_false (by omega)] at h; exact h
          have F : Hid (∀ X, Below w5.heap.size w5 X → BuS w X rb vb [.int .u8 o, .int .u8 a0, .int .u8 b0, .int .u8 a1, .int .u8 b1, .int .u8 a2, .int .u8 b2, .int .u8 a3, .int .u8 b3, .int .u8 a4, .int .u8 b4, .int .u8 a5, .int .u8 b5] [.int .u64 (m0.toNat : Int), .int .u64 (m1.toNat : Int), .int .u64 (m2.toNat : Int), .int .u64 (m3.toNat : Int), .int .u64 (lb.toNat : Int), .int .u64 (m5.toNat : Int)] ∧ (∀ q ∈ QA.take 3, vOk q.1 q.2 = true)) := fun X bX => ⟨S5.out.1.later bX, take_step J2.out HP.out (by show (decide (b2 = 0) || _) = true; rw [decide_eq_true hb]; rfl)⟩
          clear hb
          refine wp_region_held_drew (S := fun W => Below w5.heap.size w5 W) (by kernel_rfl) ((Below.refl _ _).drew) (fun hS => ?_)
          have B0 : Below w5.heap.size w5 w5.drew := ((Below.refl _ _).drew)
          refine any_take (i := 0) (v := ?_) rfl (by kernel_rfl) (by kernel_rfl) (by kernel_rfl) (by exact fun _ _ _ h => h) (by rfl) ?_ hS ?_
          rotate_left
          · ((intro w hSw; have c0 := ck_later (show w5.cell? ⟨wr.heap.size, 0, none⟩ = _ from ck_at S5.out.2 0) hSw; have c1 := ck_later (show w5.cell? ⟨wr.heap.size, 1, none⟩ = _ from ck_at S5.out.2 1) hSw; have c2 := ck_later (show w5.cell? ⟨vb, 2, none⟩ = some (.int .u64 (m2.toNat : Int)) from ck_at S5.out.1.v 2) hSw; go_simp) <;> with_reducible rfl)
          (try simp only [Act.put, List.setIfInBounds_toArray, List.set_cons_zero, List.set_cons_succ])
          refine any_one (i := 1) rfl (by kernel_rfl) (fun K hK => ?_)
          go_simp
          refine (Calls.mono (HTh.out _)) ?_
          rintro e x1 ⟨rfl, hbR⟩
          have B1 : Below w5.heap.size w5 x1 := below_then B0 hbR
          go_wp2_with fail
          refine hK.out _ _ (by first | exact B1 | exact hbR | exact below_then hS hbR) (any_weaken (S' := fun W => Below x1.heap.size x1 W) (fun W hW => by first | exact below_then B1 hW | exact below_then hbR hW | exact below_then (below_then hS hbR) hW) _ _ _ _ ?_)
          clear hK K hS hbR
          have hS : Below x1.heap.size x1 x1 := Below.refl _ _
          refine any_take (i := 2) (v := ?_) rfl (by kernel_rfl) (by kernel_rfl) (by kernel_rfl) (by exact fun _ _ _ h => h) (by rfl) ?_ hS ?_
          rotate_left
          · ((intro w hSw; (try dsimp only at hSw); go_simp) <;> with_reducible rfl)
          (try simp only [Act.put, List.setIfInBounds_toArray, List.set_cons_zero, List.set_cons_succ])
          refine any_skip (i := 3) rfl (by kernel_rfl) (by kernel_rfl) (by kernel_rfl) (by exact fun _ _ _ h => h) (by rfl) hS ?_
          (try simp only [Act.put, List.setIfInBounds_toArray, List.set_cons_zero, List.set_cons_succ])
          refine any_skip (i := 4) rfl (by kernel_rfl) (by kernel_rfl) (by kernel_rfl) (by exact fun _ _ _ h => h) (by rfl) hS ?_
          (try simp only [Act.put, List.setIfInBounds_toArray, List.set_cons_zero, List.set_cons_succ])
          refine any_skip (i := 5) rfl (by kernel_rfl) (by kernel_rfl) (by kernel_rfl) (by exact fun _ _ _ h => h) (by rfl) hS ?_
          (try simp only [Act.put, List.setIfInBounds_toArray, List.set_cons_zero, List.set_cons_succ])
          refine any_skip (i := 6) rfl (by kernel_rfl) (by kernel_rfl) (by kernel_rfl) (by exact fun _ _ _ h => h) (by rfl) hS ?_
          (try simp only [Act.put, List.setIfInBounds_toArray, List.set_cons_zero, List.set_cons_succ])
          refine any_skip (i := 7) rfl (by kernel_rfl) (by kernel_rfl) (by kernel_rfl) (by exact fun _ _ _ h => h) (by rfl) hS ?_
          (try simp only [Act.put, List.setIfInBounds_toArray, List.set_cons_zero, List.set_cons_succ])
          refine any_skip (i := 8) rfl (by kernel_rfl) (by kernel_rfl) (by kernel_rfl) (by exact fun _ _ _ h => h) (by rfl) hS ?_
          (try simp only [Act.put, List.setIfInBounds_toArray, List.set_cons_zero, List.set_cons_succ])
          refine any_take (i := 9) (v := ?_) rfl (by kernel_rfl) (by kernel_rfl) (by kernel_rfl) (by exact fun _ _ _ h => h) (by rfl) ?_ hS ?_
          rotate_left
          · ((intro w hSw; (try dsimp only at hSw); go_simp) <;> with_reducible rfl)
          (try simp only [Act.put, List.setIfInBounds_toArray, List.set_cons_zero, List.set_cons_succ])
          refine wpAnyH_done (by kernel_rfl) ?_ _
          have F2 : Hid _ := F.out _ B1
          clear F hS B0 B1 S5 HP HTh
          go_wp2
          go_roundw
          case rel => exact ⟨3, by omega, rfl, F2.out.1, F2.out.2⟩
          case measure => simp [intOf]
        · have HTh : Hid (∀ X : World, Calls Tryd.prog 47 #[.agg #[.int .u8 a2, .int .u8 b2]] X fun e w' => e = .returned (.bool true) ∧ Below X.heap.size X w') := fun X => by have h := cThere_any a2 b2 X; rw [decide_eq_true (by have := PF2.out.size; omega)] at h; exact h
          have HTk : Hid (∀ X, _) := fun X => cTakes_any a2 b2 m2 X PF2.out.bits
          have F : Hid (tkB b2 m2 = true → ∀ X, Below w5.heap.size w5 X → BuS w X rb vb [.int .u8 o, .int .u8 a0, .int .u8 b0, .int .u8 a1, .int .u8 b1, .int .u8 a2, .int .u8 b2, .int .u8 a3, .int .u8 b3, .int .u8 a4, .int .u8 b4, .int .u8 a5, .int .u8 b5] [.int .u64 (m0.toNat : Int), .int .u64 (m1.toNat : Int), .int .u64 (m2.toNat : Int), .int .u64 (m3.toNat : Int), .int .u64 (lb.toNat : Int), .int .u64 (m5.toNat : Int)] ∧ (∀ q ∈ QA.take 3, vOk q.1 q.2 = true)) := fun ht X bX => ⟨S5.out.1.later bX, take_step J2.out HP.out (by show (_ || tkB b2 m2) = true; rw [ht, Bool.or_true])⟩
          have N : Hid (tkB b2 m2 = false → ∀ X, Below w5.heap.size w5 X → buR op sv pv vv tv lb nv = (none, 3) ∧ Below w.heap.size w X) := fun ht X bX => ⟨EB.out _ (List.mem_of_getElem? J2.out) (by show (decide (b2 = 0) || tkB b2 m2) = false; rw [ht, decide_eq_false hb]; rfl), (S5.out.1.later bX).below⟩
          clear hb
          generalize htk : tkB b2 m2 = tk at F N HTk
          clear htk
          refine wp_region_held_drew (S := fun W => Below w5.heap.size w5 W) (by kernel_rfl) ((Below.refl _ _).drew) (fun hS => ?_)
          have B0 : Below w5.heap.size w5 w5.drew := ((Below.refl _ _).drew)
          refine any_take (i := 0) (v := ?_) rfl (by kernel_rfl) (by kernel_rfl) (by kernel_rfl) (by exact fun _ _ _ h => h) (by rfl) ?_ hS ?_
          rotate_left
          · ((intro w hSw; have c0 := ck_later (show w5.cell? ⟨wr.heap.size, 0, none⟩ = _ from ck_at S5.out.2 0) hSw; have c1 := ck_later (show w5.cell? ⟨wr.heap.size, 1, none⟩ = _ from ck_at S5.out.2 1) hSw; have c2 := ck_later (show w5.cell? ⟨vb, 2, none⟩ = some (.int .u64 (m2.toNat : Int)) from ck_at S5.out.1.v 2) hSw; go_simp) <;> with_reducible rfl)
          (try simp only [Act.put, List.setIfInBounds_toArray, List.set_cons_zero, List.set_cons_succ])
          refine any_one (i := 1) rfl (by kernel_rfl) (fun K hK => ?_)
          go_simp
          refine (Calls.mono (HTh.out _)) ?_
          rintro e x1 ⟨rfl, hbR⟩
          have B1 : Below w5.heap.size w5 x1 := below_then B0 hbR
          go_wp2_with fail
          refine hK.out _ _ (by first | exact B1 | exact hbR | exact below_then hS hbR) (any_weaken (S' := fun W => Below x1.heap.size x1 W) (fun W hW => by first | exact below_then B1 hW | exact below_then hbR hW | exact below_then (below_then hS hbR) hW) _ _ _ _ ?_)
          clear hK K hS hbR
          have hS : Below x1.heap.size x1 x1 := Below.refl _ _
          refine any_take (i := 2) (v := ?_) rfl (by kernel_rfl) (by kernel_rfl) (by kernel_rfl) (by exact fun _ _ _ h => h) (by rfl) ?_ hS ?_
          rotate_left
          · ((intro w hSw; (try dsimp only at hSw); go_simp) <;> with_reducible rfl)
          (try simp only [Act.put, List.setIfInBounds_toArray, List.set_cons_zero, List.set_cons_succ])
          refine any_take (i := 3) (v := ?_) rfl (by kernel_rfl) (by kernel_rfl) (by kernel_rfl) (by exact fun _ _ _ h => h) (by rfl) ?_ hS ?_
          rotate_left
          · ((intro w hSw; have c0 := ck_later (show w5.cell? ⟨wr.heap.size, 0, none⟩ = _ from ck_at S5.out.2 0) (below_then B1 hSw); have c1 := ck_later (show w5.cell? ⟨wr.heap.size, 1, none⟩ = _ from ck_at S5.out.2 1) (below_then B1 hSw); have c2 := ck_later (show w5.cell? ⟨vb, 2, none⟩ = some (.int .u64 (m2.toNat : Int)) from ck_at S5.out.1.v 2) (below_then B1 hSw); go_simp) <;> with_reducible rfl)
          (try simp only [Act.put, List.setIfInBounds_toArray, List.set_cons_zero, List.set_cons_succ])
          refine any_take (i := 4) (v := ?_) rfl (by kernel_rfl) (by kernel_rfl) (by kernel_rfl) (by exact fun _ _ _ h => h) (by rfl) ?_ hS ?_
          rotate_left
          · ((intro w hSw; have c0 := ck_later (show w5.cell? ⟨wr.heap.size, 0, none⟩ = _ from ck_at S5.out.2 0) (below_then B1 hSw); have c1 := ck_later (show w5.cell? ⟨wr.heap.size, 1, none⟩ = _ from ck_at S5.out.2 1) (below_then B1 hSw); have c2 := ck_later (show w5.cell? ⟨vb, 2, none⟩ = some (.int .u64 (m2.toNat : Int)) from ck_at S5.out.1.v 2) (below_then B1 hSw); go_simp) <;> with_reducible rfl)
          (try simp only [Act.put, List.setIfInBounds_toArray, List.set_cons_zero, List.set_cons_succ])
          refine any_take (i := 5) (v := ?_) rfl (by kernel_rfl) (by kernel_rfl) (by kernel_rfl) (by exact fun _ _ _ h => h) (by rfl) ?_ hS ?_
          rotate_left
          · ((intro w hSw; have c0 := ck_later (show w5.cell? ⟨wr.heap.size, 0, none⟩ = _ from ck_at S5.out.2 0) (below_then B1 hSw); have c1 := ck_later (show w5.cell? ⟨wr.heap.size, 1, none⟩ = _ from ck_at S5.out.2 1) (below_then B1 hSw); have c2 := ck_later (show w5.cell? ⟨vb, 2, none⟩ = some (.int .u64 (m2.toNat : Int)) from ck_at S5.out.1.v 2) (below_then B1 hSw); go_simp) <;> with_reducible rfl)
          (try simp only [Act.put, List.setIfInBounds_toArray, List.set_cons_zero, List.set_cons_succ])
          refine any_take (i := 6) (v := ?_) rfl (by kernel_rfl) (by kernel_rfl) (by kernel_rfl) (by exact fun _ _ _ h => h) (by rfl) ?_ hS ?_
          rotate_left
          · ((intro w hSw; have c0 := ck_later (show w5.cell? ⟨wr.heap.size, 0, none⟩ = _ from ck_at S5.out.2 0) (below_then B1 hSw); have c1 := ck_later (show w5.cell? ⟨wr.heap.size, 1, none⟩ = _ from ck_at S5.out.2 1) (below_then B1 hSw); have c2 := ck_later (show w5.cell? ⟨vb, 2, none⟩ = some (.int .u64 (m2.toNat : Int)) from ck_at S5.out.1.v 2) (below_then B1 hSw); go_simp) <;> with_reducible rfl)
          (try simp only [Act.put, List.setIfInBounds_toArray, List.set_cons_zero, List.set_cons_succ])
          refine any_one (i := 7) rfl (by kernel_rfl) (fun K hK => ?_)
          go_simp
          refine (Calls.mono (HTk.out _)) ?_
          rintro e x2 ⟨rfl, hbR⟩
          have B2 : Below w5.heap.size w5 x2 := below_then B1 hbR
          go_wp2_with fail
          refine hK.out _ _ (by first | exact B2 | exact hbR | exact below_then hS hbR) (any_weaken (S' := fun W => Below x2.heap.size x2 W) (fun W hW => by first | exact below_then B2 hW | exact below_then hbR hW | exact below_then (below_then hS hbR) hW) _ _ _ _ ?_)
          clear hK K hS hbR
          have hS : Below x2.heap.size x2 x2 := Below.refl _ _
          refine any_take (i := 8) (v := ?_) rfl (by kernel_rfl) (by kernel_rfl) (by kernel_rfl) (by exact fun _ _ _ h => h) (by rfl) ?_ hS ?_
          rotate_left
          · ((intro w hSw; (try dsimp only at hSw); go_simp) <;> with_reducible rfl)
          (try simp only [Act.put, List.setIfInBounds_toArray, List.set_cons_zero, List.set_cons_succ])
          refine any_take (i := 9) (v := ?_) rfl (by kernel_rfl) (by kernel_rfl) (by kernel_rfl) (by exact fun _ _ _ h => h) (by rfl) ?_ hS ?_
          rotate_left
          · ((intro w hSw; (try dsimp only at hSw); go_simp) <;> with_reducible rfl)
          (try simp only [Act.put, List.setIfInBounds_toArray, List.set_cons_zero, List.set_cons_succ])
          refine wpAnyH_done (by kernel_rfl) ?_ _
          cases tk with
          | true =>
            have F2 : Hid _ := F.out rfl _ B2
            clear F N hS B0 B1 B2 S5 HP HTh HTk
            go_wp2
            go_roundw
            case rel => exact ⟨3, by omega, rfl, F2.out.1, F2.out.2⟩
            case measure => simp [intOf]
          | false =>
            have F2 : Hid _ := N.out rfl _ B2
            clear F N hS B0 B1 B2 S5 HP HTh HTk
            go_wp2
            refine bodyPost_ret (v := .tuple #[.slice none 0 0, .int .i64 3]) (by first | rfl | simp [results, Tryd.results16, go_sem]) rfl ?_
            exact ⟨.slice none 0 0, by rw [F2.out.1], by rw [F2.out.1]; exact rfl, F2.out.2⟩
      · have hix : ∀ X : World, (Instr.index 79 (.agg #[.int .u8 a0, .int .u8 b0, .int .u8 a1, .int .u8 b1, .int .u8 a2, .int .u8 b2, .int .u8 a3, .int .u8 b3, .int .u8 a4, .int .u8 b4, .int .u8 a5, .int .u8 b5]) (.int .i64 3)).run Tryd.prog X = .ok (.agg #[.int .u8 a3, .int .u8 b3]) X := fun _ => by first | rfl | kernel_rfl
        have B3 := Blk.new' wr 78 [.int .u8 a3, .int .u8 b3]
        have b3_ : Below wr.heap.size wr (wr.alloc (.cells #[.int .u8 a3, .int .u8 b3] 78)) := (Below.refl _ _).alloc (Nat.le_refl _) _
        obtain ⟨w5, hw5⟩ : ∃ w5, w5 = wr.alloc (.cells #[.int .u8 a3, .int .u8 b3] 78) := ⟨_, rfl⟩
        rw [← hw5] at B3 b3_
        have S5 : Hid _ := And.intro (hS.later b3_) B3
        have HP : Hid _ := hP
        clear hS hP B3 b3_
        go_upto_region 8 with fail
        rw [← hw5]
        clear hw5 hix
        by_cases hb : b3 = 0
        · have HTh : Hid (∀ X : World, Calls Tryd.prog 47 #[.agg #[.int .u8 a3, .int .u8 b3]] X fun e w' => e = .returned (.bool false) ∧ Below X.heap.size X w') := fun X => by have h := cThere_any a3 b3 X; rw [decide_eq_false (by omega)] at h; exact h
          have F : Hid (∀ X, Below w5.heap.size w5 X → BuS w X rb vb [.int .u8 o, .int .u8 a0, .int .u8 b0, .int .u8 a1, .int .u8 b1, .int .u8 a2, .int .u8 b2, .int .u8 a3, .int .u8 b3, .int .u8 a4, .int .u8 b4, .int .u8 a5, .int .u8 b5] [.int .u64 (m0.toNat : Int), .int .u64 (m1.toNat : Int), .int .u64 (m2.toNat : Int), .int .u64 (m3.toNat : Int), .int .u64 (lb.toNat : Int), .int .u64 (m5.toNat : Int)] ∧ (∀ q ∈ QA.take 4, vOk q.1 q.2 = true)) := fun X bX => ⟨S5.out.1.later bX, take_step J3.out HP.out (by show (decide (b3 = 0) || _) = true; rw [decide_eq_true hb]; rfl)⟩
          clear hb
          refine wp_region_held_drew (S := fun W => Below w5.heap.size w5 W) (by kernel_rfl) ((Below.refl _ _).drew) (fun hS => ?_)
          have B0 : Below w5.heap.size w5 w5.drew := ((Below.refl _ _).drew)
          refine any_take (i := 0) (v := ?_) rfl (by kernel_rfl) (by kernel_rfl) (by kernel_rfl) (by exact fun _ _ _ h => h) (by rfl) ?_ hS ?_
          rotate_left
          · ((intro w hSw; have c0 := ck_later (show w5.cell? ⟨wr.heap.size, 0, none⟩ = _ from ck_at S5.out.2 0) hSw; have c1 := ck_later (show w5.cell? ⟨wr.heap.size, 1, none⟩ = _ from ck_at S5.out.2 1) hSw; have c2 := ck_later (show w5.cell? ⟨vb, 3, none⟩ = some (.int .u64 (m3.toNat : Int)) from ck_at S5.out.1.v 3) hSw; go_simp) <;> with_reducible rfl)
          (try simp only [Act.put, List.setIfInBounds_toArray, List.set_cons_zero, List.set_cons_succ])
          refine any_one (i := 1) rfl (by kernel_rfl) (fun K hK => ?_)
          go_simp
          refine (Calls.mono (HTh.out _)) ?_
          rintro e x1 ⟨rfl, hbR⟩
          have B1 : Below w5.heap.size w5 x1 := below_then B0 hbR
          go_wp2_with fail
          refine hK.out _ _ (by first | exact B1 | exact hbR | exact below_then hS hbR) (any_weaken (S' := fun W => Below x1.heap.size x1 W) (fun W hW => by first | exact below_then B1 hW | exact below_then hbR hW | exact below_then (below_then hS hbR) hW) _ _ _ _ ?_)
          clear hK K hS hbR
          have hS : Below x1.heap.size x1 x1 := Below.refl _ _
          refine any_take (i := 2) (v := ?_) rfl (by kernel_rfl) (by kernel_rfl) (by kernel_rfl) (by exact fun _ _ _ h => h) (by rfl) ?_ hS ?_
          rotate_left
          · ((intro w hSw; (try dsimp only at hSw); go_simp) <;> with_reducible rfl)
          (try simp only [Act.put, List.setIfInBounds_toArray, List.set_cons_zero, List.set_cons_succ])
          refine any_skip (i := 3) rfl (by kernel_rfl) (by kernel_rfl) (by kernel_rfl) (by exact fun _ _ _ h => h) (by rfl) hS ?_
          (try simp only [Act.put, List.setIfInBounds_toArray, List.set_cons_zero, List.set_cons_succ])
          refine any_skip (i := 4) rfl (by kernel_rfl) (by kernel_rfl) (by kernel_rfl) (by exact fun _ _ _ h => h) (by rfl) hS ?_
          (try simp only [Act.put, List.setIfInBounds_toArray, List.set_cons_zero, List.set_cons_succ])
          refine any_skip (i := 5) rfl (by kernel_rfl) (by kernel_rfl) (by kernel_rfl) (by exact fun _ _ _ h => h) (by rfl) hS ?_
          (try simp only [Act.put, List.setIfInBounds_toArray, List.set_cons_zero, List.set_cons_succ])
          refine any_skip (i := 6) rfl (by kernel_rfl) (by kernel_rfl) (by kernel_rfl) (by exact fun _ _ _ h => h) (by rfl) hS ?_
          (try simp only [Act.put, List.setIfInBounds_toArray, List.set_cons_zero, List.set_cons_succ])
          refine any_skip (i := 7) rfl (by kernel_rfl) (by kernel_rfl) (by kernel_rfl) (by exact fun _ _ _ h => h) (by rfl) hS ?_
          (try simp only [Act.put, List.setIfInBounds_toArray, List.set_cons_zero, List.set_cons_succ])
          refine any_skip (i := 8) rfl (by kernel_rfl) (by kernel_rfl) (by kernel_rfl) (by exact fun _ _ _ h => h) (by rfl) hS ?_
          (try simp only [Act.put, List.setIfInBounds_toArray, List.set_cons_zero, List.set_cons_succ])
          refine any_take (i := 9) (v := ?_) rfl (by kernel_rfl) (by kernel_rfl) (by kernel_rfl) (by exact fun _ _ _ h => h) (by rfl) ?_ hS ?_
          rotate_left
          · ((intro w hSw; (try dsimp only at hSw); go_simp) <;> with_reducible rfl)
          (try simp only [Act.put, List.setIfInBounds_toArray, List.set_cons_zero, List.set_cons_succ])
          refine wpAnyH_done (by kernel_rfl) ?_ _
          have F2 : Hid _ := F.out _ B1
          clear F hS B0 B1 S5 HP HTh
          go_wp2
          go_roundw
          case rel => exact ⟨4, by omega, rfl, F2.out.1, F2.out.2⟩
          case measure => simp [intOf]
        · have HTh : Hid (∀ X : World, Calls Tryd.prog 47 #[.agg #[.int .u8 a3, .int .u8 b3]] X fun e w' => e = .returned (.bool true) ∧ Below X.heap.size X w') := fun X => by have h := cThere_any a3 b3 X; rw [decide_eq_true (by have := PF3.out.size; omega)] at h; exact h
          have HTk : Hid (∀ X, _) := fun X => cTakes_any a3 b3 m3 X PF3.out.bits
          have F : Hid (tkB b3 m3 = true → ∀ X, Below w5.heap.size w5 X → BuS w X rb vb [.int .u8 o, .int .u8 a0, .int .u8 b0, .int .u8 a1, .int .u8 b1, .int .u8 a2, .int .u8 b2, .int .u8 a3, .int .u8 b3, .int .u8 a4, .int .u8 b4, .int .u8 a5, .int .u8 b5] [.int .u64 (m0.toNat : Int), .int .u64 (m1.toNat : Int), .int .u64 (m2.toNat : Int), .int .u64 (m3.toNat : Int), .int .u64 (lb.toNat : Int), .int .u64 (m5.toNat : Int)] ∧ (∀ q ∈ QA.take 4, vOk q.1 q.2 = true)) := fun ht X bX => ⟨S5.out.1.later bX, take_step J3.out HP.out (by show (_ || tkB b3 m3) = true; rw [ht, Bool.or_true])⟩
          have N : Hid (tkB b3 m3 = false → ∀ X, Below w5.heap.size w5 X → buR op sv pv vv tv lb nv = (none, 3) ∧ Below w.heap.size w X) := fun ht X bX => ⟨EB.out _ (List.mem_of_getElem? J3.out) (by show (decide (b3 = 0) || tkB b3 m3) = false; rw [ht, decide_eq_false hb]; rfl), (S5.out.1.later bX).below⟩
          clear hb
          generalize htk : tkB b3 m3 = tk at F N HTk
          clear htk
          refine wp_region_held_drew (S := fun W => Below w5.heap.size w5 W) (by kernel_rfl) ((Below.refl _ _).drew) (fun hS => ?_)
          have B0 : Below w5.heap.size w5 w5.drew := ((Below.refl _ _).drew)
          refine any_take (i := 0) (v := ?_) rfl (by kernel_rfl) (by kernel_rfl) (by kernel_rfl) (by exact fun _ _ _ h => h) (by rfl) ?_ hS ?_
          rotate_left
          · ((intro w hSw; have c0 := ck_later (show w5.cell? ⟨wr.heap.size, 0, none⟩ = _ from ck_at S5.out.2 0) hSw; have c1 := ck_later (show w5.cell? ⟨wr.heap.size, 1, none⟩ = _ from ck_at S5.out.2 1) hSw; have c2 := ck_later (show w5.cell? ⟨vb, 3, none⟩ = some (.int .u64 (m3.toNat : Int)) from ck_at S5.out.1.v 3) hSw; go_simp) <;> with_reducible rfl)
          (try simp only [Act.put, List.setIfInBounds_toArray, List.set_cons_zero, List.set_cons_succ])
          refine any_one (i := 1) rfl (by kernel_rfl) (fun K hK => ?_)
          go_simp
          refine (Calls.mono (HTh.out _)) ?_
          rintro e x1 ⟨rfl, hbR⟩
          have B1 : Below w5.heap.size w5 x1 := below_then B0 hbR
          go_wp2_with fail
          refine hK.out _ _ (by first | exact B1 | exact hbR | exact below_then hS hbR) (any_weaken (S' := fun W => Below x1.heap.size x1 W) (fun W hW => by first | exact below_then B1 hW | exact below_then hbR hW | exact below_then (below_then hS hbR) hW) _ _ _ _ ?_)
          clear hK K hS hbR
          have hS : Below x1.heap.size x1 x1 := Below.refl _ _
          refine any_take (i := 2) (v := ?_) rfl (by kernel_rfl) (by kernel_rfl) (by kernel_rfl) (by exact fun _ _ _ h => h) (by rfl) ?_ hS ?_
          rotate_left
          · ((intro w hSw; (try dsimp only at hSw); go_simp) <;> with_reducible rfl)
          (try simp only [Act.put, List.setIfInBounds_toArray, List.set_cons_zero, List.set_cons_succ])
          refine any_take (i := 3) (v := ?_) rfl (by kernel_rfl) (by kernel_rfl) (by kernel_rfl) (by exact fun _ _ _ h => h) (by rfl) ?_ hS ?_
          rotate_left
          · ((intro w hSw; have c0 := ck_later (show w5.cell? ⟨wr.heap.size, 0, none⟩ = _ from ck_at S5.out.2 0) (below_then B1 hSw); have c1 := ck_later (show w5.cell? ⟨wr.heap.size, 1, none⟩ = _ from ck_at S5.out.2 1) (below_then B1 hSw); have c2 := ck_later (show w5.cell? ⟨vb, 3, none⟩ = some (.int .u64 (m3.toNat : Int)) from ck_at S5.out.1.v 3) (below_then B1 hSw); go_simp) <;> with_reducible rfl)
          (try simp only [Act.put, List.setIfInBounds_toArray, List.set_cons_zero, List.set_cons_succ])
          refine any_take (i := 4) (v := ?_) rfl (by kernel_rfl) (by kernel_rfl) (by kernel_rfl) (by exact fun _ _ _ h => h) (by rfl) ?_ hS ?_
          rotate_left
          · ((intro w hSw; have c0 := ck_later (show w5.cell? ⟨wr.heap.size, 0, none⟩ = _ from ck_at S5.out.2 0) (below_then B1 hSw); have c1 := ck_later (show w5.cell? ⟨wr.heap.size, 1, none⟩ = _ from ck_at S5.out.2 1) (below_then B1 hSw); have c2 := ck_later (show w5.cell? ⟨vb, 3, none⟩ = some (.int .u64 (m3.toNat : Int)) from ck_at S5.out.1.v 3) (below_then B1 hSw); go_simp) <;> with_reducible rfl)
          (try simp only [Act.put, List.setIfInBounds_toArray, List.set_cons_zero, List.set_cons_succ])
          refine any_take (i := 5) (v := ?_) rfl (by kernel_rfl) (by kernel_rfl) (by kernel_rfl) (by exact fun _ _ _ h => h) (by rfl) ?_ hS ?_
          rotate_left
          · ((intro w hSw; have c0 := ck_later (show w5.cell? ⟨wr.heap.size, 0, none⟩ = _ from ck_at S5.out.2 0) (below_then B1 hSw); have c1 := ck_later (show w5.cell? ⟨wr.heap.size, 1, none⟩ = _ from ck_at S5.out.2 1) (below_then B1 hSw); have c2 := ck_later (show w5.cell? ⟨vb, 3, none⟩ = some (.int .u64 (m3.toNat : Int)) from ck_at S5.out.1.v 3) (below_then B1 hSw); go_simp) <;> with_reducible rfl)
          (try simp only [Act.put, List.setIfInBounds_toArray, List.set_cons_zero, List.set_cons_succ])
          refine any_take (i := 6) (v := ?_) rfl (by kernel_rfl) (by kernel_rfl) (by kernel_rfl) (by exact fun _ _ _ h => h) (by rfl) ?_ hS ?_
          rotate_left
          · ((intro w hSw; have c0 := ck_later (show w5.cell? ⟨wr.heap.size, 0, none⟩ = _ from ck_at S5.out.2 0) (below_then B1 hSw); have c1 := ck_later (show w5.cell? ⟨wr.heap.size, 1, none⟩ = _ from ck_at S5.out.2 1) (below_then B1 hSw); have c2 := ck_later (show w5.cell? ⟨vb, 3, none⟩ = some (.int .u64 (m3.toNat : Int)) from ck_at S5.out.1.v 3) (below_then B1 hSw); go_simp) <;> with_reducible rfl)
          (try simp only [Act.put, List.setIfInBounds_toArray, List.set_cons_zero, List.set_cons_succ])
          refine any_one (i := 7) rfl (by kernel_rfl) (fun K hK => ?_)
          go_simp
          refine (Calls.mono (HTk.out _)) ?_
          rintro e x2 ⟨rfl, hbR⟩
          have B2 : Below w5.heap.size w5 x2 := below_then B1 hbR
          go_wp2_with fail
          refine hK.out _ _ (by first | exact B2 | exact hbR | exact below_then hS hbR) (any_weaken (S' := fun W => Below x2.heap.size x2 W) (fun W hW => by first | exact below_then B2 hW | exact below_then hbR hW | exact below_then (below_then hS hbR) hW) _ _ _ _ ?_)
          clear hK K hS hbR
          have hS : Below x2.heap.size x2 x2 := Below.refl _ _
          refine any_take (i := 8) (v := ?_) rfl (by kernel_rfl) (by kernel_rfl) (by kernel_rfl) (by exact fun _ _ _ h => h) (by rfl) ?_ hS ?_
          rotate_left
          · ((intro w hSw; (try dsimp only at hSw); go_simp) <;> with_reducible rfl)
          (try simp only [Act.put, List.setIfInBounds_toArray, List.set_cons_zero, List.set_cons_succ])
          refine any_take (i := 9) (v := ?_) rfl (by kernel_rfl) (by kernel_rfl) (by kernel_rfl) (by exact fun _ _ _ h => h) (by rfl) ?_ hS ?_
          rotate_left
          · ((intro w hSw; (try dsimp only at hSw); go_simp) <;> with_reducible rfl)
          (try simp only [Act.put, List.setIfInBounds_toArray, List.set_cons_zero, List.set_cons_succ])
          refine wpAnyH_done (by kernel_rfl) ?_ _
          cases tk with
          | true =>
            have F2 : Hid _ := F.out rfl _ B2
            clear F N hS B0 B1 B2 S5 HP HTh HTk
            go_wp2
            go_roundw
            case rel => exact ⟨4, by omega, rfl, F2.out.1, F2.out.2⟩
            case measure => simp [intOf]
          | false =>
            have F2 : Hid _ := N.out rfl _ B2
            clear F N hS B0 B1 B2 S5 HP HTh HTk
            go_wp2
            refine bodyPost_ret (v := .tuple #[.slice none 0 0, .int .i64 3]) (by first | rfl | simp [results, Tryd.results16, go_sem]) rfl ?_
            exact ⟨.slice none 0 0, by rw [F2.out.1], by rw [F2.out.1]; exact rfl, F2.out.2⟩
      · have hix : ∀ X : World, (Instr.index 79 (.agg #[.int .u8 a0, .int .u8 b0, .int .u8 a1, .int .u8 b1, .int .u8 a2, .int .u8 b2, .int .u8 a3, .int .u8 b3, .int .u8 a4, .int .u8 b4, .int .u8 a5, .int .u8 b5]) (.int .i64 4)).run Tryd.prog X = .ok (.agg #[.int .u8 a4, .int .u8 b4]) X := fun _ => by first | rfl | kernel_rfl
        have B3 := Blk.new' wr 78 [.int .u8 a4, .int .u8 b4]
        have b3_ : Below wr.heap.size wr (wr.alloc (.cells #[.int .u8 a4, .int .u8 b4] 78)) := (Below.refl _ _).alloc (Nat.le_refl _) _
        obtain ⟨w5, hw5⟩ : ∃ w5, w5 = wr.alloc (.cells #[.int .u8 a4, .int .u8 b4] 78) := ⟨_, rfl⟩
        rw [← hw5] at B3 b3_
        have S5 : Hid _ := And.intro (hS.later b3_) B3
        have HP : Hid _ := hP
        clear hS hP B3 b3_
        go_upto_region 8 with fail
        rw [← hw5]
        clear hw5 hix
        by_cases hb : b4 = 0
        · have HTh : Hid (∀ X : World, Calls Tryd.prog 47 #[.agg #[.int .u8 a4, .int .u8 b4]] X fun e w' => e = .returned (.bool false) ∧ Below X.heap.size X w') := fun X => by have h := cThere_any a4 b4 X; rw [decide_eq_false (by omega)] at h; exact h
          have F : Hid (∀ X, Below w5.heap.size w5 X → BuS w X rb vb [.int .u8 o, .int .u8 a0, .int .u8 b0, .int .u8 a1, .int .u8 b1, .int .u8 a2, .int .u8 b2, .int .u8 a3, .int .u8 b3, .int .u8 a4, .int .u8 b4, .int .u8 a5, .int .u8 b5] [.int .u64 (m0.toNat : Int), .int .u64 (m1.toNat : Int), .int .u64 (m2.toNat : Int), .int .u64 (m3.toNat : Int), .int .u64 (lb.toNat : Int), .int .u64 (m5.toNat : Int)] ∧ (∀ q ∈ QA.take 5, vOk q.1 q.2 = true)) := fun X bX => ⟨S5.out.1.later bX, take_step J4.out HP.out (by show (decide (b4 = 0) || _) = true; rw [decide_eq_true hb]; rfl)⟩
          clear hb
          refine wp_region_held_drew (S := fun W => Below w5.heap.size w5 W) (by kernel_rfl) ((Below.refl _ _).drew) (fun hS => ?_)
          have B0 : Below w5.heap.size w5 w5.drew := ((Below.refl _ _).drew)
          refine any_take (i := 0) (v := ?_) rfl (by kernel_rfl) (by kernel_rfl) (by kernel_rfl) (by exact fun _ _ _ h => h) (by rfl) ?_ hS ?_
          rotate_left
          · ((intro w hSw; have c0 := ck_later (show w5.cell? ⟨wr.heap.size, 0, none⟩ = _ from ck_at S5.out.2 0) hSw; have c1 := ck_later (show w5.cell? ⟨wr.heap.size, 1, none⟩ = _ from ck_at S5.out.2 1) hSw; have c2 := ck_later (show w5.cell? ⟨vb, 4, none⟩ = some (.int .u64 (lb.toNat : Int)) from ck_at S5.out.1.v 4) hSw; go_simp) <;> with_reducible rfl)
          (try simp only [Act.put, List.setIfInBounds_toArray, List.set_cons_zero, List.set_cons_succ])
          refine any_one (i := 1) rfl (by kernel_rfl) (fun K hK => ?_)
          go_simp
          refine (Calls.mono (HTh.out _)) ?_
          rintro e x1 ⟨rfl, hbR⟩
          have B1 : Below w5.heap.size w5 x1 := below_then B0 hbR
          go_wp2_with fail
          refine hK.out _ _ (by first | exact B1 | exact hbR | exact below_then hS hbR) (any_weaken (S' := fun W => Below x1.heap.size x1 W) (fun W hW => by first | exact below_then B1 hW | exact below_then hbR hW | exact below_then (below_then hS hbR) hW) _ _ _ _ ?_)
          clear hK K hS hbR
          have hS : Below x1.heap.size x1 x1 := Below.refl _ _
          refine any_take (i := 2) (v := ?_) rfl (by kernel_rfl) (by kernel_rfl) (by kernel_rfl) (by exact fun _ _ _ h => h) (by rfl) ?_ hS ?_
          rotate_left
          · ((intro w hSw; (try dsimp only at hSw); go_simp) <;> with_reducible rfl)
          (try simp only [Act.put, List.setIfInBounds_toArray, List.set_cons_zero, List.set_cons_succ])
          refine any_skip (i := 3) rfl (by kernel_rfl) (by kernel_rfl) (by kernel_rfl) (by exact fun _ _ _ h => h) (by rfl) hS ?_
          (try simp only [Act.put, List.setIfInBounds_toArray, List.set_cons_zero, List.set_cons_succ])
          refine any_skip (i := 4) rfl (by kernel_rfl) (by kernel_rfl) (by kernel_rfl) (by exact fun _ _ _ h => h) (by rfl) hS ?_
          (try simp only [Act.put, List.setIfInBounds_toArray, List.set_cons_zero, List.set_cons_succ])
          refine any_skip (i := 5) rfl (by kernel_rfl) (by kernel_rfl) (by kernel_rfl) (by exact fun _ _ _ h => h) (by rfl) hS ?_
          (try simp only [Act.put, List.setIfInBounds_toArray, List.set_cons_zero, List.set_cons_succ])
          refine any_skip (i := 6) rfl (by kernel_rfl) (by kernel_rfl) (by kernel_rfl) (by exact fun _ _ _ h => h) (by rfl) hS ?_
          (try simp only [Act.put, List.setIfInBounds_toArray, List.set_cons_zero, List.set_cons_succ])
          refine any_skip (i := 7) rfl (by kernel_rfl) (by kernel_rfl) (by kernel_rfl) (by exact fun _ _ _ h => h) (by rfl) hS ?_
          (try simp only [Act.put, List.setIfInBounds_toArray, List.set_cons_zero, List.set_cons_succ])
          refine any_skip (i := 8) rfl (by kernel_rfl) (by kernel_rfl) (by kernel_rfl) (by exact fun _ _ _ h => h) (by rfl) hS ?_
          (try simp only [Act.put, List.setIfInBounds_toArray, List.set_cons_zero, List.set_cons_succ])
          refine any_take (i := 9) (v := ?_) rfl (by kernel_rfl) (by kernel_rfl) (by kernel_rfl) (by exact fun _ _ _ h => h) (by rfl) ?_ hS ?_
          rotate_left
          · ((intro w hSw; (try dsimp only at hSw); go_simp) <;> with_reducible rfl)
          (try simp only [Act.put, List.setIfInBounds_toArray, List.set_cons_zero, List.set_cons_succ])
          refine wpAnyH_done (by kernel_rfl) ?_ _
          have F2 : Hid _ := F.out _ B1
          clear F hS B0 B1 S5 HP HTh
          go_wp2
          go_roundw
          case rel => exact ⟨5, by omega, rfl, F2.out.1, F2.out.2⟩
          case measure => simp [intOf]
        · have HTh : Hid (∀ X : World, Calls Tryd.prog 47 #[.agg #[.int .u8 a4, .int .u8 b4]] X fun e w' => e = .returned (.bool true) ∧ Below X.heap.size X w') := fun X => by have h := cThere_any a4 b4 X; rw [decide_eq_true (by have := PF4.out.size; omega)] at h; exact h
          have HTk : Hid (∀ X, _) := fun X => cTakes_any a4 b4 lb X PF4.out.bits
          have F : Hid (tkB b4 lb = true → ∀ X, Below w5.heap.size w5 X → BuS w X rb vb [.int .u8 o, .int .u8 a0, .int .u8 b0, .int .u8 a1, .int .u8 b1, .int .u8 a2, .int .u8 b2, .int .u8 a3, .int .u8 b3, .int .u8 a4, .int .u8 b4, .int .u8 a5, .int .u8 b5] [.int .u64 (m0.toNat : Int), .int .u64 (m1.toNat : Int), .int .u64 (m2.toNat : Int), .int .u64 (m3.toNat : Int), .int .u64 (lb.toNat : Int), .int .u64 (m5.toNat : Int)] ∧ (∀ q ∈ QA.take 5, vOk q.1 q.2 = true)) := fun ht X bX => ⟨S5.out.1.later bX, take_step J4.out HP.out (by show (_ || tkB b4 lb) = true; rw [ht, Bool.or_true])⟩
          have N : Hid (tkB b4 lb = false → ∀ X, Below w5.heap.size w5 X → buR op sv pv vv tv lb nv = (none, 3) ∧ Below w.heap.size w X) := fun ht X bX => ⟨EB.out _ (List.mem_of_getElem? J4.out) (by show (decide (b4 = 0) || tkB b4 lb) = false; rw [ht, decide_eq_false hb]; rfl), (S5.out.1.later bX).below⟩
          clear hb
          generalize htk : tkB b4 lb = tk at F N HTk
          clear htk
          refine wp_region_held_drew (S := fun W => Below w5.heap.size w5 W) (by kernel_rfl) ((Below.refl _ _).drew) (fun hS => ?_)
          have B0 : Below w5.heap.size w5 w5.drew := ((Below.refl _ _).drew)
          refine any_take (i := 0) (v := ?_) rfl (by kernel_rfl) (by kernel_rfl) (by kernel_rfl) (by exact fun _ _ _ h => h) (by rfl) ?_ hS ?_
          rotate_left
          · ((intro w hSw; have c0 := ck_later (show w5.cell? ⟨wr.heap.size, 0, none⟩ = _ from ck_at S5.out.2 0) hSw; have c1 := ck_later (show w5.cell? ⟨wr.heap.size, 1, none⟩ = _ from ck_at S5.out.2 1) hSw; have c2 := ck_later (show w5.cell? ⟨vb, 4, none⟩ = some (.int .u64 (lb.toNat : Int)) from ck_at S5.out.1.v 4) hSw; go_simp) <;> with_reducible rfl)
          (try simp only [Act.put, List.setIfInBounds_toArray, List.set_cons_zero, List.set_cons_succ])
          refine any_one (i := 1) rfl (by kernel_rfl) (fun K hK => ?_)
          go_simp
          refine (Calls.mono (HTh.out _)) ?_
          rintro e x1 ⟨rfl, hbR⟩
          have B1 : Below w5.heap.size w5 x1 := below_then B0 hbR
          go_wp2_with fail
          refine hK.out _ _ (by first | exact B1 | exact hbR | exact below_then hS hbR) (any_weaken (S' := fun W => Below x1.heap.size x1 W) (fun W hW => by first | exact below_then B1 hW | exact below_then hbR hW | exact below_then (below_then hS hbR) hW) _ _ _ _ ?_)
          clear hK K hS hbR
          have hS : Below x1.heap.size x1 x1 := Below.refl _ _
          refine any_take (i := 2) (v := ?_) rfl (by kernel_rfl) (by kernel_rfl) (by kernel_rfl) (by exact fun _ _ _ h => h) (by rfl) ?_ hS ?_
          rotate_left
          · ((intro w hSw; (try dsimp only at hSw); go_simp) <;> with_reducible rfl)
          (try simp only [Act.put, List.setIfInBounds_toArray, List.set_cons_zero, List.set_cons_succ])
          refine any_take (i := 3) (v := ?_) rfl (by kernel_rfl) (by kernel_rfl) (by kernel_rfl) (by exact fun _ _ _ h => h) (by rfl) ?_ hS ?_
          rotate_left
          · ((intro w hSw; have c0 := ck_later (show w5.cell? ⟨wr.heap.size, 0, none⟩ = _ from ck_at S5.out.2 0) (below_then B1 hSw); have c1 := ck_later (show w5.cell? ⟨wr.heap.size, 1, none⟩ = _ from ck_at S5.out.2 1) (below_then B1 hSw); have c2 := ck_later (show w5.cell? ⟨vb, 4, none⟩ = some (.int .u64 (lb.toNat : Int)) from ck_at S5.out.1.v 4) (below_then B1 hSw); go_simp) <;> with_reducible rfl)
          (try simp only [Act.put, List.setIfInBounds_toArray, List.set_cons_zero, List.set_cons_succ])
          refine any_take (i := 4) (v := ?_) rfl (by kernel_rfl) (by kernel_rfl) (by kernel_rfl) (by exact fun _ _ _ h => h) (by rfl) ?_ hS ?_
          rotate_left
          · ((intro w hSw; have c0 := ck_later (show w5.cell? ⟨wr.heap.size, 0, none⟩ = _ from ck_at S5.out.2 0) (below_then B1 hSw); have c1 := ck_later (show w5.cell? ⟨wr.heap.size, 1, none⟩ = _ from ck_at S5.out.2 1) (below_then B1 hSw); have c2 := ck_later (show w5.cell? ⟨vb, 4, none⟩ = some (.int .u64 (lb.toNat : Int)) from ck_at S5.out.1.v 4) (below_then B1 hSw); go_simp) <;> with_reducible rfl)
          (try simp only [Act.put, List.setIfInBounds_toArray, List.set_cons_zero, List.set_cons_succ])
          refine any_take (i := 5) (v := ?_) rfl (by kernel_rfl) (by kernel_rfl) (by kernel_rfl) (by exact fun _ _ _ h => h) (by rfl) ?_ hS ?_
          rotate_left
          · ((intro w hSw; have c0 := ck_later (show w5.cell? ⟨wr.heap.size, 0, none⟩ = _ from ck_at S5.out.2 0) (below_then B1 hSw); have c1 := ck_later (show w5.cell? ⟨wr.heap.size, 1, none⟩ = _ from ck_at S5.out.2 1) (below_then B1 hSw); have c2 := ck_later (show w5.cell? ⟨vb, 4, none⟩ = some (.int .u64 (lb.toNat : Int)) from ck_at S5.out.1.v 4) (below_then B1 hSw); go_simp) <;> with_reducible rfl)
          (try simp only [Act.put, List.setIfInBounds_toArray, List.set_cons_zero, List.set_cons_succ])
          refine any_take (i := 6) (v := ?_) rfl (by kernel_rfl) (by kernel_rfl) (by kernel_rfl) (by exact fun _ _ _ h => h) (by rfl) ?_ hS ?_
          rotate_left
          · ((intro w hSw; have c0 := ck_later (show w5.cell? ⟨wr.heap.size, 0, none⟩ = _ from ck_at S5.out.2 0) (below_then B1 hSw); have c1 := ck_later (show w5.cell? ⟨wr.heap.size, 1, none⟩ = _ from ck_at S5.out.2 1) (below_then B1 hSw); have c2 := ck_later (show w5.cell? ⟨vb, 4, none⟩ = some (.int .u64 (lb.toNat : Int)) from ck_at S5.out.1.v 4) (below_then B1 hSw); go_simp) <;> with_reducible rfl)
          (try simp only [Act.put, List.setIfInBounds_toArray, List.set_cons_zero, List.set_cons_succ])
          refine any_one (i := 7) rfl (by kernel_rfl) (fun K hK => ?_)
          go_simp
          refine (Calls.mono (HTk.out _)) ?_
          rintro e x2 ⟨rfl, hbR⟩
          have B2 : Below w5.heap.size w5 x2 := below_then B1 hbR
          go_wp2_with fail
          refine hK.out _ _ (by first | exact B2 | exact hbR | exact below_then hS hbR) (any_weaken (S' := fun W => Below x2.heap.size x2 W) (fun W hW => by first | exact below_then B2 hW | exact below_then hbR hW | exact below_then (below_then hS hbR) hW) _ _ _ _ ?_)
          clear hK K hS hbR
          have hS : Below x2.heap.size x2 x2 := Below.refl _ _
          refine any_take (i := 8) (v := ?_) rfl (by kernel_rfl) (by kernel_rfl) (by kernel_rfl) (by exact fun _ _ _ h => h) (by rfl) ?_ hS ?_
          rotate_left
          · ((intro w hSw; (try dsimp only at hSw); go_simp) <;> with_reducible rfl)
          (try simp only [Act.put, List.setIfInBounds_toArray, List.set_cons_zero, List.set_cons_succ])
          refine any_take (i := 9) (v := ?_) rfl (by kernel_rfl) (by kernel_rfl) (by kernel_rfl) (by exact fun _ _ _ h => h) (by rfl) ?_ hS ?_
          rotate_left
          · ((intro w hSw; (try dsimp only at hSw); go_simp) <;> with_reducible rfl)
          (try simp only [Act.put, List.setIfInBounds_toArray, List.set_cons_zero, List.set_cons_succ])
          refine wpAnyH_done (by kernel_rfl) ?_ _
          cases tk with
          | true =>
            have F2 : Hid _ := F.out rfl _ B2
            clear F N hS B0 B1 B2 S5 HP HTh HTk
            go_wp2
            go_roundw
            case rel => exact ⟨5, by omega, rfl, F2.out.1, F2.out.2⟩
            case measure => simp [intOf]
          | false =>
            have F2 : Hid _ := N.out rfl _ B2
            clear F N hS B0 B1 B2 S5 HP HTh HTk
            go_wp2
            refine bodyPost_ret (v := .tuple #[.slice none 0 0, .int .i64 3]) (by first | rfl | simp [results, Tryd.results16, go_sem]) rfl ?_
            exact ⟨.slice none 0 0, by rw [F2.out.1], by rw [F2.out.1]; exact rfl, F2.out.2⟩
      · have hix : ∀ X : World, (Instr.index 79 (.agg #[.int .u8 a0, .int .u8 b0, .int .u8 a1, .int .u8 b1, .int .u8 a2, .int .u8 b2, .int .u8 a3, .int .u8 b3, .int .u8 a4, .int .u8 b4, .int .u8 a5, .int .u8 b5]) (.int .i64 5)).run Tryd.prog X = .ok (.agg #[.int .u8 a5, .int .u8 b5]) X := fun _ => by first | rfl | kernel_rfl
        have B3 := Blk.new' wr 78 [.int .u8 a5, .int .u8 b5]
        have b3_ : Below wr.heap.size wr (wr.alloc (.cells #[.int .u8 a5, .int .u8 b5] 78)) := (Below.refl _ _).alloc (Nat.le_refl _) _
        obtain ⟨w5, hw5⟩ : ∃ w5, w5 = wr.alloc (.cells #[.int .u8 a5, .int .u8 b5] 78) := ⟨_, rfl⟩
        rw [← hw5] at B3 b3_
        have S5 : Hid _ := And.intro (hS.later b3_) B3
        have HP : Hid _ := hP
        clear hS hP B3 b3_
        go_upto_region 8 with fail
        rw [← hw5]
        clear hw5 hix
        by_cases hb : b5 = 0
        · have HTh : Hid (∀ X : World, Calls Tryd.prog 47 #[.agg #[.int .u8 a5, .int .u8 b5]] X fun e w' => e = .returned (.bool false) ∧ Below X.heap.size X w') := fun X => by have h := cThere_any a5 b5 X; rw [decide_eq_false (by omega)] at h; exact h
          have F : Hid (∀ X, Below w5.heap.size w5 X → BuS w X rb vb [.int .u8 o, .int .u8 a0, .int .u8 b0, .int .u8 a1, .int .u8 b1, .int .u8 a2, .int .u8 b2, .int .u8 a3, .int .u8 b3, .int .u8 a4, .int .u8 b4, .int .u8 a5, .int .u8 b5] [.int .u64 (m0.toNat : Int), .int .u64 (m1.toNat : Int), .int .u64 (m2.toNat : Int), .int .u64 (m3.toNat : Int), .int .u64 (lb.toNat : Int), .int .u64 (m5.toNat : Int)] ∧ (∀ q ∈ QA.take 6, vOk q.1 q.2 = true)) := fun X bX => ⟨S5.out.1.later bX, take_step J5.out HP.out (by show (decide (b5 = 0) || _) = true; rw [decide_eq_true hb]; rfl)⟩
          clear hb
          refine wp_region_held_drew (S := fun W => Below w5.heap.size w5 W) (by kernel_rfl) ((Below.refl _ _).drew) (fun hS => ?_)
          have B0 : Below w5.heap.size w5 w5.drew := ((Below.refl _ _).drew)
          refine any_take (i := 0) (v := ?_) rfl (by kernel_rfl) (by kernel_rfl) (by kernel_rfl) (by exact fun _ _ _ h => h) (by rfl) ?_ hS ?_
          rotate_left
          · ((intro w hSw; have c0 := ck_later (show w5.cell? ⟨wr.heap.size, 0, none⟩ = _ from ck_at S5.out.2 0) hSw; have c1 := ck_later (show w5.cell? ⟨wr.heap.size, 1, none⟩ = _ from ck_at S5.out.2 1) hSw; have c2 := ck_later (show w5.cell? ⟨vb, 5, none⟩ = some (.int .u64 (m5.toNat : Int)) from ck_at S5.out.1.v 5) hSw; go_simp) <;> with_reducible rfl)
          (try simp only [Act.put, List.setIfInBounds_toArray, List.set_cons_zero, List.set_cons_succ])
          refine any_one (i := 1) rfl (by kernel_rfl) (fun K hK => ?_)
          go_simp
          refine (Calls.mono (HTh.out _)) ?_
          rintro e x1 ⟨rfl, hbR⟩
          have B1 : Below w5.heap.size w5 x1 := below_then B0 hbR
          go_wp2_with fail
          refine hK.out _ _ (by first | exact B1 | exact hbR | exact below_then hS hbR) (any_weaken (S' := fun W => Below x1.heap.size x1 W) (fun W hW => by first | exact below_then B1 hW | exact below_then hbR hW | exact below_then (below_then hS hbR) hW) _ _ _ _ ?_)
          clear hK K hS hbR
          have hS : Below x1.heap.size x1 x1 := Below.refl _ _
          refine any_take (i := 2) (v := ?_) rfl (by kernel_rfl) (by kernel_rfl) (by kernel_rfl) (by exact fun _ _ _ h => h) (by rfl) ?_ hS ?_
          rotate_left
          · ((intro w hSw; (try dsimp only at hSw); go_simp) <;> with_reducible rfl)
          (try simp only [Act.put, List.setIfInBounds_toArray, List.set_cons_zero, List.set_cons_succ])
          refine any_skip (i := 3) rfl (by kernel_rfl) (by kernel_rfl) (by kernel_rfl) (by exact fun _ _ _ h => h) (by rfl) hS ?_
          (try simp only [Act.put, List.setIfInBounds_toArray, List.set_cons_zero, List.set_cons_succ])
          refine any_skip (i := 4) rfl (by kernel_rfl) (by kernel_rfl) (by kernel_rfl) (by exact fun _ _ _ h => h) (by rfl) hS ?_
          (try simp only [Act.put, List.setIfInBounds_toArray, List.set_cons_zero, List.set_cons_succ])
          refine any_skip (i := 5) rfl (by kernel_rfl) (by kernel_rfl) (by kernel_rfl) (by exact fun _ _ _ h => h) (by rfl) hS ?_
          (try simp only [Act.put, List.setIfInBounds_toArray, List.set_cons_zero, List.set_cons_succ])
          refine any_skip (i := 6) rfl (by kernel_rfl) (by kernel_rfl) (by kernel_rfl) (by exact fun _ _ _ h => h) (by rfl) hS ?_
          (try simp only [Act.put, List.setIfInBounds_toArray, List.set_cons_zero, List.set_cons_succ])
          refine any_skip (i := 7) rfl (by kernel_rfl) (by kernel_rfl) (by kernel_rfl) (by exact fun _ _ _ h => h) (by rfl) hS ?_
          (try simp only [Act.put, List.setIfInBounds_toArray, List.set_cons_zero, List.set_cons_succ])
          refine any_skip (i := 8) rfl (by kernel_rfl) (by kernel_rfl) (by kernel_rfl) (by exact fun _ _ _ h => h) (by rfl) hS ?_
          (try simp only [Act.put, List.setIfInBounds_toArray, List.set_cons_zero, List.set_cons_succ])
          refine any_take (i := 9) (v := ?_) rfl (by kernel_rfl) (by kernel_rfl) (by kernel_rfl) (by exact fun _ _ _ h => h) (by rfl) ?_ hS ?_
          rotate_left
          · ((intro w hSw; (try dsimp only at hSw); go_simp) <;> with_reducible rfl)
          (try simp only [Act.put, List.setIfInBounds_toArray, List.set_cons_zero, List.set_cons_succ])
          refine wpAnyH_done (by kernel_rfl) ?_ _
          have F2 : Hid _ := F.out _ B1
          clear F hS B0 B1 S5 HP HTh
          go_wp2
          go_roundw
          case rel => exact ⟨6, by omega, rfl, F2.out.1, F2.out.2⟩
          case measure => simp [intOf]
        · have HTh : Hid (∀ X : World, Calls Tryd.prog 47 #[.agg #[.int .u8 a5, .int .u8 b5]] X fun e w' => e = .returned (.bool true) ∧ Below X.heap.size X w') := fun X => by have h := cThere_any a5 b5 X; rw [decide_eq_true (by have := PF5.out.size; omega)] at h; exact h
          have HTk : Hid (∀ X, _) := fun X => cTakes_any a5 b5 m5 X PF5.out.bits
          have F : Hid (tkB b5 m5 = true → ∀ X, Below w5.heap.size w5 X → BuS w X rb vb [.int .u8 o, .int .u8 a0, .int .u8 b0, .int .u8 a1, .int .u8 b1, .int .u8 a2, .int .u8 b2, .int .u8 a3, .int .u8 b3, .int .u8 a4, .int .u8 b4, .int .u8 a5, .int .u8 b5] [.int .u64 (m0.toNat : Int), .int .u64 (m1.toNat : Int), .int .u64 (m2.toNat : Int), .int .u64 (m3.toNat : Int), .int .u64 (lb.toNat : Int), .int .u64 (m5.toNat : Int)] ∧ (∀ q ∈ QA.take 6, vOk q.1 q.2 = true)) := fun ht X bX => ⟨S5.out.1.later bX, take_step J5.out HP.out (by show (_ || tkB b5 m5) = true; rw [ht, Bool.or_true])⟩
          have N : Hid (tkB b5 m5 = false → ∀ X, Below w5.heap.size w5 X → buR op sv pv vv tv lb nv = (none, 3) ∧ Below w.heap.size w X) := fun ht X bX => ⟨EB.out _ (List.mem_of_getElem? J5.out) (by show (decide (b5 = 0) || tkB b5 m5) = false; rw [ht, decide_eq_false hb]; rfl), (S5.out.1.later bX).below⟩
          clear hb
          generalize htk : tkB b5 m5 = tk at F N HTk
          clear htk
          refine wp_region_held_drew (S := fun W => Below w5.heap.size w5 W) (by kernel_rfl) ((Below.refl _ _).drew) (fun hS => ?_)
          have B0 : Below w5.heap.size w5 w5.drew := ((Below.refl _ _).drew)
          refine any_take (i := 0) (v := ?_) rfl (by kernel_rfl) (by kernel_rfl) (by kernel_rfl) (by exact fun _ _ _ h => h) (by rfl) ?_ hS ?_
          rotate_left
          · ((intro w hSw; have c0 := ck_later (show w5.cell? ⟨wr.heap.size, 0, none⟩ = _ from ck_at S5.out.2 0) hSw; have c1 := ck_later (show w5.cell? ⟨wr.heap.size, 1, none⟩ = _ from ck_at S5.out.2 1) hSw; have c2 := ck_later (show w5.cell? ⟨vb, 5, none⟩ = some (.int .u64 (m5.toNat : Int)) from ck_at S5.out.1.v 5) hSw; go_simp) <;> with_reducible rfl)
          (try simp only [Act.put, List.setIfInBounds_toArray, List.set_cons_zero, List.set_cons_succ])
          refine any_one (i := 1) rfl (by kernel_rfl) (fun K hK => ?_)
          go_simp
          refine (Calls.mono (HTh.out _)) ?_
          rintro e x1 ⟨rfl, hbR⟩
          have B1 : Below w5.heap.size w5 x1 := below_then B0 hbR
          go_wp2_with fail
          refine hK.out _ _ (by first | exact B1 | exact hbR | exact below_then hS hbR) (any_weaken (S' := fun W => Below x1.heap.size x1 W) (fun W hW => by first | exact below_then B1 hW | exact below_then hbR hW | exact below_then (below_then hS hbR) hW) _ _ _ _ ?_)
          clear hK K hS hbR
          have hS : Below x1.heap.size x1 x1 := Below.refl _ _
          refine any_take (i := 2) (v := ?_) rfl (by kernel_rfl) (by kernel_rfl) (by kernel_rfl) (by exact fun _ _ _ h => h) (by rfl) ?_ hS ?_
          rotate_left
          · ((intro w hSw; (try dsimp only at hSw); go_simp) <;> with_reducible rfl)
          (try simp only [Act.put, List.setIfInBounds_toArray, List.set_cons_zero, List.set_cons_succ])
          refine any_take (i := 3) (v := ?_) rfl (by kernel_rfl) (by kernel_rfl) (by kernel_rfl) (by exact fun _ _ _ h => h) (by rfl) ?_ hS ?_
          rotate_left
          · ((intro w hSw; have c0 := ck_later (show w5.cell? ⟨wr.heap.size, 0, none⟩ = _ from ck_at S5.out.2 0) (below_then B1 hSw); have c1 := ck_later (show w5.cell? ⟨wr.heap.size, 1, none⟩ = _ from ck_at S5.out.2 1) (below_then B1 hSw); have c2 := ck_later (show w5.cell? ⟨vb, 5, none⟩ = some (.int .u64 (m5.toNat : Int)) from ck_at S5.out.1.v 5) (below_then B1 hSw); go_simp) <;> with_reducible rfl)
          (try simp only [Act.put, List.setIfInBounds_toArray, List.set_cons_zero, List.set_cons_succ])
          refine any_take (i := 4) (v := ?_) rfl (by kernel_rfl) (by kernel_rfl) (by kernel_rfl) (by exact fun _ _ _ h => h) (by rfl) ?_ hS ?_
          rotate_left
          · ((intro w hSw; have c0 := ck_later (show w5.cell? ⟨wr.heap.size, 0, none⟩ = _ from ck_at S5.out.2 0) (below_then B1 hSw); have c1 := ck_later (show w5.cell? ⟨wr.heap.size, 1, none⟩ = _ from ck_at S5.out.2 1) (below_then B1 hSw); have c2 := ck_later (show w5.cell? ⟨vb, 5, none⟩ = some (.int .u64 (m5.toNat : Int)) from ck_at S5.out.1.v 5) (below_then B1 hSw); go_simp) <;> with_reducible rfl)
          (try simp only [Act.put, List.setIfInBounds_toArray, List.set_cons_zero, List.set_cons_succ])
          refine any_take (i := 5) (v := ?_) rfl (by kernel_rfl) (by kernel_rfl) (by kernel_rfl) (by exact fun _ _ _ h => h) (by rfl) ?_ hS ?_
          rotate_left
          · ((intro w hSw; have c0 := ck_later (show w5.cell? ⟨wr.heap.size, 0, none⟩ = _ from ck_at S5.out.2 0) (below_then B1 hSw); have c1 := ck_later (show w5.cell? ⟨wr.heap.size, 1, none⟩ = _ from ck_at S5.out.2 1) (below_then B1 hSw); have c2 := ck_later (show w5.cell? ⟨vb, 5, none⟩ = some (.int .u64 (m5.toNat : Int)) from ck_at S5.out.1.v 5) (below_then B1 hSw); go_simp) <;> with_reducible rfl)
          (try simp only [Act.put, List.setIfInBounds_toArray, List.set_cons_zero, List.set_cons_succ])
          refine any_take (i := 6) (v := ?_) rfl (by kernel_rfl) (by kernel_rfl) (by kernel_rfl) (by exact fun _ _ _ h => h) (by rfl) ?_ hS ?_
          rotate_left
          · ((intro w hSw; have c0 := ck_later (show w5.cell? ⟨wr.heap.size, 0, none⟩ = _ from ck_at S5.out.2 0) (below_then B1 hSw); have c1 := ck_later (show w5.cell? ⟨wr.heap.size, 1, none⟩ = _ from ck_at S5.out.2 1) (below_then B1 hSw); have c2 := ck_later (show w5.cell? ⟨vb, 5, none⟩ = some (.int .u64 (m5.toNat : Int)) from ck_at S5.out.1.v 5) (below_then B1 hSw); go_simp) <;> with_reducible rfl)
          (try simp only [Act.put, List.setIfInBounds_toArray, List.set_cons_zero, List.set_cons_succ])
          refine any_one (i := 7) rfl (by kernel_rfl) (fun K hK => ?_)
          go_simp
          refine (Calls.mono (HTk.out _)) ?_
          rintro e x2 ⟨rfl, hbR⟩
          have B2 : Below w5.heap.size w5 x2 := below_then B1 hbR
          go_wp2_with fail
          refine hK.out _ _ (by first | exact B2 | exact hbR | exact below_then hS hbR) (any_weaken (S' := fun W => Below x2.heap.size x2 W) (fun W hW => by first | exact below_then B2 hW | exact below_then hbR hW | exact below_then (below_then hS hbR) hW) _ _ _ _ ?_)
          clear hK K hS hbR
          have hS : Below x2.heap.size x2 x2 := Below.refl _ _
          refine any_take (i := 8) (v := ?_) rfl (by kernel_rfl) (by kernel_rfl) (by kernel_rfl) (by exact fun _ _ _ h => h) (by rfl) ?_ hS ?_
          rotate_left
          · ((intro w hSw; (try dsimp only at hSw); go_simp) <;> with_reducible rfl)
          (try simp only [Act.put, List.setIfInBounds_toArray, List.set_cons_zero, List.set_cons_succ])
          refine any_take (i := 9) (v := ?_) rfl (by kernel_rfl) (by kernel_rfl) (by kernel_rfl) (by exact fun _ _ _ h => h) (by rfl) ?_ hS ?_
          rotate_left
          · ((intro w hSw; (try dsimp only at hSw); go_simp) <;> with_reducible rfl)
          (try simp only [Act.put, List.setIfInBounds_toArray, List.set_cons_zero, List.set_cons_succ])
          refine wpAnyH_done (by kernel_rfl) ?_ _
          cases tk with
          | true =>
            have F2 : Hid _ := F.out rfl _ B2
            clear F N hS B0 B1 B2 S5 HP HTh HTk
            go_wp2
            go_roundw
            case rel => exact ⟨6, by omega, rfl, F2.out.1, F2.out.2⟩
            case measure => simp [intOf]
          | false =>
            have F2 : Hid _ := N.out rfl _ B2
            clear F N hS B0 B1 B2 S5 HP HTh HTk
            go_wp2
            refine bodyPost_ret (v := .tuple #[.slice none 0 0, .int .i64 3]) (by first | rfl | simp [results, Tryd.results16, go_sem]) rfl ?_
            exact ⟨.slice none 0 0, by rw [F2.out.1], by rw [F2.out.1]; exact rfl, F2.out.2⟩
      · rw [show ((6 : Nat) : Int) = 6 from rfl]
        have HG : Hid _ := hP
        have S7 : Hid _ := hS
        clear hP hS
        have y0 := ck_at S7.out.r 0
        have y1 := ck_at S7.out.r 1
        have y2 := ck_at S7.out.r 2
        have y3 := ck_at S7.out.r 3
        have y4 := ck_at S7.out.r 4
        have y5 := ck_at S7.out.r 5
        have y6 := ck_at S7.out.r 6
        have y7 := ck_at S7.out.r 7
        have y8 := ck_at S7.out.r 8
        have y9 := ck_at S7.out.r 9
        have y10 := ck_at S7.out.r 10
        have y11 := ck_at S7.out.r 11
        have y12 := ck_at S7.out.r 12
        simp only [List.getElem?_cons_zero, List.getElem?_cons_succ] at y0 y1 y2 y3 y4 y5 y6 y7 y8 y9 y10 y11 y12
        go_upto_region 11 with fail
        go_wp2_with fail
        clear y0 y1 y2 y3 y4 y5 y6 y7 y8 y9 y10 y11 y12
        go_loopw [40] (fun iv wr => ∃ k : Nat, k ≤ 6 ∧ iv = .int .i64 k ∧ BuS w wr rb vb [.int .u8 o, .int .u8 a0, .int .u8 b0, .int .u8 a1, .int .u8 b1, .int .u8 a2, .int .u8 b2, .int .u8 a3, .int .u8 b3, .int .u8 a4, .int .u8 b4, .int .u8 a5, .int .u8 b5] [.int .u64 (m0.toNat : Int), .int .u64 (m1.toNat : Int), .int .u64 (m2.toNat : Int), .int .u64 (m3.toNat : Int), .int .u64 (lb.toNat : Int), .int .u64 (m5.toNat : Int)] ∧ (∀ q ∈ QA.take k, zOk q.1 q.2 = true)) (fun iv _ => 6 - (intOf iv).toNat)
        case atStart => exact ⟨0, by omega, rfl, S7.out, by simp⟩
        case round =>
          clear S7
          obtain ⟨k, hk, rfl, hS, hP⟩ := hrel
          have hk' : k = 0 ∨ k = 1 ∨ k = 2 ∨ k = 3 ∨ k = 4 ∨ k = 5 ∨ k = 6 := by omega
          rcases hk' with rfl | rfl | rfl | rfl | rfl | rfl | rfl
          · have hix : ∀ X : World, (Instr.index 79 (.agg #[.int .u8 a0, .int .u8 b0, .int .u8 a1, .int .u8 b1, .int .u8 a2, .int .u8 b2, .int .u8 a3, .int .u8 b3, .int .u8 a4, .int .u8 b4, .int .u8 a5, .int .u8 b5]) (.int .i64 0)).run Tryd.prog X = .ok (.agg #[.int .u8 a0, .int .u8 b0]) X := fun _ => by first | rfl | kernel_rfl
            have B3 := Blk.new' wr 78 [.int .u8 a0, .int .u8 b0]
            have b3_ : Below wr.heap.size wr (wr.alloc (.cells #[.int .u8 a0, .int .u8 b0] 78)) := (Below.refl _ _).alloc (Nat.le_refl _) _
            obtain ⟨w5, hw5⟩ : ∃ w5, w5 = wr.alloc (.cells #[.int .u8 a0, .int .u8 b0] 78) := ⟨_, rfl⟩
            rw [← hw5] at B3 b3_
            have S5 : Hid _ := And.intro (hS.later b3_) B3
            have HP : Hid _ := hP
            clear hS hP B3 b3_
            go_upto_region 14 with fail
            rw [← hw5]
            clear hw5 hix
            have c0 := ck_at S5.out.2 0
            have c1 := ck_at S5.out.2 1
            simp only [List.getElem?_cons_zero, List.getElem?_cons_succ] at c0 c1
            go_wp2_with fail
            clear c0 c1
            refine (Calls.mono (cThere_any _ _ _)) ?_
            rintro e w6 ⟨rfl, b6_⟩
            have S6 : Hid _ := S5.out.1.later b6_
            clear b6_ S5
            obtain ⟨M, hM⟩ : ∃ M : Int, M = (m0.toNat : Int) := ⟨_, rfl⟩
            have c2 : w6.cell? ⟨vb, 0, none⟩ = some (.int .u64 (m0.toNat : Int)) := ck_at S6.out.v 0
            rw [← hM] at c2
            have NZ : Hid (b0 = 0 → (M != 0) = true → buR op sv pv vv tv lb nv = (none, 11)) := fun h0 h1 => EZ.out HG.out _ (List.mem_of_getElem? J0.out) (by show (decide (b0 ≠ 0) || !((m0.toNat : Int) != 0)) = false; rw [← hM, h1, decide_eq_false (by simpa using h0)]; rfl)
            have FZ : Hid (b0 ≠ 0 ∨ (M != 0) = false → ∀ q ∈ QA.take 1, zOk q.1 q.2 = true) := fun h => take_step J0.out HP.out (by show (decide (b0 ≠ 0) || !((m0.toNat : Int) != 0)) = true; rw [← hM]; rcases h with h | h <;> simp [h])
            clear hM
            by_cases hb : b0 = 0
            · have d1 : decide (b0 > 0) = false := decide_eq_false (by omega)
              cases d2 : (M != 0) with
              | true =>
                have F2 : Hid _ := And.intro (NZ.out hb d2) S6.out.below
                clear FZ NZ S6 HP hb
                go_wp2
                refine bodyPost_ret (v := .tuple #[.slice none 0 0, .int .i64 11]) (by first | rfl | simp [results, Tryd.results16, go_sem]) rfl ?_
                exact ⟨.slice none 0 0, by rw [F2.out.1], by rw [F2.out.1]; exact rfl, F2.out.2⟩
              | false =>
                have F2 : Hid _ := And.intro S6.out (FZ.out (Or.inr d2))
                clear hb
                clear FZ NZ S6 HP
                go_wp2
                go_roundw
                case rel => exact ⟨1, by omega, rfl, F2.out.1, F2.out.2⟩
                case measure => simp [intOf]
            · have d1 : decide (b0 > 0) = true := decide_eq_true (by have := PF0.out.size; omega)
              have F2 : Hid _ := And.intro S6.out (FZ.out (Or.inl hb))
              clear hb c2
              clear FZ NZ S6 HP
              go_wp2
              go_roundw
              case rel => exact ⟨1, by omega, rfl, F2.out.1, F2.out.2⟩
              case measure => simp [intOf]
          · have hix : ∀ X : World, (Instr.index 79 (.agg #[.int .u8 a0, .int .u8 b0, .int .u8 a1, .int .u8 b1, .int .u8 a2, .int .u8 b2, .int .u8 a3, .int .u8 b3, .int .u8 a4, .int .u8 b4, .int .u8 a5, .int .u8 b5]) (.int .i64 1)).run Tryd.prog X = .ok (.agg #[.int .u8 a1, .int .u8 b1]) X := fun _ => by first | rfl | kernel_rfl
            have B3 := Blk.new' wr 78 [.int .u8 a1, .int .u8 b1]
            have b3_ : Below wr.heap.size wr (wr.alloc (.cells #[.int .u8 a1, .int .u8 b1] 78)) := (Below.refl _ _).alloc (Nat.le_refl _) _
            obtain ⟨w5, hw5⟩ : ∃ w5, w5 = wr.alloc (.cells #[.int .u8 a1, .int .u8 b1] 78) := ⟨_, rfl⟩
            rw [← hw5] at B3 b3_
            have S5 : Hid _ := And.intro (hS.later b3_) B3
            have HP : Hid _ := hP
            clear hS hP B3 b3_
            go_upto_region 14 with fail
            rw [← hw5]
            clear hw5 hix
            have c0 := ck_at S5.out.2 0
            have c1 := ck_at S5.out.2 1
            simp only [List.getElem?_cons_zero, List.getElem?_cons_succ] at c0 c1
            go_wp2_with fail
            clear c0 c1
            refine (Calls.mono (cThere_any _ _ _)) ?_
            rintro e w6 ⟨rfl, b6_⟩
            have S6 : Hid _ := S5.out.1.later b6_
            clear b6_ S5
            obtain ⟨M, hM⟩ : ∃ M : Int, M = (m1.toNat : Int) := ⟨_, rfl⟩
            have c2 : w6.cell? ⟨vb, 1, none⟩ = some (.int .u64 (m1.toNat : Int)) := ck_at S6.out.v 1
            rw [← hM] at c2
            have NZ : Hid (b1 = 0 → (M != 0) = true → buR op sv pv vv tv lb nv = (none, 11)) := fun h0 h1 => EZ.out HG.out _ (List.mem_of_getElem? J1.out) (by show (decide (b1 ≠ 0) || !((m1.toNat : Int) != 0)) = false; rw [← hM, h1, decide_eq_false (by simpa using h0)]; rfl)
            have FZ : Hid (b1 ≠ 0 ∨ (M != 0) = false → ∀ q ∈ QA.take 2, zOk q.1 q.2 = true) := fun h => take_step J1.out HP.out (by show (decide (b1 ≠ 0) || !((m1.toNat : Int) != 0)) = true; rw [← hM]; rcases h with h | h <;> simp [h])
            clear hM
            by_cases hb : b1 = 0
            · have d1 : decide (b1 > 0) = false := decide_eq_false (by omega)
              cases d2 : (M != 0) with
              | true =>
                have F2 : Hid _ := And.intro (NZ.out hb d2) S6.out.below
                clear FZ NZ S6 HP hb
                go_wp2
                refine bodyPost_ret (v := .tuple #[.slice none 0 0, .int .i64 11]) (by first | rfl | simp [results, Tryd.results16, go_sem]) rfl ?_
                exact ⟨.slice none 0 0, by rw [F2.out.1], by rw [F2.out.1]; exact rfl, F2.out.2⟩
              | false =>
                have F2 : Hid _ := And.intro S6.out (FZ.out (Or.inr d2))
                clear hb
                clear FZ NZ S6 HP
                go_wp2
                go_roundw
                case rel => exact ⟨2, by omega, rfl, F2.out.1, F2.out.2⟩
                case measure => simp [intOf]
            · have d1 : decide (b1 > 0) = true := decide_eq_true (by have := PF1.out.size; omega)
              have F2 : Hid _ := And.intro S6.out (FZ.out (Or.inl hb))
              clear hb c2
              clear FZ NZ S6 HP
              go_wp2
              go_roundw
              case rel => exact ⟨2, by omega, rfl, F2.out.1, F2.out.2⟩
              case measure => simp [intOf]
          · have hix : ∀ X : World, (Instr.index 79 (.agg #[.int .u8 a0, .int .u8 b0, .int .u8 a1, .int .u8 b1, .int .u8 a2, .int .u8 b2, .int .u8 a3, .int .u8 b3, .int .u8 a4, .int .u8 b4, .int .u8 a5, .int .u8 b5]) (.int .i64 2)).run Tryd.prog X = .ok (.agg #[.int .u8 a2, .int .u8 b2]) X := fun _ => by first | rfl | kernel_rfl
            have B3 := Blk.new' wr 78 [.int .u8 a2, .int .u8 b2]
            have b3_ : Below wr.heap.size wr (wr.alloc (.cells #[.int .u8 a2, .int .u8 b2] 78)) := (Below.refl _ _).alloc (Nat.le_refl _) _
            obtain ⟨w5, hw5⟩ : ∃ w5, w5 = wr.alloc (.cells #[.int .u8 a2, .int .u8 b2] 78) := ⟨_, rfl⟩
            rw [← hw5] at B3 b3_
            have S5 : Hid _ := And.intro (hS.later b3_) B3
            have HP : Hid _ := hP
            clear hS hP B3 b3_
            go_upto_region 14 with fail
            rw [← hw5]
            clear hw5 hix
            have c0 := ck_at S5.out.2 0
            have c1 := ck_at S5.out.2 1
            simp only [List.getElem?_cons_zero, List.getElem?_cons_succ] at c0 c1
            go_wp2_with fail
            clear c0 c1
            refine (Calls.mono (cThere_any _ _ _)) ?_
            rintro e w6 ⟨rfl, b6_⟩
            have S6 : Hid _ := S5.out.1.later b6_
            clear b6_ S5
            obtain ⟨M, hM⟩ : ∃ M : Int, M = (m2.toNat : Int) := ⟨_, rfl⟩
            have c2 : w6.cell? ⟨vb, 2, none⟩ = some (.int .u64 (m2.toNat : Int)) := ck_at S6.out.v 2
            rw [← hM] at c2
            have NZ : Hid (b2 = 0 → (M != 0) = true → buR op sv pv vv tv lb nv = (none, 11)) := fun h0 h1 => EZ.out HG.out _ (List.mem_of_getElem? J2.out) (by show (decide (b2 ≠ 0) || !((m2.toNat : Int) != 0)) = false; rw [← hM, h1, decide_eq_false (by simpa using h0)]; rfl)
            have FZ : Hid (b2 ≠ 0 ∨ (M != 0) = false → ∀ q ∈ QA.take 3, zOk q.1 q.2 = true) := fun h => take_step J2.out HP.out (by show (decide (b2 ≠ 0) || !((m2.toNat : Int) != 0)) = true; rw [← hM]; rcases h with h | h <;> simp [h])
            clear hM
            by_cases hb : b2 = 0
            · have d1 : decide (b2 > 0) = false := decide_eq_false (by omega)
              cases d2 : (M != 0) with
              | true =>
                have F2 : Hid _ := And.intro (NZ.out hb d2) S6.out.below
                clear FZ NZ S6 HP hb
                go_wp2
                refine bodyPost_ret (v := .tuple #[.slice none 0 0, .int .i64 11]) (by first | rfl | simp [results, Tryd.results16, go_sem]) rfl ?_
                exact ⟨.slice none 0 0, by rw [F2.out.1], by rw [F2.out.1]; exact rfl, F2.out.2⟩
              | false =>
                have F2 : Hid _ := And.intro S6.out (FZ.out (Or.inr d2))
                clear hb
                clear FZ NZ S6 HP
                go_wp2
                go_roundw
                case rel => exact ⟨3, by omega, rfl, F2.out.1, F2.out.2⟩
                case measure => simp [intOf]
            · have d1 : decide (b2 > 0) = true := decide_eq_true (by have := PF2.out.size; omega)
              have F2 : Hid _ := And.intro S6.out (FZ.out (Or.inl hb))
              clear hb c2
              clear FZ NZ S6 HP
              go_wp2
              go_roundw
              case rel => exact ⟨3, by omega, rfl, F2.out.1, F2.out.2⟩
              case measure => simp [intOf]
          · have hix : ∀ X : World, (Instr.index 79 (.agg #[.int .u8 a0, .int .u8 b0, .int .u8 a1, .int .u8 b1, .int .u8 a2, .int .u8 b2, .int .u8 a3, .int .u8 b3, .int .u8 a4, .int .u8 b4, .int .u8 a5, .int .u8 b5]) (.int .i64 3)).run Tryd.prog X = .ok (.agg #[.int .u8 a3, .int .u8 b3]) X := fun _ => by first | rfl | kernel_rfl
            have B3 := Blk.new' wr 78 [.int .u8 a3, .int .u8 b3]
            have b3_ : Below wr.heap.size wr (wr.alloc (.cells #[.int .u8 a3, .int .u8 b3] 78)) := (Below.refl _ _).alloc (Nat.le_refl _) _
            obtain ⟨w5, hw5⟩ : ∃ w5, w5 = wr.alloc (.cells #[.int .u8 a3, .int .u8 b3] 78) := ⟨_, rfl⟩
            rw [← hw5] at B3 b3_
            have S5 : Hid _ := And.intro (hS.later b3_) B3
            have HP : Hid _ := hP
            clear hS hP B3 b3_
            go_upto_region 14 with fail
            rw [← hw5]
            clear hw5 hix
            have c0 := ck_at S5.out.2 0
            have c1 := ck_at S5.out.2 1
            simp only [List.getElem?_cons_zero, List.getElem?_cons_succ] at c0 c1
            go_wp2_with fail
            clear c0 c1
            refine (Calls.mono (cThere_any _ _ _)) ?_
            rintro e w6 ⟨rfl, b6_⟩
            have S6 : Hid _ := S5.out.1.later b6_
            clear b6_ S5
            obtain ⟨M, hM⟩ : ∃ M : Int, M = (m3.toNat : Int) := ⟨_, rfl⟩
            have c2 : w6.cell? ⟨vb, 3, none⟩ = some (.int .u64 (m3.toNat : Int)) := ck_at S6.out.v 3
            rw [← hM] at c2
            have NZ : Hid (b3 = 0 → (M != 0) = true → buR op sv pv vv tv lb nv = (none, 11)) := fun h0 h1 => EZ.out HG.out _ (List.mem_of_getElem? J3.out) (by show (decide (b3 ≠ 0) || !((m3.toNat : Int) != 0)) = false; rw [← hM, h1, decide_eq_false (by simpa using h0)]; rfl)
            have FZ : Hid (b3 ≠ 0 ∨ (M != 0) = false → ∀ q ∈ QA.take 4, zOk q.1 q.2 = true) := fun h => take_step J3.out HP.out (by show (decide (b3 ≠ 0) || !((m3.toNat : Int) != 0)) = true; rw [← hM]; rcases h with h | h <;> simp [h])
            clear hM
            by_cases hb : b3 = 0
            · have d1 : decide (b3 > 0) = false := decide_eq_false (by omega)
              cases d2 : (M != 0) with
              | true =>
                have F2 : Hid _ := And.intro (NZ.out hb d2) S6.out.below
                clear FZ NZ S6 HP hb
                go_wp2
                refine bodyPost_ret (v := .tuple #[.slice none 0 0, .int .i64 11]) (by first | rfl | simp [results, Tryd.results16, go_sem]) rfl ?_
                exact ⟨.slice none 0 0, by rw [F2.out.1], by rw [F2.out.1]; exact rfl, F2.out.2⟩
              | false =>
                have F2 : Hid _ := And.intro S6.out (FZ.out (Or.inr d2))
                clear hb
                clear FZ NZ S6 HP
                go_wp2
                go_roundw
                case rel => exact ⟨4, by omega, rfl, F2.out.1, F2.out.2⟩
                case measure => simp [intOf]
            · have d1 : decide (b3 > 0) = true := decide_eq_true (by have := PF3.out.size; omega)
              have F2 : Hid _ := And.intro S6.out (FZ.out (Or.inl hb))
              clear hb c2
              clear FZ NZ S6 HP
              go_wp2
              go_roundw
              case rel => exact ⟨4, by omega, rfl, F2.out.1, F2.out.2⟩
              case measure => simp [intOf]
          · have hix : ∀ X : World, (Instr.index 79 (.agg #[.int .u8 a0, .int .u8 b0, .int .u8 a1, .int .u8 b1, .int .u8 a2, .int .u8 b2, .int .u8 a3, .int .u8 b3, .int .u8 a4, .int .u8 b4, .int .u8 a5, .int .u8 b5]) (.int .i64 4)).run Tryd.prog X = .ok (.agg #[.int .u8 a4, .int .u8 b4]) X := fun _ => by first | rfl | kernel_rfl
            have B3 := Blk.new' wr 78 [.int .u8 a4, .int .u8 b4]
            have b3_ : Below wr.heap.size wr (wr.alloc (.cells #[.int .u8 a4, .int .u8 b4] 78)) := (Below.refl _ _).alloc (Nat.le_refl _) _
            obtain ⟨w5, hw5⟩ : ∃ w5, w5 = wr.alloc (.cells #[.int .u8 a4, .int .u8 b4] 78) := ⟨_, rfl⟩
            rw [← hw5] at B3 b3_
            have S5 : Hid _ := And.intro (hS.later b3_) B3
            have HP : Hid _ := hP
            clear hS hP B3 b3_
            go_upto_region 14 with fail
            rw [← hw5]
            clear hw5 hix
            have c0 := ck_at S5.out.2 0
            have c1 := ck_at S5.out.2 1
            simp only [List.getElem?_cons_zero, List.getElem?_cons_succ] at c0 c1
            go_wp2_with fail
            clear c0 c1
            refine (Calls.mono (cThere_any _ _ _)) ?_
            rintro e w6 ⟨rfl, b6_⟩
            have S6 : Hid _ := S5.out.1.later b6_
            clear b6_ S5
            obtain ⟨M, hM⟩ : ∃ M : Int, M = (lb.toNat : Int) := ⟨_, rfl⟩
            have c2 : w6.cell? ⟨vb, 4, none⟩ = some (.int .u64 (lb.toNat : Int)) := ck_at S6.out.v 4
            rw [← hM] at c2
            have NZ : Hid (b4 = 0 → (M != 0) = true → buR op sv pv vv tv lb nv = (none, 11)) := fun h0 h1 => EZ.out HG.out _ (List.mem_of_getElem? J4.out) (by show (decide (b4 ≠ 0) || !((lb.toNat : Int) != 0)) = false; rw [← hM, h1, decide_eq_false (by simpa using h0)]; rfl)
            have FZ : Hid (b4 ≠ 0 ∨ (M != 0) = false → ∀ q ∈ QA.take 5, zOk q.1 q.2 = true) := fun h => take_step J4.out HP.out (by show (decide (b4 ≠ 0) || !((lb.toNat : Int) != 0)) = true; rw [← hM]; rcases h with h | h <;> simp [h])
            clear hM
            by_cases hb : b4 = 0
            · have d1 : decide (b4 > 0) = false := decide_eq_false (by omega)
              cases d2 : (M != 0) with
              | true =>
                have F2 : Hid _ := And.intro (NZ.out hb d2) S6.out.below
                clear FZ NZ S6 HP hb
                go_wp2
                refine bodyPost_ret (v := .tuple #[.slice none 0 0, .int .i64 11]) (by first | rfl | simp [results, Tryd.results16, go_sem]) rfl ?_
                exact ⟨.slice none 0 0, by rw [F2.out.1], by rw [F2.out.1]; exact rfl, F2.out.2⟩
              | false =>
                have F2 : Hid _ := And.intro S6.out (FZ.out (Or.inr d2))
                clear hb
                clear FZ NZ S6 HP
                go_wp2
                go_roundw
                case rel => exact ⟨5, by omega, rfl, F2.out.1, F2.out.2⟩
                case measure => simp [intOf]
            · have d1 : decide (b4 > 0) = true := decide_eq_true (by have := PF4.out.size; omega)
              have F2 : Hid _ := And.intro S6.out (FZ.out (Or.inl hb))
              clear hb c2
              clear FZ NZ S6 HP
              go_wp2
              go_roundw
              case rel => exact ⟨5, by omega, rfl, F2.out.1, F2.out.2⟩
              case measure => simp [intOf]
          · have hix : ∀ X : World, (Instr.index 79 (.agg #[.int .u8 a0, .int .u8 b0, .int .u8 a1, .int .u8 b1, .int .u8 a2, .int .u8 b2, .int .u8 a3, .int .u8 b3, .int .u8 a4, .int .u8 b4, .int .u8 a5, .int .u8 b5]) (.int .i64 5)).run Tryd.prog X = .ok (.agg #[.int .u8 a5, .int .u8 b5]) X := fun _ => by first | rfl | kernel_rfl
            have B3 := Blk.new' wr 78 [.int .u8 a5, .int .u8 b5]
            have b3_ : Below wr.heap.size wr (wr.alloc (.cells #[.int .u8 a5, .int .u8 b5] 78)) := (Below.refl _ _).alloc (Nat.le_refl _) _
            obtain ⟨w5, hw5⟩ : ∃ w5, w5 = wr.alloc (.cells #[.int .u8 a5, .int .u8 b5] 78) := ⟨_, rfl⟩
            rw [← hw5] at B3 b3_
            have S5 : Hid _ := And.intro (hS.later b3_) B3
            have HP : Hid _ := hP
            clear hS hP B3 b3_
            go_upto_region 14 with fail
            rw [← hw5]
            clear hw5 hix
            have c0 := ck_at S5.out.2 0
            have c1 := ck_at S5.out.2 1
            simp only [List.getElem?_cons_zero, List.getElem?_cons_succ] at c0 c1
            go_wp2_with fail
            clear c0 c1
            refine (Calls.mono (cThere_any _ _ _)) ?_
            rintro e w6 ⟨rfl, b6_⟩
            have S6 : Hid _ := S5.out.1.later b6_
            clear b6_ S5
            obtain ⟨M, hM⟩ : ∃ M : Int, M = (m5.toNat : Int) := ⟨_, rfl⟩
            have c2 : w6.cell? ⟨vb, 5, none⟩ = some (.int .u64 (m5.toNat : Int)) := ck_at S6.out.v 5
            rw [← hM] at c2
            have NZ : Hid (b5 = 0 → (M != 0) = true → buR op sv pv vv tv lb nv = (none, 11)) := fun h0 h1 => EZ.out HG.out _ (List.mem_of_getElem? J5.out) (by show (decide (b5 ≠ 0) || !((m5.toNat : Int) != 0)) = false; rw [← hM, h1, decide_eq_false (by simpa using h0)]; rfl)
            have FZ : Hid (b5 ≠ 0 ∨ (M != 0) = false → ∀ q ∈ QA.take 6, zOk q.1 q.2 = true) := fun h => take_step J5.out HP.out (by show (decide (b5 ≠ 0) || !((m5.toNat : Int) != 0)) = true; rw [← hM]; rcases h with h | h <;> simp [h])
            clear hM
            by_cases hb : b5 = 0
            · have d1 : decide (b5 > 0) = false := decide_eq_false (by omega)
              cases d2 : (M != 0) with
              | true =>
                have F2 : Hid _ := And.intro (NZ.out hb d2) S6.out.below
                clear FZ NZ S6 HP hb
                go_wp2
                refine bodyPost_ret (v := .tuple #[.slice none 0 0, .int .i64 11]) (by first | rfl | simp [results, Tryd.results16, go_sem]) rfl ?_
                exact ⟨.slice none 0 0, by rw [F2.out.1], by rw [F2.out.1]; exact rfl, F2.out.2⟩
              | false =>
                have F2 : Hid _ := And.intro S6.out (FZ.out (Or.inr d2))
                clear hb
                clear FZ NZ S6 HP
                go_wp2
                go_roundw
                case rel => exact ⟨6, by omega, rfl, F2.out.1, F2.out.2⟩
                case measure => simp [intOf]
            · have d1 : decide (b5 > 0) = true := decide_eq_true (by have := PF5.out.size; omega)
              have F2 : Hid _ := And.intro S6.out (FZ.out (Or.inl hb))
              clear hb c2
              clear FZ NZ S6 HP
              go_wp2
              go_roundw
              case rel => exact ⟨6, by omega, rfl, F2.out.1, F2.out.2⟩
              case measure => simp [intOf]
          · have HZ : Hid _ := hP
            have S7 : Hid _ := hS
            clear hP hS
            have t0 : b0 ≠ 0 → fitsB (szB b0) m0 = true := fun h0 => tkB_fits PF0.out h0 (by have h := HG.out _ (by rw [JL.out]; exact List.mem_of_getElem? J0.out); have h2 : (decide (b0 = 0) || tkB b0 m0) = true := h; rw [decide_eq_false h0] at h2; simpa using h2)
            have t1 : b1 ≠ 0 → fitsB (szB b1) m1 = true := fun h0 => tkB_fits PF1.out h0 (by have h := HG.out _ (by rw [JL.out]; exact List.mem_of_getElem? J1.out); have h2 : (decide (b1 = 0) || tkB b1 m1) = true := h; rw [decide_eq_false h0] at h2; simpa using h2)
            have t2 : b2 ≠ 0 → fitsB (szB b2) m2 = true := fun h0 => tkB_fits PF2.out h0 (by have h := HG.out _ (by rw [JL.out]; exact List.mem_of_getElem? J2.out); have h2 : (decide (b2 = 0) || tkB b2 m2) = true := h; rw [decide_eq_false h0] at h2; simpa using h2)
            have t3 : b3 ≠ 0 → fitsB (szB b3) m3 = true := fun h0 => tkB_fits PF3.out h0 (by have h := HG.out _ (by rw [JL.out]; exact List.mem_of_getElem? J3.out); have h2 : (decide (b3 = 0) || tkB b3 m3) = true := h; rw [decide_eq_false h0] at h2; simpa using h2)
            have t4 : b4 ≠ 0 → fitsB (szB b4) lb = true := fun h0 => tkB_fits PF4.out h0 (by have h := HG.out _ (by rw [JL.out]; exact List.mem_of_getElem? J4.out); have h2 : (decide (b4 = 0) || tkB b4 lb) = true := h; rw [decide_eq_false h0] at h2; simpa using h2)
            have t5 : b5 ≠ 0 → fitsB (szB b5) m5 = true := fun h0 => tkB_fits PF5.out h0 (by have h := HG.out _ (by rw [JL.out]; exact List.mem_of_getElem? J5.out); have h2 : (decide (b5 = 0) || tkB b5 m5) = true := h; rw [decide_eq_false h0] at h2; simpa using h2)
            have HW : Hid (∀ X, _) := fun X => cWrite_any o a0 b0 a1 b1 a2 b2 a3 b3 a4 b4 a5 b5 m0 m1 m2 m3 lb m5 X HO.out PF0.out PF1.out PF2.out PF3.out PF4.out PF5.out t0 t1 t2 t3 t4 t5
            clear t0 t1 t2 t3 t4 t5
            rw [← HQ.out] at HW
            have EE : Hid _ := EO.out HG.out HZ.out
            have y0 := ck_at S7.out.r 0
            have y1 := ck_at S7.out.r 1
            have y2 := ck_at S7.out.r 2
            have y3 := ck_at S7.out.r 3
            have y4 := ck_at S7.out.r 4
            have y5 := ck_at S7.out.r 5
            have y6 := ck_at S7.out.r 6
            have y7 := ck_at S7.out.r 7
            have y8 := ck_at S7.out.r 8
            have y9 := ck_at S7.out.r 9
            have y10 := ck_at S7.out.r 10
            have y11 := ck_at S7.out.r 11
            have y12 := ck_at S7.out.r 12
            have x0 := ck_at S7.out.v 0
            have x1 := ck_at S7.out.v 1
            have x2 := ck_at S7.out.v 2
            have x3 := ck_at S7.out.v 3
            have x4 := ck_at S7.out.v 4
            have x5 := ck_at S7.out.v 5
            simp only [List.getElem?_cons_zero, List.getElem?_cons_succ] at y0 y1 y2 y3 y4 y5 y6 y7 y8 y9 y10 y11 y12 x0 x1 x2 x3 x4 x5
            go_wp2_with fail
            clear y0 y1 y2 y3 y4 y5 y6 y7 y8 y9 y10 y11 y12 x0 x1 x2 x3 x4 x5
            refine (Calls.mono (HW.out _)) ?_
            rintro e w8 ⟨z, rfl, o8, b8_⟩
            have G : Hid _ := And.intro (o8.lower S7.out.below.size) (below_then S7.out.below b8_)
            clear o8 b8_ S7 HW
            go_wp2
            refine bodyPost_ret (v := .tuple #[z, .int .i64 0]) (by first | rfl | simp [results, Tryd.results16, go_sem]) rfl ?_
            exact ⟨z, by rw [EE.out], by rw [EE.out]; exact G.out.1, G.out.2⟩
end Go.Proofs.YteingnaojnbchaaDoor
