/- text: Talk at the pairs that known() hands in. -/
import Derived.Test.YtligmiajlbjecaaDoorXTx7
import Derived.Test.YtligmiajlbjecaaDoorXTx0
import Derived.Test.YtligmiajlbjecaaDoorXWd1
import Derived.Test.YtligmiajlbjecaaDoorXGs1
import Derived.Test.YtligmiajlbjecaaDoorXDraw
namespace Go.Proofs.YtligmiajlbjecaaDoor
open Go.RowKit
set_option linter.unusedVariables false
set_option linter.unusedSimpArgs false
set_option maxRecDepth 8000

def kPr : Kd (ByteArray × ByteArray) := ⟨59, 28, 2, 32, .agg #[.string ⟨#[]⟩, .string ⟨#[]⟩], fun x => [.string x.1, .string x.2]⟩
theorem kPr_ok : kPr.Ok := ⟨by simp [kPr], fun x => rfl, fun x u hu => by simp [kPr] at hu; rcases hu with rfl | rfl <;> rfl, Tryd.underlying28, by kernel_rfl, rfl, by simp [kPr]⟩
/-- what stands while a talk goes on: what is agreed on (at g), the result (at r), the answers -/
structure TkI (w W : World) (g r : Nat) (cs : List Value) (v : Value) (q : Option Nat) (l : List (ByteArray × ByteArray)) : Prop where
  bel : Below w.heap.size w W
  gb : Blk W g 50 cs
  rb : Blk W r 50 [.bool false, .bool false, .int .i64 0, .int .i64 0, .int .i64 0, .int .i64 0, .bool false, .bool false, .bool false, .string ⟨#[]⟩, .string ⟨#[]⟩]
  gl : w.heap.size ≤ g
  rl : w.heap.size ≤ r
  ne : g ≠ r
  sl : GSl kPr W v q l
  far : ∀ k, q = some k → k ≠ g ∧ k ≠ r ∧ w.heap.size ≤ k
theorem TkI.later {w W W' : World} {g r : Nat} {cs : List Value} {v : Value} {q : Option Nat} {l : List (ByteArray × ByteArray)} (h : TkI w W g r cs v q l) (b : Below W.heap.size W W') : TkI w W' g r cs v q l :=
  ⟨below_then h.bel b, h.gb.laterB b, h.rb.laterB b, h.gl, h.rl, h.ne, h.sl.later b, h.far⟩
theorem TkI.turn {w W W' : World} {g r : Nat} {cs cs' : List Value} {v : Value} {q : Option Nat} {l : List (ByteArray × ByteArray)} (h : TkI w W g r cs v q l) (t : Turned (fun k => k = g) W W') (B : Blk W' g 50 cs') : TkI w W' g r cs' v q l :=
  ⟨h.bel.trans (t.below w.heap.size h.bel.size (fun k e => by subst e; exact h.gl)), B, h.rb.turned t (fun e => h.ne e.symm), h.gl, h.rl, h.ne, h.sl.turned t (fun k hk e => (h.far k hk).1 e), h.far⟩
theorem TkI.more {w W : World} {g r : Nat} {cs : List Value} {v : Value} {q : Option Nat} {l : List (ByteArray × ByteArray)} (h : TkI w W g r cs v q l) (x : ByteArray × ByteArray) (c : List Value) (hc : kPr.f x = c) (hl : l.length ≤ 100) :
    ∃ a2 c2 w2 q2, (Builtin.append_ #[28, 28] 28 #[v, .slice (some ⟨W.heap.size, 0, none⟩) 1 1]).run Tryd.prog (W.alloc (.cells c.toArray 59)) = .ok (.slice a2 (l.length + 1) c2) w2 ∧ TkI w w2 g r cs (.slice a2 (l.length + 1) c2) q2 (l ++ [x]) := by
  have bn : Below W.heap.size W (W.alloc (.cells c.toArray 59)) := (Below.refl _ _).alloc (Nat.le_refl _) _
  have hx : GAt kPr (W.alloc (.cells c.toArray kPr.E)) (.slice (some ⟨W.heap.size, 0, none⟩) 1 1) [x] := new_one kPr_ok W x c hc
  have h1 := h.later bn
  obtain ⟨v2, w2, q2, hr, ho, hg, hor⟩ := h1.sl.append kPr_ok hx (by simp; omega) kPr.T
  obtain ⟨a2, c2, e2, -, -, -⟩ := GSl.cell kPr_ok ho
  rw [List.length_append, List.length_singleton] at e2
  subst e2
  have hg1 := h1.gb.lt
  have hr1 := h1.rb.lt
  have hb := h1.bel.size
  exact ⟨a2, c2, w2, q2, hr, h1.bel.grown hg hb (fun k e => (h1.far k e).2.2), h1.gb.grown hg (fun e => (h1.far g e.symm).1 rfl), h1.rb.grown hg (fun e => (h1.far r e.symm).2.1 rfl), h1.gl, h1.rl, h1.ne, ho, fun k hk => (hor k hk).elim (fun e => h1.far k e) (fun e => ⟨by omega, by omega, by omega⟩)⟩
theorem size_pa : (Tryd.prog.info? 50).map (·.size) = some 11 := by kernel_rfl
/-- the pairs that known() hands in -/
def PrIn (w : World) (b : Nat) : Prop := Blk w b 59 [.string ⟨#[72, 101, 97, 100, 101, 114, 68, 105, 103, 101, 115, 116]⟩, .string ⟨#[67, 82, 67, 51, 50, 67, 44, 78, 111, 110, 101]⟩, .string ⟨#[77, 97, 120, 66, 117, 114, 115, 116, 76, 101, 110, 103, 116, 104]⟩, .string ⟨#[49, 48, 48, 48]⟩, .string ⟨#[88]⟩, .string ⟨#[49]⟩]
set_option maxHeartbeats 16000000 in
theorem tTalk (b : Nat) (w : World) (hA : PrIn w b) (hP : PowT w) : Calls Tryd.prog 27 #[.agg #[.bool false, .bool false, .int .i64 8192, .int .i64 8192, .int .i64 262144, .int .i64 65536, .bool true, .bool true, .bool false, .string ⟨#[]⟩, .string ⟨#[]⟩], .slice (some ⟨b, 0, none⟩) 3 3] w fun e w' => ∃ v q, e = .returned (.tuple #[v, .agg #[.bool true, .bool false, .int .i64 8192, .int .i64 8192, .int .i64 1000, .int .i64 1000, .bool true, .bool true, .bool false, .string ⟨#[]⟩, .string ⟨#[]⟩], .int .i64 0]) ∧ GSl kPr w' v q [(⟨#[72, 101, 97, 100, 101, 114, 68, 105, 103, 101, 115, 116]⟩, ⟨#[67, 82, 67, 51, 50, 67]⟩), (⟨#[77, 97, 120, 66, 117, 114, 115, 116, 76, 101, 110, 103, 116, 104]⟩, ⟨#[49, 48, 48, 48]⟩), (⟨#[88]⟩, ⟨#[78, 111, 116, 85, 110, 100, 101, 114, 115, 116, 111, 111, 100]⟩)] ∧ Below w.heap.size w w' := by
  have N1 := Blk.new' w 50 [.bool false, .bool false, .int .i64 8192, .int .i64 8192, .int .i64 262144, .int .i64 65536, .bool true, .bool true, .bool false, .string ⟨#[]⟩, .string ⟨#[]⟩]
  have bn1 : Below w.heap.size w (w.alloc (.cells #[.bool false, .bool false, .int .i64 8192, .int .i64 8192, .int .i64 262144, .int .i64 65536, .bool true, .bool true, .bool false, .string ⟨#[]⟩, .string ⟨#[]⟩] 50)) := (Below.refl _ _).alloc (Nat.le_refl _) _
  obtain ⟨w1, hw1⟩ : ∃ w1, w1 = w.alloc (.cells #[.bool false, .bool false, .int .i64 8192, .int .i64 8192, .int .i64 262144, .int .i64 65536, .bool true, .bool true, .bool false, .string ⟨#[]⟩, .string ⟨#[]⟩] 50) := ⟨_, rfl⟩
  rw [← hw1] at N1 bn1
  have N2 := Blk.new' w1 50 [.bool false, .bool false, .int .i64 0, .int .i64 0, .int .i64 0, .int .i64 0, .bool false, .bool false, .bool false, .string ⟨#[]⟩, .string ⟨#[]⟩]
  have bn2 : Below w1.heap.size w1 (w1.alloc (.cells #[.bool false, .bool false, .int .i64 0, .int .i64 0, .int .i64 0, .int .i64 0, .bool false, .bool false, .bool false, .string ⟨#[]⟩, .string ⟨#[]⟩] 50)) := (Below.refl _ _).alloc (Nat.le_refl _) _
  obtain ⟨w2, hw2⟩ : ∃ w2, w2 = w1.alloc (.cells #[.bool false, .bool false, .int .i64 0, .int .i64 0, .int .i64 0, .int .i64 0, .bool false, .bool false, .bool false, .string ⟨#[]⟩, .string ⟨#[]⟩] 50) := ⟨_, rfl⟩
  rw [← hw2] at N2 bn2
  have N3 := Blk.new' w2 50 [.bool false, .bool false, .int .i64 8192, .int .i64 8192, .int .i64 262144, .int .i64 65536, .bool true, .bool true, .bool false, .string ⟨#[]⟩, .string ⟨#[]⟩]
  have bn3 : Below w2.heap.size w2 (w2.alloc (.cells #[.bool false, .bool false, .int .i64 8192, .int .i64 8192, .int .i64 262144, .int .i64 65536, .bool true, .bool true, .bool false, .string ⟨#[]⟩, .string ⟨#[]⟩] 50)) := (Below.refl _ _).alloc (Nat.le_refl _) _
  obtain ⟨w3, hw3⟩ : ∃ w3, w3 = w2.alloc (.cells #[.bool false, .bool false, .int .i64 8192, .int .i64 8192, .int .i64 262144, .int .i64 65536, .bool true, .bool true, .bool false, .string ⟨#[]⟩, .string ⟨#[]⟩] 50) := ⟨_, rfl⟩
  rw [← hw3] at N3 bn3
  have z1 : w1.heap.size = w.heap.size + 1 := by rw [hw1]; simp
  have z2 : w2.heap.size = w.heap.size + 2 := by rw [hw2]; simp [z1]
  obtain ⟨p0, hp0⟩ : ∃ g, g = w.heap.size := ⟨_, rfl⟩
  obtain ⟨r, hr⟩ : ∃ g, g = w.heap.size + 1 := ⟨_, rfl⟩
  obtain ⟨g, hg⟩ : ∃ g, g = w2.heap.size := ⟨_, rfl⟩
  have hgz : g = w.heap.size + 2 := hg.trans z2
  rw [z1, ← hr] at N2
  rw [← hg] at N3
  have J0 : Hid _ := (TkI.mk (below_then bn1 (below_then bn2 bn3)) N3 (N2.laterB bn3) (by omega) (by omega) (by omega) (GSl.nil kPr _) (fun k hk => by cases hk) : TkI w w3 g r [.bool false, .bool false, .int .i64 8192, .int .i64 8192, .int .i64 262144, .int .i64 65536, .bool true, .bool true, .bool false, .string ⟨#[]⟩, .string ⟨#[]⟩] (.slice none 0 0) none [])
  have HA : Hid (∀ X, Below w.heap.size w X → Blk X b 59 _) := fun X bX => Blk.laterB hA bX
  have HP : Hid (∀ X, Below w.heap.size w X → PowT X) := fun X bX => hP.later bX
  have y0 := ck_at N1 0
  have y1 := ck_at N1 1
  have y2 := ck_at N1 2
  have y3 := ck_at N1 3
  have y4 := ck_at N1 4
  have y5 := ck_at N1 5
  have y6 := ck_at N1 6
  have y7 := ck_at N1 7
  have y8 := ck_at N1 8
  have y9 := ck_at N1 9
  have y10 := ck_at N1 10
  simp only [List.getElem?_cons_zero, List.getElem?_cons_succ] at y0 y1 y2 y3 y4 y5 y6 y7 y8 y9 y10
  clear bn1 bn2 bn3 N1 N2 N3 hA hP z1 z2
  go_enter Tryd.func27, Tryd.ntmps27
  go_upto_region 1 with fail
  rw [← hw1, ← hw2]
  clear hw1
  have v0 := ck_later y0 (show Below w1.heap.size w1 w2 by rw [hw2]; exact (Below.refl _ _).alloc (Nat.le_refl _) _)
  have v1 := ck_later y1 (show Below w1.heap.size w1 w2 by rw [hw2]; exact (Below.refl _ _).alloc (Nat.le_refl _) _)
  have v2 := ck_later y2 (show Below w1.heap.size w1 w2 by rw [hw2]; exact (Below.refl _ _).alloc (Nat.le_refl _) _)
  have v3 := ck_later y3 (show Below w1.heap.size w1 w2 by rw [hw2]; exact (Below.refl _ _).alloc (Nat.le_refl _) _)
  have v4 := ck_later y4 (show Below w1.heap.size w1 w2 by rw [hw2]; exact (Below.refl _ _).alloc (Nat.le_refl _) _)
  have v5 := ck_later y5 (show Below w1.heap.size w1 w2 by rw [hw2]; exact (Below.refl _ _).alloc (Nat.le_refl _) _)
  have v6 := ck_later y6 (show Below w1.heap.size w1 w2 by rw [hw2]; exact (Below.refl _ _).alloc (Nat.le_refl _) _)
  have v7 := ck_later y7 (show Below w1.heap.size w1 w2 by rw [hw2]; exact (Below.refl _ _).alloc (Nat.le_refl _) _)
  have v8 := ck_later y8 (show Below w1.heap.size w1 w2 by rw [hw2]; exact (Below.refl _ _).alloc (Nat.le_refl _) _)
  have v9 := ck_later y9 (show Below w1.heap.size w1 w2 by rw [hw2]; exact (Below.refl _ _).alloc (Nat.le_refl _) _)
  have v10 := ck_later y10 (show Below w1.heap.size w1 w2 by rw [hw2]; exact (Below.refl _ _).alloc (Nat.le_refl _) _)
  clear hw2 y0 y1 y2 y3 y4 y5 y6 y7 y8 y9 y10
  go_upto_region 2 with fail
  rw [← hw3]
  rw [← hg, ← hr, ← hp0]
  clear hw3 v0 v1 v2 v3 v4 v5 v6 v7 v8 v9 v10
  have hgw : Hid (w.heap.size ≤ g) := J0.out.gl
  clear hg hr hp0 hgz
  go_wp2_with fail
  refine wp_loop_rounds 4 ?_
  rw [rounds_succ]
  have a0 := ck_at (HA.out w3 J0.out.bel) 0
  have a1 := ck_at (HA.out w3 J0.out.bel) 1
  have a2 := ck_at (HA.out w3 J0.out.bel) 2
  have a3 := ck_at (HA.out w3 J0.out.bel) 3
  have a4 := ck_at (HA.out w3 J0.out.bel) 4
  have a5 := ck_at (HA.out w3 J0.out.bel) 5
  simp only [List.getElem?_cons_zero, List.getElem?_cons_succ] at a0 a1 a2 a3 a4 a5
  have Np0 := Blk.new' w3 59 [.string ⟨#[72, 101, 97, 100, 101, 114, 68, 105, 103, 101, 115, 116]⟩, .string ⟨#[67, 82, 67, 51, 50, 67, 44, 78, 111, 110, 101]⟩]
  have bnp0 : Below w3.heap.size w3 (w3.alloc (.cells #[.string ⟨#[72, 101, 97, 100, 101, 114, 68, 105, 103, 101, 115, 116]⟩, .string ⟨#[67, 82, 67, 51, 50, 67, 44, 78, 111, 110, 101]⟩] 59)) := (Below.refl _ _).alloc (Nat.le_refl _) _
  obtain ⟨u0, hu0⟩ : ∃ u0, u0 = w3.alloc (.cells #[.string ⟨#[72, 101, 97, 100, 101, 114, 68, 105, 103, 101, 115, 116]⟩, .string ⟨#[67, 82, 67, 51, 50, 67, 44, 78, 111, 110, 101]⟩] 59) := ⟨_, rfl⟩
  rw [← hu0] at Np0 bnp0
  obtain ⟨xb0, hxb⟩ : ∃ g, g = w3.heap.size := ⟨_, rfl⟩
  rw [← hxb] at Np0
  have hxg : xb0 ≠ g := by have := J0.out.gb.lt; omega
  have JA : Hid _ := And.intro (J0.out.later bnp0) (And.intro Np0 hxg)
  clear bnp0 Np0 hxg J0
  go_upto_region 6 with fail
  rw [← hu0, ← hxb]
  clear hu0 hxb a0 a1 a2 a3 a4 a5
  have y0 := ck_at JA.out.2.1 0
  have y1 := ck_at JA.out.2.1 1
  simp only [List.getElem?_cons_zero, List.getElem?_cons_succ] at y0 y1
  have HR : Hid _ := trule_HD u0
  go_wp2_with fail
  refine (Calls.mono HR.out) ?_
  rintro e s0 ⟨rfl, b5⟩
  clear HR y0 y1
  have Nr0 := Blk.new' s0 65 [.int .i64 2, .int .i64 0, .int .i64 0, .string ⟨#[]⟩]
  have bnr0 : Below s0.heap.size s0 (s0.alloc (.cells #[.int .i64 2, .int .i64 0, .int .i64 0, .string ⟨#[]⟩] 65)) := (Below.refl _ _).alloc (Nat.le_refl _) _
  obtain ⟨t0, ht0⟩ : ∃ t0, t0 = s0.alloc (.cells #[.int .i64 2, .int .i64 0, .int .i64 0, .string ⟨#[]⟩] 65) := ⟨_, rfl⟩
  rw [← ht0] at Nr0 bnr0
  obtain ⟨rr0, hrr⟩ : ∃ g, g = s0.heap.size := ⟨_, rfl⟩
  rw [← hrr] at Nr0
  have hrg : rr0 ≠ g := by have := (JA.out.1.later b5).gb.lt; omega
  have JB : Hid _ := And.intro (JA.out.1.later (below_then b5 bnr0)) (And.intro (JA.out.2.1.laterB (below_then b5 bnr0)) (And.intro Nr0 (And.intro JA.out.2.2 hrg)))
  clear b5 bnr0 Nr0 hrg JA
  go_upto_region 7 with fail
  rw [← ht0, ← hrr]
  clear ht0 hrr
  have y0 := ck_at JB.out.2.1 0
  have y1 := ck_at JB.out.2.1 1
  simp only [List.getElem?_cons_zero, List.getElem?_cons_succ] at y0 y1
  have z0 := ck_at JB.out.2.2.1 0
  have z1 := ck_at JB.out.2.2.1 1
  have z2 := ck_at JB.out.2.2.1 2
  have z3 := ck_at JB.out.2.2.1 3
  simp only [List.getElem?_cons_zero, List.getElem?_cons_succ] at z0 z1 z2 z3
  have HT : Hid _ := tTakes_1 t0
  go_wp2_with fail
  refine (Calls.mono HT.out) ?_
  rintro e m0 ⟨rfl, b7⟩
  clear HT y0 y1 z0 z1 z2 z3
  have JC : Hid _ := And.intro (JB.out.1.later b7) (And.intro (JB.out.2.1.laterB b7) (And.intro (JB.out.2.2.1.laterB b7) JB.out.2.2.2))
  clear b7 JB
  have y0 := ck_at JC.out.2.1 0
  have y1 := ck_at JC.out.2.1 1
  simp only [List.getElem?_cons_zero, List.getElem?_cons_succ] at y0 y1
  have z0 := ck_at JC.out.2.2.1 0
  have z1 := ck_at JC.out.2.2.1 1
  have z2 := ck_at JC.out.2.2.1 2
  have z3 := ck_at JC.out.2.2.1 3
  simp only [List.getElem?_cons_zero, List.getElem?_cons_succ] at z0 z1 z2 z3
  have HG : Hid _ := tAgree_1 g m0 JC.out.1.gb
  go_wp2_with fail
  refine (Calls.mono HG.out) ?_
  rintro e n0 ⟨rfl, t8, B8⟩
  have JD : Hid _ := And.intro (JC.out.1.turn t8 B8) (JC.out.2.1.turned t8 JC.out.2.2.2.1)
  clear HG t8 B8 JC y0 y1 z0 z1 z2 z3
  have y0 := ck_at JD.out.2 0
  have y1 := ck_at JD.out.2 1
  simp only [List.getElem?_cons_zero, List.getElem?_cons_succ] at y0 y1
  obtain ⟨a0_, c0_, e0, q0, hap, JE0⟩ := JD.out.1.more (⟨#[72, 101, 97, 100, 101, 114, 68, 105, 103, 101, 115, 116]⟩, ⟨#[67, 82, 67, 51, 50, 67]⟩) [.string ⟨#[72, 101, 97, 100, 101, 114, 68, 105, 103, 101, 115, 116]⟩, .string ⟨#[67, 82, 67, 51, 50, 67]⟩] rfl (by decide)
  have J1 : Hid _ := JE0
  have HAP : Hid _ := hap
  clear hap JE0 JD
  go_wp2_with (at_builtin; refine wpList_run_app rfl _ _ 28 28 rfl _ _ rfl rfl HAP.out ?_)
  clear HAP y0 y1
  (try go_wp2_with fail)
  rw [rounds_succ]
  have a0 := ck_at (HA.out e0 J1.out.bel) 0
  have a1 := ck_at (HA.out e0 J1.out.bel) 1
  have a2 := ck_at (HA.out e0 J1.out.bel) 2
  have a3 := ck_at (HA.out e0 J1.out.bel) 3
  have a4 := ck_at (HA.out e0 J1.out.bel) 4
  have a5 := ck_at (HA.out e0 J1.out.bel) 5
  simp only [List.getElem?_cons_zero, List.getElem?_cons_succ] at a0 a1 a2 a3 a4 a5
  have Np1 := Blk.new' e0 59 [.string ⟨#[77, 97, 120, 66, 117, 114, 115, 116, 76, 101, 110, 103, 116, 104]⟩, .string ⟨#[49, 48, 48, 48]⟩]
  have bnp1 : Below e0.heap.size e0 (e0.alloc (.cells #[.string ⟨#[77, 97, 120, 66, 117, 114, 115, 116, 76, 101, 110, 103, 116, 104]⟩, .string ⟨#[49, 48, 48, 48]⟩] 59)) := (Below.refl _ _).alloc (Nat.le_refl _) _
  obtain ⟨u1, hu1⟩ : ∃ u1, u1 = e0.alloc (.cells #[.string ⟨#[77, 97, 120, 66, 117, 114, 115, 116, 76, 101, 110, 103, 116, 104]⟩, .string ⟨#[49, 48, 48, 48]⟩] 59) := ⟨_, rfl⟩
  rw [← hu1] at Np1 bnp1
  obtain ⟨xb1, hxb⟩ : ∃ g, g = e0.heap.size := ⟨_, rfl⟩
  rw [← hxb] at Np1
  have hxg : xb1 ≠ g := by have := J1.out.gb.lt; omega
  have JA : Hid _ := And.intro (J1.out.later bnp1) (And.intro Np1 hxg)
  clear bnp1 Np1 hxg J1
  go_upto_region 6 with fail
  rw [← hu1, ← hxb]
  clear hu1 hxb a0 a1 a2 a3 a4 a5
  have y0 := ck_at JA.out.2.1 0
  have y1 := ck_at JA.out.2.1 1
  simp only [List.getElem?_cons_zero, List.getElem?_cons_succ] at y0 y1
  have HR : Hid _ := trule_MB u1
  go_wp2_with fail
  refine (Calls.mono HR.out) ?_
  rintro e s1 ⟨rfl, b5⟩
  clear HR y0 y1
  have Nr1 := Blk.new' s1 65 [.int .i64 5, .int .i64 512, .int .i64 16777215, .string ⟨#[]⟩]
  have bnr1 : Below s1.heap.size s1 (s1.alloc (.cells #[.int .i64 5, .int .i64 512, .int .i64 16777215, .string ⟨#[]⟩] 65)) := (Below.refl _ _).alloc (Nat.le_refl _) _
  obtain ⟨t1, ht1⟩ : ∃ t1, t1 = s1.alloc (.cells #[.int .i64 5, .int .i64 512, .int .i64 16777215, .string ⟨#[]⟩] 65) := ⟨_, rfl⟩
  rw [← ht1] at Nr1 bnr1
  obtain ⟨rr1, hrr⟩ : ∃ g, g = s1.heap.size := ⟨_, rfl⟩
  rw [← hrr] at Nr1
  have hrg : rr1 ≠ g := by have := (JA.out.1.later b5).gb.lt; omega
  have JB : Hid _ := And.intro (JA.out.1.later (below_then b5 bnr1)) (And.intro (JA.out.2.1.laterB (below_then b5 bnr1)) (And.intro Nr1 (And.intro JA.out.2.2 hrg)))
  clear b5 bnr1 Nr1 hrg JA
  go_upto_region 7 with fail
  rw [← ht1, ← hrr]
  clear ht1 hrr
  have y0 := ck_at JB.out.2.1 0
  have y1 := ck_at JB.out.2.1 1
  simp only [List.getElem?_cons_zero, List.getElem?_cons_succ] at y0 y1
  have z0 := ck_at JB.out.2.2.1 0
  have z1 := ck_at JB.out.2.2.1 1
  have z2 := ck_at JB.out.2.2.1 2
  have z3 := ck_at JB.out.2.2.1 3
  simp only [List.getElem?_cons_zero, List.getElem?_cons_succ] at z0 z1 z2 z3
  have HT : Hid _ := tTakes_2 t1
  go_wp2_with fail
  refine (Calls.mono HT.out) ?_
  rintro e m1 ⟨rfl, b7⟩
  clear HT y0 y1 z0 z1 z2 z3
  have JC : Hid _ := And.intro (JB.out.1.later b7) (And.intro (JB.out.2.1.laterB b7) (And.intro (JB.out.2.2.1.laterB b7) JB.out.2.2.2))
  clear b7 JB
  have y0 := ck_at JC.out.2.1 0
  have y1 := ck_at JC.out.2.1 1
  simp only [List.getElem?_cons_zero, List.getElem?_cons_succ] at y0 y1
  have z0 := ck_at JC.out.2.2.1 0
  have z1 := ck_at JC.out.2.2.1 1
  have z2 := ck_at JC.out.2.2.1 2
  have z3 := ck_at JC.out.2.2.1 3
  simp only [List.getElem?_cons_zero, List.getElem?_cons_succ] at z0 z1 z2 z3
  have HG : Hid _ := tAgree_2 g m1 JC.out.1.gb (fun X tX => HP.out X (JC.out.1.bel.trans (tX.below w.heap.size JC.out.1.bel.size (fun k e => by subst e; exact hgw.out))))
  go_wp2_with fail
  refine (Calls.mono HG.out) ?_
  rintro e n1 ⟨rfl, t8, B8⟩
  have JD : Hid _ := And.intro (JC.out.1.turn t8 B8) (JC.out.2.1.turned t8 JC.out.2.2.2.1)
  clear HG t8 B8 JC y0 y1 z0 z1 z2 z3
  have y0 := ck_at JD.out.2 0
  have y1 := ck_at JD.out.2 1
  simp only [List.getElem?_cons_zero, List.getElem?_cons_succ] at y0 y1
  obtain ⟨a1_, c1_, e1, q1, hap, JE0⟩ := JD.out.1.more (⟨#[77, 97, 120, 66, 117, 114, 115, 116, 76, 101, 110, 103, 116, 104]⟩, ⟨#[49, 48, 48, 48]⟩) [.string ⟨#[77, 97, 120, 66, 117, 114, 115, 116, 76, 101, 110, 103, 116, 104]⟩, .string ⟨#[49, 48, 48, 48]⟩] rfl (by decide)
  have J2 : Hid _ := JE0
  have HAP : Hid _ := hap
  clear hap JE0 JD
  go_wp2_with (at_builtin; refine wpList_run_app rfl _ _ 28 28 rfl _ _ rfl rfl HAP.out ?_)
  clear HAP y0 y1
  (try go_wp2_with fail)
  rw [rounds_succ]
  have a0 := ck_at (HA.out e1 J2.out.bel) 0
  have a1 := ck_at (HA.out e1 J2.out.bel) 1
  have a2 := ck_at (HA.out e1 J2.out.bel) 2
  have a3 := ck_at (HA.out e1 J2.out.bel) 3
  have a4 := ck_at (HA.out e1 J2.out.bel) 4
  have a5 := ck_at (HA.out e1 J2.out.bel) 5
  simp only [List.getElem?_cons_zero, List.getElem?_cons_succ] at a0 a1 a2 a3 a4 a5
  have Np2 := Blk.new' e1 59 [.string ⟨#[88]⟩, .string ⟨#[49]⟩]
  have bnp2 : Below e1.heap.size e1 (e1.alloc (.cells #[.string ⟨#[88]⟩, .string ⟨#[49]⟩] 59)) := (Below.refl _ _).alloc (Nat.le_refl _) _
  obtain ⟨u2, hu2⟩ : ∃ u2, u2 = e1.alloc (.cells #[.string ⟨#[88]⟩, .string ⟨#[49]⟩] 59) := ⟨_, rfl⟩
  rw [← hu2] at Np2 bnp2
  obtain ⟨xb2, hxb⟩ : ∃ g, g = e1.heap.size := ⟨_, rfl⟩
  rw [← hxb] at Np2
  have hxg : xb2 ≠ g := by have := J2.out.gb.lt; omega
  have JA : Hid _ := And.intro (J2.out.later bnp2) (And.intro Np2 hxg)
  clear bnp2 Np2 hxg J2
  go_upto_region 6 with fail
  rw [← hu2, ← hxb]
  clear hu2 hxb a0 a1 a2 a3 a4 a5
  have y0 := ck_at JA.out.2.1 0
  have y1 := ck_at JA.out.2.1 1
  simp only [List.getElem?_cons_zero, List.getElem?_cons_succ] at y0 y1
  have HR : Hid _ := trule_X u2
  go_wp2_with fail
  refine (Calls.mono HR.out) ?_
  rintro e s2 ⟨rfl, b5⟩
  clear HR y0 y1
  have Nr2 := Blk.new' s2 65 [.int .i64 0, .int .i64 0, .int .i64 0, .string ⟨#[]⟩]
  have bnr2 : Below s2.heap.size s2 (s2.alloc (.cells #[.int .i64 0, .int .i64 0, .int .i64 0, .string ⟨#[]⟩] 65)) := (Below.refl _ _).alloc (Nat.le_refl _) _
  obtain ⟨t2, ht2⟩ : ∃ t2, t2 = s2.alloc (.cells #[.int .i64 0, .int .i64 0, .int .i64 0, .string ⟨#[]⟩] 65) := ⟨_, rfl⟩
  rw [← ht2] at Nr2 bnr2
  obtain ⟨rr2, hrr⟩ : ∃ g, g = s2.heap.size := ⟨_, rfl⟩
  rw [← hrr] at Nr2
  have hrg : rr2 ≠ g := by have := (JA.out.1.later b5).gb.lt; omega
  have JB : Hid _ := And.intro (JA.out.1.later (below_then b5 bnr2)) (And.intro (JA.out.2.1.laterB (below_then b5 bnr2)) (And.intro Nr2 (And.intro JA.out.2.2 hrg)))
  clear b5 bnr2 Nr2 hrg JA
  go_upto_region 7 with fail
  rw [← ht2, ← hrr]
  clear ht2 hrr
  have y0 := ck_at JB.out.2.1 0
  have y1 := ck_at JB.out.2.1 1
  simp only [List.getElem?_cons_zero, List.getElem?_cons_succ] at y0 y1
  have z0 := ck_at JB.out.2.2.1 0
  have z1 := ck_at JB.out.2.2.1 1
  have z2 := ck_at JB.out.2.2.1 2
  have z3 := ck_at JB.out.2.2.1 3
  simp only [List.getElem?_cons_zero, List.getElem?_cons_succ] at z0 z1 z2 z3
  have JD : Hid _ := And.intro JB.out.1 JB.out.2.1
  clear JB z0 z1 z2 z3
  obtain ⟨a2_, c2_, e2, q2, hap, JE0⟩ := JD.out.1.more (⟨#[88]⟩, ⟨#[78, 111, 116, 85, 110, 100, 101, 114, 115, 116, 111, 111, 100]⟩) [.string ⟨#[88]⟩, .string ⟨#[78, 111, 116, 85, 110, 100, 101, 114, 115, 116, 111, 111, 100]⟩] rfl (by decide)
  have J3 : Hid _ := JE0
  have HAP : Hid _ := hap
  clear hap JE0 JD
  go_wp2_with (at_builtin; refine wpList_run_app rfl _ _ 28 28 rfl _ _ rfl rfl HAP.out ?_)
  clear HAP y0 y1
  (try go_wp2_with fail)
  rw [rounds_succ]
  have z0 := ck_at J3.out.gb 0
  have z1 := ck_at J3.out.gb 1
  have z2 := ck_at J3.out.gb 2
  have z3 := ck_at J3.out.gb 3
  have z4 := ck_at J3.out.gb 4
  have z5 := ck_at J3.out.gb 5
  have z6 := ck_at J3.out.gb 6
  have z7 := ck_at J3.out.gb 7
  have z8 := ck_at J3.out.gb 8
  have z9 := ck_at J3.out.gb 9
  have z10 := ck_at J3.out.gb 10
  simp only [List.getElem?_cons_zero, List.getElem?_cons_succ] at z0 z1 z2 z3 z4 z5 z6 z7 z8 z9 z10
  have f5 := ck_fz J3.out.gb 5
  have S5 := J3.out.gb.set 5 (.int .i64 1000)
  simp only [List.set_cons_zero, List.set_cons_succ] at S5
  have K5 := J3.out.turn (turned_set e2 g 5 (.int .i64 1000)) S5
  obtain ⟨w9, hw9⟩ : ∃ y, y = e2.setCell ⟨g, 5, none⟩ (.int .i64 1000) := ⟨_, rfl⟩
  rw [← hw9] at K5
  have J9 : Hid _ := K5
  clear S5 K5 J3
  go_upto_region 16 with fail
  rw [show min (65536 : Int) 1000 = 1000 from rfl, ← hw9]
  clear hw9 f5 z0 z1 z2 z3 z4 z5 z6 z7 z8 z9 z10
  obtain ⟨w10, st, B10, g10⟩ := storeW (T := 50) (vs := [.bool true, .bool false, .int .i64 8192, .int .i64 8192, .int .i64 1000, .int .i64 1000, .bool true, .bool true, .bool false, .string ⟨#[]⟩, .string ⟨#[]⟩]) size_pa (J9.out.rb.laterB (Below.refl w9.heap.size w9).drew) rfl (fun u hu => by simp at hu; rcases hu with rfl | rfl | rfl | rfl | rfl | rfl | rfl | rfl | rfl | rfl | rfl <;> rfl)
  have F10 : Hid _ := And.intro B10 (And.intro (GSl.turned (J9.out.sl.later (Below.refl w9.heap.size w9).drew) (turned_grown g10 (fun k e => by cases e; exact (rfl : r = r)) : Turned (fun k => k = r) _ _) (fun k hk e => (J9.out.far k hk).2.1 e)) (bel_grown (below_then J9.out.bel (Below.refl w9.heap.size w9).drew) g10 J9.out.rl))
  clear B10 g10
  refine f_begin (S := fun W => Blk W g 50 [.bool true, .bool false, .int .i64 8192, .int .i64 8192, .int .i64 1000, .int .i64 1000, .bool true, .bool true, .bool false, .string ⟨#[]⟩, .string ⟨#[]⟩]) [3, 4] (by kernel_rfl) (J9.out.gb.laterB (Below.refl w9.heap.size w9).drew) (fun hS => ?_)
  refine f_take (i := 0) (v := ?_) [2, 3, 4] rfl (by kernel_rfl) (by kernel_rfl) (by kernel_rfl) (by kernel_rfl) (by exact fun _ _ _ h => h) (by rfl) ?_ hS ?_
  rotate_left
  · ((intro W hSw; clear hSw; go_simp) <;> with_reducible rfl)
  (try simp only [Act.put, List.setIfInBounds_toArray, List.set_cons_zero, List.set_cons_succ])
  refine f_take (i := 1) (v := ?_) [3, 4] rfl (by kernel_rfl) (by kernel_rfl) (by kernel_rfl) (by kernel_rfl) (by exact fun _ _ _ h => h) (by rfl) ?_ hS ?_
  rotate_left
  · ((intro W hSw; have q0 := ck_at hSw 0; have q1 := ck_at hSw 1; have q2 := ck_at hSw 2; have q3 := ck_at hSw 3; have q4 := ck_at hSw 4; have q5 := ck_at hSw 5; have q6 := ck_at hSw 6; have q7 := ck_at hSw 7; have q8 := ck_at hSw 8; have q9 := ck_at hSw 9; have q10 := ck_at hSw 10; simp only [List.getElem?_cons_zero, List.getElem?_cons_succ] at q0 q1 q2 q3 q4 q5 q6 q7 q8 q9 q10; go_simp) <;> with_reducible rfl)
  (try simp only [Act.put, List.setIfInBounds_toArray, List.set_cons_zero, List.set_cons_succ])
  refine f_take (i := 2) (v := ?_) [3, 4] rfl (by kernel_rfl) (by kernel_rfl) (by kernel_rfl) (by kernel_rfl) (by exact fun _ _ _ h => h) (by rfl) ?_ hS ?_
  rotate_left
  · ((intro W hSw; clear hSw; go_simp) <;> with_reducible rfl)
  (try simp only [Act.put, List.setIfInBounds_toArray, List.set_cons_zero, List.set_cons_succ])
  clear hS
  refine f_last (i := 3) rfl (by simp) (by kernel_rfl) (fun K hK => ?_)
  unfold Oper.wp
  rw [exec_store rfl rfl rfl st]
  refine hK.out _ _ ?_
  clear hK K st
  refine f_last (i := 4) rfl (by simp) (by kernel_rfl) (fun K hK => ?_)
  go_simp
  refine hK.out _ _ ?_
  clear hK K
  refine f_done (by kernel_rfl) ?_ _
  have z0 := ck_at F10.out.1 0
  have z1 := ck_at F10.out.1 1
  have z2 := ck_at F10.out.1 2
  have z3 := ck_at F10.out.1 3
  have z4 := ck_at F10.out.1 4
  have z5 := ck_at F10.out.1 5
  have z6 := ck_at F10.out.1 6
  have z7 := ck_at F10.out.1 7
  have z8 := ck_at F10.out.1 8
  have z9 := ck_at F10.out.1 9
  have z10 := ck_at F10.out.1 10
  simp only [List.getElem?_cons_zero, List.getElem?_cons_succ] at z0 z1 z2 z3 z4 z5 z6 z7 z8 z9 z10
  go_wp2
  refine bodyPost_ret (v := .tuple #[_, .agg #[.bool true, .bool false, .int .i64 8192, .int .i64 8192, .int .i64 1000, .int .i64 1000, .bool true, .bool true, .bool false, .string ⟨#[]⟩, .string ⟨#[]⟩], .int .i64 0]) (by simp [results, Tryd.results27, go_sem, z0, z1, z2, z3, z4, z5, z6, z7, z8, z9, z10]; rfl) rfl ?_
  exact ⟨_, _, rfl, F10.out.2.1, F10.out.2.2⟩
end Go.Proofs.YtligmiajlbjecaaDoor

/- text: known of caissonlaw18. -/
namespace Go.Proofs.YtligmiajlbjecaaDoor
open Go.RowKit
set_option linter.unusedVariables false
set_option linter.unusedSimpArgs false
set_option maxRecDepth 8000

set_option maxHeartbeats 8000000 in
theorem known18_any (w : World) (hP : PowT w) : Calls Tryd.prog 19 #[] w fun e w' => e = .returned (.bool true) ∧ Below w.heap.size w w' := by
  have HD : Hid _ := tdefault w
  have HP : Hid _ := hP
  clear hP
  go_enter Tryd.func19, Tryd.ntmps19
  go_wp2_with fail
  refine (Calls.mono HD.out) ?_
  rintro e w1 ⟨rfl, b1⟩
  clear HD
  have N2 := Blk.new' w1 59 [.string ⟨#[72, 101, 97, 100, 101, 114, 68, 105, 103, 101, 115, 116]⟩, .string ⟨#[67, 82, 67, 51, 50, 67, 44, 78, 111, 110, 101]⟩, .string ⟨#[77, 97, 120, 66, 117, 114, 115, 116, 76, 101, 110, 103, 116, 104]⟩, .string ⟨#[49, 48, 48, 48]⟩, .string ⟨#[88]⟩, .string ⟨#[49]⟩]
  have bn2 : Below w1.heap.size w1 (w1.alloc (.cells #[.string ⟨#[72, 101, 97, 100, 101, 114, 68, 105, 103, 101, 115, 116]⟩, .string ⟨#[67, 82, 67, 51, 50, 67, 44, 78, 111, 110, 101]⟩, .string ⟨#[77, 97, 120, 66, 117, 114, 115, 116, 76, 101, 110, 103, 116, 104]⟩, .string ⟨#[49, 48, 48, 48]⟩, .string ⟨#[88]⟩, .string ⟨#[49]⟩] 59)) := (Below.refl _ _).alloc (Nat.le_refl _) _
  obtain ⟨w2, hw2⟩ : ∃ w2, w2 = w1.alloc (.cells #[.string ⟨#[72, 101, 97, 100, 101, 114, 68, 105, 103, 101, 115, 116]⟩, .string ⟨#[67, 82, 67, 51, 50, 67, 44, 78, 111, 110, 101]⟩, .string ⟨#[77, 97, 120, 66, 117, 114, 115, 116, 76, 101, 110, 103, 116, 104]⟩, .string ⟨#[49, 48, 48, 48]⟩, .string ⟨#[88]⟩, .string ⟨#[49]⟩] 59) := ⟨_, rfl⟩
  rw [← hw2] at N2 bn2
  obtain ⟨pb, hpb⟩ : ∃ g, g = w1.heap.size := ⟨_, rfl⟩
  rw [← hpb] at N2
  have HK : Hid _ := tTalk pb w2 N2 (PowT.later (w := w) HP.out (below_then b1 bn2))
  have F2 : Hid _ := below_then b1 bn2
  clear b1 bn2 N2
  go_wp2_with fail
  rw [← hw2, ← hpb]
  clear hw2 hpb
  refine (Calls.mono HK.out) ?_
  rintro e w3 ⟨v, q, rfl, G, b3⟩
  clear HK
  obtain ⟨a, c, rfl, hlc, -, hcell⟩ := GSl.cell kPr_ok G
  obtain ⟨bb, off, rfl, -, h0⟩ := hcell 0 (by decide)
  obtain ⟨b1', o1', e1, -, h1⟩ := hcell 1 (by decide)
  obtain ⟨b2', o2', e2, -, h2⟩ := hcell 2 (by decide)
  simp only [Option.some.injEq, Addr.mk.injEq, and_true] at e1 e2
  obtain ⟨rfl, rfl⟩ := e1
  obtain ⟨rfl, rfl⟩ := e2
  have c1 := h0 1 (by decide)
  have c3 := h1 1 (by decide)
  have c5 := h2 1 (by decide)
  have c1' : w3.cell? ⟨bb, off + 1, none⟩ = some (.string ⟨#[67, 82, 67, 51, 50, 67]⟩) := c1
  have c3' : w3.cell? ⟨bb, off + 3, none⟩ = some (.string ⟨#[49, 48, 48, 48]⟩) := c3
  have c5' : w3.cell? ⟨bb, off + 5, none⟩ = some (.string ⟨#[78, 111, 116, 85, 110, 100, 101, 114, 115, 116, 111, 111, 100]⟩) := c5
  clear c1 c3 c5 h0 h1 h2 hcell G
  have N4 := Blk.new' w3 50 [.bool true, .bool false, .int .i64 8192, .int .i64 8192, .int .i64 1000, .int .i64 1000, .bool true, .bool true, .bool false, .string ⟨#[]⟩, .string ⟨#[]⟩]
  have bn4 : Below w3.heap.size w3 (w3.alloc (.cells #[.bool true, .bool false, .int .i64 8192, .int .i64 8192, .int .i64 1000, .int .i64 1000, .bool true, .bool true, .bool false, .string ⟨#[]⟩, .string ⟨#[]⟩] 50)) := (Below.refl _ _).alloc (Nat.le_refl _) _
  obtain ⟨w4, hw4⟩ : ∃ w4, w4 = w3.alloc (.cells #[.bool true, .bool false, .int .i64 8192, .int .i64 8192, .int .i64 1000, .int .i64 1000, .bool true, .bool true, .bool false, .string ⟨#[]⟩, .string ⟨#[]⟩] 50) := ⟨_, rfl⟩
  rw [← hw4] at N4 bn4
  obtain ⟨gb, hgb⟩ : ∃ g, g = w3.heap.size := ⟨_, rfl⟩
  rw [← hgb] at N4
  have d1 := ck_later c1' bn4
  have d3 := ck_later c3' bn4
  have d5 := ck_later c5' bn4
  have z0 := ck_at N4 0
  have z1 := ck_at N4 1
  have z2 := ck_at N4 2
  have z3 := ck_at N4 3
  have z4 := ck_at N4 4
  have z5 := ck_at N4 5
  have z6 := ck_at N4 6
  have z7 := ck_at N4 7
  have z8 := ck_at N4 8
  have z9 := ck_at N4 9
  have z10 := ck_at N4 10
  simp only [List.getElem?_cons_zero, List.getElem?_cons_succ] at z0 z1 z2 z3 z4 z5 z6 z7 z8 z9 z10
  have F4 : Hid _ := below_then F2.out (below_then b3 bn4)
  clear c1' c3' c5' b3 bn4 N4 F2
  have hlc' : (3 : Int) ≤ (c : Int) := by have : (3 : Nat) ≤ c := hlc; omega
  go_upto_region 2 with fail
  rw [← hw4, ← hgb]
  clear hw4 hgb
  go_wp2
  go_ret
  exact ⟨rfl, F4.out⟩
end Go.Proofs.YtligmiajlbjecaaDoor
