/- text: Talk of any pairs. -/
import Derived.Test.YtligmiajlbjecaaDoorXTy4
namespace Go.Proofs.YtligmiajlbjecaaDoor
open Go.RowKit
set_option linter.unusedVariables false
set_option linter.unusedSimpArgs false
set_option maxRecDepth 8000

theorem tkN_step {l : List Pr} {k : Nat} (h : k < l.length) (now : Pm18) (out : List Pr) {y : Pm18 × List Pr} (h1 : oneM now out l[k] = some y) : tkN (l.drop k) now out = tkN (l.drop (k + 1)) y.1 y.2 := by
  rw [List.drop_eq_getElem_cons h, tkN, h1]; rfl
theorem tkN_stop {l : List Pr} {k : Nat} (h : k < l.length) (now : Pm18) (out : List Pr) (h1 : oneM now out l[k] = none) : tkN (l.drop k) now out = none := by
  rw [List.drop_eq_getElem_cons h, tkN, h1]; rfl
theorem one_unk {x : Pr} (now : Pm18) (out : List Pr) (h : keyIx x.1 = 21) : oneM now out x = some (now, out ++ [(x.1, unkS)]) := by
  unfold oneM; rw [if_pos h]
theorem one_no {x : Pr} (now : Pm18) (out : List Pr) (h : ¬ keyIx x.1 = 21) (ht : takesM (rlI (keyIx x.1)) x.2 = false) : oneM now out x = none := by
  unfold oneM; rw [if_neg h, ht]; rfl
theorem one_yes {x : Pr} (now : Pm18) (out : List Pr) (h : ¬ keyIx x.1 = 21) (ht : takesM (rlI (keyIx x.1)) x.2 = true) {p' : Pm18} {d : ByteArray} {t : Bool} (ha : agM (keyIx x.1) (rlI (keyIx x.1)).an now x.2 = (p', d, t)) : oneM now out x = some (p', if t then out ++ [(x.1, d)] else out) := by
  unfold oneM; rw [if_neg h, ht, if_pos rfl, ha]
set_option maxHeartbeats 16000000 in
theorem tTalk_any (p : Pm18) (a : Option Addr) (c : Nat) (l : List Pr) (w : World) (hA : GAt kPr w (.slice a l.length c) l) (hl : l.length ≤ 100) (hs : ∀ x ∈ l, x.2.size ≤ 9223372036854775807) (hP : PowT w) :
    Calls Tryd.prog 27 #[.agg #[.bool p.hs, .bool p.ds, .int .i64 p.mo, .int .i64 p.mi, .int .i64 p.bu, .int .i64 p.fi, .bool p.a, .bool p.imd, .bool p.di, .string p.ini, .string p.tgt], .slice a l.length c] w fun e w' => ∃ v, e = .returned (.tuple #[v, .agg (talkM p l).2.1.c.toArray, .int .i64 (talkM p l).2.2]) ∧ PrI kPr w w' v (talkM p l).1 := by
  obtain ⟨nl, hnl⟩ : ∃ nl, nl = l.length := ⟨_, rfl⟩
  rw [← hnl] at hl ⊢
  have HNL : Hid _ := hnl
  have N1 := Blk.new' w 50 [.bool p.hs, .bool p.ds, .int .i64 p.mo, .int .i64 p.mi, .int .i64 p.bu, .int .i64 p.fi, .bool p.a, .bool p.imd, .bool p.di, .string p.ini, .string p.tgt]
  have bn1 : Below w.heap.size w (w.alloc (.cells #[.bool p.hs, .bool p.ds, .int .i64 p.mo, .int .i64 p.mi, .int .i64 p.bu, .int .i64 p.fi, .bool p.a, .bool p.imd, .bool p.di, .string p.ini, .string p.tgt] 50)) := (Below.refl _ _).alloc (Nat.le_refl _) _
  obtain ⟨w1, hw1⟩ : ∃ w1, w1 = w.alloc (.cells #[.bool p.hs, .bool p.ds, .int .i64 p.mo, .int .i64 p.mi, .int .i64 p.bu, .int .i64 p.fi, .bool p.a, .bool p.imd, .bool p.di, .string p.ini, .string p.tgt] 50) := ⟨_, rfl⟩
  rw [← hw1] at N1 bn1
  have N2 := Blk.new' w1 50 [.bool false, .bool false, .int .i64 0, .int .i64 0, .int .i64 0, .int .i64 0, .bool false, .bool false, .bool false, .string ⟨#[]⟩, .string ⟨#[]⟩]
  have bn2 : Below w1.heap.size w1 (w1.alloc (.cells #[.bool false, .bool false, .int .i64 0, .int .i64 0, .int .i64 0, .int .i64 0, .bool false, .bool false, .bool false, .string ⟨#[]⟩, .string ⟨#[]⟩] 50)) := (Below.refl _ _).alloc (Nat.le_refl _) _
  obtain ⟨w2, hw2⟩ : ∃ w2, w2 = w1.alloc (.cells #[.bool false, .bool false, .int .i64 0, .int .i64 0, .int .i64 0, .int .i64 0, .bool false, .bool false, .bool false, .string ⟨#[]⟩, .string ⟨#[]⟩] 50) := ⟨_, rfl⟩
  rw [← hw2] at N2 bn2
  have N3 := Blk.new' w2 50 [.bool p.hs, .bool p.ds, .int .i64 p.mo, .int .i64 p.mi, .int .i64 p.bu, .int .i64 p.fi, .bool p.a, .bool p.imd, .bool p.di, .string p.ini, .string p.tgt]
  have bn3 : Below w2.heap.size w2 (w2.alloc (.cells #[.bool p.hs, .bool p.ds, .int .i64 p.mo, .int .i64 p.mi, .int .i64 p.bu, .int .i64 p.fi, .bool p.a, .bool p.imd, .bool p.di, .string p.ini, .string p.tgt] 50)) := (Below.refl _ _).alloc (Nat.le_refl _) _
  obtain ⟨w3, hw3⟩ : ∃ w3, w3 = w2.alloc (.cells #[.bool p.hs, .bool p.ds, .int .i64 p.mo, .int .i64 p.mi, .int .i64 p.bu, .int .i64 p.fi, .bool p.a, .bool p.imd, .bool p.di, .string p.ini, .string p.tgt] 50) := ⟨_, rfl⟩
  rw [← hw3] at N3 bn3
  have z1 : w1.heap.size = w.heap.size + 1 := by rw [hw1]; simp
  have z2 : w2.heap.size = w.heap.size + 2 := by rw [hw2]; simp [z1]
  obtain ⟨p0, hp0⟩ : ∃ g, g = w.heap.size := ⟨_, rfl⟩
  obtain ⟨r, hr⟩ : ∃ g, g = w.heap.size + 1 := ⟨_, rfl⟩
  obtain ⟨g, hg⟩ : ∃ g, g = w2.heap.size := ⟨_, rfl⟩
  have hgz : g = w.heap.size + 2 := hg.trans z2
  rw [z1, ← hr] at N2
  rw [← hg] at N3
  have J0 : Hid _ := (TkI.mk (below_then bn2 bn3) N3 (N2.laterB bn3) (by omega) (by omega) (by omega) (GSl.nil kPr _) (fun k hk => by cases hk) : TkI w1 w3 g r p.c (.slice none 0 0) none [])
  have HP0 : Hid (∀ X, Below w1.heap.size w1 X → Blk X p0 50 p.c) := (fun X bX => by rw [hp0]; exact Blk.laterB N1 bX : ∀ X, Below w1.heap.size w1 X → Blk X p0 50 p.c)
  have HPG : Hid _ := And.intro (show p0 ≠ r by omega) bn1
  have HA : Hid _ := And.intro (gat_later bn1 hA) hs
  have HP : Hid (∀ X, Below w1.heap.size w1 X → PowT X) := fun X bX => hP.later (below_then bn1 bX)
  have y0 := ck_at N1 0
  have y1 := ck_at N1 1
  have y2 := ck_at N1 2
  have y3 := ck_at N1 3
  have y4 := ck_at N1 4
  have y5 := ck_at N1 5
  have y6 := ck_at N1 6
  have y7 := ck_at N1 7
  have y8 := ck_at N1 8
  have y9 := ck_at N1 9
  have y10 := ck_at N1 10
  simp only [List.getElem?_cons_zero, List.getElem?_cons_succ] at y0 y1 y2 y3 y4 y5 y6 y7 y8 y9 y10
  clear bn1 bn2 bn3 N1 N2 N3 hA hP hs z1 z2 hnl
  go_enter Tryd.func27, Tryd.ntmps27
  go_upto_region 1 with fail
  rw [← hw1, ← hw2]
  clear hw1
  have v0 := ck_later y0 (show Below w1.heap.size w1 w2 by rw [hw2]; exact (Below.refl _ _).alloc (Nat.le_refl _) _)
  have v1 := ck_later y1 (show Below w1.heap.size w1 w2 by rw [hw2]; exact (Below.refl _ _).alloc (Nat.le_refl _) _)
  have v2 := ck_later y2 (show Below w1.heap.size w1 w2 by rw [hw2]; exact (Below.refl _ _).alloc (Nat.le_refl _) _)
  have v3 := ck_later y3 (show Below w1.heap.size w1 w2 by rw [hw2]; exact (Below.refl _ _).alloc (Nat.le_refl _) _)
  have v4 := ck_later y4 (show Below w1.heap.size w1 w2 by rw [hw2]; exact (Below.refl _ _).alloc (Nat.le_refl _) _)
  have v5 := ck_later y5 (show Below w1.heap.size w1 w2 by rw [hw2]; exact (Below.refl _ _).alloc (Nat.le_refl _) _)
  have v6 := ck_later y6 (show Below w1.heap.size w1 w2 by rw [hw2]; exact (Below.refl _ _).alloc (Nat.le_refl _) _)
  have v7 := ck_later y7 (show Below w1.heap.size w1 w2 by rw [hw2]; exact (Below.refl _ _).alloc (Nat.le_refl _) _)
  have v8 := ck_later y8 (show Below w1.heap.size w1 w2 by rw [hw2]; exact (Below.refl _ _).alloc (Nat.le_refl _) _)
  have v9 := ck_later y9 (show Below w1.heap.size w1 w2 by rw [hw2]; exact (Below.refl _ _).alloc (Nat.le_refl _) _)
  have v10 := ck_later y10 (show Below w1.heap.size w1 w2 by rw [hw2]; exact (Below.refl _ _).alloc (Nat.le_refl _) _)
  clear hw2 y0 y1 y2 y3 y4 y5 y6 y7 y8 y9 y10
  go_upto_region 2 with fail
  rw [← hw3]
  rw [← hg, ← hr, ← hp0]
  clear hw3 v0 v1 v2 v3 v4 v5 v6 v7 v8 v9 v10
  clear hg hr hp0 hgz
  go_wp2_with fail
  go_loopw [8, 18] (fun vv iv wr => ∃ (k : Nat) (now : Pm18) (out : List Pr) (q : Option Nat), iv = .int .i64 (k : Int) ∧ k ≤ l.length ∧ TkI w1 wr g r now.c vv q out ∧ tkN (l.drop k) now out = tkN l p [] ∧ out.length ≤ k) (fun _ iv _ => l.length - (intOf iv).toNat)
  case atStart => exact ⟨0, p, [], none, rfl, Nat.zero_le _, J0.out, rfl, Nat.le_refl _⟩
  case round =>
    obtain ⟨k, now, out, q, rfl, hk, hJ, hT, hol⟩ := hrel
    clear J0
    obtain ⟨av, cv, rfl, hac, -, -⟩ := hJ.sl.cell kPr_ok
    have hnl := HNL.out
    by_cases hlt : k < l.length
    · have q1 : (k : Int) < (nl : Int) := by omega
      have q1n : k < nl := by omega
      have w5 : IntKind.i64.wrap ((k : Int) + 1) = (k : Int) + 1 := by rw [IntKind.wrap_i64]; omega
      obtain ⟨b, off, rfl, hc⟩ := (HA.out.1).each kPr_ok k hlt
      have hc0 := hc 0 (by simp [kPr])
      have hc1 := hc 1 (by simp [kPr])
      simp only [kPr, List.getElem?_cons_zero, List.getElem?_cons_succ, Nat.add_zero] at hc0 hc1
      have hst := fun y h1 => tkN_step (l := l) (k := k) hlt now out (y := y) h1
      have hsp := fun h1 => tkN_stop (l := l) (k := k) hlt now out h1
      have hsv := HA.out.2 _ (List.getElem_mem hlt)
      generalize l[k] = x at *
      obtain ⟨xk, xv⟩ := x
      simp only at hc0 hc1 hsv
      have a0 := rcell hJ.bel hc0
      have a1 := rcell hJ.bel hc1
      have HS : Hid _ := And.intro hst (And.intro hsp (And.intro hsv (And.intro hT (And.intro hol hlt))))
      clear hst hsp hsv hT hol hc hc0 hc1 hnl hk hlt hac
      have Np := Blk.new' wr 59 [.string xk, .string xv]
      have bnp : Below wr.heap.size wr (wr.alloc (.cells #[.string xk, .string xv] 59)) := (Below.refl _ _).alloc (Nat.le_refl _) _
      obtain ⟨u, hu⟩ : ∃ u, u = wr.alloc (.cells #[.string xk, .string xv] 59) := ⟨_, rfl⟩
      rw [← hu] at Np bnp
      obtain ⟨xb, hxb⟩ : ∃ g, g = wr.heap.size := ⟨_, rfl⟩
      rw [← hxb] at Np
      have hxg : xb ≠ g := by have := hJ.gb.lt; omega
      have JA : Hid _ := And.intro (hJ.later bnp) (And.intro Np hxg)
      clear bnp Np hxg hJ
      go_upto_region 6 with fail
      rw [← hu, ← hxb]
      clear hu hxb a0 a1
      have y0 := ck_at JA.out.2.1 0
      have y1 := ck_at JA.out.2.1 1
      simp only [List.getElem?_cons_zero, List.getElem?_cons_succ] at y0 y1
      have HKF := kf_any xk
      have HR0 := tRule_any xk u
      have hun := fun now out h => one_unk (x := (xk, xv)) now out h
      have hno := fun now out h1 h2 => one_no (x := (xk, xv)) now out h1 h2
      have hye := fun now out h1 h2 p' d t ha => one_yes (x := (xk, xv)) now out h1 h2 (p' := p') (d := d) (t := t) ha
      simp only at hun hno hye
      have HT0 := fun h W => tTakes_any (keyIx xk) h xv W
      have HG0 := fun h now (W : World) hB hP => tAg_any (keyIx xk) h g (rlI (keyIx xk)).f (rlI (keyIx xk)).lo (rlI (keyIx xk)).hi (rlI (keyIx xk)).an now xk xv W HKF.1 hB hP HS.out.2.2.1
      generalize keyIx xk = ix at *
      have hRf : (rlI ix).c = [.int .i64 (rlI ix).f, .int .i64 (rlI ix).lo, .int .i64 (rlI ix).hi, .string (rlI ix).an] := rfl
      rw [hRf] at HR0
      simp only [hRf] at HT0
      clear hRf
      generalize hR : rlI ix = R at *
      obtain ⟨f, lo, hi, an⟩ := R
      simp only at HR0 HT0 HG0 hno hye
      have HL : Hid _ := And.intro HKF.2 hR
      clear HKF hR
      by_cases h21 : ix = 21
      · have h1 := hun now out h21
        rw [show decide (ix < 21) = false from decide_eq_false (by omega)] at HR0
        have HR : Hid _ := HR0
        clear HR0
        go_wp2_with fail
        refine (Calls.mono HR.out) ?_
        rintro e s ⟨rfl, b5⟩
        clear HR y0 y1
        have Nr := Blk.new' s 65 [.int .i64 f, .int .i64 lo, .int .i64 hi, .string an]
        have bnr : Below s.heap.size s (s.alloc (.cells #[.int .i64 f, .int .i64 lo, .int .i64 hi, .string an] 65)) := (Below.refl _ _).alloc (Nat.le_refl _) _
        obtain ⟨t, ht⟩ : ∃ t, t = s.alloc (.cells #[.int .i64 f, .int .i64 lo, .int .i64 hi, .string an] 65) := ⟨_, rfl⟩
        rw [← ht] at Nr bnr
        obtain ⟨rr, hrr⟩ : ∃ g, g = s.heap.size := ⟨_, rfl⟩
        rw [← hrr] at Nr
        have hrg : rr ≠ g := by have := (JA.out.1.later b5).gb.lt; omega
        have JB : Hid _ := And.intro (JA.out.1.later (below_then b5 bnr)) (And.intro (JA.out.2.1.laterB (below_then b5 bnr)) (And.intro Nr (And.intro JA.out.2.2 hrg)))
        clear b5 bnr Nr hrg JA
        go_upto_region 7 with fail
        rw [← ht, ← hrr]
        clear ht hrr
        have y0 := ck_at JB.out.2.1 0
        have y1 := ck_at JB.out.2.1 1
        simp only [List.getElem?_cons_zero, List.getElem?_cons_succ] at y0 y1
        obtain ⟨a9, c9, w9, q9, hap, J9⟩ := (JB.out.1).more (xk, unkS) [.string xk, .string unkS] rfl (by have := HS.out.2.2.2.2.1; have := HS.out.2.2.2.2.2; have := HNL.out; omega)
        have F : Hid _ := And.intro (show k + 1 ≤ l.length by have := HS.out.2.2.2.2.2; omega) (And.intro J9 (And.intro ((HS.out.1 _ h1).symm.trans HS.out.2.2.2.1) (show (out ++ [(xk, unkS)]).length ≤ k + 1 by have := HS.out.2.2.2.2.1; simp; omega)))
        clear J9 HS HL h1 JB HT0 HG0 hun hno hye h21
        go_wp2_with (at_builtin; refine wpList_run_app rfl _ _ 28 28 rfl _ _ rfl rfl hap ?_)
        (try go_wp2_with fail)
        go_roundw
        case rel => exact ⟨k + 1, _, _, _, by first | rfl | trivial | go_num, F.out.1, F.out.2.1, F.out.2.2.1, F.out.2.2.2⟩
        case measure => have := F.out.1; simp [intOf]; omega
      · rw [show decide (ix < 21) = true from decide_eq_true (by have := HL.out.1; omega)] at HR0
        have HR : Hid _ := HR0
        clear HR0
        go_wp2_with fail
        refine (Calls.mono HR.out) ?_
        rintro e s ⟨rfl, b5⟩
        clear HR y0 y1
        have Nr := Blk.new' s 65 [.int .i64 f, .int .i64 lo, .int .i64 hi, .string an]
        have bnr : Below s.heap.size s (s.alloc (.cells #[.int .i64 f, .int .i64 lo, .int .i64 hi, .string an] 65)) := (Below.refl _ _).alloc (Nat.le_refl _) _
        obtain ⟨t, ht⟩ : ∃ t, t = s.alloc (.cells #[.int .i64 f, .int .i64 lo, .int .i64 hi, .string an] 65) := ⟨_, rfl⟩
        rw [← ht] at Nr bnr
        obtain ⟨rr, hrr⟩ : ∃ g, g = s.heap.size := ⟨_, rfl⟩
        rw [← hrr] at Nr
        have hrg : rr ≠ g := by have := (JA.out.1.later b5).gb.lt; omega
        have JB : Hid _ := And.intro (JA.out.1.later (below_then b5 bnr)) (And.intro (JA.out.2.1.laterB (below_then b5 bnr)) (And.intro Nr (And.intro JA.out.2.2 hrg)))
        clear b5 bnr Nr hrg JA
        go_upto_region 7 with fail
        rw [← ht, ← hrr]
        clear ht hrr
        have y0 := ck_at JB.out.2.1 0
        have y1 := ck_at JB.out.2.1 1
        simp only [List.getElem?_cons_zero, List.getElem?_cons_succ] at y0 y1
        have z0 := ck_at JB.out.2.2.1 0
        have z1 := ck_at JB.out.2.2.1 1
        have z2 := ck_at JB.out.2.2.1 2
        have z3 := ck_at JB.out.2.2.1 3
        simp only [List.getElem?_cons_zero, List.getElem?_cons_succ] at z0 z1 z2 z3
        have HTt : Hid _ := HT0 HL.out.1 t
        clear HT0 hun
        obtain ⟨tb, htb⟩ : ∃ b, b = takesM ⟨f, lo, hi, an⟩ xv := ⟨_, rfl⟩
        rw [← htb] at HTt hno hye
        clear htb
        go_wp2_with fail
        refine (Calls.mono HTt.out) ?_
        rintro e m ⟨rfl, b7⟩
        clear HTt y0 y1 z0 z1 z2 z3
        have JC : Hid _ := And.intro (JB.out.1.later b7) (And.intro (JB.out.2.1.laterB b7) (And.intro (JB.out.2.2.1.laterB b7) JB.out.2.2.2))
        clear b7 JB
        cases tb
        · have hz := HS.out.2.1 (hno now out h21 rfl)
          rw [HS.out.2.2.2.1] at hz
          have HZ : Hid (talkM p l = ([], p, 1)) := (by unfold talkM; rw [hz] : talkM p l = ([], p, 1))
          clear hz hno hye
          have hB0 := HP0.out m JC.out.1.bel
          unfold Pm18.c at hB0
          obtain ⟨w10, st, B10, g10⟩ := storeW (T := 50) (vs := [.bool p.hs, .bool p.ds, .int .i64 p.mo, .int .i64 p.mi, .int .i64 p.bu, .int .i64 p.fi, .bool p.a, .bool p.imd, .bool p.di, .string p.ini, .string p.tgt]) size_pa (JC.out.1.rb.laterB (Below.refl m.heap.size m).drew) rfl (fun u hu => by simp at hu; rcases hu with rfl | rfl | rfl | rfl | rfl | rfl | rfl | rfl | rfl | rfl | rfl <;> rfl)
          have F10 : Hid _ := And.intro B10 (bel_grown (below_then (below_then HPG.out.2 JC.out.1.bel) (Below.refl m.heap.size m).drew) g10 (Nat.le_trans HPG.out.2.size JC.out.1.rl))
          clear B10 g10 JC HS HL
          go_upto_region 10 with fail
          refine f_begin (S := fun W => Blk W p0 50 [.bool p.hs, .bool p.ds, .int .i64 p.mo, .int .i64 p.mi, .int .i64 p.bu, .int .i64 p.fi, .bool p.a, .bool p.imd, .bool p.di, .string p.ini, .string p.tgt]) [2, 3] (by kernel_rfl) (Blk.laterB hB0 (Below.refl m.heap.size m).drew) (fun hS => ?_)
          refine f_take (i := 0) (v := ?_) [2, 3] rfl (by kernel_rfl) (by kernel_rfl) (by kernel_rfl) (by kernel_rfl) (by exact fun _ _ _ h => h) (by rfl) ?_ hS ?_
          rotate_left
          · ((intro W hSW; have q0 := ck_at hSW 0; have q1 := ck_at hSW 1; have q2 := ck_at hSW 2; have q3 := ck_at hSW 3; have q4 := ck_at hSW 4; have q5 := ck_at hSW 5; have q6 := ck_at hSW 6; have q7 := ck_at hSW 7; have q8 := ck_at hSW 8; have q9 := ck_at hSW 9; have q10 := ck_at hSW 10; simp only [List.getElem?_cons_zero, List.getElem?_cons_succ] at q0 q1 q2 q3 q4 q5 q6 q7 q8 q9 q10; go_simp) <;> with_reducible rfl)
          (try simp only [Act.put, List.setIfInBounds_toArray, List.set_cons_zero, List.set_cons_succ])
          refine f_take (i := 1) (v := ?_) [2, 3] rfl (by kernel_rfl) (by kernel_rfl) (by kernel_rfl) (by kernel_rfl) (by exact fun _ _ _ h => h) (by rfl) ?_ hS ?_
          rotate_left
          · ((intro W hSW; clear hSW; go_simp) <;> with_reducible rfl)
          (try simp only [Act.put, List.setIfInBounds_toArray, List.set_cons_zero, List.set_cons_succ])
          clear hS
          refine f_last (i := 2) rfl (by simp) (by kernel_rfl) (fun K hK => ?_)
          unfold Oper.wp
          rw [exec_store rfl rfl rfl st]
          refine hK.out _ _ ?_
          clear hK K st
          refine f_last (i := 3) rfl (by simp) (by kernel_rfl) (fun K hK => ?_)
          go_simp
          refine hK.out _ _ ?_
          clear hK K
          refine f_done (by kernel_rfl) ?_ _
          have z0 := ck_at F10.out.1 0
          have z1 := ck_at F10.out.1 1
          have z2 := ck_at F10.out.1 2
          have z3 := ck_at F10.out.1 3
          have z4 := ck_at F10.out.1 4
          have z5 := ck_at F10.out.1 5
          have z6 := ck_at F10.out.1 6
          have z7 := ck_at F10.out.1 7
          have z8 := ck_at F10.out.1 8
          have z9 := ck_at F10.out.1 9
          have z10 := ck_at F10.out.1 10
          simp only [List.getElem?_cons_zero, List.getElem?_cons_succ] at z0 z1 z2 z3 z4 z5 z6 z7 z8 z9 z10
          go_wp2
          refine bodyPost_ret (v := .tuple #[.slice none 0 0, .agg #[.bool p.hs, .bool p.ds, .int .i64 p.mo, .int .i64 p.mi, .int .i64 p.bu, .int .i64 p.fi, .bool p.a, .bool p.imd, .bool p.di, .string p.ini, .string p.tgt], .int .i64 1]) (by simp [results, Tryd.results27, go_sem, z0, z1, z2, z3, z4, z5, z6, z7, z8, z9, z10]) rfl ?_
          exact ⟨_, by rw [HZ.out]; rfl, by rw [HZ.out]; exact PrI.none F10.out.2⟩
        · have HGt := HG0 (by have := HL.out.1; omega) now m JC.out.1.gb (fun X tX => HP.out X (JC.out.1.bel.trans (tX.below w1.heap.size JC.out.1.bel.size (fun k e => by subst e; exact JC.out.1.gl))))
          have hy2 := hye now out h21 rfl
          clear HG0 hno hye
          generalize agM ix an now xv = AG at *
          obtain ⟨now', d, told⟩ := AG
          simp only at HGt
          have hy3 := hy2 now' d told rfl
          clear hy2
          have HGH : Hid _ := HGt
          clear HGt
          have y0 := ck_at JC.out.2.1 0
          have y1 := ck_at JC.out.2.1 1
          simp only [List.getElem?_cons_zero, List.getElem?_cons_succ] at y0 y1
          have z0 := ck_at JC.out.2.2.1 0
          have z1 := ck_at JC.out.2.2.1 1
          have z2 := ck_at JC.out.2.2.1 2
          have z3 := ck_at JC.out.2.2.1 3
          simp only [List.getElem?_cons_zero, List.getElem?_cons_succ] at z0 z1 z2 z3
          go_wp2_with fail
          refine (Calls.mono HGH.out) ?_
          rintro e n ⟨rfl, t8, B8⟩
          clear HGH
          have JD : Hid _ := And.intro (JC.out.1.turn t8 B8) (JC.out.2.1.turned t8 JC.out.2.2.2.1)
          clear t8 B8 JC y0 y1 z0 z1 z2 z3
          have y0 := ck_at JD.out.2 0
          have y1 := ck_at JD.out.2 1
          simp only [List.getElem?_cons_zero, List.getElem?_cons_succ] at y0 y1
          cases told
          · have F : Hid _ := And.intro (show k + 1 ≤ l.length by have := HS.out.2.2.2.2.2; omega) (And.intro JD.out.1 (And.intro ((HS.out.1 _ hy3).symm.trans HS.out.2.2.2.1) (show out.length ≤ k + 1 by have := HS.out.2.2.2.2.1; omega)))
            clear JD HS HL hy3
            go_wp2
            go_roundw
            case rel => exact ⟨k + 1, _, _, _, by first | rfl | trivial | go_num, F.out.1, F.out.2.1, F.out.2.2.1, F.out.2.2.2⟩
            case measure => have := F.out.1; simp [intOf]; omega
          · obtain ⟨a9, c9, w9, q9, hap, J9⟩ := (JD.out.1).more (xk, d) [.string xk, .string d] rfl (by have := HS.out.2.2.2.2.1; have := HS.out.2.2.2.2.2; have := HNL.out; omega)
            have F : Hid _ := And.intro (show k + 1 ≤ l.length by have := HS.out.2.2.2.2.2; omega) (And.intro J9 (And.intro ((HS.out.1 _ hy3).symm.trans HS.out.2.2.2.1) (show (out ++ [(xk, d)]).length ≤ k + 1 by have := HS.out.2.2.2.2.1; simp; omega)))
            clear J9 HS HL JD hy3
            go_wp2_with (at_builtin; refine wpList_run_app rfl _ _ 28 28 rfl _ _ rfl rfl hap ?_)
            (try go_wp2_with fail)
            go_roundw
            case rel => exact ⟨k + 1, _, _, _, by first | rfl | trivial | go_num, F.out.1, F.out.2.1, F.out.2.2.1, F.out.2.2.2⟩
            case measure => have := F.out.1; simp [intOf]; omega
    · obtain rfl : k = l.length := by omega
      rw [List.drop_length] at hT
      have hz : tkN l p [] = some (now, out) := hT.symm
      obtain ⟨mf, hmf⟩ : ∃ m, m = min now.fi now.bu := ⟨_, rfl⟩
      have HZ : Hid (talkM p l = (out, { now with fi := mf }, 0)) := (by unfold talkM; rw [hz, hmf] : talkM p l = (out, { now with fi := mf }, 0))
      have t1 : ¬ ((l.length : Int) < (nl : Int)) := by omega
      have t2 : ¬ (l.length < nl) := by omega
      rw [← hnl]
      rw [← hnl] at t1 t2
      have HM : Hid _ := hmf
      clear hz hT hnl hlt hk hol hmf hac
      have hgb := hJ.gb
      unfold Pm18.c at hgb
      have z0 := ck_at hgb 0
      have z1 := ck_at hgb 1
      have z2 := ck_at hgb 2
      have z3 := ck_at hgb 3
      have z4 := ck_at hgb 4
      have z5 := ck_at hgb 5
      have z6 := ck_at hgb 6
      have z7 := ck_at hgb 7
      have z8 := ck_at hgb 8
      have z9 := ck_at hgb 9
      have z10 := ck_at hgb 10
      simp only [List.getElem?_cons_zero, List.getElem?_cons_succ] at z0 z1 z2 z3 z4 z5 z6 z7 z8 z9 z10
      have f5 := ck_fz hgb 5
      have S5 := hgb.set 5 (.int .i64 mf)
      simp only [List.set_cons_zero, List.set_cons_succ] at S5
      have K5 : TkI w1 (wr.setCell ⟨g, 5, none⟩ (.int .i64 mf)) g r ({ now with fi := mf } : Pm18).c _ q out := hJ.turn (turned_set wr g 5 (.int .i64 mf)) S5
      obtain ⟨w9, hw9⟩ : ∃ y, y = wr.setCell ⟨g, 5, none⟩ (.int .i64 mf) := ⟨_, rfl⟩
      rw [← hw9] at K5
      have J9 : Hid _ := K5
      clear S5 K5 hJ hgb
      go_upto_region 16 with fail
      rw [← HM.out, ← hw9]
      clear hw9 f5 z0 z1 z2 z3 z4 z5 z6 z7 z8 z9 z10
      obtain ⟨w10, st, B10, g10⟩ := storeW (T := 50) (vs := [.bool now.hs, .bool now.ds, .int .i64 now.mo, .int .i64 now.mi, .int .i64 now.bu, .int .i64 mf, .bool now.a, .bool now.imd, .bool now.di, .string now.ini, .string now.tgt]) size_pa (J9.out.rb.laterB (Below.refl w9.heap.size w9).drew) rfl (fun u hu => by simp at hu; rcases hu with rfl | rfl | rfl | rfl | rfl | rfl | rfl | rfl | rfl | rfl | rfl <;> rfl)
      have F10 : Hid _ := And.intro B10 (⟨⟨q, GSl.turned (J9.out.sl.later (Below.refl w9.heap.size w9).drew) (turned_grown g10 (fun k e => by cases e; exact (rfl : r = r)) : Turned (fun k => k = r) _ _) (fun k hk e => (J9.out.far k hk).2.1 e), fun k hk => Nat.le_trans HPG.out.2.size (J9.out.far k hk).2.2⟩, bel_grown (below_then (below_then HPG.out.2 J9.out.bel) (Below.refl w9.heap.size w9).drew) g10 (Nat.le_trans HPG.out.2.size J9.out.rl)⟩ : PrI kPr w w10 (.slice av out.length cv) out)
      clear B10 g10
      have hg9 : Blk w9 g 50 [.bool now.hs, .bool now.ds, .int .i64 now.mo, .int .i64 now.mi, .int .i64 now.bu, .int .i64 mf, .bool now.a, .bool now.imd, .bool now.di, .string now.ini, .string now.tgt] := J9.out.gb
      refine f_begin (S := fun W => Blk W g 50 [.bool now.hs, .bool now.ds, .int .i64 now.mo, .int .i64 now.mi, .int .i64 now.bu, .int .i64 mf, .bool now.a, .bool now.imd, .bool now.di, .string now.ini, .string now.tgt]) [3, 4] (by kernel_rfl) (hg9.laterB (Below.refl w9.heap.size w9).drew) (fun hS => ?_)
      refine f_take (i := 0) (v := ?_) [2, 3, 4] rfl (by kernel_rfl) (by kernel_rfl) (by kernel_rfl) (by kernel_rfl) (by exact fun _ _ _ h => h) (by rfl) ?_ hS ?_
      rotate_left
      · ((intro W hSW; clear hSW; go_simp) <;> with_reducible rfl)
      (try simp only [Act.put, List.setIfInBounds_toArray, List.set_cons_zero, List.set_cons_succ])
      refine f_take (i := 1) (v := ?_) [3, 4] rfl (by kernel_rfl) (by kernel_rfl) (by kernel_rfl) (by kernel_rfl) (by exact fun _ _ _ h => h) (by rfl) ?_ hS ?_
      rotate_left
      · ((intro W hSW; have q0 := ck_at hSW 0; have q1 := ck_at hSW 1; have q2 := ck_at hSW 2; have q3 := ck_at hSW 3; have q4 := ck_at hSW 4; have q5 := ck_at hSW 5; have q6 := ck_at hSW 6; have q7 := ck_at hSW 7; have q8 := ck_at hSW 8; have q9 := ck_at hSW 9; have q10 := ck_at hSW 10; simp only [List.getElem?_cons_zero, List.getElem?_cons_succ] at q0 q1 q2 q3 q4 q5 q6 q7 q8 q9 q10; go_simp) <;> with_reducible rfl)
      (try simp only [Act.put, List.setIfInBounds_toArray, List.set_cons_zero, List.set_cons_succ])
      refine f_take (i := 2) (v := ?_) [3, 4] rfl (by kernel_rfl) (by kernel_rfl) (by kernel_rfl) (by kernel_rfl) (by exact fun _ _ _ h => h) (by rfl) ?_ hS ?_
      rotate_left
      · ((intro W hSW; clear hSW; go_simp) <;> with_reducible rfl)
      (try simp only [Act.put, List.setIfInBounds_toArray, List.set_cons_zero, List.set_cons_succ])
      clear hS
      refine f_last (i := 3) rfl (by simp) (by kernel_rfl) (fun K hK => ?_)
      unfold Oper.wp
      rw [exec_store rfl rfl rfl st]
      refine hK.out _ _ ?_
      clear hK K st
      refine f_last (i := 4) rfl (by simp) (by kernel_rfl) (fun K hK => ?_)
      go_simp
      refine hK.out _ _ ?_
      clear hK K
      refine f_done (by kernel_rfl) ?_ _
      have z0 := ck_at F10.out.1 0
      have z1 := ck_at F10.out.1 1
      have z2 := ck_at F10.out.1 2
      have z3 := ck_at F10.out.1 3
      have z4 := ck_at F10.out.1 4
      have z5 := ck_at F10.out.1 5
      have z6 := ck_at F10.out.1 6
      have z7 := ck_at F10.out.1 7
      have z8 := ck_at F10.out.1 8
      have z9 := ck_at F10.out.1 9
      have z10 := ck_at F10.out.1 10
      simp only [List.getElem?_cons_zero, List.getElem?_cons_succ] at z0 z1 z2 z3 z4 z5 z6 z7 z8 z9 z10
      go_wp2
      refine bodyPost_ret (v := .tuple #[.slice av out.length cv, .agg #[.bool now.hs, .bool now.ds, .int .i64 now.mo, .int .i64 now.mi, .int .i64 now.bu, .int .i64 mf, .bool now.a, .bool now.imd, .bool now.di, .string now.ini, .string now.tgt], .int .i64 0]) (by simp [results, Tryd.results27, go_sem, z0, z1, z2, z3, z4, z5, z6, z7, z8, z9, z10]) rfl ?_
      exact ⟨_, by rw [HZ.out]; rfl, by rw [HZ.out]; exact F10.out.2⟩
end Go.Proofs.YtligmiajlbjecaaDoor

