/- text, the document's: Talk of any pairs; own. -/
import Derived.Test.YtligmiajlbjecaaDoorXTy13
import Derived.Test.YtligmiajlbjecaaDoorXTy7
namespace Go.Proofs.YtligmiajlbjecaaDoor
open Go.RowKit
set_option linter.unusedVariables false
set_option linter.unusedSimpArgs false
set_option maxRecDepth 8000

structure TkJ (w W : World) (g r : Nat) (cs : List Value) (v : Value) (q : Option Nat) (l : List (ByteArray × ByteArray)) : Prop where
  bel : Below w.heap.size w W
  gb : Blk W g 48 cs
  rb : Blk W r 48 [.bool false, .bool false, .int .i64 0, .int .i64 0, .int .i64 0, .int .i64 0, .bool false, .bool false, .bool false, .string ⟨#[]⟩, .string ⟨#[]⟩]
  gl : w.heap.size ≤ g
  rl : w.heap.size ≤ r
  ne : g ≠ r
  sl : GSl kRp W v q l
  far : ∀ k, q = some k → k ≠ g ∧ k ≠ r ∧ w.heap.size ≤ k
theorem TkJ.later {w W W' : World} {g r : Nat} {cs : List Value} {v : Value} {q : Option Nat} {l : List (ByteArray × ByteArray)} (h : TkJ w W g r cs v q l) (b : Below W.heap.size W W') : TkJ w W' g r cs v q l :=
  ⟨below_then h.bel b, h.gb.laterB b, h.rb.laterB b, h.gl, h.rl, h.ne, h.sl.later b, h.far⟩
theorem TkJ.turn {w W W' : World} {g r : Nat} {cs cs' : List Value} {v : Value} {q : Option Nat} {l : List (ByteArray × ByteArray)} (h : TkJ w W g r cs v q l) (t : Turned (fun k => k = g) W W') (B : Blk W' g 48 cs') : TkJ w W' g r cs' v q l :=
  ⟨h.bel.trans (t.below w.heap.size h.bel.size (fun k e => by subst e; exact h.gl)), B, h.rb.turned t (fun e => h.ne e.symm), h.gl, h.rl, h.ne, h.sl.turned t (fun k hk e => (h.far k hk).1 e), h.far⟩
theorem TkJ.more {w W : World} {g r : Nat} {cs : List Value} {v : Value} {q : Option Nat} {l : List (ByteArray × ByteArray)} (h : TkJ w W g r cs v q l) (x : ByteArray × ByteArray) (c : List Value) (hc : kRp.f x = c) (hl : l.length ≤ 100) :
    ∃ a2 c2 w2 q2, (Builtin.append_ #[22, 22] 22 #[v, .slice (some ⟨W.heap.size, 0, none⟩) 1 1]).run Tryd.prog (W.alloc (.cells c.toArray 41)) = .ok (.slice a2 (l.length + 1) c2) w2 ∧ TkJ w w2 g r cs (.slice a2 (l.length + 1) c2) q2 (l ++ [x]) := by
  have bn : Below W.heap.size W (W.alloc (.cells c.toArray 41)) := (Below.refl _ _).alloc (Nat.le_refl _) _
  have hx : GAt kRp (W.alloc (.cells c.toArray kRp.E)) (.slice (some ⟨W.heap.size, 0, none⟩) 1 1) [x] := new_one kRp_ok W x c hc
  have h1 := h.later bn
  obtain ⟨v2, w2, q2, hr, ho, hg, hor⟩ := h1.sl.append kRp_ok hx (by simp; omega) kRp.T
  obtain ⟨a2, c2, e2, -, -, -⟩ := GSl.cell kRp_ok ho
  rw [List.length_append, List.length_singleton] at e2
  subst e2
  have hg1 := h1.gb.lt
  have hr1 := h1.rb.lt
  have hb := h1.bel.size
  exact ⟨a2, c2, w2, q2, hr, h1.bel.grown hg hb (fun k e => (h1.far k e).2.2), h1.gb.grown hg (fun e => (h1.far g e.symm).1 rfl), h1.rb.grown hg (fun e => (h1.far r e.symm).2.1 rfl), h1.gl, h1.rl, h1.ne, ho, fun k hk => (hor k hk).elim (fun e => h1.far k e) (fun e => ⟨by omega, by omega, by omega⟩)⟩
theorem OneR.step {p p' : Pm18} {k v a : ByteArray} {t ok : Bool} (h : OneR p k v a t ok p') {l : List Pr} {i : Nat} (hi : i < l.length) (hx : l[i] = (k, v)) (out : List Pr) : (ok = true → tkN (l.drop i) p out = tkN (l.drop (i + 1)) p' (if t = true then out ++ [(k, a)] else out)) ∧ (ok = false → tkN (l.drop i) p out = none) := by
  have h1 := h out
  rw [← hx] at h1
  refine ⟨fun e => ?_, fun e => ?_⟩
  · subst e
    rw [if_pos rfl] at h1
    exact tkN_step hi p out h1
  · subst e
    rw [if_neg (by decide)] at h1
    exact tkN_stop hi p out h1
set_option maxHeartbeats 16000000 in
theorem rTalk_any (p : Pm18) (a : Option Addr) (c : Nat) (l : List Pr) (w : World) (hA : GAt kRp w (.slice a l.length c) l) (hl : l.length ≤ 100) (hs : ∀ x ∈ l, x.2.size ≤ 4194304) :
    Calls Tryd.prog 29 #[.agg #[.bool p.hs, .bool p.ds, .int .i64 p.mo, .int .i64 p.mi, .int .i64 p.bu, .int .i64 p.fi, .bool p.a, .bool p.imd, .bool p.di, .string p.ini, .string p.tgt], .slice a l.length c] w fun e w' => ∃ v, e = .returned (.tuple #[v, .agg (talkM p l).2.1.c.toArray, .int .i64 (talkM p l).2.2]) ∧ PrI kRp w w' v (talkM p l).1 := by
  obtain ⟨nl, hnl⟩ : ∃ nl, nl = l.length := ⟨_, rfl⟩
  rw [← hnl] at hl ⊢
  have HNL : Hid _ := And.intro hnl hl
  have N1 := Blk.new' w 48 [.bool p.hs, .bool p.ds, .int .i64 p.mo, .int .i64 p.mi, .int .i64 p.bu, .int .i64 p.fi, .bool p.a, .bool p.imd, .bool p.di, .string p.ini, .string p.tgt]
  have bn1 : Below w.heap.size w (w.alloc (.cells #[.bool p.hs, .bool p.ds, .int .i64 p.mo, .int .i64 p.mi, .int .i64 p.bu, .int .i64 p.fi, .bool p.a, .bool p.imd, .bool p.di, .string p.ini, .string p.tgt] 48)) := (Below.refl _ _).alloc (Nat.le_refl _) _
  obtain ⟨w1, hw1⟩ : ∃ w1, w1 = w.alloc (.cells #[.bool p.hs, .bool p.ds, .int .i64 p.mo, .int .i64 p.mi, .int .i64 p.bu, .int .i64 p.fi, .bool p.a, .bool p.imd, .bool p.di, .string p.ini, .string p.tgt] 48) := ⟨_, rfl⟩
  rw [← hw1] at N1 bn1
  have N2 := Blk.new' w1 48 [.bool false, .bool false, .int .i64 0, .int .i64 0, .int .i64 0, .int .i64 0, .bool false, .bool false, .bool false, .string ⟨#[]⟩, .string ⟨#[]⟩]
  have bn2 : Below w1.heap.size w1 (w1.alloc (.cells #[.bool false, .bool false, .int .i64 0, .int .i64 0, .int .i64 0, .int .i64 0, .bool false, .bool false, .bool false, .string ⟨#[]⟩, .string ⟨#[]⟩] 48)) := (Below.refl _ _).alloc (Nat.le_refl _) _
  obtain ⟨w2, hw2⟩ : ∃ w2, w2 = w1.alloc (.cells #[.bool false, .bool false, .int .i64 0, .int .i64 0, .int .i64 0, .int .i64 0, .bool false, .bool false, .bool false, .string ⟨#[]⟩, .string ⟨#[]⟩] 48) := ⟨_, rfl⟩
  rw [← hw2] at N2 bn2
  have N3 := Blk.new' w2 48 [.bool p.hs, .bool p.ds, .int .i64 p.mo, .int .i64 p.mi, .int .i64 p.bu, .int .i64 p.fi, .bool p.a, .bool p.imd, .bool p.di, .string p.ini, .string p.tgt]
  have bn3 : Below w2.heap.size w2 (w2.alloc (.cells #[.bool p.hs, .bool p.ds, .int .i64 p.mo, .int .i64 p.mi, .int .i64 p.bu, .int .i64 p.fi, .bool p.a, .bool p.imd, .bool p.di, .string p.ini, .string p.tgt] 48)) := (Below.refl _ _).alloc (Nat.le_refl _) _
  obtain ⟨w3, hw3⟩ : ∃ w3, w3 = w2.alloc (.cells #[.bool p.hs, .bool p.ds, .int .i64 p.mo, .int .i64 p.mi, .int .i64 p.bu, .int .i64 p.fi, .bool p.a, .bool p.imd, .bool p.di, .string p.ini, .string p.tgt] 48) := ⟨_, rfl⟩
  rw [← hw3] at N3 bn3
  have z1 : w1.heap.size = w.heap.size + 1 := by rw [hw1]; simp
  have z2 : w2.heap.size = w.heap.size + 2 := by rw [hw2]; simp [z1]
  obtain ⟨p0, hp0⟩ : ∃ g, g = w.heap.size := ⟨_, rfl⟩
  obtain ⟨r, hr⟩ : ∃ g, g = w.heap.size + 1 := ⟨_, rfl⟩
  obtain ⟨g, hg⟩ : ∃ g, g = w2.heap.size := ⟨_, rfl⟩
  have hgz : g = w.heap.size + 2 := hg.trans z2
  rw [z1, ← hr] at N2
  rw [← hg] at N3
  have J0 : Hid _ := (TkJ.mk (below_then bn2 bn3) N3 (N2.laterB bn3) (by omega) (by omega) (by omega) (GSl.nil kRp _) (fun k hk => by cases hk) : TkJ w1 w3 g r p.c (.slice none 0 0) none [])
  have HP0 : Hid (∀ X, Below w1.heap.size w1 X → Blk X p0 48 p.c) := (fun X bX => by rw [hp0]; exact Blk.laterB N1 bX : ∀ X, Below w1.heap.size w1 X → Blk X p0 48 p.c)
  have HPG : Hid _ := And.intro (show p0 ≠ r by omega) bn1
  have HA : Hid _ := And.intro (gat_later bn1 hA) hs
  have y0 := ck_at N1 0
  have y1 := ck_at N1 1
  have y2 := ck_at N1 2
  have y3 := ck_at N1 3
  have y4 := ck_at N1 4
  have y5 := ck_at N1 5
  have y6 := ck_at N1 6
  have y7 := ck_at N1 7
  have y8 := ck_at N1 8
  have y9 := ck_at N1 9
  have y10 := ck_at N1 10
  simp only [List.getElem?_cons_zero, List.getElem?_cons_succ] at y0 y1 y2 y3 y4 y5 y6 y7 y8 y9 y10
  clear bn1 bn2 bn3 N1 N2 N3 hA hs z1 z2 hnl hl
  go_enter Tryd.func29, Tryd.ntmps29
  go_upto_region 1 with fail
  rw [← hw1, ← hw2]
  clear hw1
  have v0 := ck_later y0 (show Below w1.heap.size w1 w2 by rw [hw2]; exact (Below.refl _ _).alloc (Nat.le_refl _) _)
  have v1 := ck_later y1 (show Below w1.heap.size w1 w2 by rw [hw2]; exact (Below.refl _ _).alloc (Nat.le_refl _) _)
  have v2 := ck_later y2 (show Below w1.heap.size w1 w2 by rw [hw2]; exact (Below.refl _ _).alloc (Nat.le_refl _) _)
  have v3 := ck_later y3 (show Below w1.heap.size w1 w2 by rw [hw2]; exact (Below.refl _ _).alloc (Nat.le_refl _) _)
  have v4 := ck_later y4 (show Below w1.heap.size w1 w2 by rw [hw2]; exact (Below.refl _ _).alloc (Nat.le_refl _) _)
  have v5 := ck_later y5 (show Below w1.heap.size w1 w2 by rw [hw2]; exact (Below.refl _ _).alloc (Nat.le_refl _) _)
  have v6 := ck_later y6 (show Below w1.heap.size w1 w2 by rw [hw2]; exact (Below.refl _ _).alloc (Nat.le_refl _) _)
  have v7 := ck_later y7 (show Below w1.heap.size w1 w2 by rw [hw2]; exact (Below.refl _ _).alloc (Nat.le_refl _) _)
  have v8 := ck_later y8 (show Below w1.heap.size w1 w2 by rw [hw2]; exact (Below.refl _ _).alloc (Nat.le_refl _) _)
  have v9 := ck_later y9 (show Below w1.heap.size w1 w2 by rw [hw2]; exact (Below.refl _ _).alloc (Nat.le_refl _) _)
  have v10 := ck_later y10 (show Below w1.heap.size w1 w2 by rw [hw2]; exact (Below.refl _ _).alloc (Nat.le_refl _) _)
  clear hw2 y0 y1 y2 y3 y4 y5 y6 y7 y8 y9 y10
  go_upto_region 2 with fail
  rw [← hw3]
  rw [← hg, ← hr, ← hp0]
  clear hw3 v0 v1 v2 v3 v4 v5 v6 v7 v8 v9 v10
  clear hg hr hp0 hgz
  go_wp2_with fail
  go_loopw [8, 9] (fun vv iv wr => ∃ (k : Nat) (now : Pm18) (out : List Pr) (q : Option Nat), iv = .int .i64 (k : Int) ∧ k ≤ l.length ∧ TkJ w1 wr g r now.c vv q out ∧ tkN (l.drop k) now out = tkN l p [] ∧ out.length ≤ k) (fun _ iv _ => l.length - (intOf iv).toNat)
  case atStart => exact ⟨0, p, [], none, rfl, Nat.zero_le _, J0.out, rfl, Nat.le_refl _⟩
  case round =>
    obtain ⟨k, now, out, q, rfl, hk, hJ, hT, hol⟩ := hrel
    clear J0
    obtain ⟨av, cv, rfl, hac, -, -⟩ := hJ.sl.cell kRp_ok
    have hnl := HNL.out.1
    have hnl2 := HNL.out.2
    by_cases hlt : k < l.length
    · have q1 : (k : Int) < (nl : Int) := by omega
      have q1n : k < nl := by omega
      have w5 : IntKind.i64.wrap ((k : Int) + 1) = (k : Int) + 1 := by rw [IntKind.wrap_i64]; omega
      obtain ⟨b, off, rfl, hc⟩ := (HA.out.1).each kRp_ok k hlt
      have hc0 := hc 0 (by simp [kRp])
      have hc1 := hc 1 (by simp [kRp])
      simp only [kRp, List.getElem?_cons_zero, List.getElem?_cons_succ, Nat.add_zero] at hc0 hc1
      have hst := fun (xk xv : ByteArray) (hx : l[k] = (xk, xv)) (a : ByteArray) t ok p' (h : OneR now xk xv a t ok p') => h.step hlt hx out
      have hsv := HA.out.2 _ (List.getElem_mem hlt)
      generalize l[k] = x at *
      obtain ⟨xk, xv⟩ := x
      simp only at hc0 hc1 hsv
      have hst2 := hst xk xv rfl
      have HC0 := ((fun X bX => ⟨rcell bX hc0, rcell bX hc1⟩) : ∀ X, Below w1.heap.size w1 X → X.cell? ⟨b, off + k * 2, none⟩ = some (.string xk) ∧ X.cell? ⟨b, off + k * 2 + 1, none⟩ = some (.string xv))
      have HC : Hid _ := HC0
      have HOn : Hid _ := rOne_any g now xk xv wr.drew (hJ.gb.laterB (Below.refl wr.heap.size wr).drew) hsv
      have HS : Hid _ := And.intro hst2 (And.intro hsv (And.intro hT (And.intro hol hlt)))
      clear hst hst2 hsv hT hol hc hc0 hc1 HC0 hnl hk hlt hac
      have JA : Hid _ := hJ.later (Below.refl wr.heap.size wr).drew
      obtain ⟨u, hu⟩ : ∃ u, u = wr.drew := ⟨_, rfl⟩
      rw [← hu] at HOn JA
      clear hJ
      go_upto_region 6 with fail
      refine wp_region_held_drew (S := fun W => W.cell? ⟨b, off + k * 2, none⟩ = some (.string xk) ∧ W.cell? ⟨b, off + k * 2 + 1, none⟩ = some (.string xv)) (by kernel_rfl) (by rw [← hu]; exact HC.out _ JA.out.bel) (fun hS => ?_)
      rw [← hu]
      rw [← hu] at hS
      clear hu
      refine any_take (i := 0) (v := ?_) rfl (by kernel_rfl) (by kernel_rfl) (by kernel_rfl) (by exact fun _ _ _ h => h) (by rfl) ?_ hS ?_
      rotate_left
      · ((intro W hSW; clear hSW; go_simp) <;> with_reducible rfl)
      (try simp only [Act.put, List.setIfInBounds_toArray, List.set_cons_zero, List.set_cons_succ])
      refine any_take (i := 1) (v := ?_) rfl (by kernel_rfl) (by kernel_rfl) (by kernel_rfl) (by exact fun _ _ _ h => h) (by rfl) ?_ hS ?_
      rotate_left
      · ((intro W hSW; clear hSW; go_simp) <;> with_reducible rfl)
      (try simp only [Act.put, List.setIfInBounds_toArray, List.set_cons_zero, List.set_cons_succ])
      refine any_take (i := 2) (v := ?_) rfl (by kernel_rfl) (by kernel_rfl) (by kernel_rfl) (by exact fun _ _ _ h => h) (by rfl) ?_ hS ?_
      rotate_left
      · ((intro W hSW; clear hSW; go_simp) <;> with_reducible rfl)
      (try simp only [Act.put, List.setIfInBounds_toArray, List.set_cons_zero, List.set_cons_succ])
      refine any_take (i := 3) (v := ?_) rfl (by kernel_rfl) (by kernel_rfl) (by kernel_rfl) (by exact fun _ _ _ h => h) (by rfl) ?_ hS ?_
      rotate_left
      · ((intro W hSW; clear hSW; go_simp) <;> with_reducible rfl)
      (try simp only [Act.put, List.setIfInBounds_toArray, List.set_cons_zero, List.set_cons_succ])
      refine any_take (i := 4) (v := ?_) rfl (by kernel_rfl) (by kernel_rfl) (by kernel_rfl) (by exact fun _ _ _ h => h) (by rfl) ?_ hS ?_
      rotate_left
      · ((intro W hSW; have q := hSW.1; go_simp) <;> with_reducible rfl)
      (try simp only [Act.put, List.setIfInBounds_toArray, List.set_cons_zero, List.set_cons_succ])
      refine any_take (i := 5) (v := ?_) rfl (by kernel_rfl) (by kernel_rfl) (by kernel_rfl) (by exact fun _ _ _ h => h) (by rfl) ?_ hS ?_
      rotate_left
      · ((intro W hSW; clear hSW; go_simp) <;> with_reducible rfl)
      (try simp only [Act.put, List.setIfInBounds_toArray, List.set_cons_zero, List.set_cons_succ])
      refine any_take (i := 6) (v := ?_) rfl (by kernel_rfl) (by kernel_rfl) (by kernel_rfl) (by exact fun _ _ _ h => h) (by rfl) ?_ hS ?_
      rotate_left
      · ((intro W hSW; clear hSW; go_simp) <;> with_reducible rfl)
      (try simp only [Act.put, List.setIfInBounds_toArray, List.set_cons_zero, List.set_cons_succ])
      refine any_take (i := 7) (v := ?_) rfl (by kernel_rfl) (by kernel_rfl) (by kernel_rfl) (by exact fun _ _ _ h => h) (by rfl) ?_ hS ?_
      rotate_left
      · ((intro W hSW; clear hSW; go_simp) <;> with_reducible rfl)
      (try simp only [Act.put, List.setIfInBounds_toArray, List.set_cons_zero, List.set_cons_succ])
      refine any_take (i := 8) (v := ?_) rfl (by kernel_rfl) (by kernel_rfl) (by kernel_rfl) (by exact fun _ _ _ h => h) (by rfl) ?_ hS ?_
      rotate_left
      · ((intro W hSW; clear hSW; go_simp) <;> with_reducible rfl)
      (try simp only [Act.put, List.setIfInBounds_toArray, List.set_cons_zero, List.set_cons_succ])
      refine any_take (i := 9) (v := ?_) rfl (by kernel_rfl) (by kernel_rfl) (by kernel_rfl) (by exact fun _ _ _ h => h) (by rfl) ?_ hS ?_
      rotate_left
      · ((intro W hSW; have q := hSW.2; go_simp) <;> with_reducible rfl)
      (try simp only [Act.put, List.setIfInBounds_toArray, List.set_cons_zero, List.set_cons_succ])
      refine any_one (i := 10) rfl (by kernel_rfl) (fun K hK => ?_)
      go_simp
      refine (Calls.mono HOn.out) ?_
      rintro e m ⟨ok, an, told, now', rfl, t2, B2, hO⟩
      clear HOn hS
      have hb2 : Below w1.heap.size w1 m := JA.out.bel.trans (t2.below w1.heap.size JA.out.bel.size (fun k e => by subst e; exact JA.out.gl))
      have hS := HC.out m hb2
      go_wp2_with fail
      refine hK.out _ _ hS ?_
      clear hK K
      refine any_take (i := 11) (v := ?_) rfl (by kernel_rfl) (by kernel_rfl) (by kernel_rfl) (by exact fun _ _ _ h => h) (by rfl) ?_ hS ?_
      rotate_left
      · ((intro W hSW; clear hSW; go_simp) <;> with_reducible rfl)
      (try simp only [Act.put, List.setIfInBounds_toArray, List.set_cons_zero, List.set_cons_succ])
      refine any_take (i := 12) (v := ?_) rfl (by kernel_rfl) (by kernel_rfl) (by kernel_rfl) (by exact fun _ _ _ h => h) (by rfl) ?_ hS ?_
      rotate_left
      · ((intro W hSW; clear hSW; go_simp) <;> with_reducible rfl)
      (try simp only [Act.put, List.setIfInBounds_toArray, List.set_cons_zero, List.set_cons_succ])
      refine any_take (i := 13) (v := ?_) rfl (by kernel_rfl) (by kernel_rfl) (by kernel_rfl) (by exact fun _ _ _ h => h) (by rfl) ?_ hS ?_
      rotate_left
      · ((intro W hSW; clear hSW; go_simp) <;> with_reducible rfl)
      (try simp only [Act.put, List.setIfInBounds_toArray, List.set_cons_zero, List.set_cons_succ])
      refine any_take (i := 14) (v := ?_) rfl (by kernel_rfl) (by kernel_rfl) (by kernel_rfl) (by exact fun _ _ _ h => h) (by rfl) ?_ hS ?_
      rotate_left
      · ((intro W hSW; clear hSW; go_simp) <;> with_reducible rfl)
      (try simp only [Act.put, List.setIfInBounds_toArray, List.set_cons_zero, List.set_cons_succ])
      refine any_take (i := 15) (v := ?_) rfl (by kernel_rfl) (by kernel_rfl) (by kernel_rfl) (by exact fun _ _ _ h => h) (by rfl) ?_ hS ?_
      rotate_left
      · ((intro W hSW; clear hSW; go_simp) <;> with_reducible rfl)
      (try simp only [Act.put, List.setIfInBounds_toArray, List.set_cons_zero, List.set_cons_succ])
      refine any_take (i := 16) (v := ?_) rfl (by kernel_rfl) (by kernel_rfl) (by kernel_rfl) (by exact fun _ _ _ h => h) (by rfl) ?_ hS ?_
      rotate_left
      · ((intro W hSW; clear hSW; go_simp) <;> with_reducible rfl)
      (try simp only [Act.put, List.setIfInBounds_toArray, List.set_cons_zero, List.set_cons_succ])
      refine any_take (i := 17) (v := ?_) rfl (by kernel_rfl) (by kernel_rfl) (by kernel_rfl) (by exact fun _ _ _ h => h) (by rfl) ?_ hS ?_
      rotate_left
      · ((intro W hSW; clear hSW; go_simp) <;> with_reducible rfl)
      (try simp only [Act.put, List.setIfInBounds_toArray, List.set_cons_zero, List.set_cons_succ])
      refine wpAnyH_done (by kernel_rfl) ?_ _
      have HO2 := HS.out.1 an told ok now' hO
      have JB : Hid _ := And.intro t2 (And.intro hb2 hS)
      have HB2 : Hid _ := And.intro B2 HO2
      clear hS t2 B2 hO HO2 hb2 HC
      cases ok
      · have hz := HB2.out.2.2 rfl
        rw [HS.out.2.2.1] at hz
        have HZ : Hid (talkM p l = ([], p, 1)) := (by unfold talkM; rw [hz] : talkM p l = ([], p, 1))
        clear hz
        have hB0 := HP0.out m JB.out.2.1
        unfold Pm18.c at hB0
        have hrb := JA.out.rb.turned JB.out.1 (fun e => JA.out.ne e.symm)
        obtain ⟨w10, st, B10, g10⟩ := storeW (T := 48) (vs := [.bool p.hs, .bool p.ds, .int .i64 p.mo, .int .i64 p.mi, .int .i64 p.bu, .int .i64 p.fi, .bool p.a, .bool p.imd, .bool p.di, .string p.ini, .string p.tgt]) size_rpa (hrb.laterB (Below.refl m.heap.size m).drew) rfl (fun u hu => by simp at hu; rcases hu with rfl | rfl | rfl | rfl | rfl | rfl | rfl | rfl | rfl | rfl | rfl <;> rfl)
        have F10 : Hid _ := And.intro B10 (bel_grown (below_then (below_then HPG.out.2 JB.out.2.1) (Below.refl m.heap.size m).drew) g10 (Nat.le_trans HPG.out.2.size JA.out.rl))
        clear B10 g10 hrb JA JB HS HB2
        go_upto_region 8 with fail
        refine f_begin (S := fun W => Blk W p0 48 [.bool p.hs, .bool p.ds, .int .i64 p.mo, .int .i64 p.mi, .int .i64 p.bu, .int .i64 p.fi, .bool p.a, .bool p.imd, .bool p.di, .string p.ini, .string p.tgt]) [2, 3] (by kernel_rfl) (Blk.laterB hB0 (Below.refl m.heap.size m).drew) (fun hS => ?_)
        refine f_take (i := 0) (v := ?_) [2, 3] rfl (by kernel_rfl) (by kernel_rfl) (by kernel_rfl) (by kernel_rfl) (by exact fun _ _ _ h => h) (by rfl) ?_ hS ?_
        rotate_left
        · ((intro W hSW; have q0 := ck_at hSW 0; have q1 := ck_at hSW 1; have q2 := ck_at hSW 2; have q3 := ck_at hSW 3; have q4 := ck_at hSW 4; have q5 := ck_at hSW 5; have q6 := ck_at hSW 6; have q7 := ck_at hSW 7; have q8 := ck_at hSW 8; have q9 := ck_at hSW 9; have q10 := ck_at hSW 10; simp only [List.getElem?_cons_zero, List.getElem?_cons_succ] at q0 q1 q2 q3 q4 q5 q6 q7 q8 q9 q10; go_simp) <;> with_reducible rfl)
        (try simp only [Act.put, List.setIfInBounds_toArray, List.set_cons_zero, List.set_cons_succ])
        refine f_take (i := 1) (v := ?_) [2, 3] rfl (by kernel_rfl) (by kernel_rfl) (by kernel_rfl) (by kernel_rfl) (by exact fun _ _ _ h => h) (by rfl) ?_ hS ?_
        rotate_left
        · ((intro W hSW; clear hSW; go_simp) <;> with_reducible rfl)
        (try simp only [Act.put, List.setIfInBounds_toArray, List.set_cons_zero, List.set_cons_succ])
        clear hS
        refine f_last (i := 2) rfl (by simp) (by kernel_rfl) (fun K hK => ?_)
        unfold Oper.wp
        rw [exec_store rfl rfl rfl st]
        refine hK.out _ _ ?_
        clear hK K st
        refine f_last (i := 3) rfl (by simp) (by kernel_rfl) (fun K hK => ?_)
        go_simp
        refine hK.out _ _ ?_
        clear hK K
        refine f_done (by kernel_rfl) ?_ _
        have z0 := ck_at F10.out.1 0
        have z1 := ck_at F10.out.1 1
        have z2 := ck_at F10.out.1 2
        have z3 := ck_at F10.out.1 3
        have z4 := ck_at F10.out.1 4
        have z5 := ck_at F10.out.1 5
        have z6 := ck_at F10.out.1 6
        have z7 := ck_at F10.out.1 7
        have z8 := ck_at F10.out.1 8
        have z9 := ck_at F10.out.1 9
        have z10 := ck_at F10.out.1 10
        simp only [List.getElem?_cons_zero, List.getElem?_cons_succ] at z0 z1 z2 z3 z4 z5 z6 z7 z8 z9 z10
        go_wp2
        refine bodyPost_ret (v := .tuple #[.slice none 0 0, .agg #[.bool p.hs, .bool p.ds, .int .i64 p.mo, .int .i64 p.mi, .int .i64 p.bu, .int .i64 p.fi, .bool p.a, .bool p.imd, .bool p.di, .string p.ini, .string p.tgt], .int .i64 1]) (by simp [results, Tryd.results29, go_sem, z0, z1, z2, z3, z4, z5, z6, z7, z8, z9, z10]) rfl ?_
        exact ⟨_, by rw [HZ.out]; rfl, by rw [HZ.out]; exact PrI.none F10.out.2⟩
      · have JC : Hid _ := JA.out.turn JB.out.1 (HB2.out.1 rfl)
        have hy := HB2.out.2.1 rfl
        have c0 := JB.out.2.2.1
        cases told
        · have F : Hid _ := And.intro (show k + 1 ≤ l.length by have := HS.out.2.2.2.2; omega) (And.intro JC.out (And.intro ((hy.symm.trans HS.out.2.2.1)) (show out.length ≤ k + 1 by have := HS.out.2.2.2.1; omega)))
          clear JA JB JC HS HB2 hy c0
          go_wp2
          go_roundw
          case rel => exact ⟨k + 1, _, _, _, by first | rfl | trivial | go_num, F.out.1, F.out.2.1, F.out.2.2.1, F.out.2.2.2⟩
          case measure => have := F.out.1; simp [intOf]; omega
        · obtain ⟨a9, c9, w9, q9, hap, J9⟩ := JC.out.more (xk, an) [.string xk, .string an] rfl (by have := HS.out.2.2.2.1; have := HS.out.2.2.2.2; have := HNL.out; omega)
          have F : Hid _ := And.intro (show k + 1 ≤ l.length by have := HS.out.2.2.2.2; omega) (And.intro J9 (And.intro (hy.symm.trans HS.out.2.2.1) (show (out ++ [(xk, an)]).length ≤ k + 1 by have := HS.out.2.2.2.1; simp; omega)))
          clear J9 JA JB JC HS HB2 hy
          go_wp2_with (at_builtin; refine wpList_run_app rfl _ _ 22 22 rfl _ _ rfl rfl hap ?_)
          (try go_wp2_with fail)
          go_roundw
          case rel => exact ⟨k + 1, _, _, _, by first | rfl | trivial | go_num, F.out.1, F.out.2.1, F.out.2.2.1, F.out.2.2.2⟩
          case measure => have := F.out.1; simp [intOf]; omega
    · obtain rfl : k = l.length := by omega
      rw [List.drop_length] at hT
      have hz : tkN l p [] = some (now, out) := hT.symm
      obtain ⟨mf, hmf⟩ : ∃ m, m = min now.fi now.bu := ⟨_, rfl⟩
      have HZ : Hid (talkM p l = (out, { now with fi := mf }, 0)) := (by unfold talkM; rw [hz, hmf] : talkM p l = (out, { now with fi := mf }, 0))
      have t1 : ¬ ((l.length : Int) < (nl : Int)) := by omega
      have t2 : ¬ (l.length < nl) := by omega
      have HM : Hid _ := hmf
      clear hz hT hnl hlt hk hol hmf hac
      have hgb := hJ.gb
      unfold Pm18.c at hgb
      have z0 := ck_at hgb 0
      have z1 := ck_at hgb 1
      have z2 := ck_at hgb 2
      have z3 := ck_at hgb 3
      have z4 := ck_at hgb 4
      have z5 := ck_at hgb 5
      have z6 := ck_at hgb 6
      have z7 := ck_at hgb 7
      have z8 := ck_at hgb 8
      have z9 := ck_at hgb 9
      have z10 := ck_at hgb 10
      simp only [List.getElem?_cons_zero, List.getElem?_cons_succ] at z0 z1 z2 z3 z4 z5 z6 z7 z8 z9 z10
      have f5 := ck_fz hgb 5
      have S5 := hgb.set 5 (.int .i64 mf)
      simp only [List.set_cons_zero, List.set_cons_succ] at S5
      have K5 : TkJ w1 (wr.setCell ⟨g, 5, none⟩ (.int .i64 mf)) g r ({ now with fi := mf } : Pm18).c _ q out := hJ.turn (turned_set wr g 5 (.int .i64 mf)) S5
      obtain ⟨w9, hw9⟩ : ∃ y, y = wr.setCell ⟨g, 5, none⟩ (.int .i64 mf) := ⟨_, rfl⟩
      rw [← hw9] at K5
      have J9 : Hid _ := K5
      clear S5 K5 hJ hgb
      go_wp2_with fail
      refine (Calls.mono (rLesser_any _ _ _)) ?_
      rintro e _ ⟨rfl, rfl⟩
      go_upto_region 12 with fail
      rw [← HM.out, ← hw9]
      clear hw9 f5 z0 z1 z2 z3 z4 z5 z6 z7 z8 z9 z10
      obtain ⟨w10, st, B10, g10⟩ := storeW (T := 48) (vs := [.bool now.hs, .bool now.ds, .int .i64 now.mo, .int .i64 now.mi, .int .i64 now.bu, .int .i64 mf, .bool now.a, .bool now.imd, .bool now.di, .string now.ini, .string now.tgt]) size_rpa (J9.out.rb.laterB (Below.refl w9.heap.size w9).drew) rfl (fun u hu => by simp at hu; rcases hu with rfl | rfl | rfl | rfl | rfl | rfl | rfl | rfl | rfl | rfl | rfl <;> rfl)
      have F10 : Hid _ := And.intro B10 (⟨⟨q, GSl.turned (J9.out.sl.later (Below.refl w9.heap.size w9).drew) (turned_grown g10 (fun k e => by cases e; exact (rfl : r = r)) : Turned (fun k => k = r) _ _) (fun k hk e => (J9.out.far k hk).2.1 e), fun k hk => Nat.le_trans HPG.out.2.size (J9.out.far k hk).2.2⟩, bel_grown (below_then (below_then HPG.out.2 J9.out.bel) (Below.refl w9.heap.size w9).drew) g10 (Nat.le_trans HPG.out.2.size J9.out.rl)⟩ : PrI kRp w w10 (.slice av out.length cv) out)
      clear B10 g10
      have hg9 : Blk w9 g 48 [.bool now.hs, .bool now.ds, .int .i64 now.mo, .int .i64 now.mi, .int .i64 now.bu, .int .i64 mf, .bool now.a, .bool now.imd, .bool now.di, .string now.ini, .string now.tgt] := J9.out.gb
      refine f_begin (S := fun W => Blk W g 48 [.bool now.hs, .bool now.ds, .int .i64 now.mo, .int .i64 now.mi, .int .i64 now.bu, .int .i64 mf, .bool now.a, .bool now.imd, .bool now.di, .string now.ini, .string now.tgt]) [3, 4] (by kernel_rfl) (hg9.laterB (Below.refl w9.heap.size w9).drew) (fun hS => ?_)
      refine f_take (i := 0) (v := ?_) [2, 3, 4] rfl (by kernel_rfl) (by kernel_rfl) (by kernel_rfl) (by kernel_rfl) (by exact fun _ _ _ h => h) (by rfl) ?_ hS ?_
      rotate_left
      · ((intro W hSW; clear hSW; go_simp) <;> with_reducible rfl)
      (try simp only [Act.put, List.setIfInBounds_toArray, List.set_cons_zero, List.set_cons_succ])
      refine f_take (i := 1) (v := ?_) [3, 4] rfl (by kernel_rfl) (by kernel_rfl) (by kernel_rfl) (by kernel_rfl) (by exact fun _ _ _ h => h) (by rfl) ?_ hS ?_
      rotate_left
      · ((intro W hSW; have q0 := ck_at hSW 0; have q1 := ck_at hSW 1; have q2 := ck_at hSW 2; have q3 := ck_at hSW 3; have q4 := ck_at hSW 4; have q5 := ck_at hSW 5; have q6 := ck_at hSW 6; have q7 := ck_at hSW 7; have q8 := ck_at hSW 8; have q9 := ck_at hSW 9; have q10 := ck_at hSW 10; simp only [List.getElem?_cons_zero, List.getElem?_cons_succ] at q0 q1 q2 q3 q4 q5 q6 q7 q8 q9 q10; go_simp) <;> with_reducible rfl)
      (try simp only [Act.put, List.setIfInBounds_toArray, List.set_cons_zero, List.set_cons_succ])
      refine f_take (i := 2) (v := ?_) [3, 4] rfl (by kernel_rfl) (by kernel_rfl) (by kernel_rfl) (by kernel_rfl) (by exact fun _ _ _ h => h) (by rfl) ?_ hS ?_
      rotate_left
      · ((intro W hSW; clear hSW; go_simp) <;> with_reducible rfl)
      (try simp only [Act.put, List.setIfInBounds_toArray, List.set_cons_zero, List.set_cons_succ])
      clear hS
      refine f_last (i := 3) rfl (by simp) (by kernel_rfl) (fun K hK => ?_)
      unfold Oper.wp
      rw [exec_store rfl rfl rfl st]
      refine hK.out _ _ ?_
      clear hK K st
      refine f_last (i := 4) rfl (by simp) (by kernel_rfl) (fun K hK => ?_)
      go_simp
      refine hK.out _ _ ?_
      clear hK K
      refine f_done (by kernel_rfl) ?_ _
      have z0 := ck_at F10.out.1 0
      have z1 := ck_at F10.out.1 1
      have z2 := ck_at F10.out.1 2
      have z3 := ck_at F10.out.1 3
      have z4 := ck_at F10.out.1 4
      have z5 := ck_at F10.out.1 5
      have z6 := ck_at F10.out.1 6
      have z7 := ck_at F10.out.1 7
      have z8 := ck_at F10.out.1 8
      have z9 := ck_at F10.out.1 9
      have z10 := ck_at F10.out.1 10
      simp only [List.getElem?_cons_zero, List.getElem?_cons_succ] at z0 z1 z2 z3 z4 z5 z6 z7 z8 z9 z10
      go_wp2
      refine bodyPost_ret (v := .tuple #[.slice av out.length cv, .agg #[.bool now.hs, .bool now.ds, .int .i64 now.mo, .int .i64 now.mi, .int .i64 now.bu, .int .i64 mf, .bool now.a, .bool now.imd, .bool now.di, .string now.ini, .string now.tgt], .int .i64 0]) (by simp [results, Tryd.results29, go_sem, z0, z1, z2, z3, z4, z5, z6, z7, z8, z9, z10]) rfl ?_
      exact ⟨_, by rw [HZ.out]; rfl, by rw [HZ.out]; exact F10.out.2⟩
set_option maxHeartbeats 4000000 in
theorem tOwn_any (p : Pm18) (w : World) : Calls Tryd.prog 28 #[.agg #[.bool p.hs, .bool p.ds, .int .i64 p.mo, .int .i64 p.mi, .int .i64 p.bu, .int .i64 p.fi, .bool p.a, .bool p.imd, .bool p.di, .string p.ini, .string p.tgt]] w fun e w' => e = .returned (.agg #[.bool p.hs, .bool p.ds, .int .i64 p.mo, .int .i64 p.mi, .int .i64 p.bu, .int .i64 p.fi, .bool p.a, .bool p.imd, .bool p.di, .string p.ini, .string p.tgt]) ∧ Below w.heap.size w w' := by
  have N1 := Blk.new' w 48 [.bool p.hs, .bool p.ds, .int .i64 p.mo, .int .i64 p.mi, .int .i64 p.bu, .int .i64 p.fi, .bool p.a, .bool p.imd, .bool p.di, .string p.ini, .string p.tgt]
  have bn1 : Below w.heap.size w (w.alloc (.cells #[.bool p.hs, .bool p.ds, .int .i64 p.mo, .int .i64 p.mi, .int .i64 p.bu, .int .i64 p.fi, .bool p.a, .bool p.imd, .bool p.di, .string p.ini, .string p.tgt] 48)) := (Below.refl _ _).alloc (Nat.le_refl _) _
  obtain ⟨w1, hw1⟩ : ∃ w1, w1 = w.alloc (.cells #[.bool p.hs, .bool p.ds, .int .i64 p.mo, .int .i64 p.mi, .int .i64 p.bu, .int .i64 p.fi, .bool p.a, .bool p.imd, .bool p.di, .string p.ini, .string p.tgt] 48) := ⟨_, rfl⟩
  rw [← hw1] at N1 bn1
  have N2 := Blk.new' w1 50 [.bool false, .bool false, .int .i64 0, .int .i64 0, .int .i64 0, .int .i64 0, .bool false, .bool false, .bool false, .string ⟨#[]⟩, .string ⟨#[]⟩]
  have bn2 : Below w1.heap.size w1 (w1.alloc (.cells #[.bool false, .bool false, .int .i64 0, .int .i64 0, .int .i64 0, .int .i64 0, .bool false, .bool false, .bool false, .string ⟨#[]⟩, .string ⟨#[]⟩] 50)) := (Below.refl _ _).alloc (Nat.le_refl _) _
  obtain ⟨w2, hw2⟩ : ∃ w2, w2 = w1.alloc (.cells #[.bool false, .bool false, .int .i64 0, .int .i64 0, .int .i64 0, .int .i64 0, .bool false, .bool false, .bool false, .string ⟨#[]⟩, .string ⟨#[]⟩] 50) := ⟨_, rfl⟩
  rw [← hw2] at N2 bn2
  have z1 : w1.heap.size = w.heap.size + 1 := by rw [hw1]; simp
  obtain ⟨g, hg⟩ : ∃ g, g = w.heap.size := ⟨_, rfl⟩
  obtain ⟨r, hr⟩ : ∃ r, r = w.heap.size + 1 := ⟨_, rfl⟩
  rw [← hg] at N1
  rw [z1, ← hr] at N2
  have N1b := N1.laterB bn2
  have y0 := ck_at N1b 0
  have y1 := ck_at N1b 1
  have y2 := ck_at N1b 2
  have y3 := ck_at N1b 3
  have y4 := ck_at N1b 4
  have y5 := ck_at N1b 5
  have y6 := ck_at N1b 6
  have y7 := ck_at N1b 7
  have y8 := ck_at N1b 8
  have y9 := ck_at N1b 9
  have y10 := ck_at N1b 10
  simp only [List.getElem?_cons_zero, List.getElem?_cons_succ] at y0 y1 y2 y3 y4 y5 y6 y7 y8 y9 y10
  obtain ⟨w3, st, B3, g3⟩ := storeW (T := 50) (vs := [.bool p.hs, .bool p.ds, .int .i64 p.mo, .int .i64 p.mi, .int .i64 p.bu, .int .i64 p.fi, .bool p.a, .bool p.imd, .bool p.di, .string p.ini, .string p.tgt]) size_pa N2 rfl (fun u hu => by simp at hu; rcases hu with rfl | rfl | rfl | rfl | rfl | rfl | rfl | rfl | rfl | rfl | rfl <;> rfl)
  have F : Hid _ := And.intro B3 (bel_grown (below_then bn1 bn2) g3 (show w.heap.size ≤ r by omega))
  clear B3 g3 bn1 bn2 N1 N2 N1b z1
  go_enter Tryd.func28, Tryd.ntmps28
  go_upto_region 1 with fail
  rw [← hw1, ← hw2, ← hr, ← hg]
  clear hw1 hw2 hr hg
  go_wp2_with (refine wpList_skip rfl (exec_store rfl rfl rfl st) ?_)
  clear st y0 y1 y2 y3 y4 y5 y6 y7 y8 y9 y10
  have z0 := ck_at F.out.1 0
  have z1 := ck_at F.out.1 1
  have z2 := ck_at F.out.1 2
  have z3 := ck_at F.out.1 3
  have z4 := ck_at F.out.1 4
  have z5 := ck_at F.out.1 5
  have z6 := ck_at F.out.1 6
  have z7 := ck_at F.out.1 7
  have z8 := ck_at F.out.1 8
  have z9 := ck_at F.out.1 9
  have z10 := ck_at F.out.1 10
  simp only [List.getElem?_cons_zero, List.getElem?_cons_succ] at z0 z1 z2 z3 z4 z5 z6 z7 z8 z9 z10
  refine bodyPost_ret (v := .agg #[.bool p.hs, .bool p.ds, .int .i64 p.mo, .int .i64 p.mi, .int .i64 p.bu, .int .i64 p.fi, .bool p.a, .bool p.imd, .bool p.di, .string p.ini, .string p.tgt]) (by simp [results, Tryd.results28, go_sem, z0, z1, z2, z3, z4, z5, z6, z7, z8, z9, z10]) rfl ?_
  exact ⟨rfl, F.out.2⟩
end Go.Proofs.YtligmiajlbjecaaDoor

