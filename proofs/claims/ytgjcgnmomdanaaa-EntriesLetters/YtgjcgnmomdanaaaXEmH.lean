/- An entry read: the document's, in any state of the reader. -/
import Derived.Test.YtgjcgnmomdanaaaXEmF
import Derived.Test.YtgjcgnmomdanaaaXEp3
namespace Go.Proofs.Ytgjcgnmomdanaaa
open Go.RowKit
set_option linter.unusedVariables false
set_option maxRecDepth 4000

/-- what stands while the answer is laid -/
structure GtT (FL : List Nat) (q q5 g : Nat) (w W : World) (K T : Int) (x : Option Addr) (c : Nat) (C L : List (BitVec 8)) (E : Int) : Prop where
  b : Turned (fun k => k = g) w W
  m : ∃ y0 y1 y2, Blk W q 49 [y0, y1, y2]
  m5 : Blk W q5 49 [.int .i64 K, .int .i64 T, .slice x C.length c]
  own : Own W (q + 1) (.slice x C.length c) C
  rd : Rd W (q :: FL) g 66 L E
theorem GtT.later {FL : List Nat} {q q5 g : Nat} {w W W' : World} {K T : Int} {x : Option Addr} {c : Nat} {C L : List (BitVec 8)} {E : Int} (h : GtT FL q q5 g w W K T x c C L E) (hb : Below W.heap.size W W') : GtT FL q q5 g w W' K T x c C L E := by
  obtain ⟨y0, y1, y2, m⟩ := h.m
  exact ⟨h.b.trans ((turned_below hb).mono (fun _ e => absurd e id)), ⟨y0, y1, y2, m.laterB hb⟩, h.m5.laterB hb, h.own.later hb, h.rd.later hb⟩
theorem GtT.set {FL : List Nat} {q q5 g : Nat} {w W : World} {K T : Int} {x : Option Addr} {c : Nat} {C L : List (BitVec 8)} {E : Int} (h : GtT FL q q5 g w W K T x c C L E) (hbq : w.heap.size ≤ q) (hq5 : q5 ≠ q) (hqg : q ≠ g) (X Y Z : Value) : GtT FL q q5 g w (((W.setCell ⟨q, 0, none⟩ X).setCell ⟨q, 1, none⟩ Y).setCell ⟨q, 2, none⟩ Z) K T x c C L E ∧ Blk (((W.setCell ⟨q, 0, none⟩ X).setCell ⟨q, 1, none⟩ Y).setCell ⟨q, 2, none⟩ Z) q 49 [X, Y, Z] := by
  obtain ⟨y0, y1, y2, m⟩ := h.m
  have hG := grown3 W q X Y Z
  have S4 := eset3 m X Y Z 0 W (Below.refl _ _) (Nat.zero_le _) (Nat.zero_le _)
  refine ⟨⟨h.b.trans (turned_grown hG (fun k e => .inr (by injection e with e; omega))), ⟨_, _, _, S4.1⟩, h.m5.grown hG (fun e => hq5 (by injection e)), h.own.keep hG (fun k hk e => ?_), h.rd.keep hG (fun k hk => ?_)⟩, S4.1⟩
  · have := (World.ownsRow.lt h.own k hk).1
    injection e with e; omega
  · injection hk with hk; subst hk; exact ⟨hqg, .inl (by simp)⟩
set_option maxHeartbeats 4000000 in
theorem rget_turn (FL : List Nat) (g : Nat) (s : Rs) (w : World) (hR : Rd w FL g 66 s.1 s.2) (hFL : ∀ k ∈ FL, k < w.heap.size) (hbl : s.1.length ≤ 140737488351232) :
    Calls Try.prog 35 #[.pointer (some ⟨g, 0, none⟩)] w fun r w' => ∃ x c, r = .returned (.tuple #[.agg #[.int .i64 ((rkE s).2.2 - 64), .int .i64 (rtE s).2.2, .slice x (rcE s).2.2.length c], .bool (canE ((rkE s).2.2 - 64, (rtE s).2.2, (rcE s).2.2))]) ∧ Own w' w.heap.size (.slice x (rcE s).2.2.length c) (rcE s).2.2 ∧ Rd w' FL g 66 (rcE s).1 (rcE s).2.1 ∧ Turned (fun k => k = g) w w' := by
  have b0 := box3_below w (.int .i64 0) (.int .i64 0) (.slice none 0 0) 49
  have M0 : Blk (w.alloc (.cells #[.int .i64 0, .int .i64 0, .slice none 0 0] 49)) w.heap.size 49 [.int .i64 0, .int .i64 0, .slice none 0 0] := Blk.new' w _ _
  have hgl := hR.blt
  have R0 := (hR.more w.heap.size (Nat.le_refl _)).later b0
  have hsz : w.heap.size < (w.alloc (.cells #[.int .i64 0, .int .i64 0, .slice none 0 0] 49)).heap.size := M0.lt
  have hkb := rkE_bd s
  have hcl : (rcE s).2.2.length ≤ s.1.length := (rNext_len s).2
  obtain ⟨K, hK⟩ : ∃ K, K = (rkE s).2.2 := ⟨_, rfl⟩
  obtain ⟨T, hT⟩ : ∃ T, T = (rtE s).2.2 := ⟨_, rfl⟩
  obtain ⟨C, hC⟩ : ∃ C, C = (rcE s).2.2 := ⟨_, rfl⟩
  rw [← hK, ← hT, ← hC]
  rw [← hK] at hkb
  rw [← hC] at hcl
  have HKT : Hid (K = (rkE s).2.2 ∧ T = (rtE s).2.2 ∧ C = (rcE s).2.2) := ⟨hK, hT, hC⟩
  clear hR hK hT hC
  go_enter Try.func35, Try.ntmps35
  go_wp2_with fail
  generalize w.alloc (.cells #[.int .i64 0, .int .i64 0, .slice none 0 0] 49) = wb at *
  have N1 : Calls Try.prog 33 #[.pointer (some ⟨g, 0, none⟩), .int .i64 1] wb fun e w' => e = .returned (.int .i64 (rkE s).2.2) ∧ Rd w' (w.heap.size :: FL) g 66 (rkE s).1 (rkE s).2.1 ∧ wb.grownBy w' (some g) := rNum_any _ g s.1 s.2 1 wb R0
  rw [← HKT.out.1] at N1
  have H0 : Hid (Below w.heap.size w wb ∧ Blk wb w.heap.size 49 [.int .i64 0, .int .i64 0, .slice none 0 0]) := ⟨b0, M0⟩
  clear b0 M0 R0
  refine N1.mono ?_
  rintro r w1 ⟨rfl, R1, g1⟩
  have N2 : Calls Try.prog 33 #[.pointer (some ⟨g, 0, none⟩), .int .i64 6] w1 fun e w' => e = .returned (.int .i64 (rtE s).2.2) ∧ Rd w' (w.heap.size :: FL) g 66 (rtE s).1 (rtE s).2.1 ∧ w1.grownBy w' (some g) := rNum_any _ g _ _ 6 w1 R1
  rw [← HKT.out.2.1] at N2
  have hs1 := g1.size
  have H1 : Hid (Turned (fun k => k = g) w w1 ∧ Blk w1 w.heap.size 49 [.int .i64 0, .int .i64 0, .slice none 0 0]) := ⟨((turned_below H0.out.1).mono (fun _ e => absurd e id)).trans (turned_grown g1 (fun k e => .inl (by injection e with e; exact e.symm))), H0.out.2.grown g1 (fun e => by injection e with e; omega)⟩
  clear H0 R1 N1 g1
  go_wp2_with fail
  refine N2.mono ?_
  rintro r w2 ⟨rfl, R2, g2⟩
  have hs2 := g2.size
  have b5 := box3_below w2 (.int .i64 (K - 64)) (.int .i64 T) (.slice none 0 0) 49
  have M5 : Blk (w2.alloc (.cells #[.int .i64 (K - 64), .int .i64 T, .slice none 0 0] 49)) w2.heap.size 49 [.int .i64 (K - 64), .int .i64 T, .slice none 0 0] := Blk.new' w2 _ _
  have R5 := (R2.more w2.heap.size (Nat.le_refl _)).later b5
  have h5 : w2.heap.size < (w2.alloc (.cells #[.int .i64 (K - 64), .int .i64 T, .slice none 0 0] 49)).heap.size := M5.lt
  have hg2 := R2.blt
  have H2 : Hid (Turned (fun k => k = g) w (w2.alloc (.cells #[.int .i64 (K - 64), .int .i64 T, .slice none 0 0] 49)) ∧ Blk (w2.alloc (.cells #[.int .i64 (K - 64), .int .i64 T, .slice none 0 0] 49)) w.heap.size 49 [.int .i64 0, .int .i64 0, .slice none 0 0] ∧ Blk (w2.alloc (.cells #[.int .i64 (K - 64), .int .i64 T, .slice none 0 0] 49)) w2.heap.size 49 [.int .i64 (K - 64), .int .i64 T, .slice none 0 0]) := ⟨(H1.out.1.trans (turned_grown g2 (fun k e => .inl (by injection e with e; exact e.symm)))).trans ((turned_below b5).mono (fun _ e => absurd e id)), (H1.out.2.grown g2 (fun e => by injection e with e; omega)).laterB b5, M5⟩
  clear H1 R2 N2 g2 b5 M5
  go_wp2_with fail
  generalize w2.alloc (.cells #[.int .i64 (K - 64), .int .i64 T, .slice none 0 0] 49) = w3 at *
  have N3 : Calls Try.prog 36 #[.pointer (some ⟨g, 0, none⟩), .int .i64 2] w3 fun e w' => ∃ v, e = .returned v ∧ Own w' w3.heap.size v (rcE s).2.2 ∧ Rd w' (w2.heap.size :: w.heap.size :: FL) g 66 (rcE s).1 (rcE s).2.1 ∧ w3.grownBy w' (some g) := rBytes_any _ g _ _ 2 w3 R5 (fun k hk => by
    rcases List.mem_cons.1 hk with e | hk
    · omega
    · rcases List.mem_cons.1 hk with e | hk
      · omega
      · have := hFL k hk; omega)
  rw [← HKT.out.2.2] at N3
  refine N3.mono ?_
  rintro r w4 ⟨v, rfl, o4, R4, g4⟩
  obtain ⟨x, c, rfl, -, -, -, -, -⟩ := o4.open
  have hs4 := g4.size
  have b4 : Turned (fun k => k = g) w w4 := H2.out.1.trans (turned_grown g4 (fun k e => .inl (by injection e with e; exact e.symm)))
  have M4 := H2.out.2.1.grown g4 (fun e => by injection e with e; omega)
  have M5 := H2.out.2.2.grown g4 (fun e => by injection e with e; omega)
  have hG := grown_set w4 w2.heap.size 2 (.slice x C.length c)
  have hGs : GtT FL w.heap.size w2.heap.size g w (w4.setCell ⟨w2.heap.size, 2, none⟩ (.slice x C.length c)) (K - 64) T x c C (rcE s).1 (rcE s).2.1 := ⟨b4.trans (turned_grown hG (fun k e => .inr (by injection e with e; omega))), ⟨_, _, _, M4.grown hG (fun e => by injection e with e; omega)⟩, by simpa using M5.set 2 (.slice x C.length c), (o4.keep hG (fun k hk e => by
      have := (World.ownsRow.lt o4 k hk).1
      injection e with e; omega)).lower (by omega), (R4.keep hG (fun k hk => by injection hk with hk; subst hk; exact ⟨by omega, .inl (by simp)⟩)).less (fun k hk => List.mem_cons_of_mem _ hk)⟩
  have hsz4 : w4.heap.size ≤ (w4.setCell ⟨w2.heap.size, 2, none⟩ (.slice x C.length c)).heap.size := hG.size
  obtain ⟨⟨u0, u1, u2⟩, f0, f1, f2⟩ := eblk3 M5
  have HG : Hid _ := hGs
  clear hGs hG M4 M5 b4 o4 R4 g4 N3 H2 R5
  go_upto_region 4 with fail
  clear u0 u1 u2 f0 f1 f2
  generalize w4.setCell ⟨w2.heap.size, 2, none⟩ (.slice x C.length c) = w5 at *
  have Sd : GtT FL w.heap.size w2.heap.size g w w5.drew (K - 64) T x c C (rcE s).1 (rcE s).2.1 := HG.out.later (Below.refl _ _).drew
  have d0 : ∀ W, GtT FL w.heap.size w2.heap.size g w W (K - 64) T x c C (rcE s).1 (rcE s).2.1 → W.cell? ⟨w2.heap.size, 0, none⟩ = some (.int .i64 (K - 64)) := fun W h => (eblk3 h.m5).1.1
  have d1 : ∀ W, GtT FL w.heap.size w2.heap.size g w W (K - 64) T x c C (rcE s).1 (rcE s).2.1 → W.cell? ⟨w2.heap.size, 1, none⟩ = some (.int .i64 T) := fun W h => (eblk3 h.m5).1.2.1
  have d2 : ∀ W, GtT FL w.heap.size w2.heap.size g w W (K - 64) T x c C (rcE s).1 (rcE s).2.1 → W.cell? ⟨w2.heap.size, 2, none⟩ = some (.slice x C.length c) := fun W h => (eblk3 h.m5).1.2.2
  refine wp_region_held_drew (S := fun W => GtT FL w.heap.size w2.heap.size g w W (K - 64) T x c C (rcE s).1 (rcE s).2.1) (by kernel_rfl) Sd (fun hS => ?_)
  refine any_take (i := 0) (v := ?_) rfl (by kernel_rfl) (by kernel_rfl) (by kernel_rfl) (by exact fun _ _ _ h => h) (by rfl) ?_ hS ?_
  rotate_left
  · ((intro w hSw; (try dsimp only at hSw); go_simp) <;> with_reducible rfl)
  (try simp only [Act.put, List.setIfInBounds_toArray, List.set_cons_zero, List.set_cons_succ])
  refine any_take (i := 1) (v := ?_) rfl (by kernel_rfl) (by kernel_rfl) (by kernel_rfl) (by exact fun _ _ _ h => h) (by rfl) ?_ hS ?_
  rotate_left
  · ((intro w hSw; (try dsimp only at hSw); go_simp) <;> with_reducible rfl)
  (try simp only [Act.put, List.setIfInBounds_toArray, List.set_cons_zero, List.set_cons_succ])
  clear d0 d1 d2
  obtain ⟨x', c', hv, -, -, hrow, -, -⟩ := (id hS : GtT FL w.heap.size w2.heap.size g w w5.drew (K - 64) T x c C (rcE s).1 (rcE s).2.1).own.open
  simp only [Value.slice.injEq] at hv
  obtain ⟨rfl, -, rfl⟩ := hv
  have HRt : Hid _ := right9_any (K - 64) T C x c w5.drew hrow (by omega)
  clear hrow
  refine any_one (i := 2) rfl (by kernel_rfl) (fun Kk hKk => ?_)
  go_simp
  refine (Calls.mono (HRt.out)) ?_
  rintro e x1 ⟨rfl, hbR⟩
  have hS1 : GtT FL w.heap.size w2.heap.size g w x1 (K - 64) T x c C (rcE s).1 (rcE s).2.1 := Sd.later hbR
  have hsx : w5.heap.size ≤ x1.heap.size := hbR.size
  clear HRt hbR
  go_wp2_with fail
  refine hKk.out _ _ hS1 ?_
  clear hKk Kk hS
  have hS := hS1
  obtain ⟨y0, y1, y2, mq⟩ := hS1.m
  obtain ⟨⟨u0, u1, u2⟩, f0, f1, f2⟩ := eblk3 mq
  have hF := hS1.set (Nat.le_refl _) (by omega) (by omega) (.int .i64 (K - 64)) (.int .i64 T) (.slice x C.length c)
  have F : Hid _ := hF
  clear hF mq hS hS1 Sd HG
  refine any_one (i := 3) rfl (by kernel_rfl) (fun Kk hKk => ?_)
  go_simp
  refine hKk.out _ _ F.out.1 ?_
  clear hKk Kk u0 u1 u2 f0 f1 f2
  have hS := F.out.1
  refine any_take (i := 4) (v := ?_) rfl (by kernel_rfl) (by kernel_rfl) (by kernel_rfl) (by exact fun _ _ _ h => h) (by rfl) ?_ hS ?_
  rotate_left
  · ((intro w hSw; (try dsimp only at hSw); go_simp) <;> with_reducible rfl)
  (try simp only [Act.put, List.setIfInBounds_toArray, List.set_cons_zero, List.set_cons_succ])
  refine wpAnyH_done (by kernel_rfl) ?_ _
  clear hS
  generalize (((x1.setCell ⟨w.heap.size, 0, none⟩ (.int .i64 (K - 64))).setCell ⟨w.heap.size, 1, none⟩ (.int .i64 T)).setCell ⟨w.heap.size, 2, none⟩ (.slice x C.length c)) = wf at *
  go_wp2
  obtain ⟨⟨y0, y1, y2⟩, -⟩ := eblk3 F.out.2
  refine bodyPost_ret (v := .tuple #[.agg #[.int .i64 (K - 64), .int .i64 T, .slice x C.length c], .bool (canE (K - 64, T, C))]) (by simp [results, Try.results35, go_sem, y0, y1, y2]) rfl ?_
  exact ⟨x, c, rfl, F.out.1.own.lower (by omega), F.out.1.rd.less (fun k hk => List.mem_cons_of_mem _ hk), F.out.1.b⟩

end Go.Proofs.Ytgjcgnmomdanaaa

