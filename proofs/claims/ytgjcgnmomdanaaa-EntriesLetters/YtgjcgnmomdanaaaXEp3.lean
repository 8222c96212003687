/- An entry read and unpacked: the program's. -/
import Derived.Test.YtgjcgnmomdanaaaXEp2
import Derived.Test.YtgjcgnmomdanaaaXEn6
import Derived.Test.YtgjcgnmomdanaaaXDraw
import Derived.Deep.CutRange
namespace Go.Proofs.Ytgjcgnmomdanaaa
open Go.RowKit
set_option linter.unusedVariables false
set_option maxRecDepth 4000

theorem grown3 (w : World) (q : Nat) (x y z : Value) : w.grownBy (((w.setCell ⟨q, 0, none⟩ x).setCell ⟨q, 1, none⟩ y).setCell ⟨q, 2, none⟩ z) (some q) :=
  ⟨rfl, rfl, rfl, by rw [eset3_size]; exact Nat.le_refl _, fun k hk hn => eset3_block w q x y z k (fun e => hn (by rw [e]))⟩
theorem rk_bd (b : List (BitVec 8)) : 0 ≤ (rk b).2.2 ∧ (rk b).2.2 < 256 := by
  have := rdNum_bd b 0 1 (.inl rfl)
  simp only [Nat.reduceMul, Int.reducePow] at this
  exact this
theorem rt_bd (b : List (BitVec 8)) : 0 ≤ (rt b).2.2 ∧ (rt b).2.2 < 281474976710656 := by
  have := rdNum_bd (rk b).1 (rk b).2.1 6 (.inr rfl)
  simp only [Nat.reduceMul, Int.reducePow] at this
  exact this
theorem rdNum_len (L : List (BitVec 8)) (E s : Int) : (rdNum L E s).1.length ≤ L.length := by
  unfold rdNum
  split
  · split
    · show (L.drop _).length ≤ _; rw [List.length_drop]; omega
    · exact Nat.zero_le _
  · exact Nat.zero_le _
theorem rc_len (b : List (BitVec 8)) : (rc b).2.2.length ≤ b.length := by
  have h1 := rdNum_len b 0 1
  have h2 := rdNum_len (rk b).1 (rk b).2.1 6
  have h3 : (rc b).2.2.length ≤ (rt b).1.length := by
    unfold rc rdBytes
    split
    · split
      · show (((rt b).1.drop _).take _).length ≤ _; rw [List.length_take, List.length_drop]; omega
      · exact Nat.zero_le _
    · exact Nat.zero_le _
  exact Nat.le_trans h3 (Nat.le_trans h2 h1)
set_option maxHeartbeats 2000000 in
theorem readEntry_any (base g : Nat) (b : List (BitVec 8)) (w : World) (hR : Rd w [] g 98 b 0) (hg : base ≤ g) (hbw : base ≤ w.heap.size) :
    Calls Try.prog 61 #[.pointer (some ⟨g, 0, none⟩)] w fun r w' => ∃ x c, r = .returned (.agg #[.int .i64 ((rk b).2.2 - 64), .int .i64 (rt b).2.2, .slice x (rc b).2.2.length c]) ∧ Own w' w.heap.size (.slice x (rc b).2.2.length c) (rc b).2.2 ∧ Rd w' [] g 98 (rc b).1 (rc b).2.1 ∧ Below base w w' := by
  have b0 := box3_below w (.int .i64 0) (.int .i64 0) (.slice none 0 0) 49
  have M0 : Blk (w.alloc (.cells #[.int .i64 0, .int .i64 0, .slice none 0 0] 49)) w.heap.size 49 [.int .i64 0, .int .i64 0, .slice none 0 0] := Blk.new' w _ _
  have hgl := hR.blt
  have R0 := (hR.more w.heap.size (Nat.le_refl _)).later b0
  have hsz : w.heap.size < (w.alloc (.cells #[.int .i64 0, .int .i64 0, .slice none 0 0] 49)).heap.size := M0.lt
  have hkb := rk_bd b
  obtain ⟨K, hK⟩ : ∃ K, K = (rk b).2.2 := ⟨_, rfl⟩
  obtain ⟨T, hT⟩ : ∃ T, T = (rt b).2.2 := ⟨_, rfl⟩
  rw [← hK, ← hT]
  rw [← hK] at hkb
  have HKT : Hid (K = (rk b).2.2 ∧ T = (rt b).2.2) := ⟨hK, hT⟩
  clear hR hK hT
  go_enter Try.func61, Try.ntmps61
  go_wp2_with fail
  generalize w.alloc (.cells #[.int .i64 0, .int .i64 0, .slice none 0 0] 49) = wb at *
  have N1 : Calls Try.prog 59 #[.pointer (some ⟨g, 0, none⟩), .int .i64 1] wb fun e w' => e = .returned (.int .i64 (rk b).2.2) ∧ Rd w' [w.heap.size] g 98 (rk b).1 (rk b).2.1 ∧ wb.grownBy w' (some g) := Num_any _ g b 0 1 wb R0
  rw [← HKT.out.1] at N1
  have H0 : Hid (Below w.heap.size w wb ∧ Blk wb w.heap.size 49 [.int .i64 0, .int .i64 0, .slice none 0 0]) := ⟨b0, M0⟩
  clear b0 M0 R0
  refine N1.mono ?_
  rintro r w1 ⟨rfl, R1, g1⟩
  have N2 : Calls Try.prog 59 #[.pointer (some ⟨g, 0, none⟩), .int .i64 6] w1 fun e w' => e = .returned (.int .i64 (rt b).2.2) ∧ Rd w' [w.heap.size] g 98 (rt b).1 (rt b).2.1 ∧ w1.grownBy w' (some g) := Num_any _ g _ _ 6 w1 R1
  rw [← HKT.out.2] at N2
  have hs1 := g1.size
  have H1 : Hid (Below base w w1 ∧ Blk w1 w.heap.size 49 [.int .i64 0, .int .i64 0, .slice none 0 0]) := ⟨(H0.out.1.mono hbw).trans (grown_below g1 _ hg (by omega)), H0.out.2.grown g1 (fun e => by injection e with e; omega)⟩
  clear H0 R1 N1 g1
  go_wp2_with fail
  refine N2.mono ?_
  rintro r w2 ⟨rfl, R2, g2⟩
  have N3 : Calls Try.prog 62 #[.pointer (some ⟨g, 0, none⟩), .int .i64 2] w2 fun e w' => ∃ v, e = .returned v ∧ Own w' w2.heap.size v (rc b).2.2 ∧ Rd w' (v.ownBlock.toList ++ [w.heap.size]) g 98 (rc b).1 (rc b).2.1 ∧ w2.grownBy w' (some g) := Bytes_any _ g _ _ 2 w2 R2
  have hs2 := g2.size
  have H2 : Hid (Below base w w2 ∧ Blk w2 w.heap.size 49 [.int .i64 0, .int .i64 0, .slice none 0 0]) := ⟨H1.out.1.trans (grown_below g2 _ hg (by omega)), H1.out.2.grown g2 (fun e => by injection e with e; omega)⟩
  clear H1 R2 N2 g2
  go_wp2_with fail
  refine N3.mono ?_
  rintro r w3 ⟨v, rfl, o3, R3, g3⟩
  obtain ⟨x, c, rfl, -, -, -, -, -⟩ := o3.open
  have hs3 := g3.size
  have M3 := H2.out.2.grown g3 (fun e => by injection e with e; omega)
  have b3 : Below base w w3 := H2.out.1.trans (grown_below g3 _ hg (by omega))
  have hG := grown3 w3 w.heap.size (.int .i64 (K - 64)) (.int .i64 T) (.slice x (rc b).2.2.length c)
  have S4 := eset3 M3 (.int .i64 (K - 64)) (.int .i64 T) (.slice x (rc b).2.2.length c) base w b3 hbw (by omega)
  have o4 := o3.keep hG (fun k hk e => by
    have := (World.ownsRow.lt o3 k hk).1
    injection e with e; omega)
  have R4 := ((R3.less (F' := [w.heap.size]) (fun k hk => List.mem_append_right _ hk)).keep hG (fun k hk => by injection hk with hk; subst hk; exact ⟨by omega, .inl (by simp)⟩)).less (F' := []) (fun k hk => by cases hk)
  obtain ⟨⟨u0, u1, u2⟩, f0, f1, f2⟩ := eblk3 M3
  have F : Hid _ := And.intro (o4.lower (show w.heap.size ≤ w2.heap.size by omega)) (And.intro R4 (And.intro S4.2 S4.1))
  clear o3 o4 R3 R4 M3 b3 S4 H2 N3 g3 hG
  go_wp2
  generalize (((w3.setCell ⟨w.heap.size, 0, none⟩ (.int .i64 (K - 64))).setCell ⟨w.heap.size, 1, none⟩ (.int .i64 T)).setCell ⟨w.heap.size, 2, none⟩ (.slice x (rc b).2.2.length c)) = wf at *
  obtain ⟨⟨y0, y1, y2⟩, -⟩ := eblk3 F.out.2.2.2
  refine bodyPost_ret (v := .agg #[.int .i64 (K - 64), .int .i64 T, .slice x (rc b).2.2.length c]) (by simp [results, Try.results61, go_sem, y0, y1, y2]) rfl ?_
  exact ⟨x, c, rfl, F.out.1, F.out.2.1, F.out.2.2.1⟩


end Go.Proofs.Ytgjcgnmomdanaaa

/- An entry read and unpacked: the document's. -/
namespace Go.Proofs.Ytgjcgnmomdanaaa
open Go.RowKit
set_option linter.unusedVariables false
set_option maxRecDepth 4000

/-- what stands while the answer is laid -/
structure GtS (base q q5 g : Nat) (w W : World) (K T : Int) (x : Option Addr) (c : Nat) (C L : List (BitVec 8)) (E : Int) : Prop where
  b : Below base w W
  m : ∃ y0 y1 y2, Blk W q 49 [y0, y1, y2]
  m5 : Blk W q5 49 [.int .i64 K, .int .i64 T, .slice x C.length c]
  own : Own W (q + 1) (.slice x C.length c) C
  rd : Rd W [q] g 66 L E
theorem GtS.later {base q q5 g : Nat} {w W W' : World} {K T : Int} {x : Option Addr} {c : Nat} {C L : List (BitVec 8)} {E : Int} (h : GtS base q q5 g w W K T x c C L E) (hbw : base ≤ W.heap.size) (hb : Below W.heap.size W W') : GtS base q q5 g w W' K T x c C L E := by
  obtain ⟨y0, y1, y2, m⟩ := h.m
  exact ⟨h.b.trans (hb.mono hbw), ⟨y0, y1, y2, m.laterB hb⟩, h.m5.laterB hb, h.own.later hb, h.rd.later hb⟩
theorem GtS.set {base q q5 g : Nat} {w W : World} {K T : Int} {x : Option Addr} {c : Nat} {C L : List (BitVec 8)} {E : Int} (h : GtS base q q5 g w W K T x c C L E) (hbw : base ≤ W.heap.size) (hbq : base ≤ q) (hq5 : q5 ≠ q) (hqg : q ≠ g) (X Y Z : Value) : GtS base q q5 g w (((W.setCell ⟨q, 0, none⟩ X).setCell ⟨q, 1, none⟩ Y).setCell ⟨q, 2, none⟩ Z) K T x c C L E ∧ Blk (((W.setCell ⟨q, 0, none⟩ X).setCell ⟨q, 1, none⟩ Y).setCell ⟨q, 2, none⟩ Z) q 49 [X, Y, Z] := by
  obtain ⟨y0, y1, y2, m⟩ := h.m
  have hG := grown3 W q X Y Z
  have S4 := eset3 m X Y Z base w h.b hbq hbw
  refine ⟨⟨S4.2, ⟨_, _, _, S4.1⟩, h.m5.grown hG (fun e => hq5 (by injection e)), h.own.keep hG (fun k hk e => ?_), h.rd.keep hG (fun k hk => ?_)⟩, S4.1⟩
  · have := (World.ownsRow.lt h.own k hk).1
    injection e with e; omega
  · injection hk with hk; subst hk; exact ⟨hqg, .inl (by simp)⟩
set_option maxHeartbeats 4000000 in
theorem get_any (base g : Nat) (b : List (BitVec 8)) (w : World) (hR : Rd w [] g 66 b 0) (hg : base ≤ g) (hbw : base ≤ w.heap.size) (hbl : b.length ≤ 140737488351232) :
    Calls Try.prog 35 #[.pointer (some ⟨g, 0, none⟩)] w fun r w' => ∃ x c, r = .returned (.tuple #[.agg #[.int .i64 ((rk b).2.2 - 64), .int .i64 (rt b).2.2, .slice x (rc b).2.2.length c], .bool (canE ((rk b).2.2 - 64, (rt b).2.2, (rc b).2.2))]) ∧ Own w' w.heap.size (.slice x (rc b).2.2.length c) (rc b).2.2 ∧ Rd w' [] g 66 (rc b).1 (rc b).2.1 ∧ Below base w w' := by
  have b0 := box3_below w (.int .i64 0) (.int .i64 0) (.slice none 0 0) 49
  have M0 : Blk (w.alloc (.cells #[.int .i64 0, .int .i64 0, .slice none 0 0] 49)) w.heap.size 49 [.int .i64 0, .int .i64 0, .slice none 0 0] := Blk.new' w _ _
  have hgl := hR.blt
  have R0 := (hR.more w.heap.size (Nat.le_refl _)).later b0
  have hsz : w.heap.size < (w.alloc (.cells #[.int .i64 0, .int .i64 0, .slice none 0 0] 49)).heap.size := M0.lt
  have hkb := rk_bd b
  have hcl := rc_len b
  obtain ⟨K, hK⟩ : ∃ K, K = (rk b).2.2 := ⟨_, rfl⟩
  obtain ⟨T, hT⟩ : ∃ T, T = (rt b).2.2 := ⟨_, rfl⟩
  obtain ⟨C, hC⟩ : ∃ C, C = (rc b).2.2 := ⟨_, rfl⟩
  rw [← hK, ← hT, ← hC]
  rw [← hK] at hkb
  rw [← hC] at hcl
  have HKT : Hid (K = (rk b).2.2 ∧ T = (rt b).2.2 ∧ C = (rc b).2.2) := ⟨hK, hT, hC⟩
  clear hR hK hT hC
  go_enter Try.func35, Try.ntmps35
  go_wp2_with fail
  generalize w.alloc (.cells #[.int .i64 0, .int .i64 0, .slice none 0 0] 49) = wb at *
  have N1 : Calls Try.prog 33 #[.pointer (some ⟨g, 0, none⟩), .int .i64 1] wb fun e w' => e = .returned (.int .i64 (rk b).2.2) ∧ Rd w' [w.heap.size] g 66 (rk b).1 (rk b).2.1 ∧ wb.grownBy w' (some g) := rNum_any _ g b 0 1 wb R0
  rw [← HKT.out.1] at N1
  have H0 : Hid (Below w.heap.size w wb ∧ Blk wb w.heap.size 49 [.int .i64 0, .int .i64 0, .slice none 0 0]) := ⟨b0, M0⟩
  clear b0 M0 R0
  refine N1.mono ?_
  rintro r w1 ⟨rfl, R1, g1⟩
  have N2 : Calls Try.prog 33 #[.pointer (some ⟨g, 0, none⟩), .int .i64 6] w1 fun e w' => e = .returned (.int .i64 (rt b).2.2) ∧ Rd w' [w.heap.size] g 66 (rt b).1 (rt b).2.1 ∧ w1.grownBy w' (some g) := rNum_any _ g _ _ 6 w1 R1
  rw [← HKT.out.2.1] at N2
  have hs1 := g1.size
  have H1 : Hid (Below base w w1 ∧ Blk w1 w.heap.size 49 [.int .i64 0, .int .i64 0, .slice none 0 0]) := ⟨(H0.out.1.mono hbw).trans (grown_below g1 _ hg (by omega)), H0.out.2.grown g1 (fun e => by injection e with e; omega)⟩
  clear H0 R1 N1 g1
  go_wp2_with fail
  refine N2.mono ?_
  rintro r w2 ⟨rfl, R2, g2⟩
  have hs2 := g2.size
  have b5 := box3_below w2 (.int .i64 (K - 64)) (.int .i64 T) (.slice none 0 0) 49
  have M5 : Blk (w2.alloc (.cells #[.int .i64 (K - 64), .int .i64 T, .slice none 0 0] 49)) w2.heap.size 49 [.int .i64 (K - 64), .int .i64 T, .slice none 0 0] := Blk.new' w2 _ _
  have R5 := (R2.more w2.heap.size (Nat.le_refl _)).later b5
  have h5 : w2.heap.size < (w2.alloc (.cells #[.int .i64 (K - 64), .int .i64 T, .slice none 0 0] 49)).heap.size := M5.lt
  have hg2 := R2.blt
  have H2 : Hid (Below base w (w2.alloc (.cells #[.int .i64 (K - 64), .int .i64 T, .slice none 0 0] 49)) ∧ Blk (w2.alloc (.cells #[.int .i64 (K - 64), .int .i64 T, .slice none 0 0] 49)) w.heap.size 49 [.int .i64 0, .int .i64 0, .slice none 0 0] ∧ Blk (w2.alloc (.cells #[.int .i64 (K - 64), .int .i64 T, .slice none 0 0] 49)) w2.heap.size 49 [.int .i64 (K - 64), .int .i64 T, .slice none 0 0]) := ⟨(H1.out.1.trans (grown_below g2 _ hg (by omega))).trans (b5.mono (by omega)), (H1.out.2.grown g2 (fun e => by injection e with e; omega)).laterB b5, M5⟩
  clear H1 R2 N2 g2 b5 M5
  go_wp2_with fail
  generalize w2.alloc (.cells #[.int .i64 (K - 64), .int .i64 T, .slice none 0 0] 49) = w3 at *
  have N3 : Calls Try.prog 36 #[.pointer (some ⟨g, 0, none⟩), .int .i64 2] w3 fun e w' => ∃ v, e = .returned v ∧ Own w' w3.heap.size v (rc b).2.2 ∧ Rd w' [w2.heap.size, w.heap.size] g 66 (rc b).1 (rc b).2.1 ∧ w3.grownBy w' (some g) := rBytes_any _ g _ _ 2 w3 R5 (fun k hk => by
    rcases List.mem_cons.1 hk with e | hk
    · omega
    · rw [List.mem_singleton] at hk; omega)
  rw [← HKT.out.2.2] at N3
  refine N3.mono ?_
  rintro r w4 ⟨v, rfl, o4, R4, g4⟩
  obtain ⟨x, c, rfl, -, -, -, -, -⟩ := o4.open
  have hs4 := g4.size
  have b4 : Below base w w4 := H2.out.1.trans (grown_below g4 _ hg (by omega))
  have M4 := H2.out.2.1.grown g4 (fun e => by injection e with e; omega)
  have M5 := H2.out.2.2.grown g4 (fun e => by injection e with e; omega)
  have hG := grown_set w4 w2.heap.size 2 (.slice x C.length c)
  have hGs : GtS base w.heap.size w2.heap.size g w (w4.setCell ⟨w2.heap.size, 2, none⟩ (.slice x C.length c)) (K - 64) T x c C (rc b).1 (rc b).2.1 := ⟨b4.trans (grown_below hG _ (by omega) (by omega)), ⟨_, _, _, M4.grown hG (fun e => by injection e with e; omega)⟩, by simpa using M5.set 2 (.slice x C.length c), (o4.keep hG (fun k hk e => by
      have := (World.ownsRow.lt o4 k hk).1
      injection e with e; omega)).lower (by omega), (R4.keep hG (fun k hk => by injection hk with hk; subst hk; exact ⟨by omega, .inl (by simp)⟩)).less (fun k hk => List.mem_cons_of_mem _ hk)⟩
  have hsz4 : w4.heap.size ≤ (w4.setCell ⟨w2.heap.size, 2, none⟩ (.slice x C.length c)).heap.size := hG.size
  obtain ⟨⟨u0, u1, u2⟩, f0, f1, f2⟩ := eblk3 M5
  have HG : Hid _ := hGs
  clear hGs hG M4 M5 b4 o4 R4 g4 N3 H2 R5
  go_upto_region 4 with fail
  clear u0 u1 u2 f0 f1 f2
  generalize w4.setCell ⟨w2.heap.size, 2, none⟩ (.slice x C.length c) = w5 at *
  have Sd : GtS base w.heap.size w2.heap.size g w w5.drew (K - 64) T x c C (rc b).1 (rc b).2.1 := HG.out.later (by omega) (Below.refl _ _).drew
  have d0 : ∀ W, GtS base w.heap.size w2.heap.size g w W (K - 64) T x c C (rc b).1 (rc b).2.1 → W.cell? ⟨w2.heap.size, 0, none⟩ = some (.int .i64 (K - 64)) := fun W h => (eblk3 h.m5).1.1
  have d1 : ∀ W, GtS base w.heap.size w2.heap.size g w W (K - 64) T x c C (rc b).1 (rc b).2.1 → W.cell? ⟨w2.heap.size, 1, none⟩ = some (.int .i64 T) := fun W h => (eblk3 h.m5).1.2.1
  have d2 : ∀ W, GtS base w.heap.size w2.heap.size g w W (K - 64) T x c C (rc b).1 (rc b).2.1 → W.cell? ⟨w2.heap.size, 2, none⟩ = some (.slice x C.length c) := fun W h => (eblk3 h.m5).1.2.2
  refine wp_region_held_drew (S := fun W => GtS base w.heap.size w2.heap.size g w W (K - 64) T x c C (rc b).1 (rc b).2.1) (by kernel_rfl) Sd (fun hS => ?_)
  refine any_take (i := 0) (v := ?_) rfl (by kernel_rfl) (by kernel_rfl) (by kernel_rfl) (by exact fun _ _ _ h => h) (by rfl) ?_ hS ?_
  rotate_left
  · ((intro w hSw; (try dsimp only at hSw); go_simp) <;> with_reducible rfl)
  (try simp only [Act.put, List.setIfInBounds_toArray, List.set_cons_zero, List.set_cons_succ])
  refine any_take (i := 1) (v := ?_) rfl (by kernel_rfl) (by kernel_rfl) (by kernel_rfl) (by exact fun _ _ _ h => h) (by rfl) ?_ hS ?_
  rotate_left
  · ((intro w hSw; (try dsimp only at hSw); go_simp) <;> with_reducible rfl)
  (try simp only [Act.put, List.setIfInBounds_toArray, List.set_cons_zero, List.set_cons_succ])
  clear d0 d1 d2
  obtain ⟨x', c', hv, -, -, hrow, -, -⟩ := (id hS : GtS base w.heap.size w2.heap.size g w w5.drew (K - 64) T x c C (rc b).1 (rc b).2.1).own.open
  simp only [Value.slice.injEq] at hv
  obtain ⟨rfl, -, rfl⟩ := hv
  have HRt : Hid _ := right9_any (K - 64) T C x c w5.drew hrow (by omega)
  clear hrow
  refine any_one (i := 2) rfl (by kernel_rfl) (fun Kk hKk => ?_)
  go_simp
  refine (Calls.mono (HRt.out)) ?_
  rintro e x1 ⟨rfl, hbR⟩
  have hS1 : GtS base w.heap.size w2.heap.size g w x1 (K - 64) T x c C (rc b).1 (rc b).2.1 := Sd.later (by have : w5.drew.heap.size = w5.heap.size := rfl; omega) hbR
  have hsx : w5.heap.size ≤ x1.heap.size := hbR.size
  clear HRt hbR
  go_wp2_with fail
  refine hKk.out _ _ hS1 ?_
  clear hKk Kk hS
  have hS := hS1
  obtain ⟨y0, y1, y2, mq⟩ := hS1.m
  obtain ⟨⟨u0, u1, u2⟩, f0, f1, f2⟩ := eblk3 mq
  have hF := hS1.set (by omega) hbw (by omega) (by omega) (.int .i64 (K - 64)) (.int .i64 T) (.slice x C.length c)
  have F : Hid _ := hF
  clear hF mq hS hS1 Sd HG
  refine any_one (i := 3) rfl (by kernel_rfl) (fun Kk hKk => ?_)
  go_simp
  refine hKk.out _ _ F.out.1 ?_
  clear hKk Kk u0 u1 u2 f0 f1 f2
  have hS := F.out.1
  refine any_take (i := 4) (v := ?_) rfl (by kernel_rfl) (by kernel_rfl) (by kernel_rfl) (by exact fun _ _ _ h => h) (by rfl) ?_ hS ?_
  rotate_left
  · ((intro w hSw; (try dsimp only at hSw); go_simp) <;> with_reducible rfl)
  (try simp only [Act.put, List.setIfInBounds_toArray, List.set_cons_zero, List.set_cons_succ])
  refine wpAnyH_done (by kernel_rfl) ?_ _
  clear hS
  generalize (((x1.setCell ⟨w.heap.size, 0, none⟩ (.int .i64 (K - 64))).setCell ⟨w.heap.size, 1, none⟩ (.int .i64 T)).setCell ⟨w.heap.size, 2, none⟩ (.slice x C.length c)) = wf at *
  go_wp2
  obtain ⟨⟨y0, y1, y2⟩, -⟩ := eblk3 F.out.2
  refine bodyPost_ret (v := .tuple #[.agg #[.int .i64 (K - 64), .int .i64 T, .slice x C.length c], .bool (canE (K - 64, T, C))]) (by simp [results, Try.results35, go_sem, y0, y1, y2]) rfl ?_
  exact ⟨x, c, rfl, F.out.1.own.lower (by omega), F.out.1.rd.less (fun k hk => by cases hk), F.out.1.b⟩


end Go.Proofs.Ytgjcgnmomdanaaa
