/- An entry read and unpacked: the document's. -/
import Derived.Test.YtmcljbpemninlaaEp3
import Derived.Test.YtmcljbpemninlaaDraw
import Derived.Deep.CutRange
namespace Go.Proofs.Ytmcljbpemninlaa
open Go.RowKit
set_option linter.unusedVariables false
set_option maxRecDepth 4000

/-- what stands while the answer is laid -/
structure GtS (base q q5 g : Nat) (w W : World) (K T : Int) (x : Option Addr) (c : Nat) (C L : List (BitVec 8)) (E : Int) : Prop where
  b : Below base w W
  m : ∃ y0 y1 y2, Blk W q 24 [y0, y1, y2]
  m5 : Blk W q5 24 [.int .i64 K, .int .i64 T, .slice x C.length c]
  own : Own W (q + 1) (.slice x C.length c) C
  rd : Rd W [q] g 88 L E
theorem GtS.later {base q q5 g : Nat} {w W W' : World} {K T : Int} {x : Option Addr} {c : Nat} {C L : List (BitVec 8)} {E : Int} (h : GtS base q q5 g w W K T x c C L E) (hbw : base ≤ W.heap.size) (hb : Below W.heap.size W W') : GtS base q q5 g w W' K T x c C L E := by
  obtain ⟨y0, y1, y2, m⟩ := h.m
  exact ⟨h.b.trans (hb.mono hbw), ⟨y0, y1, y2, m.laterB hb⟩, h.m5.laterB hb, h.own.later hb, h.rd.later hb⟩
theorem GtS.set {base q q5 g : Nat} {w W : World} {K T : Int} {x : Option Addr} {c : Nat} {C L : List (BitVec 8)} {E : Int} (h : GtS base q q5 g w W K T x c C L E) (hbw : base ≤ W.heap.size) (hbq : base ≤ q) (hq5 : q5 ≠ q) (hqg : q ≠ g) (X Y Z : Value) : GtS base q q5 g w (((W.setCell ⟨q, 0, none⟩ X).setCell ⟨q, 1, none⟩ Y).setCell ⟨q, 2, none⟩ Z) K T x c C L E ∧ Blk (((W.setCell ⟨q, 0, none⟩ X).setCell ⟨q, 1, none⟩ Y).setCell ⟨q, 2, none⟩ Z) q 24 [X, Y, Z] := by
  obtain ⟨y0, y1, y2, m⟩ := h.m
  have hG := grown3 W q X Y Z
  have S4 := eset3 m X Y Z base w h.b hbq hbw
  refine ⟨⟨S4.2, ⟨_, _, _, S4.1⟩, h.m5.grown hG (fun e => hq5 (by injection e)), h.own.keep hG (fun k hk e => ?_), h.rd.keep hG (fun k hk => ?_)⟩, S4.1⟩
  · have := (World.ownsRow.lt h.own k hk).1
    injection e with e; omega
  · injection hk with hk; subst hk; exact ⟨hqg, .inl (by simp)⟩
set_option maxHeartbeats 4000000 in
theorem get_any (base g : Nat) (b : List (BitVec 8)) (w : World) (hR : Rd w [] g 88 b 0) (hg : base ≤ g) (hbw : base ≤ w.heap.size) (hbl : b.length ≤ 140737488351232) :
    Calls Try.prog 32 #[.pointer (some ⟨g, 0, none⟩)] w fun r w' => ∃ x c, r = .returned (.tuple #[.agg #[.int .i64 ((rk b).2.2 - 64), .int .i64 (rt b).2.2, .slice x (rc b).2.2.length c], .bool (canE ((rk b).2.2 - 64, (rt b).2.2, (rc b).2.2))]) ∧ Own w' w.heap.size (.slice x (rc b).2.2.length c) (rc b).2.2 ∧ Rd w' [] g 88 (rc b).1 (rc b).2.1 ∧ Below base w w' := by
  have b0 := box3_below w (.int .i64 0) (.int .i64 0) (.slice none 0 0) 24
  have M0 : Blk (w.alloc (.cells #[.int .i64 0, .int .i64 0, .slice none 0 0] 24)) w.heap.size 24 [.int .i64 0, .int .i64 0, .slice none 0 0] := Blk.new' w _ _
  have hgl := hR.blt
  have R0 := (hR.more w.heap.size (Nat.le_refl _)).later b0
  have hsz : w.heap.size < (w.alloc (.cells #[.int .i64 0, .int .i64 0, .slice none 0 0] 24)).heap.size := M0.lt
  have hkb := rk_bd b
  have hcl := rc_len b
  obtain ⟨K, hK⟩ : ∃ K, K = (rk b).2.2 := ⟨_, rfl⟩
  obtain ⟨T, hT⟩ : ∃ T, T = (rt b).2.2 := ⟨_, rfl⟩
  obtain ⟨C, hC⟩ : ∃ C, C = (rc b).2.2 := ⟨_, rfl⟩
  rw [← hK, ← hT, ← hC]
  rw [← hK] at hkb
  rw [← hC] at hcl
  have HKT : Hid (K = (rk b).2.2 ∧ T = (rt b).2.2 ∧ C = (rc b).2.2) := ⟨hK, hT, hC⟩
  clear hR hK hT hC
  go_enter Try.func32, Try.ntmps32
  go_wp2_with fail
  generalize w.alloc (.cells #[.int .i64 0, .int .i64 0, .slice none 0 0] 24) = wb at *
  have N1 : Calls Try.prog 50 #[.pointer (some ⟨g, 0, none⟩), .int .i64 1] wb fun e w' => e = .returned (.int .i64 (rk b).2.2) ∧ Rd w' [w.heap.size] g 88 (rk b).1 (rk b).2.1 ∧ wb.grownBy w' (some g) := rNum_any _ g b 0 1 wb R0
  rw [← HKT.out.1] at N1
  have H0 : Hid (Below w.heap.size w wb ∧ Blk wb w.heap.size 24 [.int .i64 0, .int .i64 0, .slice none 0 0]) := ⟨b0, M0⟩
  clear b0 M0 R0
  refine N1.mono ?_
  rintro r w1 ⟨rfl, R1, g1⟩
  have N2 : Calls Try.prog 50 #[.pointer (some ⟨g, 0, none⟩), .int .i64 6] w1 fun e w' => e = .returned (.int .i64 (rt b).2.2) ∧ Rd w' [w.heap.size] g 88 (rt b).1 (rt b).2.1 ∧ w1.grownBy w' (some g) := rNum_any _ g _ _ 6 w1 R1
  rw [← HKT.out.2.1] at N2
  have hs1 := g1.size
  have H1 : Hid (Below base w w1 ∧ Blk w1 w.heap.size 24 [.int .i64 0, .int .i64 0, .slice none 0 0]) := ⟨(H0.out.1.mono hbw).trans (grown_below g1 _ hg (by omega)), H0.out.2.grown g1 (fun e => by injection e with e; omega)⟩
  clear H0 R1 N1 g1
  go_wp2_with fail
  refine N2.mono ?_
  rintro r w2 ⟨rfl, R2, g2⟩
  have hs2 := g2.size
  have b5 := box3_below w2 (.int .i64 (K - 64)) (.int .i64 T) (.slice none 0 0) 24
  have M5 : Blk (w2.alloc (.cells #[.int .i64 (K - 64), .int .i64 T, .slice none 0 0] 24)) w2.heap.size 24 [.int .i64 (K - 64), .int .i64 T, .slice none 0 0] := Blk.new' w2 _ _
  have R5 := (R2.more w2.heap.size (Nat.le_refl _)).later b5
  have h5 : w2.heap.size < (w2.alloc (.cells #[.int .i64 (K - 64), .int .i64 T, .slice none 0 0] 24)).heap.size := M5.lt
  have hg2 := R2.blt
  have H2 : Hid (Below base w (w2.alloc (.cells #[.int .i64 (K - 64), .int .i64 T, .slice none 0 0] 24)) ∧ Blk (w2.alloc (.cells #[.int .i64 (K - 64), .int .i64 T, .slice none 0 0] 24)) w.heap.size 24 [.int .i64 0, .int .i64 0, .slice none 0 0] ∧ Blk (w2.alloc (.cells #[.int .i64 (K - 64), .int .i64 T, .slice none 0 0] 24)) w2.heap.size 24 [.int .i64 (K - 64), .int .i64 T, .slice none 0 0]) := ⟨(H1.out.1.trans (grown_below g2 _ hg (by omega))).trans (b5.mono (by omega)), (H1.out.2.grown g2 (fun e => by injection e with e; omega)).laterB b5, M5⟩
  clear H1 R2 N2 g2 b5 M5
  go_wp2_with fail
  generalize w2.alloc (.cells #[.int .i64 (K - 64), .int .i64 T, .slice none 0 0] 24) = w3 at *
  have N3 : Calls Try.prog 52 #[.pointer (some ⟨g, 0, none⟩), .int .i64 2] w3 fun e w' => ∃ v, e = .returned v ∧ Own w' w3.heap.size v (rc b).2.2 ∧ Rd w' [w2.heap.size, w.heap.size] g 88 (rc b).1 (rc b).2.1 ∧ w3.grownBy w' (some g) := rBytes_any _ g _ _ 2 w3 R5 (fun k hk => by
    rcases List.mem_cons.1 hk with e | hk
    · omega
    · rw [List.mem_singleton] at hk; omega)
  rw [← HKT.out.2.2] at N3
  refine N3.mono ?_
  rintro r w4 ⟨v, rfl, o4, R4, g4⟩
  obtain ⟨x, c, rfl, -, -, -, -, -⟩ := o4.open
  have hs4 := g4.size
  have b4 : Below base w w4 := H2.out.1.trans (grown_below g4 _ hg (by omega))
  have M4 := H2.out.2.1.grown g4 (fun e => by injection e with e; omega)
  have M5 := H2.out.2.2.grown g4 (fun e => by injection e with e; omega)
  have hG := grown_set w4 w2.heap.size 2 (.slice x C.length c)
  have hGs : GtS base w.heap.size w2.heap.size g w (w4.setCell ⟨w2.heap.size, 2, none⟩ (.slice x C.length c)) (K - 64) T x c C (rc b).1 (rc b).2.1 := ⟨b4.trans (grown_below hG _ (by omega) (by omega)), ⟨_, _, _, M4.grown hG (fun e => by injection e with e; omega)⟩, by simpa using M5.set 2 (.slice x C.length c), (o4.keep hG (fun k hk e => by
      have := (World.ownsRow.lt o4 k hk).1
      injection e with e; omega)).lower (by omega), (R4.keep hG (fun k hk => by injection hk with hk; subst hk; exact ⟨by omega, .inl (by simp)⟩)).less (fun k hk => List.mem_cons_of_mem _ hk)⟩
  have hsz4 : w4.heap.size ≤ (w4.setCell ⟨w2.heap.size, 2, none⟩ (.slice x C.length c)).heap.size := hG.size
  obtain ⟨⟨u0, u1, u2⟩, f0, f1, f2⟩ := eblk3 M5
  have HG : Hid _ := hGs
  clear hGs hG M4 M5 b4 o4 R4 g4 N3 H2 R5
  go_upto_region 4 with fail
  clear u0 u1 u2 f0 f1 f2
  generalize w4.setCell ⟨w2.heap.size, 2, none⟩ (.slice x C.length c) = w5 at *
  have Sd : GtS base w.heap.size w2.heap.size g w w5.drew (K - 64) T x c C (rc b).1 (rc b).2.1 := HG.out.later (by omega) (Below.refl _ _).drew
  have d0 : ∀ W, GtS base w.heap.size w2.heap.size g w W (K - 64) T x c C (rc b).1 (rc b).2.1 → W.cell? ⟨w2.heap.size, 0, none⟩ = some (.int .i64 (K - 64)) := fun W h => (eblk3 h.m5).1.1
  have d1 : ∀ W, GtS base w.heap.size w2.heap.size g w W (K - 64) T x c C (rc b).1 (rc b).2.1 → W.cell? ⟨w2.heap.size, 1, none⟩ = some (.int .i64 T) := fun W h => (eblk3 h.m5).1.2.1
  have d2 : ∀ W, GtS base w.heap.size w2.heap.size g w W (K - 64) T x c C (rc b).1 (rc b).2.1 → W.cell? ⟨w2.heap.size, 2, none⟩ = some (.slice x C.length c) := fun W h => (eblk3 h.m5).1.2.2
  refine wp_region_held_drew (S := fun W => GtS base w.heap.size w2.heap.size g w W (K - 64) T x c C (rc b).1 (rc b).2.1) (by kernel_rfl) Sd (fun hS => ?_)
  refine any_take (i := 0) (v := ?_) rfl (by kernel_rfl) (by kernel_rfl) (by kernel_rfl) (by exact fun _ _ _ h => h) (by rfl) ?_ hS ?_
  rotate_left
  · ((intro w hSw; (try dsimp only at hSw); go_simp) <;> with_reducible rfl)
  (try simp only [Act.put, List.setIfInBounds_toArray, List.set_cons_zero, List.set_cons_succ])
  refine any_take (i := 1) (v := ?_) rfl (by kernel_rfl) (by kernel_rfl) (by kernel_rfl) (by exact fun _ _ _ h => h) (by rfl) ?_ hS ?_
  rotate_left
  · ((intro w hSw; (try dsimp only at hSw); go_simp) <;> with_reducible rfl)
  (try simp only [Act.put, List.setIfInBounds_toArray, List.set_cons_zero, List.set_cons_succ])
  clear d0 d1 d2
  obtain ⟨x', c', hv, -, -, hrow, -, -⟩ := (id hS : GtS base w.heap.size w2.heap.size g w w5.drew (K - 64) T x c C (rc b).1 (rc b).2.1).own.open
  simp only [Value.slice.injEq] at hv
  obtain ⟨rfl, -, rfl⟩ := hv
  have HRt : Hid _ := right9_any (K - 64) T C x c w5.drew hrow (by omega)
  clear hrow
  refine any_one (i := 2) rfl (by kernel_rfl) (fun Kk hKk => ?_)
  go_simp
  refine (Calls.mono (HRt.out)) ?_
  rintro e x1 ⟨rfl, hbR⟩
  have hS1 : GtS base w.heap.size w2.heap.size g w x1 (K - 64) T x c C (rc b).1 (rc b).2.1 := Sd.later (by have : w5.drew.heap.size = w5.heap.size := rfl; omega) hbR
  have hsx : w5.heap.size ≤ x1.heap.size := hbR.size
  clear HRt hbR
  go_wp2_with fail
  refine hKk.out _ _ hS1 ?_
  clear hKk Kk hS
  have hS := hS1
  obtain ⟨y0, y1, y2, mq⟩ := hS1.m
  obtain ⟨⟨u0, u1, u2⟩, f0, f1, f2⟩ := eblk3 mq
  have hF := hS1.set (by omega) hbw (by omega) (by omega) (.int .i64 (K - 64)) (.int .i64 T) (.slice x C.length c)
  have F : Hid _ := hF
  clear hF mq hS hS1 Sd HG
  refine any_one (i := 3) rfl (by kernel_rfl) (fun Kk hKk => ?_)
  go_simp
  refine hKk.out _ _ F.out.1 ?_
  clear hKk Kk u0 u1 u2 f0 f1 f2
  have hS := F.out.1
  refine any_take (i := 4) (v := ?_) rfl (by kernel_rfl) (by kernel_rfl) (by kernel_rfl) (by exact fun _ _ _ h => h) (by rfl) ?_ hS ?_
  rotate_left
  · ((intro w hSw; (try dsimp only at hSw); go_simp) <;> with_reducible rfl)
  (try simp only [Act.put, List.setIfInBounds_toArray, List.set_cons_zero, List.set_cons_succ])
  refine wpAnyH_done (by kernel_rfl) ?_ _
  clear hS
  generalize (((x1.setCell ⟨w.heap.size, 0, none⟩ (.int .i64 (K - 64))).setCell ⟨w.heap.size, 1, none⟩ (.int .i64 T)).setCell ⟨w.heap.size, 2, none⟩ (.slice x C.length c)) = wf at *
  go_wp2
  obtain ⟨⟨y0, y1, y2⟩, -⟩ := eblk3 F.out.2
  refine bodyPost_ret (v := .tuple #[.agg #[.int .i64 (K - 64), .int .i64 T, .slice x C.length c], .bool (canE (K - 64, T, C))]) (by simp [results, Try.results32, go_sem, y0, y1, y2]) rfl ?_
  exact ⟨x, c, rfl, F.out.1.own.lower (by omega), F.out.1.rd.less (fun k hk => by cases hk), F.out.1.b⟩

set_option maxHeartbeats 2000000 in
theorem rfUnpack_any (a : Option Addr) (len cap : Nat) (l : List (BitVec 8)) (w : World) (hl : l.length = len) (hle : len ≤ cap) (hr : Row w a l) (hn : a = none → cap = 0) (hlen : len ≤ 140737488351232) :
    Calls Try.prog 10 #[.slice a len cap] w fun r w' => ∃ x c, r = .returned (.tuple #[.agg #[.int .i64 (unp l).1.1, .int .i64 (unp l).1.2.1, .slice x (unp l).1.2.2.length c], .int .i64 (unp l).2]) ∧ Own w' w.heap.size (.slice x (unp l).1.2.2.length c) (unp l).1.2.2 ∧ Below w.heap.size w w' := by
  have b0 := box3_below w (.int .i64 0) (.int .i64 0) (.slice none 0 0) 24
  have M0 : Blk (w.alloc (.cells #[.int .i64 0, .int .i64 0, .slice none 0 0] 24)) w.heap.size 24 [.int .i64 0, .int .i64 0, .slice none 0 0] := Blk.new' w _ _
  have HR : Hid (Row w a l) := hr
  clear hr
  go_enter Try.func10, Try.ntmps10
  go_wp2_with fail
  generalize w.alloc (.cells #[.int .i64 0, .int .i64 0, .slice none 0 0] 24) = wb at *
  refine (Of_any a len cap l wb hl hle (Row.later HR.out b0) hn hlen).mono ?_
  rintro r w1 ⟨g, rfl, hg, hrd, b1⟩
  have R1 := hrd [] (fun k hk => by cases hk)
  have N2 := get_any wb.heap.size g l w1 R1 hg b1.size (by omega)
  have H1 : Hid (Below wb.heap.size wb w1 ∧ Below w.heap.size w wb ∧ Blk wb w.heap.size 24 [.int .i64 0, .int .i64 0, .slice none 0 0]) := ⟨b1, b0, M0⟩
  clear hrd R1 b1 b0 M0
  go_wp2_with fail
  refine N2.mono ?_
  rintro r w2 ⟨x, c, rfl, o2, R2, b2⟩
  have hU : unp l = if rE l = 0 then (if canE ((rk l).2.2 - 64, (rt l).2.2, (rc l).2.2) = true then (((rk l).2.2 - 64, (rt l).2.2, (rc l).2.2), 0) else ((0, 0, []), 1)) else ((0, 0, []), rE l) := rfl
  obtain ⟨K, hK⟩ : ∃ K, K = (rk l).2.2 - 64 := ⟨_, rfl⟩
  obtain ⟨T, hT⟩ : ∃ T, T = (rt l).2.2 := ⟨_, rfl⟩
  obtain ⟨C, hC⟩ : ∃ C, C = (rc l).2.2 := ⟨_, rfl⟩
  obtain ⟨E, hE⟩ : ∃ E, E = rE l := ⟨_, rfl⟩
  rw [← hK, ← hT, ← hC, ← hE] at hU
  rw [← hC] at o2
  rw [← hK, ← hT, ← hC]
  have hCl : C.length ≤ 140737488351232 := by have := rc_len l; rw [← hC] at this; omega
  have bb := H1.out.1.trans b2
  have b3 := box3_below w2 (.int .i64 K) (.int .i64 T) (.slice x C.length c) 24
  have M3 : Blk (w2.alloc (.cells #[.int .i64 K, .int .i64 T, .slice x C.length c] 24)) w2.heap.size 24 [.int .i64 K, .int .i64 T, .slice x C.length c] := Blk.new' w2 _ _
  have R3 := R2.later b3
  have N3 : Calls Try.prog 33 #[.pointer (some ⟨g, 0, none⟩)] (w2.alloc (.cells #[.int .i64 K, .int .i64 T, .slice x C.length c] 24)) fun e w' => e = .returned (.int .i64 E) ∧ (w2.alloc (.cells #[.int .i64 K, .int .i64 T, .slice x C.length c] 24)) = w' := by rw [hE]; exact rEnd_any [] g _ _ _ R3
  have hs1 := H1.out.1.size
  have hs0 := H1.out.2.1.size
  have H3 : Hid (Below w.heap.size w (w2.alloc (.cells #[.int .i64 K, .int .i64 T, .slice x C.length c] 24)) ∧ Blk (w2.alloc (.cells #[.int .i64 K, .int .i64 T, .slice x C.length c] 24)) w.heap.size 24 [.int .i64 0, .int .i64 0, .slice none 0 0] ∧ Blk (w2.alloc (.cells #[.int .i64 K, .int .i64 T, .slice x C.length c] 24)) w2.heap.size 24 [.int .i64 K, .int .i64 T, .slice x C.length c] ∧ Own (w2.alloc (.cells #[.int .i64 K, .int .i64 T, .slice x C.length c] 24)) w1.heap.size (.slice x C.length c) C ∧ w.heap.size < w1.heap.size) :=
    ⟨below_then (below_then H1.out.2.1 bb) b3, (H1.out.2.2.laterB bb).laterB b3, M3, o2.later b3, by have := H1.out.2.2.lt; omega⟩
  clear N2 o2 R2 R3 b2 b3 M3 bb hK hT hC hE H1 HR
  go_wp2_with fail
  refine N3.mono ?_
  rintro r w' ⟨rfl, rfl⟩
  generalize w2.alloc (.cells #[.int .i64 K, .int .i64 T, .slice x C.length c] 24) = w3 at *
  clear N3
  have HU : Hid _ := hU
  clear hU
  by_cases e0 : E = 0
  · subst e0
    obtain ⟨w4, hw4⟩ : ∃ w4, w4 = w3 := ⟨_, rfl⟩
    subst hw4
    have H4 : Hid (Below w.heap.size w w4 ∧ Blk w4 w.heap.size 24 [.int .i64 0, .int .i64 0, .slice none 0 0] ∧ Blk w4 w2.heap.size 24 [.int .i64 K, .int .i64 T, .slice x C.length c] ∧ Own w4 w1.heap.size (.slice x C.length c) C ∧ w.heap.size < w1.heap.size) := H3.out
    clear H3
    cases hc : canE (K, T, C) with
    | false =>
      have P : Hid (unp l = ((0, 0, []), 1)) := (by rw [HU.out]; simp [hc] : unp l = ((0, 0, []), 1))
      have S4 := eset3 H4.out.2.1 (.int .i64 0) (.int .i64 0) (.slice none 0 0) w.heap.size w H4.out.1 (Nat.le_refl _) H4.out.1.size
      obtain ⟨⟨u0, u1, u2⟩, f0, f1, f2⟩ := eblk3 H4.out.2.1
      have F : Hid _ := S4
      clear S4 HU hc H4
      go_wp2
      clear u0 u1 u2 f0 f1 f2
      generalize (((w4.setCell ⟨w.heap.size, 0, none⟩ (.int .i64 0)).setCell ⟨w.heap.size, 1, none⟩ (.int .i64 0)).setCell ⟨w.heap.size, 2, none⟩ (.slice none 0 0)) = wf at *
      obtain ⟨⟨y0, y1, y2⟩, -⟩ := eblk3 F.out.1
      refine bodyPost_ret (v := .tuple #[.agg #[.int .i64 0, .int .i64 0, .slice none 0 0], .int .i64 1]) (by simp [results, Try.results10, go_sem, y0, y1, y2]) rfl ?_
      rw [P.out]
      exact ⟨none, 0, rfl, Own.nil _ _, F.out.2⟩
    | true =>
      have P : Hid (unp l = ((K, T, C), 0)) := (by rw [HU.out]; simp [hc] : unp l = ((K, T, C), 0))
      have hG := grown3 w4 w.heap.size (.int .i64 K) (.int .i64 T) (.slice x C.length c)
      have S4 := eset3 H4.out.2.1 (.int .i64 K) (.int .i64 T) (.slice x C.length c) w.heap.size w H4.out.1 (Nat.le_refl _) H4.out.1.size
      have o5 := H4.out.2.2.2.1.keep hG (fun k hk e => by
        have h1 := (World.ownsRow.lt H4.out.2.2.2.1 k hk).1
        have h2 := H4.out.2.2.2.2
        injection e with e; omega)
      obtain ⟨⟨u0, u1, u2⟩, f0, f1, f2⟩ := eblk3 H4.out.2.1
      obtain ⟨⟨z0, z1, z2⟩, -⟩ := eblk3 H4.out.2.2.1
      have F : Hid _ := And.intro S4.1 (And.intro S4.2 (o5.lower (Nat.le_of_lt H4.out.2.2.2.2)))
      clear S4 HU hc hG o5 H4
      go_wp2
      clear u0 u1 u2 f0 f1 f2
      generalize (((w4.setCell ⟨w.heap.size, 0, none⟩ (.int .i64 K)).setCell ⟨w.heap.size, 1, none⟩ (.int .i64 T)).setCell ⟨w.heap.size, 2, none⟩ (.slice x C.length c)) = wf at *
      obtain ⟨⟨y0, y1, y2⟩, -⟩ := eblk3 F.out.1
      refine bodyPost_ret (v := .tuple #[.agg #[.int .i64 K, .int .i64 T, .slice x C.length c], .int .i64 0]) (by simp [results, Try.results10, go_sem, y0, y1, y2]) rfl ?_
      rw [P.out]
      exact ⟨x, c, rfl, F.out.2.2, F.out.2.1⟩
  · have P : Hid (unp l = ((0, 0, []), E)) := (by rw [HU.out, if_neg e0] : unp l = ((0, 0, []), E))
    have S4 := eset3 H3.out.2.1 (.int .i64 0) (.int .i64 0) (.slice none 0 0) w.heap.size w H3.out.1 (Nat.le_refl _) H3.out.1.size
    obtain ⟨⟨u0, u1, u2⟩, f0, f1, f2⟩ := eblk3 H3.out.2.1
    have F : Hid _ := S4
    have q0 : (E == 0) = false := by rw [beq_eq_false_iff_ne]; exact e0
    clear S4 HU H3
    go_wp2
    clear u0 u1 u2 f0 f1 f2
    generalize (((w3.setCell ⟨w.heap.size, 0, none⟩ (.int .i64 0)).setCell ⟨w.heap.size, 1, none⟩ (.int .i64 0)).setCell ⟨w.heap.size, 2, none⟩ (.slice none 0 0)) = wf at *
    obtain ⟨⟨y0, y1, y2⟩, -⟩ := eblk3 F.out.1
    refine bodyPost_ret (v := .tuple #[.agg #[.int .i64 0, .int .i64 0, .slice none 0 0], .int .i64 E]) (by simp [results, Try.results10, go_sem, y0, y1, y2]) rfl ?_
    rw [P.out]
    exact ⟨none, 0, rfl, Own.nil _ _, F.out.2⟩
end Go.Proofs.Ytmcljbpemninlaa
