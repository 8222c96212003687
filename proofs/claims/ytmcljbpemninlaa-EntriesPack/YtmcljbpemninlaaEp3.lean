/- An entry read and unpacked: the program's. -/
import Derived.Test.YtmcljbpemninlaaEp2
import Derived.Test.YtmcljbpemninlaaEn6
namespace Go.Proofs.Ytmcljbpemninlaa
open Go.RowKit
set_option linter.unusedVariables false
set_option maxRecDepth 4000

theorem grown3 (w : World) (q : Nat) (x y z : Value) : w.grownBy (((w.setCell ⟨q, 0, none⟩ x).setCell ⟨q, 1, none⟩ y).setCell ⟨q, 2, none⟩ z) (some q) :=
  ⟨rfl, rfl, rfl, by rw [eset3_size]; exact Nat.le_refl _, fun k hk hn => eset3_block w q x y z k (fun e => hn (by rw [e]))⟩
theorem rk_bd (b : List (BitVec 8)) : 0 ≤ (rk b).2.2 ∧ (rk b).2.2 < 256 := by
  have := rdNum_bd b 0 1 (.inl rfl)
  simp only [Nat.reduceMul, Int.reducePow] at this
  exact this
theorem rt_bd (b : List (BitVec 8)) : 0 ≤ (rt b).2.2 ∧ (rt b).2.2 < 281474976710656 := by
  have := rdNum_bd (rk b).1 (rk b).2.1 6 (.inr rfl)
  simp only [Nat.reduceMul, Int.reducePow] at this
  exact this
theorem rdNum_len (L : List (BitVec 8)) (E s : Int) : (rdNum L E s).1.length ≤ L.length := by
  unfold rdNum
  split
  · split
    · show (L.drop _).length ≤ _; rw [List.length_drop]; omega
    · exact Nat.zero_le _
  · exact Nat.zero_le _
theorem rc_len (b : List (BitVec 8)) : (rc b).2.2.length ≤ b.length := by
  have h1 := rdNum_len b 0 1
  have h2 := rdNum_len (rk b).1 (rk b).2.1 6
  have h3 : (rc b).2.2.length ≤ (rt b).1.length := by
    unfold rc rdBytes
    split
    · split
      · show (((rt b).1.drop _).take _).length ≤ _; rw [List.length_take, List.length_drop]; omega
      · exact Nat.zero_le _
    · exact Nat.zero_le _
  exact Nat.le_trans h3 (Nat.le_trans h2 h1)
set_option maxHeartbeats 2000000 in
theorem readEntry_any (base g : Nat) (b : List (BitVec 8)) (w : World) (hR : Rd w [] g 95 b 0) (hg : base ≤ g) (hbw : base ≤ w.heap.size) :
    Calls Try.prog 29 #[.pointer (some ⟨g, 0, none⟩)] w fun r w' => ∃ x c, r = .returned (.agg #[.int .i64 ((rk b).2.2 - 64), .int .i64 (rt b).2.2, .slice x (rc b).2.2.length c]) ∧ Own w' w.heap.size (.slice x (rc b).2.2.length c) (rc b).2.2 ∧ Rd w' [] g 95 (rc b).1 (rc b).2.1 ∧ Below base w w' := by
  have b0 := box3_below w (.int .i64 0) (.int .i64 0) (.slice none 0 0) 24
  have M0 : Blk (w.alloc (.cells #[.int .i64 0, .int .i64 0, .slice none 0 0] 24)) w.heap.size 24 [.int .i64 0, .int .i64 0, .slice none 0 0] := Blk.new' w _ _
  have hgl := hR.blt
  have R0 := (hR.more w.heap.size (Nat.le_refl _)).later b0
  have hsz : w.heap.size < (w.alloc (.cells #[.int .i64 0, .int .i64 0, .slice none 0 0] 24)).heap.size := M0.lt
  have hkb := rk_bd b
  obtain ⟨K, hK⟩ : ∃ K, K = (rk b).2.2 := ⟨_, rfl⟩
  obtain ⟨T, hT⟩ : ∃ T, T = (rt b).2.2 := ⟨_, rfl⟩
  rw [← hK, ← hT]
  rw [← hK] at hkb
  have HKT : Hid (K = (rk b).2.2 ∧ T = (rt b).2.2) := ⟨hK, hT⟩
  clear hR hK hT
  go_enter Try.func29, Try.ntmps29
  go_wp2_with fail
  generalize w.alloc (.cells #[.int .i64 0, .int .i64 0, .slice none 0 0] 24) = wb at *
  have N1 : Calls Try.prog 58 #[.pointer (some ⟨g, 0, none⟩), .int .i64 1] wb fun e w' => e = .returned (.int .i64 (rk b).2.2) ∧ Rd w' [w.heap.size] g 95 (rk b).1 (rk b).2.1 ∧ wb.grownBy w' (some g) := Num_any _ g b 0 1 wb R0
  rw [← HKT.out.1] at N1
  have H0 : Hid (Below w.heap.size w wb ∧ Blk wb w.heap.size 24 [.int .i64 0, .int .i64 0, .slice none 0 0]) := ⟨b0, M0⟩
  clear b0 M0 R0
  refine N1.mono ?_
  rintro r w1 ⟨rfl, R1, g1⟩
  have N2 : Calls Try.prog 58 #[.pointer (some ⟨g, 0, none⟩), .int .i64 6] w1 fun e w' => e = .returned (.int .i64 (rt b).2.2) ∧ Rd w' [w.heap.size] g 95 (rt b).1 (rt b).2.1 ∧ w1.grownBy w' (some g) := Num_any _ g _ _ 6 w1 R1
  rw [← HKT.out.2] at N2
  have hs1 := g1.size
  have H1 : Hid (Below base w w1 ∧ Blk w1 w.heap.size 24 [.int .i64 0, .int .i64 0, .slice none 0 0]) := ⟨(H0.out.1.mono hbw).trans (grown_below g1 _ hg (by omega)), H0.out.2.grown g1 (fun e => by injection e with e; omega)⟩
  clear H0 R1 N1 g1
  go_wp2_with fail
  refine N2.mono ?_
  rintro r w2 ⟨rfl, R2, g2⟩
  have N3 : Calls Try.prog 59 #[.pointer (some ⟨g, 0, none⟩), .int .i64 2] w2 fun e w' => ∃ v, e = .returned v ∧ Own w' w2.heap.size v (rc b).2.2 ∧ Rd w' (v.ownBlock.toList ++ [w.heap.size]) g 95 (rc b).1 (rc b).2.1 ∧ w2.grownBy w' (some g) := Bytes_any _ g _ _ 2 w2 R2
  have hs2 := g2.size
  have H2 : Hid (Below base w w2 ∧ Blk w2 w.heap.size 24 [.int .i64 0, .int .i64 0, .slice none 0 0]) := ⟨H1.out.1.trans (grown_below g2 _ hg (by omega)), H1.out.2.grown g2 (fun e => by injection e with e; omega)⟩
  clear H1 R2 N2 g2
  go_wp2_with fail
  refine N3.mono ?_
  rintro r w3 ⟨v, rfl, o3, R3, g3⟩
  obtain ⟨x, c, rfl, -, -, -, -, -⟩ := o3.open
  have hs3 := g3.size
  have M3 := H2.out.2.grown g3 (fun e => by injection e with e; omega)
  have b3 : Below base w w3 := H2.out.1.trans (grown_below g3 _ hg (by omega))
  have hG := grown3 w3 w.heap.size (.int .i64 (K - 64)) (.int .i64 T) (.slice x (rc b).2.2.length c)
  have S4 := eset3 M3 (.int .i64 (K - 64)) (.int .i64 T) (.slice x (rc b).2.2.length c) base w b3 hbw (by omega)
  have o4 := o3.keep hG (fun k hk e => by
    have := (World.ownsRow.lt o3 k hk).1
    injection e with e; omega)
  have R4 := ((R3.less (F' := [w.heap.size]) (fun k hk => List.mem_append_right _ hk)).keep hG (fun k hk => by injection hk with hk; subst hk; exact ⟨by omega, .inl (by simp)⟩)).less (F' := []) (fun k hk => by cases hk)
  obtain ⟨⟨u0, u1, u2⟩, f0, f1, f2⟩ := eblk3 M3
  have F : Hid _ := And.intro (o4.lower (show w.heap.size ≤ w2.heap.size by omega)) (And.intro R4 (And.intro S4.2 S4.1))
  clear o3 o4 R3 R4 M3 b3 S4 H2 N3 g3 hG
  go_wp2
  generalize (((w3.setCell ⟨w.heap.size, 0, none⟩ (.int .i64 (K - 64))).setCell ⟨w.heap.size, 1, none⟩ (.int .i64 T)).setCell ⟨w.heap.size, 2, none⟩ (.slice x (rc b).2.2.length c)) = wf at *
  obtain ⟨⟨y0, y1, y2⟩, -⟩ := eblk3 F.out.2.2.2
  refine bodyPost_ret (v := .agg #[.int .i64 (K - 64), .int .i64 T, .slice x (rc b).2.2.length c]) (by simp [results, Try.results29, go_sem, y0, y1, y2]) rfl ?_
  exact ⟨x, c, rfl, F.out.1, F.out.2.1, F.out.2.2.1⟩

set_option maxHeartbeats 2000000 in
theorem enUnpack_any (a : Option Addr) (len cap : Nat) (l : List (BitVec 8)) (w : World) (hl : l.length = len) (hle : len ≤ cap) (hr : Row w a l) (hn : a = none → cap = 0) (hlen : len ≤ 140737488351232) :
    Calls Try.prog 9 #[.slice a len cap] w fun r w' => ∃ x c, r = .returned (.tuple #[.agg #[.int .i64 (unp l).1.1, .int .i64 (unp l).1.2.1, .slice x (unp l).1.2.2.length c], .int .i64 (unp l).2]) ∧ Own w' w.heap.size (.slice x (unp l).1.2.2.length c) (unp l).1.2.2 ∧ Below w.heap.size w w' := by
  have b0 := box3_below w (.int .i64 0) (.int .i64 0) (.slice none 0 0) 24
  have M0 : Blk (w.alloc (.cells #[.int .i64 0, .int .i64 0, .slice none 0 0] 24)) w.heap.size 24 [.int .i64 0, .int .i64 0, .slice none 0 0] := Blk.new' w _ _
  have HR : Hid (Row w a l) := hr
  clear hr
  go_enter Try.func9, Try.ntmps9
  go_wp2_with fail
  generalize w.alloc (.cells #[.int .i64 0, .int .i64 0, .slice none 0 0] 24) = wb at *
  refine (NewReader_any a len cap l wb hl hle (Row.later HR.out b0) hn hlen).mono ?_
  rintro r w1 ⟨g, rfl, hg, hrd, b1⟩
  have R1 := hrd [] (fun k hk => by cases hk)
  have N2 := readEntry_any wb.heap.size g l w1 R1 hg b1.size
  have H1 : Hid (Below wb.heap.size wb w1 ∧ Below w.heap.size w wb ∧ Blk wb w.heap.size 24 [.int .i64 0, .int .i64 0, .slice none 0 0]) := ⟨b1, b0, M0⟩
  clear hrd R1 b1 b0 M0
  go_wp2_with fail
  refine N2.mono ?_
  rintro r w2 ⟨x, c, rfl, o2, R2, b2⟩
  have hU : unp l = if rE l = 0 then (if canE ((rk l).2.2 - 64, (rt l).2.2, (rc l).2.2) = true then (((rk l).2.2 - 64, (rt l).2.2, (rc l).2.2), 0) else ((0, 0, []), 1)) else ((0, 0, []), rE l) := rfl
  obtain ⟨K, hK⟩ : ∃ K, K = (rk l).2.2 - 64 := ⟨_, rfl⟩
  obtain ⟨T, hT⟩ : ∃ T, T = (rt l).2.2 := ⟨_, rfl⟩
  obtain ⟨C, hC⟩ : ∃ C, C = (rc l).2.2 := ⟨_, rfl⟩
  obtain ⟨E, hE⟩ : ∃ E, E = rE l := ⟨_, rfl⟩
  rw [← hK, ← hT, ← hC, ← hE] at hU
  rw [← hC] at o2
  rw [← hK, ← hT, ← hC]
  have hCl : C.length ≤ 140737488351232 := by have := rc_len l; rw [← hC] at this; omega
  have bb := H1.out.1.trans b2
  have b3 := box3_below w2 (.int .i64 K) (.int .i64 T) (.slice x C.length c) 24
  have M3 : Blk (w2.alloc (.cells #[.int .i64 K, .int .i64 T, .slice x C.length c] 24)) w2.heap.size 24 [.int .i64 K, .int .i64 T, .slice x C.length c] := Blk.new' w2 _ _
  have R3 := R2.later b3
  have N3 : Calls Try.prog 30 #[.pointer (some ⟨g, 0, none⟩)] (w2.alloc (.cells #[.int .i64 K, .int .i64 T, .slice x C.length c] 24)) fun e w' => e = .returned (.int .i64 E) ∧ (w2.alloc (.cells #[.int .i64 K, .int .i64 T, .slice x C.length c] 24)) = w' := by rw [hE]; exact End_any [] g _ _ _ R3
  have hs1 := H1.out.1.size
  have hs0 := H1.out.2.1.size
  have H3 : Hid (Below w.heap.size w (w2.alloc (.cells #[.int .i64 K, .int .i64 T, .slice x C.length c] 24)) ∧ Blk (w2.alloc (.cells #[.int .i64 K, .int .i64 T, .slice x C.length c] 24)) w.heap.size 24 [.int .i64 0, .int .i64 0, .slice none 0 0] ∧ Blk (w2.alloc (.cells #[.int .i64 K, .int .i64 T, .slice x C.length c] 24)) w2.heap.size 24 [.int .i64 K, .int .i64 T, .slice x C.length c] ∧ Own (w2.alloc (.cells #[.int .i64 K, .int .i64 T, .slice x C.length c] 24)) w1.heap.size (.slice x C.length c) C ∧ w.heap.size < w1.heap.size) :=
    ⟨below_then (below_then H1.out.2.1 bb) b3, (H1.out.2.2.laterB bb).laterB b3, M3, o2.later b3, by have := H1.out.2.2.lt; omega⟩
  clear N2 o2 R2 R3 b2 b3 M3 bb hK hT hC hE H1 HR
  go_wp2_with fail
  refine N3.mono ?_
  rintro r w' ⟨rfl, rfl⟩
  generalize w2.alloc (.cells #[.int .i64 K, .int .i64 T, .slice x C.length c] 24) = w3 at *
  clear N3
  have HU : Hid _ := hU
  clear hU
  by_cases e0 : E = 0
  · subst e0
    obtain ⟨x', c', hv, hlec, hm, hrow, -, -⟩ := H3.out.2.2.2.1.open
    simp only [Value.slice.injEq] at hv
    obtain ⟨rfl, -, rfl⟩ := hv
    have N4 := canBe9_any K T C x c w3 hrow (by omega)
    obtain ⟨⟨z0, z1, z2⟩, -⟩ := eblk3 H3.out.2.2.1
    clear hrow hlec hm
    go_wp2_with fail
    refine N4.mono ?_
    rintro r w4 ⟨rfl, b4⟩
    have H4 : Hid (Below w.heap.size w w4 ∧ Blk w4 w.heap.size 24 [.int .i64 0, .int .i64 0, .slice none 0 0] ∧ Blk w4 w2.heap.size 24 [.int .i64 K, .int .i64 T, .slice x C.length c] ∧ Own w4 w1.heap.size (.slice x C.length c) C ∧ w.heap.size < w1.heap.size) := ⟨below_then H3.out.1 b4, H3.out.2.1.laterB b4, H3.out.2.2.1.laterB b4, H3.out.2.2.2.1.later b4, H3.out.2.2.2.2⟩
    clear H3 N4 b4 z0 z1 z2
    cases hc : canE (K, T, C) with
    | false =>
      have P : Hid (unp l = ((0, 0, []), 1)) := (by rw [HU.out]; simp [hc] : unp l = ((0, 0, []), 1))
      have S4 := eset3 H4.out.2.1 (.int .i64 0) (.int .i64 0) (.slice none 0 0) w.heap.size w H4.out.1 (Nat.le_refl _) H4.out.1.size
      obtain ⟨⟨u0, u1, u2⟩, f0, f1, f2⟩ := eblk3 H4.out.2.1
      have F : Hid _ := S4
      clear S4 HU hc H4
      go_wp2
      clear u0 u1 u2 f0 f1 f2
      generalize (((w4.setCell ⟨w.heap.size, 0, none⟩ (.int .i64 0)).setCell ⟨w.heap.size, 1, none⟩ (.int .i64 0)).setCell ⟨w.heap.size, 2, none⟩ (.slice none 0 0)) = wf at *
      obtain ⟨⟨y0, y1, y2⟩, -⟩ := eblk3 F.out.1
      refine bodyPost_ret (v := .tuple #[.agg #[.int .i64 0, .int .i64 0, .slice none 0 0], .int .i64 1]) (by simp [results, Try.results9, go_sem, y0, y1, y2]) rfl ?_
      rw [P.out]
      exact ⟨none, 0, rfl, Own.nil _ _, F.out.2⟩
    | true =>
      have P : Hid (unp l = ((K, T, C), 0)) := (by rw [HU.out]; simp [hc] : unp l = ((K, T, C), 0))
      have hG := grown3 w4 w.heap.size (.int .i64 K) (.int .i64 T) (.slice x C.length c)
      have S4 := eset3 H4.out.2.1 (.int .i64 K) (.int .i64 T) (.slice x C.length c) w.heap.size w H4.out.1 (Nat.le_refl _) H4.out.1.size
      have o5 := H4.out.2.2.2.1.keep hG (fun k hk e => by
        have h1 := (World.ownsRow.lt H4.out.2.2.2.1 k hk).1
        have h2 := H4.out.2.2.2.2
        injection e with e; omega)
      obtain ⟨⟨u0, u1, u2⟩, f0, f1, f2⟩ := eblk3 H4.out.2.1
      obtain ⟨⟨z0, z1, z2⟩, -⟩ := eblk3 H4.out.2.2.1
      have F : Hid _ := And.intro S4.1 (And.intro S4.2 (o5.lower (Nat.le_of_lt H4.out.2.2.2.2)))
      clear S4 HU hc hG o5 H4
      go_wp2
      clear u0 u1 u2 f0 f1 f2
      generalize (((w4.setCell ⟨w.heap.size, 0, none⟩ (.int .i64 K)).setCell ⟨w.heap.size, 1, none⟩ (.int .i64 T)).setCell ⟨w.heap.size, 2, none⟩ (.slice x C.length c)) = wf at *
      obtain ⟨⟨y0, y1, y2⟩, -⟩ := eblk3 F.out.1
      refine bodyPost_ret (v := .tuple #[.agg #[.int .i64 K, .int .i64 T, .slice x C.length c], .int .i64 0]) (by simp [results, Try.results9, go_sem, y0, y1, y2]) rfl ?_
      rw [P.out]
      exact ⟨x, c, rfl, F.out.2.2, F.out.2.1⟩
  · have P : Hid (unp l = ((0, 0, []), E)) := (by rw [HU.out, if_neg e0] : unp l = ((0, 0, []), E))
    have S4 := eset3 H3.out.2.1 (.int .i64 0) (.int .i64 0) (.slice none 0 0) w.heap.size w H3.out.1 (Nat.le_refl _) H3.out.1.size
    obtain ⟨⟨u0, u1, u2⟩, f0, f1, f2⟩ := eblk3 H3.out.2.1
    have F : Hid _ := S4
    have q0 : (E == 0) = false := by rw [beq_eq_false_iff_ne]; exact e0
    clear S4 HU H3
    go_wp2
    clear u0 u1 u2 f0 f1 f2
    generalize (((w3.setCell ⟨w.heap.size, 0, none⟩ (.int .i64 0)).setCell ⟨w.heap.size, 1, none⟩ (.int .i64 0)).setCell ⟨w.heap.size, 2, none⟩ (.slice none 0 0)) = wf at *
    obtain ⟨⟨y0, y1, y2⟩, -⟩ := eblk3 F.out.1
    refine bodyPost_ret (v := .tuple #[.agg #[.int .i64 0, .int .i64 0, .slice none 0 0], .int .i64 E]) (by simp [results, Try.results9, go_sem, y0, y1, y2]) rfl ?_
    rw [P.out]
    exact ⟨none, 0, rfl, Own.nil _ _, F.out.2⟩
end Go.Proofs.Ytmcljbpemninlaa
