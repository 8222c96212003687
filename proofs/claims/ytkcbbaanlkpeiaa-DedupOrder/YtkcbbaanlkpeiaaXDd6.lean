/- The reference's answer read of bytes. -/
import Derived.Test.YtkcbbaanlkpeiaaXDd5
import Derived.Test.YtkcbbaanlkpeiaaXFieldX1
namespace Go.Proofs.Ytkcbbaanlkpeiaa
open Go.RowKit
set_option linter.unusedVariables false
set_option linter.unusedSimpArgs false
set_option maxRecDepth 4000

/-- an answer under way: the result's block, the answer's, the reader's -/
structure QR (W0 w : World) (rb xb g : Nat) (L : List (BitVec 8)) (E : Int) (xs : List Value) : Prop where
  rd : Rd w [xb] g 70 L E
  xblk : Blk w xb 38 xs
  rblk : Blk w rb 38 [.int .i64 0, .int .i64 0, .int .i64 0, .int .i64 0, .slice none 0 0]
  below : Below W0.heap.size W0 w
  r_g : rb < g
  g_x : g < xb
  base_r : W0.heap.size ≤ rb
theorem QR.num {W0 w w' : World} {rb xb g : Nat} {L L' : List (BitVec 8)} {E E' : Int} {xs : List Value} (h : QR W0 w rb xb g L E xs) (R : Rd w' [xb] g 70 L' E') (hg : w.grownBy w' (some g)) : QR W0 w' rb xb g L' E' xs := by
  have h1 := h.r_g
  have h2 := h.g_x
  have h3 := h.base_r
  exact ⟨R, h.xblk.grown hg (fun e => by injection e with e; omega), h.rblk.grown hg (fun e => by injection e with e; omega), h.below.trans (grown_below hg _ (by omega) h.below.size), h1, h2, h3⟩
theorem QR.set {W0 w : World} {rb xb g : Nat} {L : List (BitVec 8)} {E : Int} {xs : List Value} (h : QR W0 w rb xb g L E xs) (i : Nat) (u : Value) : QR W0 (w.setCell ⟨xb, i, none⟩ u) rb xb g L E (xs.set i u) := by
  have h1 := h.r_g
  have h2 := h.g_x
  have h3 := h.base_r
  have hg := grown_set w xb i u
  exact ⟨h.rd.keep hg (fun k e => by injection e with e; subst e; exact ⟨by omega, .inl (by simp)⟩), h.xblk.set i u, h.rblk.grown hg (fun e => by injection e with e; omega), h.below.trans (grown_below hg _ (by omega) h.below.size), h1, h2, h3⟩
set_option maxHeartbeats 2000000 in
theorem qgetReply_any (a : Option Addr) (len cap : Nat) (l : List (BitVec 8)) (w : World) (hl : l.length = len) (hle : len ≤ cap) (hr : Row w a l) (hn : a = none → cap = 0) (hlen : len ≤ 140737488351232) :
    Calls Try.prog 30 #[.slice a len cap] w fun r w' => ∃ x c, r = .returned (.tuple #[.agg #[.int .i64 (grR l).1, .int .i64 (grR l).2.1, .int .i64 (grR l).2.2.1, .int .i64 (grR l).2.2.2.1, .slice x (grR l).2.2.2.2.length c], .int .i64 (grE l)]) ∧ Own w' w.heap.size (.slice x (grR l).2.2.2.2.length c) (grR l).2.2.2.2 ∧ Below w.heap.size w w' := by
  have b0 : Below w.heap.size w (w.alloc (.cells #[.int .i64 0, .int .i64 0, .int .i64 0, .int .i64 0, .slice none 0 0] 38)) := (Below.refl _ _).alloc (Nat.le_refl _) _
  have M0 : Blk (w.alloc (.cells #[.int .i64 0, .int .i64 0, .int .i64 0, .int .i64 0, .slice none 0 0] 38)) w.heap.size 38 [.int .i64 0, .int .i64 0, .int .i64 0, .int .i64 0, .slice none 0 0] := Blk.new' w _ _
  have HR : Hid (Row w a l) := hr
  clear hr
  go_enter Try.func30, Try.ntmps30
  go_wp2_with fail
  generalize w.alloc (.cells #[.int .i64 0, .int .i64 0, .int .i64 0, .int .i64 0, .slice none 0 0] 38) = wb at *
  refine (Of_any a len cap l wb hl hle (Row.later HR.out b0) hn hlen).mono ?_
  rintro r w1 ⟨g, rfl, hg, hrd, b1⟩
  have G1 : Hid (QR w (w1.alloc (.cells #[.int .i64 0, .int .i64 0, .int .i64 0, .int .i64 0, .slice none 0 0] 38)) w.heap.size w1.heap.size g l 0 [.int .i64 0, .int .i64 0, .int .i64 0, .int .i64 0, .slice none 0 0]) := by
    have b2 : Below w1.heap.size w1 (w1.alloc (.cells #[.int .i64 0, .int .i64 0, .int .i64 0, .int .i64 0, .slice none 0 0] 38)) := (Below.refl _ _).alloc (Nat.le_refl _) _
    have R1 := hrd [] (fun k hk => by cases hk)
    exact ⟨(R1.more w1.heap.size (Nat.le_refl _)).later b2, Blk.new' w1 _ _, (M0.laterB b1).laterB b2, below_then (below_then b0 b1) b2, Nat.lt_of_lt_of_le M0.lt hg, R1.blt, Nat.le_refl _⟩
  have N1 : Hid _ := rNum_any [w1.heap.size] g l 0 1 (w1.alloc (.cells #[.int .i64 0, .int .i64 0, .int .i64 0, .int .i64 0, .slice none 0 0] 38)) G1.out.rd
  clear hrd b1 b0 M0 HR
  obtain ⟨xb, hxb⟩ : ∃ xb, xb = w1.heap.size := ⟨_, rfl⟩
  go_wp2_with fail
  rw [← hxb] at G1 N1 ⊢
  generalize w1.alloc (.cells #[.int .i64 0, .int .i64 0, .int .i64 0, .int .i64 0, .slice none 0 0] 38) = v1 at *
  clear hxb
  obtain ⟨K1, hK1⟩ : ∃ K, K = (gr1 l).2.2 := ⟨_, rfl⟩
  refine (Calls.mono N1.out) ?_
  rintro r u1 ⟨rfl, R1, g1⟩
  rw [show (rdNum l 0 1).2.2 = K1 from hK1.symm]
  have HK1 : Hid _ := hK1
  clear hK1
  have A1 : Hid (QR w u1 w.heap.size xb g (gr1 l).1 (gr1 l).2.1 [.int .i64 0, .int .i64 0, .int .i64 0, .int .i64 0, .slice none 0 0]) := G1.out.num R1 g1
  have G2 : Hid (QR w (u1.setCell ⟨xb, 0, none⟩ (.int .i64 K1)) w.heap.size xb g (gr1 l).1 (gr1 l).2.1 [.int .i64 K1, .int .i64 0, .int .i64 0, .int .i64 0, .slice none 0 0]) := A1.out.set 0 (.int .i64 K1)
  have c1 := blk_at A1.out.xblk 0
  have f1 := A1.out.xblk.frozen (by simp [maxLen]) 0
  simp only [List.getElem?_cons_zero, List.getElem?_cons_succ] at c1
  have N2 : Hid _ := rNum_any [xb] g (gr1 l).1 (gr1 l).2.1 1 _ G2.out.rd
  clear R1 g1 N1 G1 A1
  go_wp2_with fail
  clear c1 f1
  generalize u1.setCell ⟨xb, 0, none⟩ (.int .i64 K1) = v2 at *
  obtain ⟨K2, hK2⟩ : ∃ K, K = (gr2 l).2.2 := ⟨_, rfl⟩
  refine (Calls.mono N2.out) ?_
  rintro r u2 ⟨rfl, R2, g2⟩
  rw [show (rdNum (gr1 l).1 (gr1 l).2.1 1).2.2 = K2 from hK2.symm]
  have HK2 : Hid _ := hK2
  clear hK2
  have A2 : Hid (QR w u2 w.heap.size xb g (gr2 l).1 (gr2 l).2.1 [.int .i64 K1, .int .i64 0, .int .i64 0, .int .i64 0, .slice none 0 0]) := G2.out.num R2 g2
  have G3 : Hid (QR w (u2.setCell ⟨xb, 1, none⟩ (.int .i64 K2)) w.heap.size xb g (gr2 l).1 (gr2 l).2.1 [.int .i64 K1, .int .i64 K2, .int .i64 0, .int .i64 0, .slice none 0 0]) := A2.out.set 1 (.int .i64 K2)
  have c2 := blk_at A2.out.xblk 1
  have f2 := A2.out.xblk.frozen (by simp [maxLen]) 1
  simp only [List.getElem?_cons_zero, List.getElem?_cons_succ] at c2
  have N3 : Hid _ := rNum_any [xb] g (gr2 l).1 (gr2 l).2.1 1 _ G3.out.rd
  clear R2 g2 N2 G2 A2
  go_wp2_with fail
  clear c2 f2
  generalize u2.setCell ⟨xb, 1, none⟩ (.int .i64 K2) = v3 at *
  obtain ⟨K3, hK3⟩ : ∃ K, K = (gr3 l).2.2 := ⟨_, rfl⟩
  refine (Calls.mono N3.out) ?_
  rintro r u3 ⟨rfl, R3, g3⟩
  rw [show (rdNum (gr2 l).1 (gr2 l).2.1 1).2.2 = K3 from hK3.symm]
  have HK3 : Hid _ := hK3
  clear hK3
  have A3 : Hid (QR w u3 w.heap.size xb g (gr3 l).1 (gr3 l).2.1 [.int .i64 K1, .int .i64 K2, .int .i64 0, .int .i64 0, .slice none 0 0]) := G3.out.num R3 g3
  have G4 : Hid (QR w (u3.setCell ⟨xb, 2, none⟩ (.int .i64 K3)) w.heap.size xb g (gr3 l).1 (gr3 l).2.1 [.int .i64 K1, .int .i64 K2, .int .i64 K3, .int .i64 0, .slice none 0 0]) := A3.out.set 2 (.int .i64 K3)
  have c3 := blk_at A3.out.xblk 2
  have f3 := A3.out.xblk.frozen (by simp [maxLen]) 2
  simp only [List.getElem?_cons_zero, List.getElem?_cons_succ] at c3
  have N4 : Hid _ := rNum_any [xb] g (gr3 l).1 (gr3 l).2.1 1 _ G4.out.rd
  clear R3 g3 N3 G3 A3
  go_wp2_with fail
  clear c3 f3
  generalize u3.setCell ⟨xb, 2, none⟩ (.int .i64 K3) = v4 at *
  obtain ⟨K4, hK4⟩ : ∃ K, K = (gr4 l).2.2 := ⟨_, rfl⟩
  refine (Calls.mono N4.out) ?_
  rintro r u4 ⟨rfl, R4, g4⟩
  rw [show (rdNum (gr3 l).1 (gr3 l).2.1 1).2.2 = K4 from hK4.symm]
  have HK4 : Hid _ := hK4
  clear hK4
  have A4 : Hid (QR w u4 w.heap.size xb g (gr4 l).1 (gr4 l).2.1 [.int .i64 K1, .int .i64 K2, .int .i64 K3, .int .i64 0, .slice none 0 0]) := G4.out.num R4 g4
  have G5 : Hid (QR w (u4.setCell ⟨xb, 3, none⟩ (.int .i64 K4)) w.heap.size xb g (gr4 l).1 (gr4 l).2.1 [.int .i64 K1, .int .i64 K2, .int .i64 K3, .int .i64 K4, .slice none 0 0]) := A4.out.set 3 (.int .i64 K4)
  have c4 := blk_at A4.out.xblk 3
  have f4 := A4.out.xblk.frozen (by simp [maxLen]) 3
  simp only [List.getElem?_cons_zero, List.getElem?_cons_succ] at c4
  have N5 : Hid _ := rBytes_any [xb] g (gr4 l).1 (gr4 l).2.1 2 _ G5.out.rd (fun k hk => by rw [List.mem_singleton] at hk; subst hk; exact G5.out.xblk.lt)
  clear R4 g4 N4 G4 A4
  go_wp2_with fail
  clear c4 f4
  generalize u4.setCell ⟨xb, 3, none⟩ (.int .i64 K4) = v5 at *
  refine (Calls.mono N5.out) ?_
  rintro r u5 ⟨v, rfl, o5, R5, g5⟩
  obtain ⟨C, hC⟩ : ∃ C, C = (gr5 l).2.2 := ⟨_, rfl⟩
  rw [show (rdBytes (gr4 l).1 (gr4 l).2.1 2).2.2 = C from hC.symm] at o5
  have hCb : C.length ≤ 140737488351232 := by rw [hC]; exact Nat.le_trans (gr5_len l) (by omega)
  obtain ⟨x, c, rfl, -, -, -, -, -⟩ := o5.open
  have HC : Hid _ := hC
  clear hC
  have A5 : Hid (QR w u5 w.heap.size xb g (gr5 l).1 (gr5 l).2.1 [.int .i64 K1, .int .i64 K2, .int .i64 K3, .int .i64 K4, .slice none 0 0]) := G5.out.num R5 g5
  have G6 : Hid (QR w (u5.setCell ⟨xb, 4, none⟩ (.slice x C.length c)) w.heap.size xb g (gr5 l).1 (gr5 l).2.1 [.int .i64 K1, .int .i64 K2, .int .i64 K3, .int .i64 K4, .slice x C.length c]) := A5.out.set 4 (.slice x C.length c)
  have O6 : Hid (Own (u5.setCell ⟨xb, 4, none⟩ (.slice x C.length c)) v5.heap.size (.slice x C.length c) C ∧ xb < v5.heap.size) := ⟨o5.keep (grown_set _ _ _ _) (fun k hk e => by
    have h1 := (World.ownsRow.lt o5 k hk).1
    have h2 := G5.out.xblk.lt
    injection e with e
    omega), G5.out.xblk.lt⟩
  have c5 := blk_at A5.out.xblk 4
  have f5 := A5.out.xblk.frozen (by simp [maxLen]) 4
  simp only [List.getElem?_cons_zero, List.getElem?_cons_succ] at c5
  have N6 : Hid _ := rEnd_any [xb] g (gr5 l).1 (gr5 l).2.1 _ G6.out.rd
  clear o5 R5 g5 N5 G5 A5
  go_wp2_with fail
  clear c5 f5
  generalize u5.setCell ⟨xb, 4, none⟩ (.slice x C.length c) = v6 at *
  refine (Calls.mono N6.out) ?_
  rintro r w' ⟨rfl, rfl⟩
  obtain ⟨E, hE⟩ : ∃ E, E = gr6 l := ⟨_, rfl⟩
  rw [show rdEnd (gr5 l).1 (gr5 l).2.1 = E from hE.symm]
  have HE : Hid _ := hE
  clear hE N6
  by_cases e0 : E = 0
  · subst e0
    by_cases e1 : C.length ≤ 4096
    · have P : Hid (grR l = (K1, K2, K3, K4, C) ∧ grE l = 0) := by
        have h1 : grE l = 0 := by unfold grE; rw [← HE.out, if_pos rfl, ← HC.out, if_pos e1]
        refine ⟨?_, h1⟩
        unfold grR
        rw [h1, if_pos rfl, HK1.out, HK2.out, HK3.out, HK4.out, HC.out]
      have e2 : (C.length : Int) ≤ 4096 := by omega
      have S7 := set5_below G6.out.rblk rfl (.int .i64 K1) (.int .i64 K2) (.int .i64 K3) (.int .i64 K4) (.slice x C.length c) w.heap.size w G6.out.below (Nat.le_refl _) G6.out.below.size
      have F : Hid _ := And.intro S7.1 (And.intro S7.2.2 ((O6.out.1.keep S7.2.1 (fun k hk e => by
        have h1 := (World.ownsRow.lt O6.out.1 k hk).1
        have h2 := O6.out.2
        have h3 := G6.out.g_x
        have h4 := G6.out.r_g
        injection e with e
        omega)).lower (show w.heap.size ≤ v5.heap.size by have h2 := O6.out.2; have h3 := G6.out.g_x; have h4 := G6.out.r_g; omega)))
      have y0 := blk_at G6.out.rblk 0
      have f0 := G6.out.rblk.frozen (by simp [maxLen]) 0
      have y1 := blk_at G6.out.rblk 1
      have f1 := G6.out.rblk.frozen (by simp [maxLen]) 1
      have y2 := blk_at G6.out.rblk 2
      have f2 := G6.out.rblk.frozen (by simp [maxLen]) 2
      have y3 := blk_at G6.out.rblk 3
      have f3 := G6.out.rblk.frozen (by simp [maxLen]) 3
      have y4 := blk_at G6.out.rblk 4
      have f4 := G6.out.rblk.frozen (by simp [maxLen]) 4
      simp only [List.getElem?_cons_zero, List.getElem?_cons_succ] at y0 y1 y2 y3 y4
      have z0 := blk_at G6.out.xblk 0
      have z1 := blk_at G6.out.xblk 1
      have z2 := blk_at G6.out.xblk 2
      have z3 := blk_at G6.out.xblk 3
      have z4 := blk_at G6.out.xblk 4
      simp only [List.getElem?_cons_zero, List.getElem?_cons_succ] at z0 z1 z2 z3 z4
      clear S7 G6 O6
      go_wp2
      clear y0 y1 y2 y3 y4 f0 f1 f2 f3 f4 z0 z1 z2 z3 z4
      generalize (((((v6.setCell ⟨w.heap.size, 0, none⟩ (.int .i64 K1)).setCell ⟨w.heap.size, 1, none⟩ (.int .i64 K2)).setCell ⟨w.heap.size, 2, none⟩ (.int .i64 K3)).setCell ⟨w.heap.size, 3, none⟩ (.int .i64 K4)).setCell ⟨w.heap.size, 4, none⟩ (.slice x C.length c)) = wf at *
      have y0 := blk_at F.out.1 0
      have y1 := blk_at F.out.1 1
      have y2 := blk_at F.out.1 2
      have y3 := blk_at F.out.1 3
      have y4 := blk_at F.out.1 4
      simp only [List.getElem?_cons_zero, List.getElem?_cons_succ] at y0 y1 y2 y3 y4
      refine bodyPost_ret (v := .tuple #[.agg #[.int .i64 K1, .int .i64 K2, .int .i64 K3, .int .i64 K4, .slice x C.length c], .int .i64 0]) (by simp [results, Try.results30, go_sem, y0, y1, y2, y3, y4]) rfl ?_
      rw [P.out.1, P.out.2]
      exact ⟨x, c, rfl, F.out.2.2, F.out.2.1⟩
    · have P : Hid (grR l = (0, 0, 0, 0, []) ∧ grE l = 3) := by
        have h1 : grE l = 3 := by unfold grE; rw [← HE.out, if_pos rfl, ← HC.out, if_neg e1]
        refine ⟨?_, h1⟩
        unfold grR
        rw [h1, if_neg (by decide)]
      have e2 : (4096 : Int) < (C.length : Int) := by omega
      have S7 := set5_below G6.out.rblk rfl (.int .i64 0) (.int .i64 0) (.int .i64 0) (.int .i64 0) (.slice none 0 0) w.heap.size w G6.out.below (Nat.le_refl _) G6.out.below.size
      have F : Hid _ := And.intro S7.1 S7.2.2
      have y0 := blk_at G6.out.rblk 0
      have f0 := G6.out.rblk.frozen (by simp [maxLen]) 0
      have y1 := blk_at G6.out.rblk 1
      have f1 := G6.out.rblk.frozen (by simp [maxLen]) 1
      have y2 := blk_at G6.out.rblk 2
      have f2 := G6.out.rblk.frozen (by simp [maxLen]) 2
      have y3 := blk_at G6.out.rblk 3
      have f3 := G6.out.rblk.frozen (by simp [maxLen]) 3
      have y4 := blk_at G6.out.rblk 4
      have f4 := G6.out.rblk.frozen (by simp [maxLen]) 4
      simp only [List.getElem?_cons_zero, List.getElem?_cons_succ] at y0 y1 y2 y3 y4
      have z0 := blk_at G6.out.xblk 0
      have z1 := blk_at G6.out.xblk 1
      have z2 := blk_at G6.out.xblk 2
      have z3 := blk_at G6.out.xblk 3
      have z4 := blk_at G6.out.xblk 4
      simp only [List.getElem?_cons_zero, List.getElem?_cons_succ] at z0 z1 z2 z3 z4
      clear S7 G6 O6
      go_wp2
      clear y0 y1 y2 y3 y4 f0 f1 f2 f3 f4 z0 z1 z2 z3 z4
      generalize (((((v6.setCell ⟨w.heap.size, 0, none⟩ (.int .i64 0)).setCell ⟨w.heap.size, 1, none⟩ (.int .i64 0)).setCell ⟨w.heap.size, 2, none⟩ (.int .i64 0)).setCell ⟨w.heap.size, 3, none⟩ (.int .i64 0)).setCell ⟨w.heap.size, 4, none⟩ (.slice none 0 0)) = wf at *
      have y0 := blk_at F.out.1 0
      have y1 := blk_at F.out.1 1
      have y2 := blk_at F.out.1 2
      have y3 := blk_at F.out.1 3
      have y4 := blk_at F.out.1 4
      simp only [List.getElem?_cons_zero, List.getElem?_cons_succ] at y0 y1 y2 y3 y4
      refine bodyPost_ret (v := .tuple #[.agg #[.int .i64 0, .int .i64 0, .int .i64 0, .int .i64 0, .slice none 0 0], .int .i64 3]) (by simp [results, Try.results30, go_sem, y0, y1, y2, y3, y4]) rfl ?_
      rw [P.out.1, P.out.2]
      exact ⟨none, 0, rfl, Own.nil _ _, F.out.2⟩
  · have P : Hid (grR l = (0, 0, 0, 0, []) ∧ grE l = E) := by
      have h1 : grE l = E := by unfold grE; rw [← HE.out, if_neg e0]
      refine ⟨?_, h1⟩
      unfold grR
      rw [h1, if_neg e0]
    have q0 : (E == 0) = false := by rw [beq_eq_false_iff_ne]; exact e0
    have S7 := set5_below G6.out.rblk rfl (.int .i64 0) (.int .i64 0) (.int .i64 0) (.int .i64 0) (.slice none 0 0) w.heap.size w G6.out.below (Nat.le_refl _) G6.out.below.size
    have F : Hid _ := And.intro S7.1 S7.2.2
    have y0 := blk_at G6.out.rblk 0
    have f0 := G6.out.rblk.frozen (by simp [maxLen]) 0
    have y1 := blk_at G6.out.rblk 1
    have f1 := G6.out.rblk.frozen (by simp [maxLen]) 1
    have y2 := blk_at G6.out.rblk 2
    have f2 := G6.out.rblk.frozen (by simp [maxLen]) 2
    have y3 := blk_at G6.out.rblk 3
    have f3 := G6.out.rblk.frozen (by simp [maxLen]) 3
    have y4 := blk_at G6.out.rblk 4
    have f4 := G6.out.rblk.frozen (by simp [maxLen]) 4
    simp only [List.getElem?_cons_zero, List.getElem?_cons_succ] at y0 y1 y2 y3 y4
    have z0 := blk_at G6.out.xblk 0
    have z1 := blk_at G6.out.xblk 1
    have z2 := blk_at G6.out.xblk 2
    have z3 := blk_at G6.out.xblk 3
    have z4 := blk_at G6.out.xblk 4
    simp only [List.getElem?_cons_zero, List.getElem?_cons_succ] at z0 z1 z2 z3 z4
    clear S7 G6 O6
    go_wp2
    clear y0 y1 y2 y3 y4 f0 f1 f2 f3 f4 z0 z1 z2 z3 z4
    generalize (((((v6.setCell ⟨w.heap.size, 0, none⟩ (.int .i64 0)).setCell ⟨w.heap.size, 1, none⟩ (.int .i64 0)).setCell ⟨w.heap.size, 2, none⟩ (.int .i64 0)).setCell ⟨w.heap.size, 3, none⟩ (.int .i64 0)).setCell ⟨w.heap.size, 4, none⟩ (.slice none 0 0)) = wf at *
    have y0 := blk_at F.out.1 0
    have y1 := blk_at F.out.1 1
    have y2 := blk_at F.out.1 2
    have y3 := blk_at F.out.1 3
    have y4 := blk_at F.out.1 4
    simp only [List.getElem?_cons_zero, List.getElem?_cons_succ] at y0 y1 y2 y3 y4
    refine bodyPost_ret (v := .tuple #[.agg #[.int .i64 0, .int .i64 0, .int .i64 0, .int .i64 0, .slice none 0 0], .int .i64 E]) (by simp [results, Try.results30, go_sem, y0, y1, y2, y3, y4]) rfl ?_
    rw [P.out.1, P.out.2]
    exact ⟨none, 0, rfl, Own.nil _ _, F.out.2⟩
end Go.Proofs.Ytkcbbaanlkpeiaa

/- The reference's bytes of an answer. -/
namespace Go.Proofs.Ytkcbbaanlkpeiaa
open Go.RowKit
set_option linter.unusedVariables false
set_option linter.unusedSimpArgs false
set_option maxRecDepth 4000

theorem small_yes {n : Int} (h : byteOk n) (w : World) : Calls Try.prog 45 #[.int .i64 n] w fun e w' => e = .returned (.bool true) ∧ w = w' := by
  obtain ⟨h1, h2⟩ := h
  go_enter Try.func45, Try.ntmps45
  go_wp2
  go_ret
  exact ⟨rfl, rfl⟩
theorem small_no {n : Int} (h : ¬ byteOk n) (w : World) : Calls Try.prog 45 #[.int .i64 n] w fun e w' => e = .returned (.bool false) ∧ w = w' := by
  by_cases h1 : 0 ≤ n
  · have h2 : ¬ n ≤ 255 := fun e => h ⟨h1, e⟩
    clear h
    go_enter Try.func45, Try.ntmps45
    go_wp2
    go_ret
    exact ⟨rfl, rfl⟩
  · clear h
    go_enter Try.func45, Try.ntmps45
    go_wp2
    go_ret
    exact ⟨rfl, rfl⟩
theorem keep_blk {w w' : World} {B g : Nat} {T : TypeId} {xs : List Value} (h : Blk w g T xs) (hb : Below B w w') (hg : g < B) : Blk w' g T xs := by
  unfold Blk at *
  rw [hb.block g hg]
  exact h
set_option maxHeartbeats 2000000 in
theorem qputReply_any (a b c d : Int) (x : Option Addr) (cp : Nat) (l : List (BitVec 8)) (w : World) (hl : l.length ≤ 140737488351232) (hc : l.length ≤ cp) (hn : x = none → cp = 0) (hr : Row w x l) :
    Calls Try.prog 16 #[.agg #[.int .i64 a, .int .i64 b, .int .i64 c, .int .i64 d, .slice x l.length cp]] w fun e w' => ∃ z, e = .returned (.tuple #[z, .int .i64 (prE a b c d l.length)]) ∧ Own w' w.heap.size z (prB a b c d l) ∧ Below w.heap.size w w' := by
  have b1 : Below w.heap.size w (w.alloc (.cells #[.int .i64 a, .int .i64 b, .int .i64 c, .int .i64 d, .slice x l.length cp] 38)) := (Below.refl _ _).alloc (Nat.le_refl _) _
  have B1 := Blk.new' w 38 [.int .i64 a, .int .i64 b, .int .i64 c, .int .i64 d, .slice x l.length cp]
  have n0 := blk_at B1 0
  have n1 := blk_at B1 1
  have n2 := blk_at B1 2
  have n3 := blk_at B1 3
  have n4 := blk_at B1 4
  simp only [List.getElem?_cons_zero, List.getElem?_cons_succ] at n0 n1 n2 n3 n4
  have HR : Hid _ := hr
  have H1 : Hid _ := And.intro b1 B1
  clear hr b1 B1
  by_cases h0 : byteOk a
  case neg =>
    have hE : Hid (prE a b c d l.length = 1 ∧ prB a b c d l = []) := by
      have : prE a b c d l.length = 1 := if_neg (fun h : fourOk a b c d => h0 h.1)
      exact ⟨this, by unfold prB; rw [this]; rfl⟩
    go_enter Try.func16, Try.ntmps16
    go_wp2_with (go_at_call 45; (first | refine (small_yes (by assumption) _).mono ?_ | refine (small_no (by assumption) _).mono ?_); rintro e w1 ⟨rfl, rfl⟩)
    go_ret2
    refine ⟨.slice none 0 0, ?_, ?_, H1.out.1⟩
    · (rw [hE.out.1]; try rfl)
    · rw [hE.out.2]; exact Own.nil _ _
  by_cases h1 : byteOk b
  case neg =>
    have hE : Hid (prE a b c d l.length = 1 ∧ prB a b c d l = []) := by
      have : prE a b c d l.length = 1 := if_neg (fun h : fourOk a b c d => h1 h.2.1)
      exact ⟨this, by unfold prB; rw [this]; rfl⟩
    go_enter Try.func16, Try.ntmps16
    go_wp2_with (go_at_call 45; (first | refine (small_yes (by assumption) _).mono ?_ | refine (small_no (by assumption) _).mono ?_); rintro e w1 ⟨rfl, rfl⟩)
    go_ret2
    refine ⟨.slice none 0 0, ?_, ?_, H1.out.1⟩
    · (rw [hE.out.1]; try rfl)
    · rw [hE.out.2]; exact Own.nil _ _
  by_cases h2 : byteOk c
  case neg =>
    have hE : Hid (prE a b c d l.length = 1 ∧ prB a b c d l = []) := by
      have : prE a b c d l.length = 1 := if_neg (fun h : fourOk a b c d => h2 h.2.2.1)
      exact ⟨this, by unfold prB; rw [this]; rfl⟩
    go_enter Try.func16, Try.ntmps16
    go_wp2_with (go_at_call 45; (first | refine (small_yes (by assumption) _).mono ?_ | refine (small_no (by assumption) _).mono ?_); rintro e w1 ⟨rfl, rfl⟩)
    go_ret2
    refine ⟨.slice none 0 0, ?_, ?_, H1.out.1⟩
    · (rw [hE.out.1]; try rfl)
    · rw [hE.out.2]; exact Own.nil _ _
  by_cases h3 : byteOk d
  case neg =>
    have hE : Hid (prE a b c d l.length = 1 ∧ prB a b c d l = []) := by
      have : prE a b c d l.length = 1 := if_neg (fun h : fourOk a b c d => h3 h.2.2.2)
      exact ⟨this, by unfold prB; rw [this]; rfl⟩
    go_enter Try.func16, Try.ntmps16
    go_wp2_with (go_at_call 45; (first | refine (small_yes (by assumption) _).mono ?_ | refine (small_no (by assumption) _).mono ?_); rintro e w1 ⟨rfl, rfl⟩)
    go_ret2
    refine ⟨.slice none 0 0, ?_, ?_, H1.out.1⟩
    · (rw [hE.out.1]; try rfl)
    · rw [hE.out.2]; exact Own.nil _ _
  have H4 : Hid (fourOk a b c d) := ⟨h0, h1, h2, h3⟩
  by_cases h5 : 4096 < l.length
  · have hE : Hid (prE a b c d l.length = 3 ∧ prB a b c d l = []) := by
      have : prE a b c d l.length = 3 := by unfold prE; rw [if_pos H4.out, if_neg (by omega)]
      exact ⟨this, by unfold prB; rw [this]; rfl⟩
    have e1 : (4096 : Int) < (l.length : Int) := by omega
    clear h5
    go_enter Try.func16, Try.ntmps16
    go_wp2_with (go_at_call 45; (first | refine (small_yes (by assumption) _).mono ?_ | refine (small_no (by assumption) _).mono ?_); rintro e w1 ⟨rfl, rfl⟩)
    go_ret2
    refine ⟨.slice none 0 0, ?_, ?_, H1.out.1⟩
    · (rw [hE.out.1]; try rfl)
    · rw [hE.out.2]; exact Own.nil _ _
  · have hE : Hid (prE a b c d l.length = 0 ∧ prB a b c d l = fourB a b c d 4 ++ (be 2 (BitVec.ofNat 64 l.length) ++ l)) := by
      have : prE a b c d l.length = 0 := by unfold prE; rw [if_pos H4.out, if_pos (by omega)]
      exact ⟨this, by unfold prB; rw [this]; rfl⟩
    have e1 : (l.length : Int) ≤ 4096 := by omega
    have hl4 : l.length ≤ 4096 := by omega
    clear h5
    have bw := below_then H1.out.1 ((Below.refl (w.alloc (.cells #[.int .i64 a, .int .i64 b, .int .i64 c, .int .i64 d, .slice x l.length cp] 38)).heap.size _).alloc (Nat.le_refl _) (.cells #[.slice none 0 0, .int .i64 0] 96))
    have B2 := H1.out.2.laterB ((Below.refl _ _).alloc (Nat.le_refl _) (.cells #[.slice none 0 0, .int .i64 0] 96))
    have W2 : WrAt ((w.alloc (.cells #[.int .i64 a, .int .i64 b, .int .i64 c, .int .i64 d, .slice x l.length cp] 38)).alloc (.cells #[.slice none 0 0, .int .i64 0] 96)) (w.alloc (.cells #[.int .i64 a, .int .i64 b, .int .i64 c, .int .i64 d, .slice x l.length cp] 38)).heap.size (w.alloc (.cells #[.int .i64 a, .int .i64 b, .int .i64 c, .int .i64 d, .slice x l.length cp] 38)).heap.size 96 (.slice none 0 0) (fourB a b c d 0) 0 := ⟨Blk.new' _ _ _, ⟨[], Own.nil _ _, fun _ => rfl⟩, Nat.le_refl _, by simp, by decide⟩
    rw [show (w.alloc (.cells #[.int .i64 a, .int .i64 b, .int .i64 c, .int .i64 d, .slice x l.length cp] 38)).heap.size = w.heap.size + 1 by simp] at W2
    have m0 := blk_at B2 0
    simp only [List.getElem?_cons_zero, List.getElem?_cons_succ] at m0
    have K0 : Hid _ := And.intro bw (And.intro B2 W2)
    have N1 : Hid _ := rwNum_any (w.heap.size + 1) (w.heap.size + 1) (.slice none 0 0) (fourB a b c d 0) 0 1 a _ W2 (by have := fourB_len a b c d 0; omega)
    clear bw B2 W2
    go_enter Try.func16, Try.ntmps16
    go_wp2_with (go_at_call 45; (first | refine (small_yes (by assumption) _).mono ?_ | refine (small_no (by assumption) _).mono ?_); rintro e w1 ⟨rfl, rfl⟩)
    clear n0 n1 n2 n3 n4 h0 h1 h2 h3 m0
    generalize (w.alloc (.cells #[.int .i64 a, .int .i64 b, .int .i64 c, .int .i64 d, .slice x l.length cp] 38)).alloc (.cells #[.slice none 0 0, .int .i64 0] 96) = v0 at *
    clear H1
    refine (Calls.mono N1.out) ?_
    rintro r v1 ⟨rfl, q1, W1, -, t1⟩
    rw [wrNum_1 H4.out.1] at W1
    have K1 : Hid (Below w.heap.size w v1 ∧ Blk v1 w.heap.size 38 [.int .i64 a, .int .i64 b, .int .i64 c, .int .i64 d, .slice x l.length cp] ∧ WrAt v1 (w.heap.size + 1) (w.heap.size + 1) 96 q1 (fourB a b c d 1) 0) := by
      have hb := wrAt_below K0.out.2.2 t1
      exact ⟨K0.out.1.trans (hb.mono (by omega)), keep_blk K0.out.2.1 hb (by omega), W1⟩
    have m1 := blk_at K1.out.2.1 1
    simp only [List.getElem?_cons_zero, List.getElem?_cons_succ] at m1
    have N2 : Hid _ := rwNum_any (w.heap.size + 1) (w.heap.size + 1) q1 (fourB a b c d 1) 0 1 b _ K1.out.2.2 (by have := fourB_len a b c d 1; omega)
    clear W1 t1 N1 K0
    go_wp2_with fail
    clear m1
    refine (Calls.mono N2.out) ?_
    rintro r v2 ⟨rfl, q2, W2, -, t2⟩
    rw [wrNum_1 H4.out.2.1] at W2
    have K2 : Hid (Below w.heap.size w v2 ∧ Blk v2 w.heap.size 38 [.int .i64 a, .int .i64 b, .int .i64 c, .int .i64 d, .slice x l.length cp] ∧ WrAt v2 (w.heap.size + 1) (w.heap.size + 1) 96 q2 (fourB a b c d 2) 0) := by
      have hb := wrAt_below K1.out.2.2 t2
      exact ⟨K1.out.1.trans (hb.mono (by omega)), keep_blk K1.out.2.1 hb (by omega), W2⟩
    have m2 := blk_at K2.out.2.1 2
    simp only [List.getElem?_cons_zero, List.getElem?_cons_succ] at m2
    have N3 : Hid _ := rwNum_any (w.heap.size + 1) (w.heap.size + 1) q2 (fourB a b c d 2) 0 1 c _ K2.out.2.2 (by have := fourB_len a b c d 2; omega)
    clear W2 t2 N2 K1
    go_wp2_with fail
    clear m2
    refine (Calls.mono N3.out) ?_
    rintro r v3 ⟨rfl, q3, W3, -, t3⟩
    rw [wrNum_1 H4.out.2.2.1] at W3
    have K3 : Hid (Below w.heap.size w v3 ∧ Blk v3 w.heap.size 38 [.int .i64 a, .int .i64 b, .int .i64 c, .int .i64 d, .slice x l.length cp] ∧ WrAt v3 (w.heap.size + 1) (w.heap.size + 1) 96 q3 (fourB a b c d 3) 0) := by
      have hb := wrAt_below K2.out.2.2 t3
      exact ⟨K2.out.1.trans (hb.mono (by omega)), keep_blk K2.out.2.1 hb (by omega), W3⟩
    have m3 := blk_at K3.out.2.1 3
    simp only [List.getElem?_cons_zero, List.getElem?_cons_succ] at m3
    have N4 : Hid _ := rwNum_any (w.heap.size + 1) (w.heap.size + 1) q3 (fourB a b c d 3) 0 1 d _ K3.out.2.2 (by have := fourB_len a b c d 3; omega)
    clear W3 t3 N3 K2
    go_wp2_with fail
    clear m3
    refine (Calls.mono N4.out) ?_
    rintro r v4 ⟨rfl, q4, W4, -, t4⟩
    rw [wrNum_1 H4.out.2.2.2] at W4
    have K4 : Hid (Below w.heap.size w v4 ∧ Blk v4 w.heap.size 38 [.int .i64 a, .int .i64 b, .int .i64 c, .int .i64 d, .slice x l.length cp] ∧ WrAt v4 (w.heap.size + 1) (w.heap.size + 1) 96 q4 (fourB a b c d 4) 0) := by
      have hb := wrAt_below K3.out.2.2 t4
      exact ⟨K3.out.1.trans (hb.mono (by omega)), keep_blk K3.out.2.1 hb (by omega), W4⟩
    have m4 := blk_at K4.out.2.1 4
    simp only [List.getElem?_cons_zero, List.getElem?_cons_succ] at m4
    have N5 : Hid _ := rwBytes_any (w.heap.size + 1) (w.heap.size + 1) q4 (fourB a b c d 4) 0 2 x l.length cp l v4 K4.out.2.2 (by have := fourB_len a b c d 4; omega) rfl hc (Row.later HR.out K4.out.1) hn (by omega)
    clear W4 t4 N4 K3
    go_wp2_with fail
    clear m4
    refine (Calls.mono N5.out) ?_
    rintro r v5 ⟨rfl, q5, W5, -, t5⟩
    rw [wrBytes_2 hl4] at W5
    have F : Hid (Below w.heap.size w v5) := K4.out.1.trans ((wrAt_below K4.out.2.2 t5).mono (by omega))
    have HM : Hid _ := rwEnd_any (w.heap.size + 1) (w.heap.size + 1) q5 _ 0 v5 W5 (by have := fourB_len a b c d 4; simp only [List.length_append, be_length _ _ (show 2 ≤ 8 by omega)]; omega)
    clear W5 t5 N5 K4
    go_wp2_with fail
    refine (Calls.mono HM.out) ?_
    rintro r v6 ⟨z, rfl, o6, b6⟩
    rw [show ∀ L, wrEnd L 0 = L from fun L => if_pos rfl] at o6
    have G : Hid _ := And.intro (o6.lower F.out.size) (below_then F.out b6)
    clear o6 b6 HM F
    go_wp2
    go_ret2
    refine ⟨z, ?_, ?_, G.out.2⟩
    · (rw [hE.out.1]; try rfl)
    · rw [hE.out.2]; exact G.out.1
end Go.Proofs.Ytkcbbaanlkpeiaa

/- What a command is: the ways that answer nothing. -/
namespace Go.Proofs.Ytkcbbaanlkpeiaa
open Go.RowKit
set_option linter.unusedVariables false
set_option linter.unusedSimpArgs false
set_option maxRecDepth 4000

/-- the answer of Check that has no bytes -/
def zeroR : Value := .agg #[.int .i64 0, .int .i64 0, .int .i64 0, .int .i64 0, .slice none 0 0]
set_option maxHeartbeats 1000000 in
theorem check_wrong (p : Option Addr) (q n : Int) (w : World) (h : p = none ∨ canP q n = false) :
    Calls Try.prog 18 #[.pointer p, .int .i64 q, .int .i64 n] w fun e w' => e = .returned (.tuple #[.int .i64 3, zeroR]) ∧ Below w.heap.size w w' := by
  have b1 : Below w.heap.size w (w.alloc (.cells #[.int .i64 0, .int .i64 0, .int .i64 0, .int .i64 0, .slice none 0 0] 38)) := (Below.refl _ _).alloc (Nat.le_refl _) _
  have B1 := Blk.new' w 38 [.int .i64 0, .int .i64 0, .int .i64 0, .int .i64 0, .slice none 0 0]
  have b2 : Below (w.alloc (.cells #[.int .i64 0, .int .i64 0, .int .i64 0, .int .i64 0, .slice none 0 0] 38)).heap.size (w.alloc (.cells #[.int .i64 0, .int .i64 0, .int .i64 0, .int .i64 0, .slice none 0 0] 38)) ((w.alloc (.cells #[.int .i64 0, .int .i64 0, .int .i64 0, .int .i64 0, .slice none 0 0] 38)).alloc (.cells #[.int .i64 q, .int .i64 n] 88)) := (Below.refl _ _).alloc (Nat.le_refl _) _
  have A2 := Blk.new' (w.alloc (.cells #[.int .i64 0, .int .i64 0, .int .i64 0, .int .i64 0, .slice none 0 0] 38)) 88 [.int .i64 q, .int .i64 n]
  rw [show (w.alloc (.cells #[.int .i64 0, .int .i64 0, .int .i64 0, .int .i64 0, .slice none 0 0] 38)).heap.size = w.heap.size + 1 by simp] at A2
  have B2 := B1.laterB b2
  have bb := below_then b1 b2
  have a0 := blk_at A2 0
  have a1 := blk_at A2 1
  simp only [List.getElem?_cons_zero, List.getElem?_cons_succ] at a0 a1
  have H2 : Hid _ := And.intro bb B2
  clear b1 B1 b2 A2 B2 bb
  have HS : Hid _ := fun (W W' : World) (hb : Below w.heap.size w W) (hB : Blk W w.heap.size 38 [.int .i64 0, .int .i64 0, .int .i64 0, .int .i64 0, .slice none 0 0]) (hb' : Below W.heap.size W W') => set5_below (hB.laterB hb') rfl (.int .i64 0) (.int .i64 0) (.int .i64 0) (.int .i64 0) (.slice none 0 0) w.heap.size w (below_then hb hb') (Nat.le_refl _) (Nat.le_trans hb.size hb'.size)
  by_cases hp : p = none
  · subst hp
    clear h
    have G : Hid _ := And.intro H2.out.2 H2.out.1
    have BB := H2.out.2
    have y0 := blk_at BB 0
    have f0 := BB.frozen (by simp [maxLen]) 0
    have y1 := blk_at BB 1
    have f1 := BB.frozen (by simp [maxLen]) 1
    have y2 := blk_at BB 2
    have f2 := BB.frozen (by simp [maxLen]) 2
    have y3 := blk_at BB 3
    have f3 := BB.frozen (by simp [maxLen]) 3
    have y4 := blk_at BB 4
    have f4 := BB.frozen (by simp [maxLen]) 4
    simp only [List.getElem?_cons_zero, List.getElem?_cons_succ] at y0 y1 y2 y3 y4
    clear BB
    clear HS H2
    go_enter Try.func18, Try.ntmps18
    go_wp2
    clear y0 y1 y2 y3 y4 f0 f1 f2 f3 f4
    have y0 := blk_at G.out.1 0
    have y1 := blk_at G.out.1 1
    have y2 := blk_at G.out.1 2
    have y3 := blk_at G.out.1 3
    have y4 := blk_at G.out.1 4
    simp only [List.getElem?_cons_zero, List.getElem?_cons_succ] at y0 y1 y2 y3 y4
    refine bodyPost_ret (v := .tuple #[.int .i64 3, zeroR]) (by simp [zeroR, results, Try.results18, go_sem, y0, y1, y2, y3, y4]) rfl ?_
    exact ⟨rfl, G.out.2⟩
  · have hq : canP q n = false := h.resolve_left hp
    obtain ⟨y, rfl⟩ : ∃ y, p = some y := by cases p with | none => exact absurd rfl hp | some y => exact ⟨y, rfl⟩
    clear h hp
    have HN : Hid _ := canBe_any q n ((w.alloc (.cells #[.int .i64 0, .int .i64 0, .int .i64 0, .int .i64 0, .slice none 0 0] 38)).alloc (.cells #[.int .i64 q, .int .i64 n] 88))
    rw [hq] at HN
    clear hq
    go_enter Try.func18, Try.ntmps18
    go_wp2_with fail
    generalize ((w.alloc (.cells #[.int .i64 0, .int .i64 0, .int .i64 0, .int .i64 0, .slice none 0 0] 38)).alloc (.cells #[.int .i64 q, .int .i64 n] 88)) = W2 at *
    clear a0 a1
    refine (Calls.mono HN.out) ?_
    rintro r W3 ⟨rfl, b3⟩
    have S := HS.out _ _ H2.out.1 H2.out.2 b3
    have G : Hid _ := And.intro S.1 S.2.2
    have BB := H2.out.2.laterB b3
    have y0 := blk_at BB 0
    have f0 := BB.frozen (by simp [maxLen]) 0
    have y1 := blk_at BB 1
    have f1 := BB.frozen (by simp [maxLen]) 1
    have y2 := blk_at BB 2
    have f2 := BB.frozen (by simp [maxLen]) 2
    have y3 := blk_at BB 3
    have f3 := BB.frozen (by simp [maxLen]) 3
    have y4 := blk_at BB 4
    have f4 := BB.frozen (by simp [maxLen]) 4
    simp only [List.getElem?_cons_zero, List.getElem?_cons_succ] at y0 y1 y2 y3 y4
    clear BB
    clear S HS H2 b3 HN
    go_wp2
    clear y0 y1 y2 y3 y4 f0 f1 f2 f3 f4
    generalize (((((W3.setCell ⟨w.heap.size, 0, none⟩ (.int .i64 0)).setCell ⟨w.heap.size, 1, none⟩ (.int .i64 0)).setCell ⟨w.heap.size, 2, none⟩ (.int .i64 0)).setCell ⟨w.heap.size, 3, none⟩ (.int .i64 0)).setCell ⟨w.heap.size, 4, none⟩ (.slice none 0 0)) = wf at *
    have y0 := blk_at G.out.1 0
    have y1 := blk_at G.out.1 1
    have y2 := blk_at G.out.1 2
    have y3 := blk_at G.out.1 3
    have y4 := blk_at G.out.1 4
    simp only [List.getElem?_cons_zero, List.getElem?_cons_succ] at y0 y1 y2 y3 y4
    refine bodyPost_ret (v := .tuple #[.int .i64 3, zeroR]) (by simp [zeroR, results, Try.results18, go_sem, y0, y1, y2, y3, y4]) rfl ?_
    exact ⟨rfl, G.out.2⟩
end Go.Proofs.Ytkcbbaanlkpeiaa

/- What a command is, where none is kept of it. -/
namespace Go.Proofs.Ytkcbbaanlkpeiaa
open Go.RowKit
set_option linter.unusedVariables false
set_option linter.unusedSimpArgs false
set_option maxRecDepth 4000

/-- what is kept of a nexus lies there -/
structure MemAt (w : World) (g q : Nat) (fl : Int) (v : Value) (l : List An) : Prop where
  floor : w.cell? ⟨g, q * 2, none⟩ = some (.int .i64 fl)
  list : w.cell? ⟨g, q * 2 + 1, none⟩ = some v
  own : AOwn w v l
  rise : Rise l
  len : l.length ≤ 1000
theorem MemAt.later {w w' : World} {g q : Nat} {fl : Int} {v : Value} {l : List An} (h : MemAt w g q fl v l) (hb : Below w.heap.size w w') : MemAt w' g q fl v l :=
  ⟨cell_later hb h.floor, cell_later hb h.list, h.own.later hb, h.rise, h.len⟩
set_option maxHeartbeats 2000000 in
theorem check_none (g q : Nat) (n fl : Int) (v : Value) (l : List An) (w : World) (hq : q < 16) (hc : canP q n = true) (hM : MemAt w g q fl v l) (hno : ¬ ((fromOf l n).1 = q ∧ (fromOf l n).2.1 = n)) :
    Calls Try.prog 18 #[.pointer (some ⟨g, 0, none⟩), .int .i64 q, .int .i64 n] w fun e w' => e = .returned (.tuple #[.int .i64 (if n ≤ fl then 2 else 0), zeroR]) ∧ Below w.heap.size w w' := by
  have b1 : Below w.heap.size w (w.alloc (.cells #[.int .i64 0, .int .i64 0, .int .i64 0, .int .i64 0, .slice none 0 0] 38)) := (Below.refl _ _).alloc (Nat.le_refl _) _
  have B1 := Blk.new' w 38 [.int .i64 0, .int .i64 0, .int .i64 0, .int .i64 0, .slice none 0 0]
  have b2 : Below (w.alloc (.cells #[.int .i64 0, .int .i64 0, .int .i64 0, .int .i64 0, .slice none 0 0] 38)).heap.size (w.alloc (.cells #[.int .i64 0, .int .i64 0, .int .i64 0, .int .i64 0, .slice none 0 0] 38)) ((w.alloc (.cells #[.int .i64 0, .int .i64 0, .int .i64 0, .int .i64 0, .slice none 0 0] 38)).alloc (.cells #[.int .i64 q, .int .i64 n] 88)) := (Below.refl _ _).alloc (Nat.le_refl _) _
  have A2 := Blk.new' (w.alloc (.cells #[.int .i64 0, .int .i64 0, .int .i64 0, .int .i64 0, .slice none 0 0] 38)) 88 [.int .i64 q, .int .i64 n]
  rw [show (w.alloc (.cells #[.int .i64 0, .int .i64 0, .int .i64 0, .int .i64 0, .slice none 0 0] 38)).heap.size = w.heap.size + 1 by simp] at A2
  have B2 := B1.laterB b2
  have bb := below_then b1 b2
  have a0 := blk_at A2 0
  have a1 := blk_at A2 1
  simp only [List.getElem?_cons_zero, List.getElem?_cons_succ] at a0 a1
  have H2 : Hid _ := And.intro bb (And.intro B2 (And.intro A2 (hM.later bb)))
  clear b1 B1 b2 A2 B2 bb hM
  have HN : Hid _ := canBe_any q n ((w.alloc (.cells #[.int .i64 0, .int .i64 0, .int .i64 0, .int .i64 0, .slice none 0 0] 38)).alloc (.cells #[.int .i64 q, .int .i64 n] 88))
  rw [hc] at HN
  clear hc
  have q1 : (q : Int) < 16 := by omega
  go_enter Try.func18, Try.ntmps18
  go_wp2_with fail
  generalize ((w.alloc (.cells #[.int .i64 0, .int .i64 0, .int .i64 0, .int .i64 0, .slice none 0 0] 38)).alloc (.cells #[.int .i64 q, .int .i64 n] 88)) = W2 at *
  clear a0 a1
  refine (Calls.mono HN.out) ?_
  rintro r W3 ⟨rfl, b3⟩
  have H3 : Hid (Below w.heap.size w W3 ∧ Blk W3 w.heap.size 38 [.int .i64 0, .int .i64 0, .int .i64 0, .int .i64 0, .slice none 0 0] ∧ Blk W3 (w.heap.size + 1) 88 [.int .i64 q, .int .i64 n] ∧ MemAt W3 g q fl v l) := ⟨below_then H2.out.1 b3, H2.out.2.1.laterB b3, H2.out.2.2.1.laterB b3, H2.out.2.2.2.later b3⟩
  clear H2 HN b3
  have N4 : Hid _ := ddfrom_any g (q * 2 + 1) v l n W3 H3.out.2.2.2.list H3.out.2.2.2.own H3.out.2.2.2.rise H3.out.2.2.2.len
  obtain ⟨fa, hfa⟩ : ∃ a, a = fromOf l n := ⟨_, rfl⟩
  rw [← hfa] at N4 hno
  clear hfa
  obtain ⟨fx, fy, fz⟩ := fa
  simp only at hno N4
  have hsp : (fx = q ∧ fy ≠ n) ∨ fx ≠ q := by
    by_cases e : fx = q
    · exact .inl ⟨e, fun k => hno ⟨e, k⟩⟩
    · exact .inr e
  clear hno
  rcases hsp with ⟨rfl, e1⟩ | e1
  · go_wp2_with fail
    refine (Calls.mono N4.out) ?_
    rintro r W4 ⟨rfl, b4⟩
    have b5 : Below W4.heap.size W4 (W4.alloc (.cells #[.int .i64 q, .int .i64 fy, .string fz] 90)) := (Below.refl _ _).alloc (Nat.le_refl _) _
    have A5 := Blk.new' W4 90 [.int .i64 q, .int .i64 fy, .string fz]
    have b45 := below_then b4 b5
    have H5 : Hid (Below w.heap.size w (W4.alloc (.cells #[.int .i64 q, .int .i64 fy, .string fz] 90)) ∧ Blk (W4.alloc (.cells #[.int .i64 q, .int .i64 fy, .string fz] 90)) w.heap.size 38 [.int .i64 0, .int .i64 0, .int .i64 0, .int .i64 0, .slice none 0 0] ∧ Blk (W4.alloc (.cells #[.int .i64 q, .int .i64 fy, .string fz] 90)) (w.heap.size + 1) 88 [.int .i64 q, .int .i64 n] ∧ MemAt (W4.alloc (.cells #[.int .i64 q, .int .i64 fy, .string fz] 90)) g q fl v l) := ⟨below_then H3.out.1 b45, H3.out.2.1.laterB b45, H3.out.2.2.1.laterB b45, H3.out.2.2.2.later b45⟩
    have x0 := blk_at A5 0
    have x1 := blk_at A5 1
    have x2 := blk_at A5 2
    have p0 := blk_at H5.out.2.2.1 0
    have p1 := blk_at H5.out.2.2.1 1
    simp only [List.getElem?_cons_zero, List.getElem?_cons_succ] at x0 x1 x2 p0 p1
    have c0 := H5.out.2.2.2.floor
    have S := set5_below H5.out.2.1 rfl (.int .i64 0) (.int .i64 0) (.int .i64 0) (.int .i64 0) (.slice none 0 0) w.heap.size w H5.out.1 (Nat.le_refl _) H5.out.1.size
    have G : Hid _ := And.intro S.1 S.2.2
    have y0 := blk_at H5.out.2.1 0
    have f0 := H5.out.2.1.frozen (by simp [maxLen]) 0
    have y1 := blk_at H5.out.2.1 1
    have f1 := H5.out.2.1.frozen (by simp [maxLen]) 1
    have y2 := blk_at H5.out.2.1 2
    have f2 := H5.out.2.1.frozen (by simp [maxLen]) 2
    have y3 := blk_at H5.out.2.1 3
    have f3 := H5.out.2.1.frozen (by simp [maxLen]) 3
    have y4 := blk_at H5.out.2.1 4
    have f4 := H5.out.2.1.frozen (by simp [maxLen]) 4
    simp only [List.getElem?_cons_zero, List.getElem?_cons_succ] at y0 y1 y2 y3 y4
    clear H3 N4 b4 b5 A5 b45 S H5
    by_cases e2 : n ≤ fl
    · go_wp2
      clear x0 x1 x2 p0 p1 c0 y0 y1 y2 y3 y4 f0 f1 f2 f3 f4
      generalize ((((((W4.alloc (.cells #[.int .i64 q, .int .i64 fy, .string fz] 90)).setCell ⟨w.heap.size, 0, none⟩ (.int .i64 0)).setCell ⟨w.heap.size, 1, none⟩ (.int .i64 0)).setCell ⟨w.heap.size, 2, none⟩ (.int .i64 0)).setCell ⟨w.heap.size, 3, none⟩ (.int .i64 0)).setCell ⟨w.heap.size, 4, none⟩ (.slice none 0 0)) = wf at *
      have y0 := blk_at G.out.1 0
      have y1 := blk_at G.out.1 1
      have y2 := blk_at G.out.1 2
      have y3 := blk_at G.out.1 3
      have y4 := blk_at G.out.1 4
      simp only [List.getElem?_cons_zero, List.getElem?_cons_succ] at y0 y1 y2 y3 y4
      refine bodyPost_ret (v := .tuple #[.int .i64 2, zeroR]) (by simp [zeroR, results, Try.results18, go_sem, y0, y1, y2, y3, y4]) rfl ?_
      exact ⟨rfl, G.out.2⟩
    · go_wp2
      clear x0 x1 x2 p0 p1 c0 y0 y1 y2 y3 y4 f0 f1 f2 f3 f4
      generalize ((((((W4.alloc (.cells #[.int .i64 q, .int .i64 fy, .string fz] 90)).setCell ⟨w.heap.size, 0, none⟩ (.int .i64 0)).setCell ⟨w.heap.size, 1, none⟩ (.int .i64 0)).setCell ⟨w.heap.size, 2, none⟩ (.int .i64 0)).setCell ⟨w.heap.size, 3, none⟩ (.int .i64 0)).setCell ⟨w.heap.size, 4, none⟩ (.slice none 0 0)) = wf at *
      have y0 := blk_at G.out.1 0
      have y1 := blk_at G.out.1 1
      have y2 := blk_at G.out.1 2
      have y3 := blk_at G.out.1 3
      have y4 := blk_at G.out.1 4
      simp only [List.getElem?_cons_zero, List.getElem?_cons_succ] at y0 y1 y2 y3 y4
      refine bodyPost_ret (v := .tuple #[.int .i64 0, zeroR]) (by simp [zeroR, results, Try.results18, go_sem, y0, y1, y2, y3, y4]) rfl ?_
      exact ⟨rfl, G.out.2⟩
  · go_wp2_with fail
    refine (Calls.mono N4.out) ?_
    rintro r W4 ⟨rfl, b4⟩
    have b5 : Below W4.heap.size W4 (W4.alloc (.cells #[.int .i64 fx, .int .i64 fy, .string fz] 90)) := (Below.refl _ _).alloc (Nat.le_refl _) _
    have A5 := Blk.new' W4 90 [.int .i64 fx, .int .i64 fy, .string fz]
    have b45 := below_then b4 b5
    have H5 : Hid (Below w.heap.size w (W4.alloc (.cells #[.int .i64 fx, .int .i64 fy, .string fz] 90)) ∧ Blk (W4.alloc (.cells #[.int .i64 fx, .int .i64 fy, .string fz] 90)) w.heap.size 38 [.int .i64 0, .int .i64 0, .int .i64 0, .int .i64 0, .slice none 0 0] ∧ Blk (W4.alloc (.cells #[.int .i64 fx, .int .i64 fy, .string fz] 90)) (w.heap.size + 1) 88 [.int .i64 q, .int .i64 n] ∧ MemAt (W4.alloc (.cells #[.int .i64 fx, .int .i64 fy, .string fz] 90)) g q fl v l) := ⟨below_then H3.out.1 b45, H3.out.2.1.laterB b45, H3.out.2.2.1.laterB b45, H3.out.2.2.2.later b45⟩
    have x0 := blk_at A5 0
    have x1 := blk_at A5 1
    have x2 := blk_at A5 2
    have p0 := blk_at H5.out.2.2.1 0
    have p1 := blk_at H5.out.2.2.1 1
    simp only [List.getElem?_cons_zero, List.getElem?_cons_succ] at x0 x1 x2 p0 p1
    have c0 := H5.out.2.2.2.floor
    have S := set5_below H5.out.2.1 rfl (.int .i64 0) (.int .i64 0) (.int .i64 0) (.int .i64 0) (.slice none 0 0) w.heap.size w H5.out.1 (Nat.le_refl _) H5.out.1.size
    have G : Hid _ := And.intro S.1 S.2.2
    have y0 := blk_at H5.out.2.1 0
    have f0 := H5.out.2.1.frozen (by simp [maxLen]) 0
    have y1 := blk_at H5.out.2.1 1
    have f1 := H5.out.2.1.frozen (by simp [maxLen]) 1
    have y2 := blk_at H5.out.2.1 2
    have f2 := H5.out.2.1.frozen (by simp [maxLen]) 2
    have y3 := blk_at H5.out.2.1 3
    have f3 := H5.out.2.1.frozen (by simp [maxLen]) 3
    have y4 := blk_at H5.out.2.1 4
    have f4 := H5.out.2.1.frozen (by simp [maxLen]) 4
    simp only [List.getElem?_cons_zero, List.getElem?_cons_succ] at y0 y1 y2 y3 y4
    clear H3 N4 b4 b5 A5 b45 S H5
    by_cases e2 : n ≤ fl
    · go_wp2
      clear x0 x1 x2 p0 p1 c0 y0 y1 y2 y3 y4 f0 f1 f2 f3 f4
      generalize ((((((W4.alloc (.cells #[.int .i64 fx, .int .i64 fy, .string fz] 90)).setCell ⟨w.heap.size, 0, none⟩ (.int .i64 0)).setCell ⟨w.heap.size, 1, none⟩ (.int .i64 0)).setCell ⟨w.heap.size, 2, none⟩ (.int .i64 0)).setCell ⟨w.heap.size, 3, none⟩ (.int .i64 0)).setCell ⟨w.heap.size, 4, none⟩ (.slice none 0 0)) = wf at *
      have y0 := blk_at G.out.1 0
      have y1 := blk_at G.out.1 1
      have y2 := blk_at G.out.1 2
      have y3 := blk_at G.out.1 3
      have y4 := blk_at G.out.1 4
      simp only [List.getElem?_cons_zero, List.getElem?_cons_succ] at y0 y1 y2 y3 y4
      refine bodyPost_ret (v := .tuple #[.int .i64 2, zeroR]) (by simp [zeroR, results, Try.results18, go_sem, y0, y1, y2, y3, y4]) rfl ?_
      exact ⟨rfl, G.out.2⟩
    · go_wp2
      clear x0 x1 x2 p0 p1 c0 y0 y1 y2 y3 y4 f0 f1 f2 f3 f4
      generalize ((((((W4.alloc (.cells #[.int .i64 fx, .int .i64 fy, .string fz] 90)).setCell ⟨w.heap.size, 0, none⟩ (.int .i64 0)).setCell ⟨w.heap.size, 1, none⟩ (.int .i64 0)).setCell ⟨w.heap.size, 2, none⟩ (.int .i64 0)).setCell ⟨w.heap.size, 3, none⟩ (.int .i64 0)).setCell ⟨w.heap.size, 4, none⟩ (.slice none 0 0)) = wf at *
      have y0 := blk_at G.out.1 0
      have y1 := blk_at G.out.1 1
      have y2 := blk_at G.out.1 2
      have y3 := blk_at G.out.1 3
      have y4 := blk_at G.out.1 4
      simp only [List.getElem?_cons_zero, List.getElem?_cons_succ] at y0 y1 y2 y3 y4
      refine bodyPost_ret (v := .tuple #[.int .i64 0, zeroR]) (by simp [zeroR, results, Try.results18, go_sem, y0, y1, y2, y3, y4]) rfl ?_
      exact ⟨rfl, G.out.2⟩
end Go.Proofs.Ytkcbbaanlkpeiaa
