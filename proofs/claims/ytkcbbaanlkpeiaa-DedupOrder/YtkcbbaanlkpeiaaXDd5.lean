/- An answer read of bytes. -/
import Derived.Test.YtkcbbaanlkpeiaaXDd4
import Derived.Test.YtkcbbaanlkpeiaaXFieldP2
namespace Go.Proofs.Ytkcbbaanlkpeiaa
open Go.RowKit
set_option linter.unusedVariables false
set_option linter.unusedSimpArgs false
set_option maxRecDepth 4000

def gr1 (l : List (BitVec 8)) := rdNum l 0 1
def gr2 (l : List (BitVec 8)) := rdNum (gr1 l).1 (gr1 l).2.1 1
def gr3 (l : List (BitVec 8)) := rdNum (gr2 l).1 (gr2 l).2.1 1
def gr4 (l : List (BitVec 8)) := rdNum (gr3 l).1 (gr3 l).2.1 1
def gr5 (l : List (BitVec 8)) := rdBytes (gr4 l).1 (gr4 l).2.1 2
def gr6 (l : List (BitVec 8)) : Int := rdEnd (gr5 l).1 (gr5 l).2.1
theorem rdNum_le (L : List (BitVec 8)) (E s : Int) : (rdNum L E s).1.length ≤ L.length := by
  unfold rdNum
  split
  · split
    · show (L.drop _).length ≤ _; rw [List.length_drop]; omega
    · exact Nat.zero_le _
  · exact Nat.zero_le _
theorem gr5_len (l : List (BitVec 8)) : (gr5 l).2.2.length ≤ l.length := by
  have h1 := rdNum_le l 0 1
  have h2 := rdNum_le (gr1 l).1 (gr1 l).2.1 1
  have h3 := rdNum_le (gr2 l).1 (gr2 l).2.1 1
  have h4 := rdNum_le (gr3 l).1 (gr3 l).2.1 1
  have h5 : (gr5 l).2.2.length ≤ (gr4 l).1.length := by
    unfold gr5 rdBytes
    split
    · split
      · show (((gr4 l).1.drop _).take _).length ≤ _; rw [List.length_take, List.length_drop]; omega
      · exact Nat.zero_le _
    · exact Nat.zero_le _
  exact Nat.le_trans h5 (Nat.le_trans h4 (Nat.le_trans h3 (Nat.le_trans h2 h1)))
/-- GetReply's error and answer -/
def grE (l : List (BitVec 8)) : Int := if gr6 l = 0 then (if (gr5 l).2.2.length ≤ 4096 then 0 else 3) else gr6 l
def grR (l : List (BitVec 8)) : Int × Int × Int × Int × List (BitVec 8) := if grE l = 0 then ((gr1 l).2.2, (gr2 l).2.2, (gr3 l).2.2, (gr4 l).2.2, (gr5 l).2.2) else (0, 0, 0, 0, [])
/-- an answer under way: the result's block, the answer's, the reader's -/
structure GR (W0 w : World) (rb xb g : Nat) (L : List (BitVec 8)) (E : Int) (xs : List Value) : Prop where
  rd : Rd w [xb] g 101 L E
  xblk : Blk w xb 38 xs
  rblk : Blk w rb 38 [.int .i64 0, .int .i64 0, .int .i64 0, .int .i64 0, .slice none 0 0]
  below : Below W0.heap.size W0 w
  r_g : rb < g
  g_x : g < xb
  base_r : W0.heap.size ≤ rb
theorem GR.num {W0 w w' : World} {rb xb g : Nat} {L L' : List (BitVec 8)} {E E' : Int} {xs : List Value} (h : GR W0 w rb xb g L E xs) (R : Rd w' [xb] g 101 L' E') (hg : w.grownBy w' (some g)) : GR W0 w' rb xb g L' E' xs := by
  have h1 := h.r_g
  have h2 := h.g_x
  have h3 := h.base_r
  exact ⟨R, h.xblk.grown hg (fun e => by injection e with e; omega), h.rblk.grown hg (fun e => by injection e with e; omega), h.below.trans (grown_below hg _ (by omega) h.below.size), h1, h2, h3⟩
theorem GR.set {W0 w : World} {rb xb g : Nat} {L : List (BitVec 8)} {E : Int} {xs : List Value} (h : GR W0 w rb xb g L E xs) (i : Nat) (u : Value) : GR W0 (w.setCell ⟨xb, i, none⟩ u) rb xb g L E (xs.set i u) := by
  have h1 := h.r_g
  have h2 := h.g_x
  have h3 := h.base_r
  have hg := grown_set w xb i u
  exact ⟨h.rd.keep hg (fun k e => by injection e with e; subst e; exact ⟨by omega, .inl (by simp)⟩), h.xblk.set i u, h.rblk.grown hg (fun e => by injection e with e; omega), h.below.trans (grown_below hg _ (by omega) h.below.size), h1, h2, h3⟩
theorem grown_twice {a b c : World} {g : Nat} (h : a.grownBy b (some g)) (k : b.grownBy c (some g)) : a.grownBy c (some g) :=
  ⟨k.os.trans h.os, k.tape.trans h.tape, k.output.trans h.output, Nat.le_trans h.size k.size, fun i hi hr => (k.block i (Nat.lt_of_lt_of_le hi h.size) hr).trans (h.block i hi hr)⟩
theorem set5_below {w : World} {g : Nat} {T : TypeId} {xs : List Value} (M : Blk w g T xs) (hx : xs.length = 5) (a b c d e : Value) (B : Nat) (W0 : World) (hb : Below B W0 w) (hB : B ≤ g) (hs : B ≤ w.heap.size) :
    Blk (((((w.setCell ⟨g, 0, none⟩ a).setCell ⟨g, 1, none⟩ b).setCell ⟨g, 2, none⟩ c).setCell ⟨g, 3, none⟩ d).setCell ⟨g, 4, none⟩ e) g T [a, b, c, d, e] ∧ w.grownBy (((((w.setCell ⟨g, 0, none⟩ a).setCell ⟨g, 1, none⟩ b).setCell ⟨g, 2, none⟩ c).setCell ⟨g, 3, none⟩ d).setCell ⟨g, 4, none⟩ e) (some g) ∧ Below B W0 (((((w.setCell ⟨g, 0, none⟩ a).setCell ⟨g, 1, none⟩ b).setCell ⟨g, 2, none⟩ c).setCell ⟨g, 3, none⟩ d).setCell ⟨g, 4, none⟩ e) := by
  have h := ((((M.set 0 a).set 1 b).set 2 c).set 3 d).set 4 e
  match xs, hx with
  | [p, q, r, s, t], _ =>
    have k := grown_twice (grown_twice (grown_twice (grown_twice (grown_set w g 0 a) (grown_set _ g 1 b)) (grown_set _ g 2 c)) (grown_set _ g 3 d)) (grown_set _ g 4 e)
    exact ⟨h, k, hb.trans (grown_below k _ hB hs)⟩
set_option maxHeartbeats 2000000 in
theorem getReply_any (a : Option Addr) (len cap : Nat) (l : List (BitVec 8)) (w : World) (hl : l.length = len) (hle : len ≤ cap) (hr : Row w a l) (hn : a = none → cap = 0) (hlen : len ≤ 140737488351232) :
    Calls Try.prog 51 #[.slice a len cap] w fun r w' => ∃ x c, r = .returned (.tuple #[.agg #[.int .i64 (grR l).1, .int .i64 (grR l).2.1, .int .i64 (grR l).2.2.1, .int .i64 (grR l).2.2.2.1, .slice x (grR l).2.2.2.2.length c], .int .i64 (grE l)]) ∧ Own w' w.heap.size (.slice x (grR l).2.2.2.2.length c) (grR l).2.2.2.2 ∧ Below w.heap.size w w' := by
  have b0 : Below w.heap.size w (w.alloc (.cells #[.int .i64 0, .int .i64 0, .int .i64 0, .int .i64 0, .slice none 0 0] 38)) := (Below.refl _ _).alloc (Nat.le_refl _) _
  have M0 : Blk (w.alloc (.cells #[.int .i64 0, .int .i64 0, .int .i64 0, .int .i64 0, .slice none 0 0] 38)) w.heap.size 38 [.int .i64 0, .int .i64 0, .int .i64 0, .int .i64 0, .slice none 0 0] := Blk.new' w _ _
  have HR : Hid (Row w a l) := hr
  clear hr
  go_enter Try.func51, Try.ntmps51
  go_wp2_with fail
  generalize w.alloc (.cells #[.int .i64 0, .int .i64 0, .int .i64 0, .int .i64 0, .slice none 0 0] 38) = wb at *
  refine (NewReader_any a len cap l wb hl hle (Row.later HR.out b0) hn hlen).mono ?_
  rintro r w1 ⟨g, rfl, hg, hrd, b1⟩
  have G1 : Hid (GR w (w1.alloc (.cells #[.int .i64 0, .int .i64 0, .int .i64 0, .int .i64 0, .slice none 0 0] 38)) w.heap.size w1.heap.size g l 0 [.int .i64 0, .int .i64 0, .int .i64 0, .int .i64 0, .slice none 0 0]) := by
    have b2 : Below w1.heap.size w1 (w1.alloc (.cells #[.int .i64 0, .int .i64 0, .int .i64 0, .int .i64 0, .slice none 0 0] 38)) := (Below.refl _ _).alloc (Nat.le_refl _) _
    have R1 := hrd [] (fun k hk => by cases hk)
    exact ⟨(R1.more w1.heap.size (Nat.le_refl _)).later b2, Blk.new' w1 _ _, (M0.laterB b1).laterB b2, below_then (below_then b0 b1) b2, Nat.lt_of_lt_of_le M0.lt hg, R1.blt, Nat.le_refl _⟩
  have N1 : Hid _ := Num_any [w1.heap.size] g l 0 1 (w1.alloc (.cells #[.int .i64 0, .int .i64 0, .int .i64 0, .int .i64 0, .slice none 0 0] 38)) G1.out.rd
  clear hrd b1 b0 M0 HR
  obtain ⟨xb, hxb⟩ : ∃ xb, xb = w1.heap.size := ⟨_, rfl⟩
  go_wp2_with fail
  rw [← hxb] at G1 N1 ⊢
  generalize w1.alloc (.cells #[.int .i64 0, .int .i64 0, .int .i64 0, .int .i64 0, .slice none 0 0] 38) = v1 at *
  clear hxb
  obtain ⟨K1, hK1⟩ : ∃ K, K = (gr1 l).2.2 := ⟨_, rfl⟩
  refine (Calls.mono N1.out) ?_
  rintro r u1 ⟨rfl, R1, g1⟩
  rw [show (rdNum l 0 1).2.2 = K1 from hK1.symm]
  have HK1 : Hid _ := hK1
  clear hK1
  have A1 : Hid (GR w u1 w.heap.size xb g (gr1 l).1 (gr1 l).2.1 [.int .i64 0, .int .i64 0, .int .i64 0, .int .i64 0, .slice none 0 0]) := G1.out.num R1 g1
  have G2 : Hid (GR w (u1.setCell ⟨xb, 0, none⟩ (.int .i64 K1)) w.heap.size xb g (gr1 l).1 (gr1 l).2.1 [.int .i64 K1, .int .i64 0, .int .i64 0, .int .i64 0, .slice none 0 0]) := A1.out.set 0 (.int .i64 K1)
  have c1 := blk_at A1.out.xblk 0
  have f1 := A1.out.xblk.frozen (by simp [maxLen]) 0
  simp only [List.getElem?_cons_zero, List.getElem?_cons_succ] at c1
  have N2 : Hid _ := Num_any [xb] g (gr1 l).1 (gr1 l).2.1 1 _ G2.out.rd
  clear R1 g1 N1 G1 A1
  go_wp2_with fail
  clear c1 f1
  generalize u1.setCell ⟨xb, 0, none⟩ (.int .i64 K1) = v2 at *
  obtain ⟨K2, hK2⟩ : ∃ K, K = (gr2 l).2.2 := ⟨_, rfl⟩
  refine (Calls.mono N2.out) ?_
  rintro r u2 ⟨rfl, R2, g2⟩
  rw [show (rdNum (gr1 l).1 (gr1 l).2.1 1).2.2 = K2 from hK2.symm]
  have HK2 : Hid _ := hK2
  clear hK2
  have A2 : Hid (GR w u2 w.heap.size xb g (gr2 l).1 (gr2 l).2.1 [.int .i64 K1, .int .i64 0, .int .i64 0, .int .i64 0, .slice none 0 0]) := G2.out.num R2 g2
  have G3 : Hid (GR w (u2.setCell ⟨xb, 1, none⟩ (.int .i64 K2)) w.heap.size xb g (gr2 l).1 (gr2 l).2.1 [.int .i64 K1, .int .i64 K2, .int .i64 0, .int .i64 0, .slice none 0 0]) := A2.out.set 1 (.int .i64 K2)
  have c2 := blk_at A2.out.xblk 1
  have f2 := A2.out.xblk.frozen (by simp [maxLen]) 1
  simp only [List.getElem?_cons_zero, List.getElem?_cons_succ] at c2
  have N3 : Hid _ := Num_any [xb] g (gr2 l).1 (gr2 l).2.1 1 _ G3.out.rd
  clear R2 g2 N2 G2 A2
  go_wp2_with fail
  clear c2 f2
  generalize u2.setCell ⟨xb, 1, none⟩ (.int .i64 K2) = v3 at *
  obtain ⟨K3, hK3⟩ : ∃ K, K = (gr3 l).2.2 := ⟨_, rfl⟩
  refine (Calls.mono N3.out) ?_
  rintro r u3 ⟨rfl, R3, g3⟩
  rw [show (rdNum (gr2 l).1 (gr2 l).2.1 1).2.2 = K3 from hK3.symm]
  have HK3 : Hid _ := hK3
  clear hK3
  have A3 : Hid (GR w u3 w.heap.size xb g (gr3 l).1 (gr3 l).2.1 [.int .i64 K1, .int .i64 K2, .int .i64 0, .int .i64 0, .slice none 0 0]) := G3.out.num R3 g3
  have G4 : Hid (GR w (u3.setCell ⟨xb, 2, none⟩ (.int .i64 K3)) w.heap.size xb g (gr3 l).1 (gr3 l).2.1 [.int .i64 K1, .int .i64 K2, .int .i64 K3, .int .i64 0, .slice none 0 0]) := A3.out.set 2 (.int .i64 K3)
  have c3 := blk_at A3.out.xblk 2
  have f3 := A3.out.xblk.frozen (by simp [maxLen]) 2
  simp only [List.getElem?_cons_zero, List.getElem?_cons_succ] at c3
  have N4 : Hid _ := Num_any [xb] g (gr3 l).1 (gr3 l).2.1 1 _ G4.out.rd
  clear R3 g3 N3 G3 A3
  go_wp2_with fail
  clear c3 f3
  generalize u3.setCell ⟨xb, 2, none⟩ (.int .i64 K3) = v4 at *
  obtain ⟨K4, hK4⟩ : ∃ K, K = (gr4 l).2.2 := ⟨_, rfl⟩
  refine (Calls.mono N4.out) ?_
  rintro r u4 ⟨rfl, R4, g4⟩
  rw [show (rdNum (gr3 l).1 (gr3 l).2.1 1).2.2 = K4 from hK4.symm]
  have HK4 : Hid _ := hK4
  clear hK4
  have A4 : Hid (GR w u4 w.heap.size xb g (gr4 l).1 (gr4 l).2.1 [.int .i64 K1, .int .i64 K2, .int .i64 K3, .int .i64 0, .slice none 0 0]) := G4.out.num R4 g4
  have G5 : Hid (GR w (u4.setCell ⟨xb, 3, none⟩ (.int .i64 K4)) w.heap.size xb g (gr4 l).1 (gr4 l).2.1 [.int .i64 K1, .int .i64 K2, .int .i64 K3, .int .i64 K4, .slice none 0 0]) := A4.out.set 3 (.int .i64 K4)
  have c4 := blk_at A4.out.xblk 3
  have f4 := A4.out.xblk.frozen (by simp [maxLen]) 3
  simp only [List.getElem?_cons_zero, List.getElem?_cons_succ] at c4
  have N5 : Hid _ := Bytes_any [xb] g (gr4 l).1 (gr4 l).2.1 2 _ G5.out.rd
  clear R4 g4 N4 G4 A4
  go_wp2_with fail
  clear c4 f4
  generalize u4.setCell ⟨xb, 3, none⟩ (.int .i64 K4) = v5 at *
  refine (Calls.mono N5.out) ?_
  rintro r u5 ⟨v, rfl, o5, R5, g5⟩
  obtain ⟨C, hC⟩ : ∃ C, C = (gr5 l).2.2 := ⟨_, rfl⟩
  rw [show (rdBytes (gr4 l).1 (gr4 l).2.1 2).2.2 = C from hC.symm] at o5
  have hCb : C.length ≤ 140737488351232 := by rw [hC]; exact Nat.le_trans (gr5_len l) (by omega)
  obtain ⟨x, c, rfl, -, -, -, -, -⟩ := o5.open
  have HC : Hid _ := hC
  clear hC
  have A5 : Hid (GR w u5 w.heap.size xb g (gr5 l).1 (gr5 l).2.1 [.int .i64 K1, .int .i64 K2, .int .i64 K3, .int .i64 K4, .slice none 0 0]) := G5.out.num (R5.less (F' := [xb]) (fun k hk => List.mem_append_right _ hk)) g5
  have G6 : Hid (GR w (u5.setCell ⟨xb, 4, none⟩ (.slice x C.length c)) w.heap.size xb g (gr5 l).1 (gr5 l).2.1 [.int .i64 K1, .int .i64 K2, .int .i64 K3, .int .i64 K4, .slice x C.length c]) := A5.out.set 4 (.slice x C.length c)
  have O6 : Hid (Own (u5.setCell ⟨xb, 4, none⟩ (.slice x C.length c)) v5.heap.size (.slice x C.length c) C ∧ xb < v5.heap.size) := ⟨o5.keep (grown_set _ _ _ _) (fun k hk e => by
    have h1 := (World.ownsRow.lt o5 k hk).1
    have h2 := G5.out.xblk.lt
    injection e with e
    omega), G5.out.xblk.lt⟩
  have c5 := blk_at A5.out.xblk 4
  have f5 := A5.out.xblk.frozen (by simp [maxLen]) 4
  simp only [List.getElem?_cons_zero, List.getElem?_cons_succ] at c5
  have N6 : Hid _ := End_any [xb] g (gr5 l).1 (gr5 l).2.1 _ G6.out.rd
  clear o5 R5 g5 N5 G5 A5
  go_wp2_with fail
  clear c5 f5
  generalize u5.setCell ⟨xb, 4, none⟩ (.slice x C.length c) = v6 at *
  refine (Calls.mono N6.out) ?_
  rintro r w' ⟨rfl, rfl⟩
  obtain ⟨E, hE⟩ : ∃ E, E = gr6 l := ⟨_, rfl⟩
  rw [show rdEnd (gr5 l).1 (gr5 l).2.1 = E from hE.symm]
  have HE : Hid _ := hE
  clear hE N6
  by_cases e0 : E = 0
  · subst e0
    by_cases e1 : C.length ≤ 4096
    · have P : Hid (grR l = (K1, K2, K3, K4, C) ∧ grE l = 0) := by
        have h1 : grE l = 0 := by unfold grE; rw [← HE.out, if_pos rfl, ← HC.out, if_pos e1]
        refine ⟨?_, h1⟩
        unfold grR
        rw [h1, if_pos rfl, HK1.out, HK2.out, HK3.out, HK4.out, HC.out]
      have e2 : (C.length : Int) ≤ 4096 := by omega
      have S7 := set5_below G6.out.rblk rfl (.int .i64 K1) (.int .i64 K2) (.int .i64 K3) (.int .i64 K4) (.slice x C.length c) w.heap.size w G6.out.below (Nat.le_refl _) G6.out.below.size
      have F : Hid _ := And.intro S7.1 (And.intro S7.2.2 ((O6.out.1.keep S7.2.1 (fun k hk e => by
        have h1 := (World.ownsRow.lt O6.out.1 k hk).1
        have h2 := O6.out.2
        have h3 := G6.out.g_x
        have h4 := G6.out.r_g
        injection e with e
        omega)).lower (show w.heap.size ≤ v5.heap.size by have h2 := O6.out.2; have h3 := G6.out.g_x; have h4 := G6.out.r_g; omega)))
      have y0 := blk_at G6.out.rblk 0
      have f0 := G6.out.rblk.frozen (by simp [maxLen]) 0
      have y1 := blk_at G6.out.rblk 1
      have f1 := G6.out.rblk.frozen (by simp [maxLen]) 1
      have y2 := blk_at G6.out.rblk 2
      have f2 := G6.out.rblk.frozen (by simp [maxLen]) 2
      have y3 := blk_at G6.out.rblk 3
      have f3 := G6.out.rblk.frozen (by simp [maxLen]) 3
      have y4 := blk_at G6.out.rblk 4
      have f4 := G6.out.rblk.frozen (by simp [maxLen]) 4
      simp only [List.getElem?_cons_zero, List.getElem?_cons_succ] at y0 y1 y2 y3 y4
      have z0 := blk_at G6.out.xblk 0
      have z1 := blk_at G6.out.xblk 1
      have z2 := blk_at G6.out.xblk 2
      have z3 := blk_at G6.out.xblk 3
      have z4 := blk_at G6.out.xblk 4
      simp only [List.getElem?_cons_zero, List.getElem?_cons_succ] at z0 z1 z2 z3 z4
      clear S7 G6 O6
      go_wp2
      clear y0 y1 y2 y3 y4 f0 f1 f2 f3 f4 z0 z1 z2 z3 z4
      generalize (((((v6.setCell ⟨w.heap.size, 0, none⟩ (.int .i64 K1)).setCell ⟨w.heap.size, 1, none⟩ (.int .i64 K2)).setCell ⟨w.heap.size, 2, none⟩ (.int .i64 K3)).setCell ⟨w.heap.size, 3, none⟩ (.int .i64 K4)).setCell ⟨w.heap.size, 4, none⟩ (.slice x C.length c)) = wf at *
      have y0 := blk_at F.out.1 0
      have y1 := blk_at F.out.1 1
      have y2 := blk_at F.out.1 2
      have y3 := blk_at F.out.1 3
      have y4 := blk_at F.out.1 4
      simp only [List.getElem?_cons_zero, List.getElem?_cons_succ] at y0 y1 y2 y3 y4
      refine bodyPost_ret (v := .tuple #[.agg #[.int .i64 K1, .int .i64 K2, .int .i64 K3, .int .i64 K4, .slice x C.length c], .int .i64 0]) (by simp [results, Try.results51, go_sem, y0, y1, y2, y3, y4]) rfl ?_
      rw [P.out.1, P.out.2]
      exact ⟨x, c, rfl, F.out.2.2, F.out.2.1⟩
    · have P : Hid (grR l = (0, 0, 0, 0, []) ∧ grE l = 3) := by
        have h1 : grE l = 3 := by unfold grE; rw [← HE.out, if_pos rfl, ← HC.out, if_neg e1]
        refine ⟨?_, h1⟩
        unfold grR
        rw [h1, if_neg (by decide)]
      have e2 : (4096 : Int) < (C.length : Int) := by omega
      have S7 := set5_below G6.out.rblk rfl (.int .i64 0) (.int .i64 0) (.int .i64 0) (.int .i64 0) (.slice none 0 0) w.heap.size w G6.out.below (Nat.le_refl _) G6.out.below.size
      have F : Hid _ := And.intro S7.1 S7.2.2
      have y0 := blk_at G6.out.rblk 0
      have f0 := G6.out.rblk.frozen (by simp [maxLen]) 0
      have y1 := blk_at G6.out.rblk 1
      have f1 := G6.out.rblk.frozen (by simp [maxLen]) 1
      have y2 := blk_at G6.out.rblk 2
      have f2 := G6.out.rblk.frozen (by simp [maxLen]) 2
      have y3 := blk_at G6.out.rblk 3
      have f3 := G6.out.rblk.frozen (by simp [maxLen]) 3
      have y4 := blk_at G6.out.rblk 4
      have f4 := G6.out.rblk.frozen (by simp [maxLen]) 4
      simp only [List.getElem?_cons_zero, List.getElem?_cons_succ] at y0 y1 y2 y3 y4
      have z0 := blk_at G6.out.xblk 0
      have z1 := blk_at G6.out.xblk 1
      have z2 := blk_at G6.out.xblk 2
      have z3 := blk_at G6.out.xblk 3
      have z4 := blk_at G6.out.xblk 4
      simp only [List.getElem?_cons_zero, List.getElem?_cons_succ] at z0 z1 z2 z3 z4
      clear S7 G6 O6
      go_wp2
      clear y0 y1 y2 y3 y4 f0 f1 f2 f3 f4 z0 z1 z2 z3 z4
      generalize (((((v6.setCell ⟨w.heap.size, 0, none⟩ (.int .i64 0)).setCell ⟨w.heap.size, 1, none⟩ (.int .i64 0)).setCell ⟨w.heap.size, 2, none⟩ (.int .i64 0)).setCell ⟨w.heap.size, 3, none⟩ (.int .i64 0)).setCell ⟨w.heap.size, 4, none⟩ (.slice none 0 0)) = wf at *
      have y0 := blk_at F.out.1 0
      have y1 := blk_at F.out.1 1
      have y2 := blk_at F.out.1 2
      have y3 := blk_at F.out.1 3
      have y4 := blk_at F.out.1 4
      simp only [List.getElem?_cons_zero, List.getElem?_cons_succ] at y0 y1 y2 y3 y4
      refine bodyPost_ret (v := .tuple #[.agg #[.int .i64 0, .int .i64 0, .int .i64 0, .int .i64 0, .slice none 0 0], .int .i64 3]) (by simp [results, Try.results51, go_sem, y0, y1, y2, y3, y4]) rfl ?_
      rw [P.out.1, P.out.2]
      exact ⟨none, 0, rfl, Own.nil _ _, F.out.2⟩
  · have P : Hid (grR l = (0, 0, 0, 0, []) ∧ grE l = E) := by
      have h1 : grE l = E := by unfold grE; rw [← HE.out, if_neg e0]
      refine ⟨?_, h1⟩
      unfold grR
      rw [h1, if_neg e0]
    have q0 : (E == 0) = false := by rw [beq_eq_false_iff_ne]; exact e0
    have S7 := set5_below G6.out.rblk rfl (.int .i64 0) (.int .i64 0) (.int .i64 0) (.int .i64 0) (.slice none 0 0) w.heap.size w G6.out.below (Nat.le_refl _) G6.out.below.size
    have F : Hid _ := And.intro S7.1 S7.2.2
    have y0 := blk_at G6.out.rblk 0
    have f0 := G6.out.rblk.frozen (by simp [maxLen]) 0
    have y1 := blk_at G6.out.rblk 1
    have f1 := G6.out.rblk.frozen (by simp [maxLen]) 1
    have y2 := blk_at G6.out.rblk 2
    have f2 := G6.out.rblk.frozen (by simp [maxLen]) 2
    have y3 := blk_at G6.out.rblk 3
    have f3 := G6.out.rblk.frozen (by simp [maxLen]) 3
    have y4 := blk_at G6.out.rblk 4
    have f4 := G6.out.rblk.frozen (by simp [maxLen]) 4
    simp only [List.getElem?_cons_zero, List.getElem?_cons_succ] at y0 y1 y2 y3 y4
    have z0 := blk_at G6.out.xblk 0
    have z1 := blk_at G6.out.xblk 1
    have z2 := blk_at G6.out.xblk 2
    have z3 := blk_at G6.out.xblk 3
    have z4 := blk_at G6.out.xblk 4
    simp only [List.getElem?_cons_zero, List.getElem?_cons_succ] at z0 z1 z2 z3 z4
    clear S7 G6 O6
    go_wp2
    clear y0 y1 y2 y3 y4 f0 f1 f2 f3 f4 z0 z1 z2 z3 z4
    generalize (((((v6.setCell ⟨w.heap.size, 0, none⟩ (.int .i64 0)).setCell ⟨w.heap.size, 1, none⟩ (.int .i64 0)).setCell ⟨w.heap.size, 2, none⟩ (.int .i64 0)).setCell ⟨w.heap.size, 3, none⟩ (.int .i64 0)).setCell ⟨w.heap.size, 4, none⟩ (.slice none 0 0)) = wf at *
    have y0 := blk_at F.out.1 0
    have y1 := blk_at F.out.1 1
    have y2 := blk_at F.out.1 2
    have y3 := blk_at F.out.1 3
    have y4 := blk_at F.out.1 4
    simp only [List.getElem?_cons_zero, List.getElem?_cons_succ] at y0 y1 y2 y3 y4
    refine bodyPost_ret (v := .tuple #[.agg #[.int .i64 0, .int .i64 0, .int .i64 0, .int .i64 0, .slice none 0 0], .int .i64 E]) (by simp [results, Try.results51, go_sem, y0, y1, y2, y3, y4]) rfl ?_
    rw [P.out.1, P.out.2]
    exact ⟨none, 0, rfl, Own.nil _ _, F.out.2⟩
end Go.Proofs.Ytkcbbaanlkpeiaa

