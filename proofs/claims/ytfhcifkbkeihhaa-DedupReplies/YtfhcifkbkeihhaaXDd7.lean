/- The reference's bytes of an answer. -/
import Derived.Test.YtfhcifkbkeihhaaXDd6
namespace Go.Proofs.Ytfhcifkbkeihhaa
open Go.RowKit
set_option linter.unusedVariables false
set_option linter.unusedSimpArgs false
set_option maxRecDepth 4000

theorem small_yes {n : Int} (h : byteOk n) (w : World) : Calls Try.prog 27 #[.int .i64 n] w fun e w' => e = .returned (.bool true) ∧ w = w' := by
  obtain ⟨h1, h2⟩ := h
  go_enter Try.func27, Try.ntmps27
  go_wp2
  go_ret
  exact ⟨rfl, rfl⟩
theorem small_no {n : Int} (h : ¬ byteOk n) (w : World) : Calls Try.prog 27 #[.int .i64 n] w fun e w' => e = .returned (.bool false) ∧ w = w' := by
  by_cases h1 : 0 ≤ n
  · have h2 : ¬ n ≤ 255 := fun e => h ⟨h1, e⟩
    clear h
    go_enter Try.func27, Try.ntmps27
    go_wp2
    go_ret
    exact ⟨rfl, rfl⟩
  · clear h
    go_enter Try.func27, Try.ntmps27
    go_wp2
    go_ret
    exact ⟨rfl, rfl⟩
theorem keep_blk {w w' : World} {B g : Nat} {T : TypeId} {xs : List Value} (h : Blk w g T xs) (hb : Below B w w') (hg : g < B) : Blk w' g T xs := by
  unfold Blk at *
  rw [hb.block g hg]
  exact h
set_option maxHeartbeats 2000000 in
theorem qputReply_any (a b c d : Int) (x : Option Addr) (cp : Nat) (l : List (BitVec 8)) (w : World) (hl : l.length ≤ 140737488351232) (hc : l.length ≤ cp) (hn : x = none → cp = 0) (hr : Row w x l) :
    Calls Try.prog 7 #[.agg #[.int .i64 a, .int .i64 b, .int .i64 c, .int .i64 d, .slice x l.length cp]] w fun e w' => ∃ z, e = .returned (.tuple #[z, .int .i64 (prE a b c d l.length)]) ∧ Own w' w.heap.size z (prB a b c d l) ∧ Below w.heap.size w w' := by
  have b1 : Below w.heap.size w (w.alloc (.cells #[.int .i64 a, .int .i64 b, .int .i64 c, .int .i64 d, .slice x l.length cp] 24)) := (Below.refl _ _).alloc (Nat.le_refl _) _
  have B1 := Blk.new' w 24 [.int .i64 a, .int .i64 b, .int .i64 c, .int .i64 d, .slice x l.length cp]
  have n0 := blk_at B1 0
  have n1 := blk_at B1 1
  have n2 := blk_at B1 2
  have n3 := blk_at B1 3
  have n4 := blk_at B1 4
  simp only [List.getElem?_cons_zero, List.getElem?_cons_succ] at n0 n1 n2 n3 n4
  have HR : Hid _ := hr
  have H1 : Hid _ := And.intro b1 B1
  clear hr b1 B1
  by_cases h0 : byteOk a
  case neg =>
    have hE : Hid (prE a b c d l.length = 1 ∧ prB a b c d l = []) := by
      have : prE a b c d l.length = 1 := if_neg (fun h : fourOk a b c d => h0 h.1)
      exact ⟨this, by unfold prB; rw [this]; rfl⟩
    go_enter Try.func7, Try.ntmps7
    go_wp2_with (go_at_call 27; (first | refine (small_yes (by assumption) _).mono ?_ | refine (small_no (by assumption) _).mono ?_); rintro e w1 ⟨rfl, rfl⟩)
    go_ret2
    refine ⟨.slice none 0 0, ?_, ?_, H1.out.1⟩
    · (rw [hE.out.1]; try rfl)
    · rw [hE.out.2]; exact Own.nil _ _
  by_cases h1 : byteOk b
  case neg =>
    have hE : Hid (prE a b c d l.length = 1 ∧ prB a b c d l = []) := by
      have : prE a b c d l.length = 1 := if_neg (fun h : fourOk a b c d => h1 h.2.1)
      exact ⟨this, by unfold prB; rw [this]; rfl⟩
    go_enter Try.func7, Try.ntmps7
    go_wp2_with (go_at_call 27; (first | refine (small_yes (by assumption) _).mono ?_ | refine (small_no (by assumption) _).mono ?_); rintro e w1 ⟨rfl, rfl⟩)
    go_ret2
    refine ⟨.slice none 0 0, ?_, ?_, H1.out.1⟩
    · (rw [hE.out.1]; try rfl)
    · rw [hE.out.2]; exact Own.nil _ _
  by_cases h2 : byteOk c
  case neg =>
    have hE : Hid (prE a b c d l.length = 1 ∧ prB a b c d l = []) := by
      have : prE a b c d l.length = 1 := if_neg (fun h : fourOk a b c d => h2 h.2.2.1)
      exact ⟨this, by unfold prB; rw [this]; rfl⟩
    go_enter Try.func7, Try.ntmps7
    go_wp2_with (go_at_call 27; (first | refine (small_yes (by assumption) _).mono ?_ | refine (small_no (by assumption) _).mono ?_); rintro e w1 ⟨rfl, rfl⟩)
    go_ret2
    refine ⟨.slice none 0 0, ?_, ?_, H1.out.1⟩
    · (rw [hE.out.1]; try rfl)
    · rw [hE.out.2]; exact Own.nil _ _
  by_cases h3 : byteOk d
  case neg =>
    have hE : Hid (prE a b c d l.length = 1 ∧ prB a b c d l = []) := by
      have : prE a b c d l.length = 1 := if_neg (fun h : fourOk a b c d => h3 h.2.2.2)
      exact ⟨this, by unfold prB; rw [this]; rfl⟩
    go_enter Try.func7, Try.ntmps7
    go_wp2_with (go_at_call 27; (first | refine (small_yes (by assumption) _).mono ?_ | refine (small_no (by assumption) _).mono ?_); rintro e w1 ⟨rfl, rfl⟩)
    go_ret2
    refine ⟨.slice none 0 0, ?_, ?_, H1.out.1⟩
    · (rw [hE.out.1]; try rfl)
    · rw [hE.out.2]; exact Own.nil _ _
  have H4 : Hid (fourOk a b c d) := ⟨h0, h1, h2, h3⟩
  by_cases h5 : 4096 < l.length
  · have hE : Hid (prE a b c d l.length = 3 ∧ prB a b c d l = []) := by
      have : prE a b c d l.length = 3 := by unfold prE; rw [if_pos H4.out, if_neg (by omega)]
      exact ⟨this, by unfold prB; rw [this]; rfl⟩
    have e1 : (4096 : Int) < (l.length : Int) := by omega
    clear h5
    go_enter Try.func7, Try.ntmps7
    go_wp2_with (go_at_call 27; (first | refine (small_yes (by assumption) _).mono ?_ | refine (small_no (by assumption) _).mono ?_); rintro e w1 ⟨rfl, rfl⟩)
    go_ret2
    refine ⟨.slice none 0 0, ?_, ?_, H1.out.1⟩
    · (rw [hE.out.1]; try rfl)
    · rw [hE.out.2]; exact Own.nil _ _
  · have hE : Hid (prE a b c d l.length = 0 ∧ prB a b c d l = fourB a b c d 4 ++ (be 2 (BitVec.ofNat 64 l.length) ++ l)) := by
      have : prE a b c d l.length = 0 := by unfold prE; rw [if_pos H4.out, if_pos (by omega)]
      exact ⟨this, by unfold prB; rw [this]; rfl⟩
    have e1 : (l.length : Int) ≤ 4096 := by omega
    have hl4 : l.length ≤ 4096 := by omega
    clear h5
    have bw := below_then H1.out.1 ((Below.refl (w.alloc (.cells #[.int .i64 a, .int .i64 b, .int .i64 c, .int .i64 d, .slice x l.length cp] 24)).heap.size _).alloc (Nat.le_refl _) (.cells #[.slice none 0 0, .int .i64 0] 56))
    have B2 := H1.out.2.laterB ((Below.refl _ _).alloc (Nat.le_refl _) (.cells #[.slice none 0 0, .int .i64 0] 56))
    have W2 : WrAt ((w.alloc (.cells #[.int .i64 a, .int .i64 b, .int .i64 c, .int .i64 d, .slice x l.length cp] 24)).alloc (.cells #[.slice none 0 0, .int .i64 0] 56)) (w.alloc (.cells #[.int .i64 a, .int .i64 b, .int .i64 c, .int .i64 d, .slice x l.length cp] 24)).heap.size (w.alloc (.cells #[.int .i64 a, .int .i64 b, .int .i64 c, .int .i64 d, .slice x l.length cp] 24)).heap.size 56 (.slice none 0 0) (fourB a b c d 0) 0 := ⟨Blk.new' _ _ _, ⟨[], Own.nil _ _, fun _ => rfl⟩, Nat.le_refl _, by simp, by decide⟩
    rw [show (w.alloc (.cells #[.int .i64 a, .int .i64 b, .int .i64 c, .int .i64 d, .slice x l.length cp] 24)).heap.size = w.heap.size + 1 by simp] at W2
    have m0 := blk_at B2 0
    simp only [List.getElem?_cons_zero, List.getElem?_cons_succ] at m0
    have K0 : Hid _ := And.intro bw (And.intro B2 W2)
    have N1 : Hid _ := rwNum_any (w.heap.size + 1) (w.heap.size + 1) (.slice none 0 0) (fourB a b c d 0) 0 1 a _ W2 (by have := fourB_len a b c d 0; omega)
    clear bw B2 W2
    go_enter Try.func7, Try.ntmps7
    go_wp2_with (go_at_call 27; (first | refine (small_yes (by assumption) _).mono ?_ | refine (small_no (by assumption) _).mono ?_); rintro e w1 ⟨rfl, rfl⟩)
    clear n0 n1 n2 n3 n4 h0 h1 h2 h3 m0
    generalize (w.alloc (.cells #[.int .i64 a, .int .i64 b, .int .i64 c, .int .i64 d, .slice x l.length cp] 24)).alloc (.cells #[.slice none 0 0, .int .i64 0] 56) = v0 at *
    clear H1
    refine (Calls.mono N1.out) ?_
    rintro r v1 ⟨rfl, q1, W1, -, t1⟩
    rw [wrNum_1 H4.out.1] at W1
    have K1 : Hid (Below w.heap.size w v1 ∧ Blk v1 w.heap.size 24 [.int .i64 a, .int .i64 b, .int .i64 c, .int .i64 d, .slice x l.length cp] ∧ WrAt v1 (w.heap.size + 1) (w.heap.size + 1) 56 q1 (fourB a b c d 1) 0) := by
      have hb := wrAt_below K0.out.2.2 t1
      exact ⟨K0.out.1.trans (hb.mono (by omega)), keep_blk K0.out.2.1 hb (by omega), W1⟩
    have m1 := blk_at K1.out.2.1 1
    simp only [List.getElem?_cons_zero, List.getElem?_cons_succ] at m1
    have N2 : Hid _ := rwNum_any (w.heap.size + 1) (w.heap.size + 1) q1 (fourB a b c d 1) 0 1 b _ K1.out.2.2 (by have := fourB_len a b c d 1; omega)
    clear W1 t1 N1 K0
    go_wp2_with fail
    clear m1
    refine (Calls.mono N2.out) ?_
    rintro r v2 ⟨rfl, q2, W2, -, t2⟩
    rw [wrNum_1 H4.out.2.1] at W2
    have K2 : Hid (Below w.heap.size w v2 ∧ Blk v2 w.heap.size 24 [.int .i64 a, .int .i64 b, .int .i64 c, .int .i64 d, .slice x l.length cp] ∧ WrAt v2 (w.heap.size + 1) (w.heap.size + 1) 56 q2 (fourB a b c d 2) 0) := by
      have hb := wrAt_below K1.out.2.2 t2
      exact ⟨K1.out.1.trans (hb.mono (by omega)), keep_blk K1.out.2.1 hb (by omega), W2⟩
    have m2 := blk_at K2.out.2.1 2
    simp only [List.getElem?_cons_zero, List.getElem?_cons_succ] at m2
    have N3 : Hid _ := rwNum_any (w.heap.size + 1) (w.heap.size + 1) q2 (fourB a b c d 2) 0 1 c _ K2.out.2.2 (by have := fourB_len a b c d 2; omega)
    clear W2 t2 N2 K1
    go_wp2_with fail
    clear m2
    refine (Calls.mono N3.out) ?_
    rintro r v3 ⟨rfl, q3, W3, -, t3⟩
    rw [wrNum_1 H4.out.2.2.1] at W3
    have K3 : Hid (Below w.heap.size w v3 ∧ Blk v3 w.heap.size 24 [.int .i64 a, .int .i64 b, .int .i64 c, .int .i64 d, .slice x l.length cp] ∧ WrAt v3 (w.heap.size + 1) (w.heap.size + 1) 56 q3 (fourB a b c d 3) 0) := by
      have hb := wrAt_below K2.out.2.2 t3
      exact ⟨K2.out.1.trans (hb.mono (by omega)), keep_blk K2.out.2.1 hb (by omega), W3⟩
    have m3 := blk_at K3.out.2.1 3
    simp only [List.getElem?_cons_zero, List.getElem?_cons_succ] at m3
    have N4 : Hid _ := rwNum_any (w.heap.size + 1) (w.heap.size + 1) q3 (fourB a b c d 3) 0 1 d _ K3.out.2.2 (by have := fourB_len a b c d 3; omega)
    clear W3 t3 N3 K2
    go_wp2_with fail
    clear m3
    refine (Calls.mono N4.out) ?_
    rintro r v4 ⟨rfl, q4, W4, -, t4⟩
    rw [wrNum_1 H4.out.2.2.2] at W4
    have K4 : Hid (Below w.heap.size w v4 ∧ Blk v4 w.heap.size 24 [.int .i64 a, .int .i64 b, .int .i64 c, .int .i64 d, .slice x l.length cp] ∧ WrAt v4 (w.heap.size + 1) (w.heap.size + 1) 56 q4 (fourB a b c d 4) 0) := by
      have hb := wrAt_below K3.out.2.2 t4
      exact ⟨K3.out.1.trans (hb.mono (by omega)), keep_blk K3.out.2.1 hb (by omega), W4⟩
    have m4 := blk_at K4.out.2.1 4
    simp only [List.getElem?_cons_zero, List.getElem?_cons_succ] at m4
    have N5 : Hid _ := rwBytes_any (w.heap.size + 1) (w.heap.size + 1) q4 (fourB a b c d 4) 0 2 x l.length cp l v4 K4.out.2.2 (by have := fourB_len a b c d 4; omega) rfl hc (Row.later HR.out K4.out.1) hn (by omega)
    clear W4 t4 N4 K3
    go_wp2_with fail
    clear m4
    refine (Calls.mono N5.out) ?_
    rintro r v5 ⟨rfl, q5, W5, -, t5⟩
    rw [wrBytes_2 hl4] at W5
    have F : Hid (Below w.heap.size w v5) := K4.out.1.trans ((wrAt_below K4.out.2.2 t5).mono (by omega))
    have HM : Hid _ := rwEnd_any (w.heap.size + 1) (w.heap.size + 1) q5 _ 0 v5 W5 (by have := fourB_len a b c d 4; simp only [List.length_append, be_length _ _ (show 2 ≤ 8 by omega)]; omega)
    clear W5 t5 N5 K4
    go_wp2_with fail
    refine (Calls.mono HM.out) ?_
    rintro r v6 ⟨z, rfl, o6, b6⟩
    rw [show ∀ L, wrEnd L 0 = L from fun L => if_pos rfl] at o6
    have G : Hid _ := And.intro (o6.lower F.out.size) (below_then F.out b6)
    clear o6 b6 HM F
    go_wp2
    go_ret2
    refine ⟨z, ?_, ?_, G.out.2⟩
    · (rw [hE.out.1]; try rfl)
    · rw [hE.out.2]; exact G.out.1
end Go.Proofs.Ytfhcifkbkeihhaa

