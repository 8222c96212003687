/- What must come of fixed calls. -/
import Derived.Test.YtkcbbaanlkpeiaaXDd17
namespace Go.Proofs.Ytkcbbaanlkpeiaa
open Go.RowKit
set_option linter.unusedVariables false
set_option linter.unusedSimpArgs false
set_option maxRecDepth 4000

theorem insC_end {w : World} {v : Value} {l : List An} (ho : AOwn w v l) (hl : l.length ≤ 1000) (a b : Int) (s : ByteArray) : InsC w v l.length a b s (l ++ [(a, b, s)]) := by
  intro W k hW hB hk
  refine (insert_end v l a b s k W (ho.later hW) hl hB).mono ?_
  rintro e w' ⟨v', rfl, h1, h2, h3⟩
  refine ⟨v', rfl, h1, h2, fun k hk => ?_⟩
  rcases h3 with h3 | h3
  · exact .inl (by rw [← h3]; exact hk)
  · rw [h3] at hk; exact .inr (by injection hk with hk; omega)
def kb12 : List (BitVec 8) := prB 0 5 0 0 []
theorem kE12 : prE 0 5 0 0 ([] : List (BitVec 8)).length = 0 := by simp [prE, fourOk, byteOk]
def zero32 : List Value := (List.replicate 16 [Value.int .i64 0, Value.slice none 0 0]).flatten
set_option maxHeartbeats 1000000 in
theorem kput12 (g : Nat) (w : World) (hG : Blk w g 62 zero32) :
    Calls Try.prog 15 #[.pointer (some ⟨g, 0, none⟩), .int .i64 3, .int .i64 7, .agg #[.int .i64 0, .int .i64 5, .int .i64 0, .int .i64 0, .slice none 0 0]] w fun e w' => e = .returned (.int .i64 0) ∧ ∃ v', MemAt w' g 3 0 v' [(3, 7, str kb12)] ∧ Turned (fun k => k = g) w w' := by
  have := ddPut_few (fun _ => False) g 3 zero32 (.slice none 0 0) [] ([] ++ [(3, 7, str kb12)]) 7 0 0 5 0 0 none 0 [] 0 w (by omega) (by decide) kE12 hG rfl rfl (fun h => h) (fun k h => by cases h) (fun k h => h.elim)
    (AOwn.nil w) List.Pairwise.nil (by simp) (by decide) (by simp [fromOf]) ⟨by simp, by simp, by simp⟩ (insC_end (AOwn.nil w) (by simp) 3 7 _) (by simp) (by simp) (by simp) (fun _ => rfl) (.inl rfl)
  refine Calls.mono this ?_
  rintro e w' ⟨rfl, W, v', h⟩
  have B1 := (hG.turned h.turned (fun h => h)).set 7 v'
  have lg := hG.lt
  have hne : ∀ k, v'.ownBlock = some k → k ≠ g := fun k hk e => by
    rcases h.or k hk with e1 | e1
    · cases e1
    · omega
  refine ⟨rfl, v', ?_, ?_⟩
  · rw [h.eq]
    refine ⟨by rw [blk_at B1]; rfl, by rw [blk_at B1]; rfl, h.own.same (fun k hk => Below.heap_setCell _ _ _ _ (hne k hk)), by simp [Rise], by simp⟩
  · rw [h.eq]
    refine (h.turned.mono (R' := fun k => k = g) (fun k e => e.elim)).trans ⟨rfl, rfl, rfl, by simp [World.setCell], fun k hk hn => Below.heap_setCell _ _ _ _ (fun e => hn (.inl e))⟩
theorem kc1 (g : Nat) (v : Value) (w : World) (h : MemAt w g 3 0 v [(3, 7, str kb12)]) :
    Calls Try.prog 18 #[.pointer (some ⟨g, 0, none⟩), .int .i64 3, .int .i64 7] w fun e w' => ∃ x c, e = .returned (.tuple #[.int .i64 1, .agg #[.int .i64 0, .int .i64 5, .int .i64 0, .int .i64 0, .slice x 0 c]]) ∧ Below w.heap.size w w' := by
  refine Calls.mono (check_done g 3 7 0 v _ kb12 w (by omega) (by decide) h (by simp [fromOf]) (by decide)) ?_
  rintro e w' ⟨x, c, rfl, -, hb⟩
  have := (there_back kE12).2
  have e1 : grR kb12 = (0, 5, 0, 0, []) := this
  rw [e1]
  exact ⟨x, c, rfl, hb⟩
theorem kc2 (g : Nat) (v : Value) (w : World) (h : MemAt w g 3 0 v [(3, 7, str kb12)]) :
    Calls Try.prog 18 #[.pointer (some ⟨g, 0, none⟩), .int .i64 3, .int .i64 6] w fun e w' => e = .returned (.tuple #[.int .i64 0, .agg #[.int .i64 0, .int .i64 0, .int .i64 0, .int .i64 0, .slice none 0 0]]) ∧ Below w.heap.size w w' :=
  check_none g 3 6 0 v _ w (by omega) (by decide) h (by simp [fromOf])
theorem kc3 (g : Nat) (w : World) :
    Calls Try.prog 18 #[.pointer (some ⟨g, 0, none⟩), .int .i64 16, .int .i64 1] w fun e w' => e = .returned (.tuple #[.int .i64 3, .agg #[.int .i64 0, .int .i64 0, .int .i64 0, .int .i64 0, .slice none 0 0]]) ∧ Below w.heap.size w w' :=
  check_wrong _ 16 1 w (.inr (by decide))
set_option maxHeartbeats 2000000 in
theorem known12_any (w : World) : Calls Try.prog 11 #[] w fun e w' => e = .returned (.bool true) ∧ Below w.heap.size w w' := by
  have H1 : Hid _ := ddNew_any w
  go_enter Try.func11, Try.ntmps11
  go_wp2_with fail
  refine (Calls.mono H1.out) ?_
  rintro e w1 ⟨rfl, hG, b1⟩
  have H2 : Hid _ := kput12 w.heap.size w1 hG
  have HB : Hid _ := b1
  clear H1 hG b1
  have hnn : (binOp .eql 24 (.pointer (some ⟨w.heap.size, 0, none⟩)) (.pointer none)).run Try.prog w1 = .ok (.bool false) w1 := by first | rfl | kernel_rfl
  go_wp2_with fail
  clear hnn
  refine (Calls.mono H2.out) ?_
  rintro e w2 ⟨rfl, v, hM, ht⟩
  have b2 : Hid (Below w.heap.size w w2) := HB.out.trans (ht.below w.heap.size HB.out.size (fun k e => by omega))
  have H3 : Hid _ := kc1 w.heap.size v w2 hM
  have HM : Hid _ := hM
  clear hM ht H2 HB
  go_wp2_with fail
  refine (Calls.mono H3.out) ?_
  rintro e w3 ⟨x, c, rfl, b3⟩
  have b4 : Below w3.heap.size w3 (w3.alloc (.cells #[.int .i64 0, .int .i64 5, .int .i64 0, .int .i64 0, .slice x 0 c] 38)) := (Below.refl _ _).alloc (Nat.le_refl _) _
  have A4 := Blk.new' w3 38 [.int .i64 0, .int .i64 5, .int .i64 0, .int .i64 0, .slice x 0 c]
  have b24 := below_then b3 b4
  have HJ : Hid _ := And.intro A4 (And.intro (HM.out.later b24) (below_then b2.out b24))
  have H5 : Hid _ := kc2 w.heap.size v _ (HM.out.later b24)
  clear HM b2 H3 b3 b4 A4 b24
  go_wp2_with fail
  generalize (w3.alloc (.cells #[.int .i64 0, .int .i64 5, .int .i64 0, .int .i64 0, .slice x 0 c] 38)) = w4 at *
  refine (Calls.mono H5.out) ?_
  rintro e w5 ⟨rfl, b5⟩
  have b6 : Below w5.heap.size w5 (w5.alloc (.cells #[.int .i64 0, .int .i64 0, .int .i64 0, .int .i64 0, .slice none 0 0] 38)) := (Below.refl _ _).alloc (Nat.le_refl _) _
  have b46 := below_then b5 b6
  have HL : Hid _ := And.intro (HJ.out.1.laterB b46) (below_then HJ.out.2.2 b46)
  have H6 : Hid _ := kc3 w.heap.size (w5.alloc (.cells #[.int .i64 0, .int .i64 0, .int .i64 0, .int .i64 0, .slice none 0 0] 38))
  clear HJ H5 b5 b6 b46
  go_wp2_with fail
  generalize (w5.alloc (.cells #[.int .i64 0, .int .i64 0, .int .i64 0, .int .i64 0, .slice none 0 0] 38)) = w6 at *
  refine (Calls.mono H6.out) ?_
  rintro e w7 ⟨rfl, b7⟩
  have b8 : Below w7.heap.size w7 (w7.alloc (.cells #[.int .i64 0, .int .i64 0, .int .i64 0, .int .i64 0, .slice none 0 0] 38)) := (Below.refl _ _).alloc (Nat.le_refl _) _
  have b68 := below_then b7 b8
  have HN : Hid _ := below_then HL.out.2 b68
  have y1 := blk_at (HL.out.1.laterB b68) 1
  simp only [List.getElem?_cons_zero, List.getElem?_cons_succ] at y1
  clear HL H6 b7 b8 b68
  go_wp2
  go_ret
  exact ⟨rfl, HN.out⟩
end Go.Proofs.Ytkcbbaanlkpeiaa

