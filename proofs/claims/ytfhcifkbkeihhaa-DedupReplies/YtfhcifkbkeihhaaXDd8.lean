/- What a command is: the ways that answer nothing. -/
import Derived.Test.YtfhcifkbkeihhaaXDd7
namespace Go.Proofs.Ytfhcifkbkeihhaa
open Go.RowKit
set_option linter.unusedVariables false
set_option linter.unusedSimpArgs false
set_option maxRecDepth 4000

/-- the answer of Check that has no bytes -/
def zeroR : Value := .agg #[.int .i64 0, .int .i64 0, .int .i64 0, .int .i64 0, .slice none 0 0]
set_option maxHeartbeats 1000000 in
theorem check_wrong (p : Option Addr) (q n : Int) (w : World) (h : p = none ∨ canP q n = false) :
    Calls Try.prog 14 #[.pointer p, .int .i64 q, .int .i64 n] w fun e w' => e = .returned (.tuple #[.int .i64 3, zeroR]) ∧ Below w.heap.size w w' := by
  have b1 : Below w.heap.size w (w.alloc (.cells #[.int .i64 0, .int .i64 0, .int .i64 0, .int .i64 0, .slice none 0 0] 24)) := (Below.refl _ _).alloc (Nat.le_refl _) _
  have B1 := Blk.new' w 24 [.int .i64 0, .int .i64 0, .int .i64 0, .int .i64 0, .slice none 0 0]
  have b2 : Below (w.alloc (.cells #[.int .i64 0, .int .i64 0, .int .i64 0, .int .i64 0, .slice none 0 0] 24)).heap.size (w.alloc (.cells #[.int .i64 0, .int .i64 0, .int .i64 0, .int .i64 0, .slice none 0 0] 24)) ((w.alloc (.cells #[.int .i64 0, .int .i64 0, .int .i64 0, .int .i64 0, .slice none 0 0] 24)).alloc (.cells #[.int .i64 q, .int .i64 n] 64)) := (Below.refl _ _).alloc (Nat.le_refl _) _
  have A2 := Blk.new' (w.alloc (.cells #[.int .i64 0, .int .i64 0, .int .i64 0, .int .i64 0, .slice none 0 0] 24)) 64 [.int .i64 q, .int .i64 n]
  rw [show (w.alloc (.cells #[.int .i64 0, .int .i64 0, .int .i64 0, .int .i64 0, .slice none 0 0] 24)).heap.size = w.heap.size + 1 by simp] at A2
  have B2 := B1.laterB b2
  have bb := below_then b1 b2
  have a0 := blk_at A2 0
  have a1 := blk_at A2 1
  simp only [List.getElem?_cons_zero, List.getElem?_cons_succ] at a0 a1
  have H2 : Hid _ := And.intro bb B2
  clear b1 B1 b2 A2 B2 bb
  have HS : Hid _ := fun (W W' : World) (hb : Below w.heap.size w W) (hB : Blk W w.heap.size 24 [.int .i64 0, .int .i64 0, .int .i64 0, .int .i64 0, .slice none 0 0]) (hb' : Below W.heap.size W W') => set5_below (hB.laterB hb') rfl (.int .i64 0) (.int .i64 0) (.int .i64 0) (.int .i64 0) (.slice none 0 0) w.heap.size w (below_then hb hb') (Nat.le_refl _) (Nat.le_trans hb.size hb'.size)
  by_cases hp : p = none
  · subst hp
    clear h
    have G : Hid _ := And.intro H2.out.2 H2.out.1
    have BB := H2.out.2
    have y0 := blk_at BB 0
    have f0 := BB.frozen (by simp [maxLen]) 0
    have y1 := blk_at BB 1
    have f1 := BB.frozen (by simp [maxLen]) 1
    have y2 := blk_at BB 2
    have f2 := BB.frozen (by simp [maxLen]) 2
    have y3 := blk_at BB 3
    have f3 := BB.frozen (by simp [maxLen]) 3
    have y4 := blk_at BB 4
    have f4 := BB.frozen (by simp [maxLen]) 4
    simp only [List.getElem?_cons_zero, List.getElem?_cons_succ] at y0 y1 y2 y3 y4
    clear BB
    clear HS H2
    go_enter Try.func14, Try.ntmps14
    go_wp2
    clear y0 y1 y2 y3 y4 f0 f1 f2 f3 f4
    have y0 := blk_at G.out.1 0
    have y1 := blk_at G.out.1 1
    have y2 := blk_at G.out.1 2
    have y3 := blk_at G.out.1 3
    have y4 := blk_at G.out.1 4
    simp only [List.getElem?_cons_zero, List.getElem?_cons_succ] at y0 y1 y2 y3 y4
    refine bodyPost_ret (v := .tuple #[.int .i64 3, zeroR]) (by simp [zeroR, results, Try.results14, go_sem, y0, y1, y2, y3, y4]) rfl ?_
    exact ⟨rfl, G.out.2⟩
  · have hq : canP q n = false := h.resolve_left hp
    obtain ⟨y, rfl⟩ : ∃ y, p = some y := by cases p with | none => exact absurd rfl hp | some y => exact ⟨y, rfl⟩
    clear h hp
    have HN : Hid _ := canBe_any q n ((w.alloc (.cells #[.int .i64 0, .int .i64 0, .int .i64 0, .int .i64 0, .slice none 0 0] 24)).alloc (.cells #[.int .i64 q, .int .i64 n] 64))
    rw [hq] at HN
    clear hq
    go_enter Try.func14, Try.ntmps14
    go_wp2_with fail
    generalize ((w.alloc (.cells #[.int .i64 0, .int .i64 0, .int .i64 0, .int .i64 0, .slice none 0 0] 24)).alloc (.cells #[.int .i64 q, .int .i64 n] 64)) = W2 at *
    clear a0 a1
    refine (Calls.mono HN.out) ?_
    rintro r W3 ⟨rfl, b3⟩
    have S := HS.out _ _ H2.out.1 H2.out.2 b3
    have G : Hid _ := And.intro S.1 S.2.2
    have BB := H2.out.2.laterB b3
    have y0 := blk_at BB 0
    have f0 := BB.frozen (by simp [maxLen]) 0
    have y1 := blk_at BB 1
    have f1 := BB.frozen (by simp [maxLen]) 1
    have y2 := blk_at BB 2
    have f2 := BB.frozen (by simp [maxLen]) 2
    have y3 := blk_at BB 3
    have f3 := BB.frozen (by simp [maxLen]) 3
    have y4 := blk_at BB 4
    have f4 := BB.frozen (by simp [maxLen]) 4
    simp only [List.getElem?_cons_zero, List.getElem?_cons_succ] at y0 y1 y2 y3 y4
    clear BB
    clear S HS H2 b3 HN
    go_wp2
    clear y0 y1 y2 y3 y4 f0 f1 f2 f3 f4
    generalize (((((W3.setCell ⟨w.heap.size, 0, none⟩ (.int .i64 0)).setCell ⟨w.heap.size, 1, none⟩ (.int .i64 0)).setCell ⟨w.heap.size, 2, none⟩ (.int .i64 0)).setCell ⟨w.heap.size, 3, none⟩ (.int .i64 0)).setCell ⟨w.heap.size, 4, none⟩ (.slice none 0 0)) = wf at *
    have y0 := blk_at G.out.1 0
    have y1 := blk_at G.out.1 1
    have y2 := blk_at G.out.1 2
    have y3 := blk_at G.out.1 3
    have y4 := blk_at G.out.1 4
    simp only [List.getElem?_cons_zero, List.getElem?_cons_succ] at y0 y1 y2 y3 y4
    refine bodyPost_ret (v := .tuple #[.int .i64 3, zeroR]) (by simp [zeroR, results, Try.results14, go_sem, y0, y1, y2, y3, y4]) rfl ?_
    exact ⟨rfl, G.out.2⟩
end Go.Proofs.Ytfhcifkbkeihhaa

