/- What a command is, where none is kept of it. -/
import Derived.Test.YtfhcifkbkeihhaaXDd8
namespace Go.Proofs.Ytfhcifkbkeihhaa
open Go.RowKit
set_option linter.unusedVariables false
set_option linter.unusedSimpArgs false
set_option maxRecDepth 4000

/-- what is kept of a nexus lies there -/
structure MemAt (w : World) (g q : Nat) (fl : Int) (v : Value) (l : List An) : Prop where
  floor : w.cell? ⟨g, q * 2, none⟩ = some (.int .i64 fl)
  list : w.cell? ⟨g, q * 2 + 1, none⟩ = some v
  own : AOwn w v l
  rise : Rise l
  len : l.length ≤ 1000
theorem MemAt.later {w w' : World} {g q : Nat} {fl : Int} {v : Value} {l : List An} (h : MemAt w g q fl v l) (hb : Below w.heap.size w w') : MemAt w' g q fl v l :=
  ⟨cell_later hb h.floor, cell_later hb h.list, h.own.later hb, h.rise, h.len⟩
set_option maxHeartbeats 2000000 in
theorem check_none (g q : Nat) (n fl : Int) (v : Value) (l : List An) (w : World) (hq : q < 16) (hc : canP q n = true) (hM : MemAt w g q fl v l) (hno : ¬ ((fromOf l n).1 = q ∧ (fromOf l n).2.1 = n)) :
    Calls Try.prog 14 #[.pointer (some ⟨g, 0, none⟩), .int .i64 q, .int .i64 n] w fun e w' => e = .returned (.tuple #[.int .i64 (if n ≤ fl then 2 else 0), zeroR]) ∧ Below w.heap.size w w' := by
  have b1 : Below w.heap.size w (w.alloc (.cells #[.int .i64 0, .int .i64 0, .int .i64 0, .int .i64 0, .slice none 0 0] 24)) := (Below.refl _ _).alloc (Nat.le_refl _) _
  have B1 := Blk.new' w 24 [.int .i64 0, .int .i64 0, .int .i64 0, .int .i64 0, .slice none 0 0]
  have b2 : Below (w.alloc (.cells #[.int .i64 0, .int .i64 0, .int .i64 0, .int .i64 0, .slice none 0 0] 24)).heap.size (w.alloc (.cells #[.int .i64 0, .int .i64 0, .int .i64 0, .int .i64 0, .slice none 0 0] 24)) ((w.alloc (.cells #[.int .i64 0, .int .i64 0, .int .i64 0, .int .i64 0, .slice none 0 0] 24)).alloc (.cells #[.int .i64 q, .int .i64 n] 64)) := (Below.refl _ _).alloc (Nat.le_refl _) _
  have A2 := Blk.new' (w.alloc (.cells #[.int .i64 0, .int .i64 0, .int .i64 0, .int .i64 0, .slice none 0 0] 24)) 64 [.int .i64 q, .int .i64 n]
  rw [show (w.alloc (.cells #[.int .i64 0, .int .i64 0, .int .i64 0, .int .i64 0, .slice none 0 0] 24)).heap.size = w.heap.size + 1 by simp] at A2
  have B2 := B1.laterB b2
  have bb := below_then b1 b2
  have a0 := blk_at A2 0
  have a1 := blk_at A2 1
  simp only [List.getElem?_cons_zero, List.getElem?_cons_succ] at a0 a1
  have H2 : Hid _ := And.intro bb (And.intro B2 (And.intro A2 (hM.later bb)))
  clear b1 B1 b2 A2 B2 bb hM
  have HN : Hid _ := canBe_any q n ((w.alloc (.cells #[.int .i64 0, .int .i64 0, .int .i64 0, .int .i64 0, .slice none 0 0] 24)).alloc (.cells #[.int .i64 q, .int .i64 n] 64))
  rw [hc] at HN
  clear hc
  have q1 : (q : Int) < 16 := by omega
  go_enter Try.func14, Try.ntmps14
  go_wp2_with fail
  generalize ((w.alloc (.cells #[.int .i64 0, .int .i64 0, .int .i64 0, .int .i64 0, .slice none 0 0] 24)).alloc (.cells #[.int .i64 q, .int .i64 n] 64)) = W2 at *
  clear a0 a1
  refine (Calls.mono HN.out) ?_
  rintro r W3 ⟨rfl, b3⟩
  have H3 : Hid (Below w.heap.size w W3 ∧ Blk W3 w.heap.size 24 [.int .i64 0, .int .i64 0, .int .i64 0, .int .i64 0, .slice none 0 0] ∧ Blk W3 (w.heap.size + 1) 64 [.int .i64 q, .int .i64 n] ∧ MemAt W3 g q fl v l) := ⟨below_then H2.out.1 b3, H2.out.2.1.laterB b3, H2.out.2.2.1.laterB b3, H2.out.2.2.2.later b3⟩
  clear H2 HN b3
  have N4 : Hid _ := ddfrom_any g (q * 2 + 1) v l n W3 H3.out.2.2.2.list H3.out.2.2.2.own H3.out.2.2.2.rise H3.out.2.2.2.len
  obtain ⟨fa, hfa⟩ : ∃ a, a = fromOf l n := ⟨_, rfl⟩
  rw [← hfa] at N4 hno
  clear hfa
  obtain ⟨fx, fy, fz⟩ := fa
  simp only at hno N4
  have hsp : (fx = q ∧ fy ≠ n) ∨ fx ≠ q := by
    by_cases e : fx = q
    · exact .inl ⟨e, fun k => hno ⟨e, k⟩⟩
    · exact .inr e
  clear hno
  rcases hsp with ⟨rfl, e1⟩ | e1
  · go_wp2_with fail
    refine (Calls.mono N4.out) ?_
    rintro r W4 ⟨rfl, b4⟩
    have b5 : Below W4.heap.size W4 (W4.alloc (.cells #[.int .i64 q, .int .i64 fy, .string fz] 75)) := (Below.refl _ _).alloc (Nat.le_refl _) _
    have A5 := Blk.new' W4 75 [.int .i64 q, .int .i64 fy, .string fz]
    have b45 := below_then b4 b5
    have H5 : Hid (Below w.heap.size w (W4.alloc (.cells #[.int .i64 q, .int .i64 fy, .string fz] 75)) ∧ Blk (W4.alloc (.cells #[.int .i64 q, .int .i64 fy, .string fz] 75)) w.heap.size 24 [.int .i64 0, .int .i64 0, .int .i64 0, .int .i64 0, .slice none 0 0] ∧ Blk (W4.alloc (.cells #[.int .i64 q, .int .i64 fy, .string fz] 75)) (w.heap.size + 1) 64 [.int .i64 q, .int .i64 n] ∧ MemAt (W4.alloc (.cells #[.int .i64 q, .int .i64 fy, .string fz] 75)) g q fl v l) := ⟨below_then H3.out.1 b45, H3.out.2.1.laterB b45, H3.out.2.2.1.laterB b45, H3.out.2.2.2.later b45⟩
    have x0 := blk_at A5 0
    have x1 := blk_at A5 1
    have x2 := blk_at A5 2
    have p0 := blk_at H5.out.2.2.1 0
    have p1 := blk_at H5.out.2.2.1 1
    simp only [List.getElem?_cons_zero, List.getElem?_cons_succ] at x0 x1 x2 p0 p1
    have c0 := H5.out.2.2.2.floor
    have S := set5_below H5.out.2.1 rfl (.int .i64 0) (.int .i64 0) (.int .i64 0) (.int .i64 0) (.slice none 0 0) w.heap.size w H5.out.1 (Nat.le_refl _) H5.out.1.size
    have G : Hid _ := And.intro S.1 S.2.2
    have y0 := blk_at H5.out.2.1 0
    have f0 := H5.out.2.1.frozen (by simp [maxLen]) 0
    have y1 := blk_at H5.out.2.1 1
    have f1 := H5.out.2.1.frozen (by simp [maxLen]) 1
    have y2 := blk_at H5.out.2.1 2
    have f2 := H5.out.2.1.frozen (by simp [maxLen]) 2
    have y3 := blk_at H5.out.2.1 3
    have f3 := H5.out.2.1.frozen (by simp [maxLen]) 3
    have y4 := blk_at H5.out.2.1 4
    have f4 := H5.out.2.1.frozen (by simp [maxLen]) 4
    simp only [List.getElem?_cons_zero, List.getElem?_cons_succ] at y0 y1 y2 y3 y4
    clear H3 N4 b4 b5 A5 b45 S H5
    by_cases e2 : n ≤ fl
    · go_wp2
      clear x0 x1 x2 p0 p1 c0 y0 y1 y2 y3 y4 f0 f1 f2 f3 f4
      generalize ((((((W4.alloc (.cells #[.int .i64 q, .int .i64 fy, .string fz] 75)).setCell ⟨w.heap.size, 0, none⟩ (.int .i64 0)).setCell ⟨w.heap.size, 1, none⟩ (.int .i64 0)).setCell ⟨w.heap.size, 2, none⟩ (.int .i64 0)).setCell ⟨w.heap.size, 3, none⟩ (.int .i64 0)).setCell ⟨w.heap.size, 4, none⟩ (.slice none 0 0)) = wf at *
      have y0 := blk_at G.out.1 0
      have y1 := blk_at G.out.1 1
      have y2 := blk_at G.out.1 2
      have y3 := blk_at G.out.1 3
      have y4 := blk_at G.out.1 4
      simp only [List.getElem?_cons_zero, List.getElem?_cons_succ] at y0 y1 y2 y3 y4
      refine bodyPost_ret (v := .tuple #[.int .i64 2, zeroR]) (by simp [zeroR, results, Try.results14, go_sem, y0, y1, y2, y3, y4]) rfl ?_
      exact ⟨rfl, G.out.2⟩
    · go_wp2
      clear x0 x1 x2 p0 p1 c0 y0 y1 y2 y3 y4 f0 f1 f2 f3 f4
      generalize ((((((W4.alloc (.cells #[.int .i64 q, .int .i64 fy, .string fz] 75)).setCell ⟨w.heap.size, 0, none⟩ (.int .i64 0)).setCell ⟨w.heap.size, 1, none⟩ (.int .i64 0)).setCell ⟨w.heap.size, 2, none⟩ (.int .i64 0)).setCell ⟨w.heap.size, 3, none⟩ (.int .i64 0)).setCell ⟨w.heap.size, 4, none⟩ (.slice none 0 0)) = wf at *
      have y0 := blk_at G.out.1 0
      have y1 := blk_at G.out.1 1
      have y2 := blk_at G.out.1 2
      have y3 := blk_at G.out.1 3
      have y4 := blk_at G.out.1 4
      simp only [List.getElem?_cons_zero, List.getElem?_cons_succ] at y0 y1 y2 y3 y4
      refine bodyPost_ret (v := .tuple #[.int .i64 0, zeroR]) (by simp [zeroR, results, Try.results14, go_sem, y0, y1, y2, y3, y4]) rfl ?_
      exact ⟨rfl, G.out.2⟩
  · go_wp2_with fail
    refine (Calls.mono N4.out) ?_
    rintro r W4 ⟨rfl, b4⟩
    have b5 : Below W4.heap.size W4 (W4.alloc (.cells #[.int .i64 fx, .int .i64 fy, .string fz] 75)) := (Below.refl _ _).alloc (Nat.le_refl _) _
    have A5 := Blk.new' W4 75 [.int .i64 fx, .int .i64 fy, .string fz]
    have b45 := below_then b4 b5
    have H5 : Hid (Below w.heap.size w (W4.alloc (.cells #[.int .i64 fx, .int .i64 fy, .string fz] 75)) ∧ Blk (W4.alloc (.cells #[.int .i64 fx, .int .i64 fy, .string fz] 75)) w.heap.size 24 [.int .i64 0, .int .i64 0, .int .i64 0, .int .i64 0, .slice none 0 0] ∧ Blk (W4.alloc (.cells #[.int .i64 fx, .int .i64 fy, .string fz] 75)) (w.heap.size + 1) 64 [.int .i64 q, .int .i64 n] ∧ MemAt (W4.alloc (.cells #[.int .i64 fx, .int .i64 fy, .string fz] 75)) g q fl v l) := ⟨below_then H3.out.1 b45, H3.out.2.1.laterB b45, H3.out.2.2.1.laterB b45, H3.out.2.2.2.later b45⟩
    have x0 := blk_at A5 0
    have x1 := blk_at A5 1
    have x2 := blk_at A5 2
    have p0 := blk_at H5.out.2.2.1 0
    have p1 := blk_at H5.out.2.2.1 1
    simp only [List.getElem?_cons_zero, List.getElem?_cons_succ] at x0 x1 x2 p0 p1
    have c0 := H5.out.2.2.2.floor
    have S := set5_below H5.out.2.1 rfl (.int .i64 0) (.int .i64 0) (.int .i64 0) (.int .i64 0) (.slice none 0 0) w.heap.size w H5.out.1 (Nat.le_refl _) H5.out.1.size
    have G : Hid _ := And.intro S.1 S.2.2
    have y0 := blk_at H5.out.2.1 0
    have f0 := H5.out.2.1.frozen (by simp [maxLen]) 0
    have y1 := blk_at H5.out.2.1 1
    have f1 := H5.out.2.1.frozen (by simp [maxLen]) 1
    have y2 := blk_at H5.out.2.1 2
    have f2 := H5.out.2.1.frozen (by simp [maxLen]) 2
    have y3 := blk_at H5.out.2.1 3
    have f3 := H5.out.2.1.frozen (by simp [maxLen]) 3
    have y4 := blk_at H5.out.2.1 4
    have f4 := H5.out.2.1.frozen (by simp [maxLen]) 4
    simp only [List.getElem?_cons_zero, List.getElem?_cons_succ] at y0 y1 y2 y3 y4
    clear H3 N4 b4 b5 A5 b45 S H5
    by_cases e2 : n ≤ fl
    · go_wp2
      clear x0 x1 x2 p0 p1 c0 y0 y1 y2 y3 y4 f0 f1 f2 f3 f4
      generalize ((((((W4.alloc (.cells #[.int .i64 fx, .int .i64 fy, .string fz] 75)).setCell ⟨w.heap.size, 0, none⟩ (.int .i64 0)).setCell ⟨w.heap.size, 1, none⟩ (.int .i64 0)).setCell ⟨w.heap.size, 2, none⟩ (.int .i64 0)).setCell ⟨w.heap.size, 3, none⟩ (.int .i64 0)).setCell ⟨w.heap.size, 4, none⟩ (.slice none 0 0)) = wf at *
      have y0 := blk_at G.out.1 0
      have y1 := blk_at G.out.1 1
      have y2 := blk_at G.out.1 2
      have y3 := blk_at G.out.1 3
      have y4 := blk_at G.out.1 4
      simp only [List.getElem?_cons_zero, List.getElem?_cons_succ] at y0 y1 y2 y3 y4
      refine bodyPost_ret (v := .tuple #[.int .i64 2, zeroR]) (by simp [zeroR, results, Try.results14, go_sem, y0, y1, y2, y3, y4]) rfl ?_
      exact ⟨rfl, G.out.2⟩
    · go_wp2
      clear x0 x1 x2 p0 p1 c0 y0 y1 y2 y3 y4 f0 f1 f2 f3 f4
      generalize ((((((W4.alloc (.cells #[.int .i64 fx, .int .i64 fy, .string fz] 75)).setCell ⟨w.heap.size, 0, none⟩ (.int .i64 0)).setCell ⟨w.heap.size, 1, none⟩ (.int .i64 0)).setCell ⟨w.heap.size, 2, none⟩ (.int .i64 0)).setCell ⟨w.heap.size, 3, none⟩ (.int .i64 0)).setCell ⟨w.heap.size, 4, none⟩ (.slice none 0 0)) = wf at *
      have y0 := blk_at G.out.1 0
      have y1 := blk_at G.out.1 1
      have y2 := blk_at G.out.1 2
      have y3 := blk_at G.out.1 3
      have y4 := blk_at G.out.1 4
      simp only [List.getElem?_cons_zero, List.getElem?_cons_succ] at y0 y1 y2 y3 y4
      refine bodyPost_ret (v := .tuple #[.int .i64 0, zeroR]) (by simp [zeroR, results, Try.results14, go_sem, y0, y1, y2, y3, y4]) rfl ?_
      exact ⟨rfl, G.out.2⟩
end Go.Proofs.Ytfhcifkbkeihhaa

