/- The first answer from a number on. -/
import Derived.Test.YtkcbbaanlkpeiaaXDd1
import Derived.Test.YtkcbbaanlkpeiaaXWo5
namespace Go.Proofs.Ytkcbbaanlkpeiaa
open Go.RowKit
set_option linter.unusedVariables false
set_option linter.unusedSimpArgs false
set_option maxRecDepth 4000

theorem ddslot_any (g o : Nat) (v : Value) (l : List An) (n : Int) (w : World) (hc : w.cell? ⟨g, o, none⟩ = some v) (ho : AOwn w v l) (hr : Rise l) (hl : l.length ≤ 1000) :
    Calls Try.prog 70 #[.pointer (some ⟨g, o, none⟩), .int .i64 n] w fun e w' => (∃ i : Nat, e = .returned (.int .i64 i) ∧ SlotIs l n i) ∧ Below w.heap.size w w' := by
  have HS : Hid _ := search_any v l n w ho hr hl
  obtain ⟨va, vc, rfl, -, -⟩ := ho.open
  clear ho hr
  go_enter Try.func70, Try.ntmps70
  go_wp2_with fail
  refine (Calls.mono HS.out) ?_
  rintro e w1 ⟨⟨i, b, rfl, hi⟩, b1⟩
  have F : Hid _ := And.intro hi b1
  clear hi b1 HS
  go_wp2
  go_ret
  first | exact ⟨⟨i, rfl, F.out.1⟩, F.out.2⟩ | exact ⟨F.out.1, F.out.2⟩
/-- the first answer whose number is not below n; nothing, if there is none -/
def fromOf (l : List An) (n : Int) : An := (l.find? (fun a => decide (n ≤ a.2.1))).getD (0, 0, (ByteArray.mk #[]))
theorem from_slot {l : List An} {n : Int} {i : Nat} (h : SlotIs l n i) : fromOf l n = (l[i]?).getD (0, 0, (ByteArray.mk #[])) := by
  unfold fromOf
  congr 1
  induction l generalizing i with
  | nil => simp
  | cons z l ih =>
    rw [List.find?_cons]
    cases i with
    | zero =>
      have := h.hi 0 (by simp) (Nat.le_refl _)
      simp at this
      simp [this]
    | succ i =>
      have h0 := h.lo 0 (by simp) (by omega)
      simp at h0
      have hn : ¬ n ≤ z.2.1 := by omega
      simp [hn]
      refine ih ⟨by have := h.le; simp at this; exact this, fun k hk hki => ?_, fun k hk hki => ?_⟩
      · have := h.lo (k + 1) (by simp; omega) (by omega); simpa using this
      · have := h.hi (k + 1) (by simp; omega) (by omega); simpa using this
set_option maxHeartbeats 1000000 in
theorem ddfrom_any (g o : Nat) (v : Value) (l : List An) (n : Int) (w : World) (hc : w.cell? ⟨g, o, none⟩ = some v) (ho : AOwn w v l) (hr : Rise l) (hl : l.length ≤ 1000) :
    Calls Try.prog 50 #[.pointer (some ⟨g, o, none⟩), .int .i64 n] w fun e w' => e = .returned (.agg #[.int .i64 (fromOf l n).1, .int .i64 (fromOf l n).2.1, .string (fromOf l n).2.2]) ∧ Below w.heap.size w w' := by
  have b0 : Below w.heap.size w (w.alloc (.cells #[.int .i64 0, .int .i64 0, .string (ByteArray.mk #[])] 90)) := (Below.refl _ _).alloc (Nat.le_refl _) _
  have B0 := Blk.new' w 90 [.int .i64 0, .int .i64 0, .string (ByteArray.mk #[])]
  have hc0 := cell_later b0 hc
  have HS : Hid _ := ddslot_any g o v l n _ hc0 (ho.later b0) hr hl
  have HO : Hid _ := And.intro ho (And.intro b0 B0)
  obtain ⟨va, vc, rfl, hvc, -⟩ := ho.open
  clear ho hr b0 B0 hc
  go_enter Try.func50, Try.ntmps50
  go_wp2_with fail
  generalize w.alloc (.cells #[.int .i64 0, .int .i64 0, .string (ByteArray.mk #[])] 90) = w1 at *
  refine (Calls.mono HS.out) ?_
  rintro e w2 ⟨⟨i, rfl, hi⟩, b2⟩
  have hf := from_slot hi
  have hc2 := cell_later b2 hc0
  obtain ⟨ho, b0, B0⟩ := HO.out
  have bb := below_then b0 b2
  have B2 := B0.laterB b2
  obtain ⟨va', vc', hv', -, hcs⟩ := (ho.later bb).open
  cases hv'
  by_cases hil : i < l.length
  · obtain ⟨b, rfl, -, k1, k2, k3⟩ := hcs i hil
    rw [List.getElem?_eq_getElem hil, Option.getD_some] at hf
    have q1 : (i : Int) < l.length := by omega
    have r0 := blk_at B2 0
    have r1 := blk_at B2 1
    have r2 := blk_at B2 2
    have f0 := blk_frozen B2 0
    have f1 := blk_frozen B2 1
    have f2 := blk_frozen B2 2
    simp only [List.getElem?_cons_zero, List.getElem?_cons_succ] at r0 r1 r2
    have R3 := ((B2.set 0 (.int .i64 l[i].1)).set 1 (.int .i64 l[i].2.1)).set 2 (.string l[i].2.2)
    simp only [List.set_cons_zero, List.set_cons_succ] at R3
    have b4 : Below w.heap.size w (((w2.setCell ⟨w.heap.size, 0, none⟩ (.int .i64 l[i].1)).setCell ⟨w.heap.size, 1, none⟩ (.int .i64 l[i].2.1)).setCell ⟨w.heap.size, 2, none⟩ (.string l[i].2.2)) := ((bb.setCell (p := ⟨w.heap.size, 0, none⟩) (by simp) _).setCell (p := ⟨w.heap.size, 1, none⟩) (by simp) _).setCell (p := ⟨w.heap.size, 2, none⟩) (by simp) _
    have HF : Hid _ := And.intro hf (And.intro R3 b4)
    generalize h1 : l[i].1 = y1 at *
    generalize h2 : l[i].2.1 = y2 at *
    generalize h3 : l[i].2.2 = y3 at *
    have HE : Hid _ := And.intro h1 (And.intro h2 h3)
    clear h1 h2 h3
    clear hf R3 b4 B2 B0 bb b0 b2 ho hcs hi HO HS
    go_wp2_with fail
    generalize ((w2.setCell ⟨w.heap.size, 0, none⟩ (.int .i64 y1)).setCell ⟨w.heap.size, 1, none⟩ (.int .i64 y2)).setCell ⟨w.heap.size, 2, none⟩ (.string y3) = V at *
    have z0 := blk_at HF.out.2.1 0
    have z1 := blk_at HF.out.2.1 1
    have z2 := blk_at HF.out.2.1 2
    simp only [List.getElem?_cons_zero, List.getElem?_cons_succ] at z0 z1 z2
    refine bodyPost_ret (v := .agg #[.int .i64 y1, .int .i64 y2, .string y3]) (by simp [results, Try.results50, go_sem, z0, z1, z2]) rfl ?_
    exact ⟨by rw [HF.out.1, HE.out.1, HE.out.2.1, HE.out.2.2], HF.out.2.2⟩
  · have q1 : ¬ (i : Int) < l.length := by omega
    rw [List.getElem?_eq_none (by omega), Option.getD_none] at hf
    have bn : Below w2.heap.size w2 (w2.alloc (.cells #[.int .i64 0, .int .i64 0, .string (ByteArray.mk #[])] 90)) := (Below.refl _ _).alloc (Nat.le_refl _) _
    have B3 := B2.laterB bn
    have bb3 := below_then bb bn
    have r0 := blk_at B3 0
    have r1 := blk_at B3 1
    have r2 := blk_at B3 2
    have f0 := blk_frozen B3 0
    have f1 := blk_frozen B3 1
    have f2 := blk_frozen B3 2
    simp only [List.getElem?_cons_zero, List.getElem?_cons_succ] at r0 r1 r2
    have R3 := ((B3.set 0 (.int .i64 0)).set 1 (.int .i64 0)).set 2 (.string (ByteArray.mk #[]))
    simp only [List.set_cons_zero, List.set_cons_succ] at R3
    have b4 := ((bb3.setCell (p := ⟨w.heap.size, 0, none⟩) (by simp) (.int .i64 0)).setCell (p := ⟨w.heap.size, 1, none⟩) (by simp) (.int .i64 0)).setCell (p := ⟨w.heap.size, 2, none⟩) (by simp) (.string (ByteArray.mk #[]))
    have HF : Hid _ := And.intro hf (And.intro R3 b4)
    clear hf R3 b4 B2 B0 bb b0 b2 ho hcs hi HO HS B3 bb3 bn
    go_wp2_with fail
    generalize (((w2.alloc (.cells #[.int .i64 0, .int .i64 0, .string (ByteArray.mk #[])] 90)).setCell ⟨w.heap.size, 0, none⟩ (.int .i64 0)).setCell ⟨w.heap.size, 1, none⟩ (.int .i64 0)).setCell ⟨w.heap.size, 2, none⟩ (.string (ByteArray.mk #[])) = V at *
    have z0 := blk_at HF.out.2.1 0
    have z1 := blk_at HF.out.2.1 1
    have z2 := blk_at HF.out.2.1 2
    simp only [List.getElem?_cons_zero, List.getElem?_cons_succ] at z0 z1 z2
    refine bodyPost_ret (v := .agg #[.int .i64 0, .int .i64 0, .string (ByteArray.mk #[])]) (by simp [results, Try.results50, go_sem, z0, z1, z2]) rfl ?_
    exact ⟨by rw [HF.out.1], HF.out.2.2⟩
/-- a place that can be -/
def canP (a b : Int) : Bool := decide (0 ≤ a) && (decide (a < 16) && (decide (1 ≤ b) && decide (b ≤ 1152921504606846976)))
theorem isNexus_any (n : Int) (w : World) : Calls Try.prog 49 #[.int .i64 n] w fun e w' => e = .returned (.bool (decide (0 ≤ n ∧ n < 16))) ∧ w = w' := by
  by_cases h1 : 0 ≤ n
  · by_cases h2 : n < 16
    · rw [decide_eq_true ⟨h1, h2⟩]
      go_enter Try.func49, Try.ntmps49
      go_wp2
      go_ret
      exact ⟨rfl, rfl⟩
    · rw [decide_eq_false (fun e => h2 e.2)]
      go_enter Try.func49, Try.ntmps49
      go_wp2
      go_ret
      exact ⟨rfl, rfl⟩
  · rw [decide_eq_false (fun e => h1 e.1)]
    go_enter Try.func49, Try.ntmps49
    go_wp2
    go_ret
    exact ⟨rfl, rfl⟩
set_option maxHeartbeats 400000 in
theorem canBe_any (a b : Int) (w : World) : Calls Try.prog 42 #[.agg #[.int .i64 a, .int .i64 b]] w fun e w' => e = .returned (.bool (canP a b)) ∧ Below w.heap.size w w' := by
  have bn : Below w.heap.size w (w.alloc (.cells #[.int .i64 a, .int .i64 b] 88)) := (Below.refl _ _).alloc (Nat.le_refl _) _
  have N := Blk.new' w 88 [.int .i64 a, .int .i64 b]
  have n0 := blk_at N 0
  have n1 := blk_at N 1
  simp only [List.getElem?_cons_zero, List.getElem?_cons_succ] at n0 n1
  have HN : Hid _ := isNexus_any a (w.alloc (.cells #[.int .i64 a, .int .i64 b] 88))
  have HB : Hid _ := bn
  clear bn N
  by_cases h1 : 0 ≤ a ∧ a < 16
  · rw [decide_eq_true h1] at HN
    by_cases h2 : 1 ≤ b
    · by_cases h3 : b ≤ 1152921504606846976
      · have e : canP a b = true := by simp [canP, h1.1, h1.2, h2, h3]
        rw [e]
        clear e h1
        go_enter Try.func42, Try.ntmps42
        go_wp2_with fail
        refine (Calls.mono HN.out) ?_
        rintro e w1 ⟨rfl, rfl⟩
        go_wp2
        go_ret
        exact ⟨rfl, HB.out⟩
      · have e : canP a b = false := by simp [canP, h3]
        have e3 : Hid (decide (b ≤ 1152921504606846976) = false) := decide_eq_false h3
        rw [e]
        clear e h1
        go_enter Try.func42, Try.ntmps42
        go_wp2_with fail
        refine (Calls.mono HN.out) ?_
        rintro e w1 ⟨rfl, rfl⟩
        go_wp2
        go_ret
        exact ⟨by rw [e3.out]; rfl, HB.out⟩
    · have e : canP a b = false := by simp [canP, h2]
      rw [e]
      clear e h1
      go_enter Try.func42, Try.ntmps42
      go_wp2_with fail
      refine (Calls.mono HN.out) ?_
      rintro e w1 ⟨rfl, rfl⟩
      go_wp2
      go_ret
      exact ⟨rfl, HB.out⟩
  · rw [decide_eq_false h1] at HN
    have e : canP a b = false := by
      unfold canP
      by_cases h0 : 0 ≤ a
      · have : ¬ a < 16 := fun e => h1 ⟨h0, e⟩
        simp [this]
      · simp [h0]
    rw [e]
    clear e h1
    go_enter Try.func42, Try.ntmps42
    go_wp2_with fail
    refine (Calls.mono HN.out) ?_
    rintro e w1 ⟨rfl, rfl⟩
    go_wp2
    go_ret
    exact ⟨rfl, HB.out⟩
end Go.Proofs.Ytkcbbaanlkpeiaa

