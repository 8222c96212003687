/- The calls that only tell. -/
import Derived.Test.YtjokohjdpickoaaXRv11
namespace Go.Proofs.Ytjokohjdpickoaa
open Go.RowKit Go.Shelf
set_option linter.unusedVariables false
set_option linter.unusedSimpArgs false
set_option maxRecDepth 4000

def keyM (m : Rs) (n : Int) : Int := if nxB n = true then m.ks.getD n.toNat 0 else 0
def fenM (m : Rs) (n : Int) : Bool := if nxB n = true then m.f.getD n.toNat false else false
theorem keyM_any (g : Nat) (m : Rs) (n : Int) (w : World) (h : (rv g m).Ok w) : Calls Try.prog 11 #[.pointer (some ⟨g, 0, none⟩), .int .i64 n] w fun e w' => e = .returned (.int .u64 (keyM m n)) ∧ w = w' := by
  obtain ⟨hB, hW⟩ := h.holds
  have HN : Hid _ := isNx_any n w
  cases hn : nxB n with
  | false =>
    rw [hn] at HN
    have H0 : keyM m n = 0 := by unfold keyM; rw [hn]; rfl
    have H : Hid _ := H0
    clear H0 h hB hW
    go_enter Try.func11, Try.ntmps11
    go_wp2_with fail
    refine (Calls.mono HN.out) ?_
    rintro e _ ⟨rfl, rfl⟩
    go_wp2
    go_ret
    exact ⟨by rw [H.out]; rfl, rfl⟩
  | true =>
    rw [hn] at HN
    have hn' : 0 ≤ n ∧ n < 16 := of_decide_eq_true hn
    obtain ⟨i, rfl⟩ : ∃ i : Nat, n = i := ⟨n.toNat, by omega⟩
    have q : (i : Int) < 16 := by omega
    have c := hW.key hB i (by omega)
    have H0 : keyM m i = m.ks.getD i 0 := by unfold keyM; rw [hn, Int.toNat_natCast]; rfl
    have H : Hid _ := H0
    clear H0 h hB hW
    rw [← H.out] at c
    generalize keyM m i = x at *
    go_enter Try.func11, Try.ntmps11
    go_wp2_with fail
    refine (Calls.mono HN.out) ?_
    rintro e _ ⟨rfl, rfl⟩
    go_wp2
    go_ret
    exact ⟨rfl, rfl⟩
theorem fenM_any (g : Nat) (m : Rs) (n : Int) (w : World) (h : (rv g m).Ok w) : Calls Try.prog 13 #[.pointer (some ⟨g, 0, none⟩), .int .i64 n] w fun e w' => e = .returned (.bool (fenM m n)) ∧ w = w' := by
  obtain ⟨hB, hW⟩ := h.holds
  have HN : Hid _ := isNx_any n w
  cases hn : nxB n with
  | false =>
    rw [hn] at HN
    have H0 : fenM m n = false := by unfold fenM; rw [hn]; rfl
    have H : Hid _ := H0
    clear H0 h hB hW
    go_enter Try.func13, Try.ntmps13
    go_wp2_with fail
    refine (Calls.mono HN.out) ?_
    rintro e _ ⟨rfl, rfl⟩
    go_wp2
    go_ret
    exact ⟨by rw [H.out]; rfl, rfl⟩
  | true =>
    rw [hn] at HN
    have hn' : 0 ≤ n ∧ n < 16 := of_decide_eq_true hn
    obtain ⟨i, rfl⟩ : ∃ i : Nat, n = i := ⟨n.toNat, by omega⟩
    have q : (i : Int) < 16 := by omega
    have c := hW.flag hB i (by omega)
    have H0 : fenM m i = m.f.getD i false := by unfold fenM; rw [hn, Int.toNat_natCast]; rfl
    have H : Hid _ := H0
    clear H0 h hB hW
    rw [← H.out] at c
    generalize fenM m i = x at *
    go_enter Try.func13, Try.ntmps13
    go_wp2_with fail
    refine (Calls.mono HN.out) ?_
    rintro e _ ⟨rfl, rfl⟩
    go_wp2
    go_ret
    exact ⟨rfl, rfl⟩
theorem gen_any (g : Nat) (m : Rs) (w : World) (h : (rv g m).Ok w) : Calls Try.prog 19 #[.pointer (some ⟨g, 0, none⟩)] w fun e w' => e = .returned (.int .i64 m.gen) ∧ w = w' := by
  obtain ⟨hB, hW⟩ := h.holds
  have y0 := blk_at hB 0
  simp only [rsC, List.getElem?_cons_zero, List.getElem?_cons_succ] at y0
  have hg := hW.gg
  clear h hB hW
  generalize m.gen = x at *
  go_enter Try.func19, Try.ntmps19
  go_wp2
  go_ret
  exact ⟨by go_num, rfl⟩
def holM (m : Rs) : Int × Int := if m.k = 0 then (-1, 0) else (m.h, m.k)
theorem holder_any (g : Nat) (m : Rs) (w : World) (h : (rv g m).Ok w) : Calls Try.prog 15 #[.pointer (some ⟨g, 0, none⟩)] w fun e w' => e = .returned (.tuple #[.int .i64 (holM m).1, .int .i64 (holM m).2]) ∧ Below w.heap.size w w' := by
  obtain ⟨hB, hW⟩ := h.holds
  have y1 := blk_at hB 1
  have y2 := blk_at hB 2
  simp only [rsC, List.getElem?_cons_zero, List.getElem?_cons_succ] at y1 y2
  clear h hB hW
  by_cases hk : m.k = 0
  · have H0 : holM m = (-1, 0) := by unfold holM; rw [if_pos hk]
    have H : Hid _ := H0
    rw [hk] at y2
    clear H0
    go_enter Try.func15, Try.ntmps15
    go_wp2
    go_ret2
    exact ⟨by rw [H.out]; rfl, Below.refl _ _⟩
  · have H0 : holM m = (m.h, m.k) := by unfold holM; rw [if_neg hk]
    have H : Hid _ := H0
    have hk' : (m.k == 0) = false := by rw [beq_eq_false_iff_ne]; exact hk
    clear H0
    generalize m.k = k at *
    generalize m.h = hh at *
    go_enter Try.func15, Try.ntmps15
    go_wp2_with fail
    go_quiet (fail)
    go_wp2
    go_ret2
    exact ⟨by rw [H.out]; rfl, dnr _ _ _⟩
theorem rnew_any (w : World) : Calls Try.prog 8 #[] w fun e w' => e = .returned (.pointer (some ⟨w.heap.size, 0, none⟩)) ∧ (rv w.heap.size ⟨0, 0, 0, List.replicate 16 false, z16⟩).Ok w' ∧ Below w.heap.size w w' := by
  have b1 : Below w.heap.size w (w.alloc (.cells (rsC ⟨0, 0, 0, List.replicate 16 false, z16⟩).toArray 63)) := (Below.refl _ _).alloc (Nat.le_refl _) _
  have B1 := Blk.new' w 63 (rsC ⟨0, 0, 0, List.replicate 16 false, z16⟩)
  have F : Hid _ := And.intro (rv_ok B1 ⟨rfl, rfl, by decide, by decide, by decide, fun i => by
    show 0 ≤ z16.getD i 0 ∧ z16.getD i 0 < _
    rcases Nat.lt_or_ge i 16 with h | h
    · have : ∀ j : Fin 16, z16.getD j.val 0 = 0 := by decide
      rw [this ⟨i, h⟩]; omega
    · rw [List.getD, List.getElem?_eq_none (by simpa [z16] using h)]; simp⟩) b1
  clear b1 B1
  go_enter Try.func8, Try.ntmps8
  go_wp2
  go_ret
  exact ⟨rfl, F.out.1, F.out.2⟩
end Go.Proofs.Ytjokohjdpickoaa

