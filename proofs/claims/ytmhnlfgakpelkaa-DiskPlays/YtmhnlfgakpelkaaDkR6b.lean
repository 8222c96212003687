/- The document's disk: a flush that goes well. -/
import Derived.Test.YtmhnlfgakpelkaaDkR6
namespace Go.Proofs.Ytmhnlfgakpelkaa
open Go.RowKit
set_option linter.unusedVariables false

set_option maxRecDepth 4000 in
set_option maxHeartbeats 2000000 in
theorem rFlush_ok (g : Nat) (q r : Option Nat) (V : List Nat) (d : Dm) (w : World) (h : (rdk g q r V d).Ok w) (hw : d.Wf) (hgs : d.gs.length ≤ 1000000) (hd : d.gone = false) (hb : d.bad = false) :
    Calls Try.prog 34 #[.pointer (some ⟨g, 0, none⟩)] w fun e w' => ∃ q' V', e = .returned (.int .i64 0) ∧ Step w w' (rdk g q r V d) (rdk g q' none V' ⟨nowOf d.safe d.gs, [], false, false⟩) := by
  obtain ⟨c3, c4, f⟩ := rdk_cells h.holds
  have f0 := f 0
  have f1 := f 1
  rw [hd] at c4
  rw [hb] at c3
  obtain ⟨hn, sv0, lv, S, vs0, ls, hq, hr, hD⟩ := h.holds
  have c0 := hD.blk.cell (by simp [maxLen]) 0 (by simp)
  have c1 := hD.blk.cell (by simp [maxLen]) 1 (by simp)
  simp only [List.getElem?_cons_succ, List.getElem?_cons_zero] at c0 c1
  obtain ⟨e1, e2, e3⟩ := hw.len
  have hl : Hid _ := hw.now.trans e1
  have e1' : Hid _ := e1
  have lg := hD.blk.lt
  have HN : Hid _ := rNow_any g q r V d w h hw hgs
  have H0 : Hid _ := And.intro h (And.intro hd hb)
  clear h hw hD hn hq hr hd hb f e1
  generalize nowOf d.safe d.gs = L at *
  go_enter Try.func34, Try.ntmps34
  go_wp2_with fail
  refine (Calls.mono HN.out) ?_
  rintro e w1 ⟨v, rfl, ho, b1⟩
  obtain ⟨m, cm, rfl, -, -⟩ := ho.some (by have := hl.out; omega)
  obtain ⟨a, cap, hv, hle, hm, hrow, hnn, hg⟩ := ho.open
  simp only [Value.slice.injEq] at hv
  obtain ⟨rfl, -, rfl⟩ := hv
  have HS : Hid _ := rsectors_any (some ⟨m, 0, none⟩) _ cm L w1 rfl hle (by have := hl.out; omega) hrow
  have HB : Hid _ := b1
  clear ho hrow hnn hg b1 HN
  go_wp2_with fail
  refine (Calls.mono HS.out) ?_
  rintro e w2 ⟨v2, V2, rfl, ok2, hnew, b2⟩
  have b12 := below_then HB.out b2
  obtain ⟨qa, qc, rfl⟩ : ∃ qa qc, v2 = .slice qa _ qc := by obtain ⟨vs, h, _⟩ := ok2.holds; exact own_form h
  have x0 := cell_later b12 c0
  have x1 := cell_later b12 c1
  have y0 : w2.frozen? ⟨g, 0, none⟩ = false := by rw [World.frozen?_of_block (w := w) (b12.block g lg)]; exact f0
  have y1 : w2.frozen? ⟨g, 1, none⟩ = false := by rw [World.frozen?_of_block (w := w) (b12.block g lg)]; exact f1
  have F : Hid _ := rflush_step (n := d.n) H0.out.1 H0.out.2.1 H0.out.2.2 hl.out b12 ok2 (fun k hk => Nat.le_trans HB.out.size (hnew k hk))
  clear ok2 hnew b2 b12 HS HB H0 c0 c1 c3 c4 f0 f1
  go_wp2
  go_ret
  exact ⟨_, _, rfl, F.out⟩
theorem rFlush_any (g : Nat) (q r : Option Nat) (V : List Nat) (d : Dm) (w : World) (h : (rdk g q r V d).Ok w) (hw : d.Wf) (hgs : d.gs.length ≤ 1000000) :
    Calls Try.prog 34 #[.pointer (some ⟨g, 0, none⟩)] w fun e w' => ∃ q' r' V', e = .returned (.int .i64 (flD d).2) ∧ Step w w' (rdk g q r V d) (rdk g q' r' V' (flD d).1) := by
  cases hd : d.gone with
  | true =>
    have e : flD d = (d, 21) := by unfold flD; rw [if_pos hd]
    rw [e]
    refine (rFlush_dead g q r V d w h hd).mono ?_
    rintro e w' ⟨rfl, rfl⟩
    exact ⟨q, r, V, rfl, Step.refl h⟩
  | false =>
    cases hb : d.bad with
    | true =>
      have e : flD d = ({ d with gone := true }, 20) := by unfold flD; rw [hd, hb]; rfl
      rw [e]
      refine (rFlush_bad g q r V d w h hd hb).mono ?_
      rintro e w' ⟨rfl, st⟩
      exact ⟨q, r, V, rfl, st⟩
    | false =>
      have e : flD d = (⟨nowOf d.safe d.gs, [], false, false⟩, 0) := by unfold flD; rw [hd, hb]; rfl
      rw [e]
      refine (rFlush_ok g q r V d w h hw hgs hd hb).mono ?_
      rintro e w' ⟨q', V', rfl, st⟩
      exact ⟨q', none, V', rfl, st⟩
end Go.Proofs.Ytmhnlfgakpelkaa
