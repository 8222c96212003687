/- The document's disk: any call. -/
import Derived.Test.YtmhnlfgakpelkaaDkR8
namespace Go.Proofs.Ytmhnlfgakpelkaa
open Go.RowKit
set_option linter.unusedVariables false

theorem rdk_some {g : Nat} {q r : Option Nat} {V : List Nat} {d : Dm} {w : World} (h : (rdk g q r V d).Ok w) (hw : d.Wf) : ∃ qb, q = some qb := by
  obtain ⟨hn, sv, lv, S, vs, ls, hq, hr, hD⟩ := h.holds
  have hc := hD.count hw
  have := hw.len
  obtain ⟨_, ⟨h1, h2⟩ | ⟨gq, capq, cur, h1, _, h3, h2, _⟩⟩ := hD.safe
  · omega
  · rw [h1] at hq; exact ⟨gq, by rw [← hq]; rfl⟩
theorem rCrash_any (g : Nat) (q r : Option Nat) (V : List Nat) (d : Dm) (ka : Option Addr) (kcap : Nat) (kl : List Int) (w : World) (h : (rdk g q r V d).Ok w) (hw : d.Wf) (hgs : d.gs.length ≤ 1000000) (hkl : kl.length ≤ 140737488355328) (hkc : kl.length ≤ kcap) (hI : IRow w ka kl) (hkn : kl ≠ [] → ∀ y, ka = some y → y.block ∉ (rdk g q r V d).W) :
    Calls Try.prog 35 #[.pointer (some ⟨g, 0, none⟩), .slice ka kl.length kcap] w fun e w' => e = .returned (.tuple #[]) ∧ Step w w' (rdk g q r V d) (rdk g q none V ⟨crashed d.safe d.gs kl, [], false, false⟩) := by
  obtain ⟨qb, rfl⟩ := rdk_some h hw
  exact rCrash_some g qb r V d ka kcap kl w h hw hgs hkl hkc hI (fun e y hy hb => hkn e y hy (by simp [rdk, hb]))

set_option maxHeartbeats 1000000 in
theorem rDo_other (g : Nat) (q r : Option Nat) (V : List Nat) (d : Dm) (k n : Int) (bv lv : Value) (w : World) (h : (rdk g q r V d).Ok w) (h0 : k ≠ 0) (h1 : k ≠ 1) (h2 : k ≠ 2) (h3 : k ≠ 3) (h4 : k ≠ 4) :
    Calls Try.prog 16 #[.pointer (some ⟨g, 0, none⟩), .agg #[.int .i64 k, .int .i64 n, bv, lv]] w fun e w' => e = .returned (.int .i64 0) ∧ Step w w' (rdk g q r V d) (rdk g q r V d) := by
  obtain ⟨S0, S1, S2, S3⟩ := op_box w (.int .i64 k) (.int .i64 n) bv lv 44
  have b0 : Below w.heap.size w (w.alloc (.cells #[.int .i64 k, .int .i64 n, bv, lv] 44)) := (Below.refl _ _).alloc (Nat.le_refl _) _
  have q0 : (k == 0) = false := by simpa using h0
  have q1 : (k == 1) = false := by simpa using h1
  have q2 : (k == 2) = false := by simpa using h2
  have q3 : (k == 3) = false := by simpa using h3
  have q4 : (k == 4) = false := by simpa using h4
  have F : Hid _ := Step.quiet h b0
  clear h b0 h0 h1 h2 h3 h4
  go_enter Try.func16, Try.ntmps16
  go_wp2
  go_ret
  exact ⟨rfl, F.out⟩
set_option maxHeartbeats 1000000 in
theorem rDo_flush (g : Nat) (q r : Option Nat) (V : List Nat) (d : Dm) (n : Int) (bv lv : Value) (w : World) (h : (rdk g q r V d).Ok w) (hw : d.Wf) (hgs : d.gs.length ≤ 1000000) :
    Calls Try.prog 16 #[.pointer (some ⟨g, 0, none⟩), .agg #[.int .i64 2, .int .i64 n, bv, lv]] w fun e w' => ∃ q' r' V', e = .returned (.int .i64 (flD d).2) ∧ Step w w' (rdk g q r V d) (rdk g q' r' V' (flD d).1) := by
  have b0 : Below w.heap.size w (w.alloc (.cells #[.int .i64 2, .int .i64 n, bv, lv] 44)) := (Below.refl _ _).alloc (Nat.le_refl _) _
  have HF : Hid _ := rFlush_any g q r V d _ (h.later b0) hw hgs
  have HB : Hid _ := Step.quiet h b0
  clear h b0 hw
  go_enter Try.func16, Try.ntmps16
  go_wp2_with (go_at_call 34; refine (Calls.mono HF.out) ?_; rintro e w2 ⟨q', r', V', rfl, st⟩)
  go_ret
  exact ⟨q', r', V', rfl, HB.out.trans st⟩
set_option maxHeartbeats 1000000 in
theorem rDo_fail (g : Nat) (q r : Option Nat) (V : List Nat) (d : Dm) (n : Int) (bv lv : Value) (w : World) (h : (rdk g q r V d).Ok w) :
    Calls Try.prog 16 #[.pointer (some ⟨g, 0, none⟩), .agg #[.int .i64 3, .int .i64 n, bv, lv]] w fun e w' => e = .returned (.int .i64 0) ∧ Step w w' (rdk g q r V d) (rdk g q r V { d with bad := true }) := by
  have b0 : Below w.heap.size w (w.alloc (.cells #[.int .i64 3, .int .i64 n, bv, lv] 44)) := (Below.refl _ _).alloc (Nat.le_refl _) _
  have S0 := op_box w (.int .i64 3) (.int .i64 n) bv lv 44
  have h1 := h.later b0
  obtain ⟨c3, c4, f⟩ := rdk_cells h1.holds
  have f2 := f 2
  have S := rdk_turn (d' := { d with bad := true }) (w' := (w.alloc (.cells #[.int .i64 3, .int .i64 n, bv, lv] 44)).setCell ⟨g, 2, none⟩ (.bool true)) h1 rfl rfl (fun x y hB => by simpa using hB.set 2 (.bool true)) (grown_set _ _ _ _)
  have HB : Hid _ := (Step.quiet h b0).trans S
  clear h b0 h1 S f c4
  go_enter Try.func16, Try.ntmps16
  go_wp2
  go_ret
  exact ⟨rfl, HB.out⟩
set_option maxHeartbeats 1000000 in
theorem rDo_crash (g : Nat) (q r : Option Nat) (V : List Nat) (d : Dm) (n : Int) (bv : Value) (ka : Option Addr) (len kcap : Nat) (kl : List Int) (w : World) (h : (rdk g q r V d).Ok w) (hw : d.Wf) (hgs : d.gs.length ≤ 1000000) (A : IArg 140737488351232 w ka len kcap kl) (hdis : kl ≠ [] → ∀ y, ka = some y → y.block ∉ (rdk g q r V d).W) :
    Calls Try.prog 16 #[.pointer (some ⟨g, 0, none⟩), .agg #[.int .i64 4, .int .i64 n, bv, .slice ka len kcap]] w fun e w' => e = .returned (.int .i64 0) ∧ Step w w' (rdk g q r V d) (rdk g q none V ⟨crashed d.safe d.gs kl, [], false, false⟩) := by
  have b0 : Below w.heap.size w (w.alloc (.cells #[.int .i64 4, .int .i64 n, bv, .slice ka len kcap] 44)) := (Below.refl _ _).alloc (Nat.le_refl _) _
  have hl := A.len_eq
  subst hl
  have HF : Hid _ := rCrash_any g q r V d ka kcap kl _ (h.later b0) hw hgs (by have := A.le; have := A.bound; omega) A.le (irow_later A.row b0) hdis
  have HB : Hid _ := Step.quiet h b0
  clear h b0 hw A hdis
  go_enter Try.func16, Try.ntmps16
  go_wp2_with (go_at_call 35; refine (Calls.mono HF.out) ?_; rintro e w2 ⟨rfl, st⟩)
  go_ret
  exact ⟨rfl, HB.out.trans st⟩
set_option maxHeartbeats 1000000 in
theorem rDo_write (g : Nat) (q r : Option Nat) (V : List Nat) (d : Dm) (k n : Int) (ab : Option Addr) (len cap : Nat) (lb : List (BitVec 8)) (lv : Value) (w : World) (h : (rdk g q r V d).Ok w) (hw : d.Wf) (hgs : d.gs.length ≤ 1000000) (hk : k = 0 ∨ k = 1) (hn : -9223372036854775808 ≤ n ∧ n ≤ 9223372036854775807) (A : Arg 140737488351232 w ab len cap lb) :
    Calls Try.prog 16 #[.pointer (some ⟨g, 0, none⟩), .agg #[.int .i64 k, .int .i64 n, .slice ab len cap, lv]] w fun e w' => ∃ q' r' V', e = .returned (.int .i64 (wrD d n lb).2) ∧ Step w w' (rdk g q r V d) (rdk g q' r' V' (wrD d n lb).1) := by
  have b0 : Below w.heap.size w (w.alloc (.cells #[.int .i64 k, .int .i64 n, .slice ab len cap, lv] 44)) := (Below.refl _ _).alloc (Nat.le_refl _) _
  obtain ⟨S0, S1, S2, S3⟩ := op_box w (.int .i64 k) (.int .i64 n) (.slice ab len cap) lv 44
  have HF : Hid _ := rWrite_any g q r V d n ab len cap lb _ (h.later b0) hw A.len_eq (A.row.later b0) A.le (by have := A.le; have := A.bound; omega) hn hgs
  have HB : Hid _ := Step.quiet h b0
  clear h b0 hw A
  rcases hk with rfl | rfl
  · go_enter Try.func16, Try.ntmps16
    go_wp2_with (go_at_call 33; refine (Calls.mono HF.out) ?_; rintro e w2 ⟨q', r', V', rfl, st⟩)
    go_ret
    exact ⟨q', r', V', rfl, HB.out.trans st⟩
  · go_enter Try.func16, Try.ntmps16
    go_wp2_with (go_at_call 33; refine (Calls.mono HF.out) ?_; rintro e w2 ⟨q', r', V', rfl, st⟩)
    go_ret
    exact ⟨q', r', V', rfl, HB.out.trans st⟩
/-- any call of the document's -/
theorem rDo_any (W0 : World) (g : Nat) (q r : Option Nat) (V : List Nat) (d : Dm) (k n : Int) (ab : Option Addr) (len cap : Nat) (lb : List (BitVec 8)) (ka : Option Addr) (klen kcap : Nat) (kl : List Int) (w : World) (h : (rdk g q r V d).Ok w) (hw : d.Wf) (hgs : d.gs.length ≤ 1000000)
    (hn : -9223372036854775808 ≤ n ∧ n ≤ 9223372036854775807) (A : Arg 140737488351232 W0 ab len cap lb) (I : IArg 140737488351232 W0 ka klen kcap kl) (hb : Below W0.heap.size W0 w) (hW : ∀ i ∈ (rdk g q r V d).W, W0.heap.size ≤ i) :
    Calls Try.prog 16 #[.pointer (some ⟨g, 0, none⟩), .agg #[.int .i64 k, .int .i64 n, .slice ab len cap, .slice ka klen kcap]] w fun e w' => ∃ q' r' V', e = .returned (.int .i64 (dmDo d k n lb kl).2) ∧ Step w w' (rdk g q r V d) (rdk g q' r' V' (dmDo d k n lb kl).1) := by
  by_cases h01 : k = 0 ∨ k = 1
  · have e : dmDo d k n lb kl = wrD d n lb := by unfold dmDo; rw [if_pos h01]
    rw [e]
    exact rDo_write g q r V d k n ab len cap lb _ w h hw hgs h01 hn ⟨A.len_eq, A.le, A.bound, A.row.later hb, A.isNil⟩
  by_cases h2 : k = 2
  · subst h2
    have e : dmDo d 2 n lb kl = flD d := by unfold dmDo; rw [if_neg h01, if_pos rfl]
    rw [e]
    exact rDo_flush g q r V d n _ _ w h hw hgs
  by_cases h3 : k = 3
  · subst h3
    have e : dmDo d 3 n lb kl = ({ d with bad := true }, 0) := by unfold dmDo; rw [if_neg h01, if_neg h2, if_pos rfl]
    rw [e]
    refine (rDo_fail g q r V d n _ _ w h).mono ?_
    rintro e w' ⟨rfl, st⟩
    exact ⟨q, r, V, rfl, st⟩
  by_cases h4 : k = 4
  · subst h4
    have e : dmDo d 4 n lb kl = (⟨crashed d.safe d.gs kl, [], false, false⟩, 0) := by unfold dmDo; rw [if_neg h01, if_neg h2, if_neg h3, if_pos rfl]
    rw [e]
    refine (rDo_crash g q r V d n _ ka klen kcap kl w h hw hgs ⟨I.len_eq, I.le, I.bound, irow_later I.row hb⟩ (fun e y hy hm => by have := hW _ hm; have := irow_lt I.row e y hy; omega)).mono ?_
    rintro e w' ⟨rfl, st⟩
    exact ⟨q, none, V, rfl, st⟩
  · have e : dmDo d k n lb kl = (d, 0) := by unfold dmDo; rw [if_neg h01, if_neg h2, if_neg h3, if_neg h4]
    rw [e]
    refine (rDo_other g q r V d k n _ _ w h (fun e => h01 (.inl e)) (fun e => h01 (.inr e)) h2 h3 h4).mono ?_
    rintro e w' ⟨rfl, st⟩
    exact ⟨q, r, V, rfl, st⟩
end Go.Proofs.Ytmhnlfgakpelkaa
