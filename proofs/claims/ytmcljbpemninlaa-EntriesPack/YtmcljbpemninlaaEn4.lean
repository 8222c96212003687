/- The term of a place; the top; the floor; where a run begins. -/
import Derived.Test.YtmcljbpemninlaaEn3
namespace Go.Proofs.Ytmcljbpemninlaa
open Go.RowKit
set_option linter.unusedVariables false

set_option maxHeartbeats 400000 in
theorem itsTerm_floor (a t k : Int) (w : World) :
    Calls Try.prog 118 #[.agg #[.int .i64 a, .int .i64 t, .int .i64 k]] w fun e w' => e = .returned (.int .i64 t) ∧ Below w.heap.size w w' := by
  have F : Hid _ := box3_below w (.int .i64 a) (.int .i64 t) (.int .i64 k) 105
  go_enter Try.func118, Try.ntmps118
  go_wp2
  go_ret
  exact ⟨rfl, F.out⟩
set_option maxHeartbeats 400000 in
theorem itsTerm_change (t k : Int) (w : World) :
    Calls Try.prog 119 #[.agg #[.int .i64 t, .int .i64 k]] w fun e w' => e = .returned (.int .i64 t) ∧ Below w.heap.size w w' := by
  have F : Hid (Below w.heap.size w (w.alloc (.cells #[.int .i64 t, .int .i64 k] 146))) := (Below.refl _ _).alloc (Nat.le_refl _) _
  go_enter Try.func119, Try.ntmps119
  go_wp2
  go_ret
  exact ⟨rfl, F.out⟩
set_option maxHeartbeats 400000 in
theorem itsTerm_plain (k t : Int) (s : ByteArray) (w : World) :
    Calls Try.prog 120 #[.agg #[.int .i64 k, .int .i64 t, .string s]] w fun e w' => e = .returned (.int .i64 t) ∧ Below w.heap.size w w' := by
  have F : Hid _ := box3_below w (.int .i64 k) (.int .i64 t) (.string s) 148
  go_enter Try.func120, Try.ntmps120
  go_wp2
  go_ret
  exact ⟨rfl, F.out⟩

theorem meth_floor (a t k : Int) (w : World) : (method 267 105 (.agg #[.int .i64 a, .int .i64 t, .int .i64 k]) "caisson/entries.itsTerm").run Try.prog w = .ok (118, .agg #[.int .i64 a, .int .i64 t, .int .i64 k]) w := by kernel_rfl
theorem meth_change (t k : Int) (w : World) : (method 267 146 (.agg #[.int .i64 t, .int .i64 k]) "caisson/entries.itsTerm").run Try.prog w = .ok (119, .agg #[.int .i64 t, .int .i64 k]) w := by kernel_rfl
theorem meth_plain (k t : Int) (s : ByteArray) (w : World) : (method 267 148 (.agg #[.int .i64 k, .int .i64 t, .string s]) "caisson/entries.itsTerm").run Try.prog w = .ok (120, .agg #[.int .i64 k, .int .i64 t, .string s]) w := by kernel_rfl

/-- a part, its term: one of three forms -/
theorem pv_forms (e : Ent) : (∃ k, pv e = .iface 146 (.agg #[.int .i64 e.2.1, .int .i64 k])) ∨ (∃ k s, pv e = .iface 148 (.agg #[.int .i64 k, .int .i64 e.2.1, .string s])) := by
  by_cases h : e.1 = 2
  · exact .inl ⟨_, if_pos h⟩
  · exact .inr ⟨_, _, if_neg h⟩

set_option maxHeartbeats 1000000 in
theorem enTerm_any (g : Nat) (m : Lm) (n : Int) (w : World) (h : Lg w g m) (hw : m.Wf) (hn : I64 n) :
    Calls Try.prog 89 #[.pointer (some ⟨g, 0, none⟩), .int .i64 n] w fun e w' => e = .returned (.int .i64 (m.term n)) ∧ Below w.heap.size w w' := by
  have HP := part_any g m n w h hw hn
  have low : m.part n = .nilIface → m.term n = -1 → Calls Try.prog 89 #[.pointer (some ⟨g, 0, none⟩), .int .i64 n] w fun e w' => e = .returned (.int .i64 (m.term n)) ∧ Below w.heap.size w w' := by
    intro h1 h2
    rw [h1] at HP
    rw [h2]
    clear h hw hn h1 h2
    go_enter Try.func89, Try.ntmps89
    go_wp2_with (go_at_call 90; refine HP.mono ?_; rintro e w' ⟨rfl, rfl⟩)
    go_ret
    exact ⟨rfl, Below.refl _ _⟩
  rcases m.cases n with h1 | h1 | ⟨i, hi, h1⟩ | h1
  · exact low (Lm.part_low h1).1 (Lm.part_low h1).2
  · rw [(Lm.part_fl h1).1] at HP
    rw [(Lm.part_fl h1).2]
    unfold flV at HP
    clear low h hw hn h1
    have HI := itsTerm_floor m.fl m.ft m.fm w
    have hm := meth_floor m.fl m.ft m.fm
    go_enter Try.func89, Try.ntmps89
    go_wp2_with (first | (go_at_call 90; refine HP.mono ?_; rintro e w' ⟨rfl, rfl⟩) | (go_at_call 118; refine HI.mono ?_; rintro e w' ⟨rfl, hb⟩))
    go_ret
    exact ⟨rfl, hb⟩
  · rw [(Lm.part_in hi h1).1] at HP
    rw [(Lm.part_in hi h1).2]
    rcases pv_forms m.l[i] with ⟨k, hv⟩ | ⟨k, s, hv⟩
    · rw [hv] at HP
      generalize m.l[i].2.1 = t at *
      clear low h hw hn h1 hv
      have HI := itsTerm_change t k w
      have hm := meth_change t k
      go_enter Try.func89, Try.ntmps89
      go_wp2_with (first | (go_at_call 90; refine HP.mono ?_; rintro e w' ⟨rfl, rfl⟩) | (go_at_call 119; refine HI.mono ?_; rintro e w' ⟨rfl, hb⟩))
      go_ret
      exact ⟨rfl, hb⟩
    · rw [hv] at HP
      generalize m.l[i].2.1 = t at *
      clear low h hw hn h1 hv
      have HI := itsTerm_plain k t s w
      have hm := meth_plain k t s
      go_enter Try.func89, Try.ntmps89
      go_wp2_with (first | (go_at_call 90; refine HP.mono ?_; rintro e w' ⟨rfl, rfl⟩) | (go_at_call 120; refine HI.mono ?_; rintro e w' ⟨rfl, hb⟩))
      go_ret
      exact ⟨rfl, hb⟩
  · exact low (Lm.part_high h1).1 (Lm.part_high h1).2
theorem enTerm_nil (n : Int) (w : World) :
    Calls Try.prog 89 #[.pointer none, .int .i64 n] w fun e w' => e = .returned (.int .i64 (-1)) ∧ w = w' := by
  have HP := part_nil n w
  go_enter Try.func89, Try.ntmps89
  go_wp2_with (go_at_call 90; refine HP.mono ?_; rintro e w' ⟨rfl, rfl⟩)
  go_ret
  exact ⟨rfl, rfl⟩

/-- the term of the top -/
def Lm.tt (m : Lm) : Int := m.term m.top
set_option maxHeartbeats 1000000 in
theorem enTop_any (g : Nat) (m : Lm) (w : World) (h : Lg w g m) (hw : m.Wf) :
    Calls Try.prog 84 #[.pointer (some ⟨g, 0, none⟩)] w fun e w' => e = .returned (.tuple #[.int .i64 m.top, .int .i64 m.tt]) ∧ Below w.heap.size w w' := by
  have hpl := hw.place
  have hfu := hw.full
  have HT := enTerm_any g m m.top w.drew (h.later (Below.refl _ _).drew) hw (by unfold I64 Lm.top; omega)
  have e1 : (m.top : Int) = (m.fl : Int) + m.l.length := by unfold Lm.top; omega
  rw [e1] at HT
  have E : Hid ((m.top : Int) = (m.fl : Int) + m.l.length) := e1
  have E2 : Hid (m.tt = m.term ((m.fl : Int) + m.l.length)) := by unfold Lm.tt; rw [e1]; exact rfl
  clear e1
  obtain ⟨a, c, c0, c1, c2, c3, hc, hcm, hp⟩ := h.cells
  clear h hw hp
  go_enter Try.func84, Try.ntmps84
  go_wp2_with fail
  go_region
  go_wp2_with (go_at_call 89; refine HT.mono ?_; rintro e w' ⟨rfl, hb⟩)
  go_ret2
  exact ⟨by rw [E.out, E2.out]; rfl, (Below.refl _ _).drew.trans hb⟩
theorem enTop_nil (w : World) :
    Calls Try.prog 84 #[.pointer none] w fun e w' => e = .returned (.tuple #[.int .i64 0, .int .i64 0]) ∧ w = w' := by
  go_enter Try.func84, Try.ntmps84
  go_wp2
  go_ret2
  exact ⟨rfl, rfl⟩
set_option maxHeartbeats 1000000 in
theorem enFloor_any (g : Nat) (m : Lm) (w : World) (h : Lg w g m) :
    Calls Try.prog 87 #[.pointer (some ⟨g, 0, none⟩)] w fun e w' => e = .returned (.tuple #[.int .i64 m.fl, .int .i64 m.ft, .int .i64 m.fm]) ∧ Below w.heap.size w w' := by
  obtain ⟨a, c, c0, c1, c2, c3, hc, hcm, hp⟩ := h.cells
  clear h hp c3
  go_enter Try.func87, Try.ntmps87
  go_wp2_with fail
  go_region
  go_wp2
  go_ret3
  exact ⟨rfl, (Below.refl _ _).drew⟩
theorem enFloor_nil (w : World) :
    Calls Try.prog 87 #[.pointer none] w fun e w' => e = .returned (.tuple #[.int .i64 0, .int .i64 0, .int .i64 0]) ∧ w = w' := by
  go_enter Try.func87, Try.ntmps87
  go_wp2
  go_ret3
  exact ⟨rfl, rfl⟩
end Go.Proofs.Ytmcljbpemninlaa
