/- A log of no entries; what stands at a place, its term; the top. -/
import Derived.Test.YtgjcgnmomdanaaaXEn1
import Derived.Stop.Asserts
namespace Go.Proofs.Ytgjcgnmomdanaaa
open Go.RowKit
set_option linter.unusedVariables false

/-- can a floor be? -/
def newB (a t : Int) (k : Int) : Bool := numB a && (numB t && (maskB k && !(decide (a = 0) && decide (0 < t))))
set_option maxHeartbeats 1000000 in
theorem enNew_no (a t k : Int) (w : World) (h : newB a t k = false) :
    Calls Try.prog 64 #[.int .i64 a, .int .i64 t, .int .i64 k] w fun e w' => e = .returned (.tuple #[.pointer none, .int .i64 1]) ∧ w = w' := by
  obtain ⟨A, hA⟩ : ∃ A, numB a = A := ⟨_, rfl⟩
  obtain ⟨T, hT⟩ : ∃ T, numB t = T := ⟨_, rfl⟩
  obtain ⟨K, hK⟩ : ∃ K, maskB k = K := ⟨_, rfl⟩
  unfold newB at h
  rw [hA, hT, hK] at h
  cases A with
  | false =>
    clear h
    go_enter Try.func64, Try.ntmps64
    go_wp2_with (first | (go_at_call 44; refine (isNumber_any _ _).mono ?_; rintro e w' ⟨rfl, rfl⟩; (try rw [hA]); (try rw [hT])) | (go_at_call 71; refine (isMask_any _ _).mono ?_; rintro e w' ⟨rfl, rfl⟩; rw [hK]))
    go_ret2
    exact ⟨rfl, rfl⟩
  | true =>
    cases T with
    | false =>
      clear h
      go_enter Try.func64, Try.ntmps64
      go_wp2_with (first | (go_at_call 44; refine (isNumber_any _ _).mono ?_; rintro e w' ⟨rfl, rfl⟩; (try rw [hA]); (try rw [hT])) | (go_at_call 71; refine (isMask_any _ _).mono ?_; rintro e w' ⟨rfl, rfl⟩; rw [hK]))
      go_ret2
      exact ⟨rfl, rfl⟩
    | true =>
      cases K with
      | false =>
        clear h
        go_enter Try.func64, Try.ntmps64
        go_wp2_with (first | (go_at_call 44; refine (isNumber_any _ _).mono ?_; rintro e w' ⟨rfl, rfl⟩; (try rw [hA]); (try rw [hT])) | (go_at_call 71; refine (isMask_any _ _).mono ?_; rintro e w' ⟨rfl, rfl⟩; rw [hK]))
        go_ret2
        exact ⟨rfl, rfl⟩
      | true =>
        have h' : a = 0 ∧ 0 < t := by simpa using h
        obtain ⟨h1, h2⟩ := h'
        clear h
        go_enter Try.func64, Try.ntmps64
        go_wp2_with (first | (go_at_call 44; refine (isNumber_any _ _).mono ?_; rintro e w' ⟨rfl, rfl⟩; (try rw [hA]); (try rw [hT])) | (go_at_call 71; refine (isMask_any _ _).mono ?_; rintro e w' ⟨rfl, rfl⟩; rw [hK]))
        go_ret2
        exact ⟨rfl, rfl⟩
theorem newB_yes {a t k : Int} (h : newB a t k = true) : 0 ≤ a ∧ a ≤ 1099511627776 ∧ 0 ≤ t ∧ t ≤ 1099511627776 ∧ 1 ≤ k ∧ k ≤ 31 ∧ (a = 0 → t = 0) := by
  unfold newB numB maskB at h
  simp only [Bool.and_eq_true, decide_eq_true_eq, Bool.not_eq_true', Bool.and_eq_false_iff, decide_eq_false_iff_not] at h
  omega
/-- a log of no entries -/
def Lm.new (a t k : Nat) : Lm := ⟨a, t, k, []⟩
theorem Lm.new_wf {a t k : Nat} (h : newB a t k = true) : (Lm.new a t k).Wf := by
  have := newB_yes h
  exact ⟨by show a ≤ _; omega, by show t ≤ _; omega, by show 1 ≤ k ∧ k ≤ 31; omega, by simp [Lm.new], by simp [Lm.new], by simp [Lm.new]⟩
set_option maxHeartbeats 1000000 in
theorem enNew_yes (a t k : Nat) (w : World) (h : newB a t k = true) :
    Calls Try.prog 64 #[.int .i64 a, .int .i64 t, .int .i64 k] w fun e w' => ∃ g, e = .returned (.tuple #[.pointer (some ⟨g, 0, none⟩), .int .i64 0]) ∧ w.heap.size ≤ g ∧ Lg w' g (Lm.new a t k) ∧ Below w.heap.size w w' := by
  have hh := newB_yes h
  unfold newB at h
  simp only [Bool.and_eq_true] at h
  have hA := h.1
  have hT := h.2.1
  have hK := h.2.2.1
  clear h
  have B1 : Blk (w.alloc (.cells #[.int .i64 a, .int .i64 t, .int .i64 k, .slice none 0 0] 114)) w.heap.size 114 [.int .i64 a, .int .i64 t, .int .i64 k, .slice none 0 0] := Blk.new' w _ _
  have b1 : Below w.heap.size w (w.alloc (.cells #[.int .i64 a, .int .i64 t, .int .i64 k, .slice none 0 0] 114)) := (Below.refl _ _).alloc (Nat.le_refl _) _
  have F : Hid _ := And.intro B1 b1
  clear B1 b1
  by_cases a0 : (a : Int) = 0
  · have t0 : ¬ 0 < (t : Int) := by omega
    have a1 : ((a : Int) == 0) = true := by rw [beq_iff_eq]; exact a0
    have F' : Hid (a = 0) := by exact (by omega : a = 0)
    clear hh a0
    go_enter Try.func64, Try.ntmps64
    go_wp2_with (first | (go_at_call 44; refine (isNumber_any _ _).mono ?_; rintro e w' ⟨rfl, rfl⟩; (try rw [hA]); (try rw [hT])) | (go_at_call 71; refine (isMask_any _ _).mono ?_; rintro e w' ⟨rfl, rfl⟩; rw [hK]))
    go_ret2
    exact ⟨_, rfl, Nat.le_refl _, ⟨none, 0, F.out.1, Nat.le_refl _, ⟨Nat.zero_le _, fun _ => rfl⟩, .inl rfl⟩, F.out.2⟩
  · clear hh
    go_enter Try.func64, Try.ntmps64
    go_wp2_with (first | (go_at_call 44; refine (isNumber_any _ _).mono ?_; rintro e w' ⟨rfl, rfl⟩; (try rw [hA]); (try rw [hT])) | (go_at_call 71; refine (isMask_any _ _).mono ?_; rintro e w' ⟨rfl, rfl⟩; rw [hK]))
    go_ret2
    exact ⟨_, rfl, Nat.le_refl _, ⟨none, 0, F.out.1, Nat.le_refl _, ⟨Nat.zero_le _, fun _ => rfl⟩, .inl rfl⟩, F.out.2⟩

set_option maxHeartbeats 1000000 in
theorem part_any (g : Nat) (m : Lm) (n : Int) (w : World) (h : Lg w g m) (hw : m.Wf) (hn : I64 n) :
    Calls Try.prog 90 #[.pointer (some ⟨g, 0, none⟩), .int .i64 n] w fun e w' => e = .returned (m.part n) ∧ w = w' := by
  obtain ⟨a, c, c0, c1, c2, c3, hc, hcm, hp⟩ := h.cells
  have hpl := hw.place
  have hfu := hw.full
  unfold I64 at hn
  clear h hw
  rcases m.cases n with h1 | h1 | ⟨i, hi, h1⟩ | h1
  · rw [(Lm.part_low h1).1]
    clear hp
    go_enter Try.func90, Try.ntmps90
    go_wp2
    go_ret
    exact ⟨rfl, rfl⟩
  · rw [(Lm.part_fl h1).1]
    unfold flV
    subst h1
    clear hp
    go_enter Try.func90, Try.ntmps90
    go_wp2
    go_ret
    exact ⟨rfl, rfl⟩
  · rw [(Lm.part_in hi h1).1]
    obtain ⟨b, off, rfl, hd⟩ : ∃ b off, a = some ⟨b, off, none⟩ ∧ ∀ i (hi : i < m.l.length), w.cell? ⟨b, off + i, none⟩ = some (pv m.l[i]) := by
      rcases hp with e | hp
      · rw [e] at hi; simp at hi
      · exact hp
    have d := hd i hi
    generalize pv m.l[i] = PV at *
    have q1 : (i : Int) < (m.l.length : Int) := by omega
    have q2 : n - (m.fl : Int) - 1 = i := by omega
    have q3 : ¬ n < (m.fl : Int) := by omega
    have q4 : ¬ n = (m.fl : Int) := by omega
    have q5 : n ≤ (m.fl : Int) + 4096 := by omega
    clear hp hd h1
    go_enter Try.func90, Try.ntmps90
    go_wp2
    go_ret
    exact ⟨rfl, rfl⟩
  · rw [(Lm.part_high h1).1]
    clear hp
    go_enter Try.func90, Try.ntmps90
    go_wp2
    go_ret
    exact ⟨rfl, rfl⟩
theorem part_nil (n : Int) (w : World) :
    Calls Try.prog 90 #[.pointer none, .int .i64 n] w fun e w' => e = .returned .nilIface ∧ w = w' := by
  go_enter Try.func90, Try.ntmps90
  go_wp2
  go_ret
  exact ⟨rfl, rfl⟩
end Go.Proofs.Ytgjcgnmomdanaaa

/- The term of a place; the top; the floor; where a run begins. -/
namespace Go.Proofs.Ytgjcgnmomdanaaa
open Go.RowKit
set_option linter.unusedVariables false

set_option maxHeartbeats 400000 in
theorem itsTerm_floor (a t k : Int) (w : World) :
    Calls Try.prog 112 #[.agg #[.int .i64 a, .int .i64 t, .int .i64 k]] w fun e w' => e = .returned (.int .i64 t) ∧ Below w.heap.size w w' := by
  have F : Hid _ := box3_below w (.int .i64 a) (.int .i64 t) (.int .i64 k) 111
  go_enter Try.func112, Try.ntmps112
  go_wp2
  go_ret
  exact ⟨rfl, F.out⟩
set_option maxHeartbeats 400000 in
theorem itsTerm_change (t k : Int) (w : World) :
    Calls Try.prog 113 #[.agg #[.int .i64 t, .int .i64 k]] w fun e w' => e = .returned (.int .i64 t) ∧ Below w.heap.size w w' := by
  have F : Hid (Below w.heap.size w (w.alloc (.cells #[.int .i64 t, .int .i64 k] 141))) := (Below.refl _ _).alloc (Nat.le_refl _) _
  go_enter Try.func113, Try.ntmps113
  go_wp2
  go_ret
  exact ⟨rfl, F.out⟩
set_option maxHeartbeats 400000 in
theorem itsTerm_plain (k t : Int) (s : ByteArray) (w : World) :
    Calls Try.prog 114 #[.agg #[.int .i64 k, .int .i64 t, .string s]] w fun e w' => e = .returned (.int .i64 t) ∧ Below w.heap.size w w' := by
  have F : Hid _ := box3_below w (.int .i64 k) (.int .i64 t) (.string s) 143
  go_enter Try.func114, Try.ntmps114
  go_wp2
  go_ret
  exact ⟨rfl, F.out⟩

theorem meth_floor (a t k : Int) (w : World) : (method 262 111 (.agg #[.int .i64 a, .int .i64 t, .int .i64 k]) "caisson/entries.itsTerm").run Try.prog w = .ok (112, .agg #[.int .i64 a, .int .i64 t, .int .i64 k]) w := by kernel_rfl
theorem meth_change (t k : Int) (w : World) : (method 262 141 (.agg #[.int .i64 t, .int .i64 k]) "caisson/entries.itsTerm").run Try.prog w = .ok (113, .agg #[.int .i64 t, .int .i64 k]) w := by kernel_rfl
theorem meth_plain (k t : Int) (s : ByteArray) (w : World) : (method 262 143 (.agg #[.int .i64 k, .int .i64 t, .string s]) "caisson/entries.itsTerm").run Try.prog w = .ok (114, .agg #[.int .i64 k, .int .i64 t, .string s]) w := by kernel_rfl

/-- a part, its term: one of three forms -/
theorem pv_forms (e : Ent) : (∃ k, pv e = .iface 141 (.agg #[.int .i64 e.2.1, .int .i64 k])) ∨ (∃ k s, pv e = .iface 143 (.agg #[.int .i64 k, .int .i64 e.2.1, .string s])) := by
  by_cases h : e.1 = 2
  · exact .inl ⟨_, if_pos h⟩
  · exact .inr ⟨_, _, if_neg h⟩

set_option maxHeartbeats 1000000 in
theorem enTerm_any (g : Nat) (m : Lm) (n : Int) (w : World) (h : Lg w g m) (hw : m.Wf) (hn : I64 n) :
    Calls Try.prog 89 #[.pointer (some ⟨g, 0, none⟩), .int .i64 n] w fun e w' => e = .returned (.int .i64 (m.term n)) ∧ Below w.heap.size w w' := by
  have HP := part_any g m n w h hw hn
  have low : m.part n = .nilIface → m.term n = -1 → Calls Try.prog 89 #[.pointer (some ⟨g, 0, none⟩), .int .i64 n] w fun e w' => e = .returned (.int .i64 (m.term n)) ∧ Below w.heap.size w w' := by
    intro h1 h2
    rw [h1] at HP
    rw [h2]
    clear h hw hn h1 h2
    go_enter Try.func89, Try.ntmps89
    go_wp2_with (go_at_call 90; refine HP.mono ?_; rintro e w' ⟨rfl, rfl⟩)
    go_ret
    exact ⟨rfl, Below.refl _ _⟩
  rcases m.cases n with h1 | h1 | ⟨i, hi, h1⟩ | h1
  · exact low (Lm.part_low h1).1 (Lm.part_low h1).2
  · rw [(Lm.part_fl h1).1] at HP
    rw [(Lm.part_fl h1).2]
    unfold flV at HP
    clear low h hw hn h1
    have HI := itsTerm_floor m.fl m.ft m.fm w
    have hm := meth_floor m.fl m.ft m.fm
    go_enter Try.func89, Try.ntmps89
    go_wp2_with (first | (go_at_call 90; refine HP.mono ?_; rintro e w' ⟨rfl, rfl⟩) | (go_at_call 112; refine HI.mono ?_; rintro e w' ⟨rfl, hb⟩))
    go_ret
    exact ⟨rfl, hb⟩
  · rw [(Lm.part_in hi h1).1] at HP
    rw [(Lm.part_in hi h1).2]
    rcases pv_forms m.l[i] with ⟨k, hv⟩ | ⟨k, s, hv⟩
    · rw [hv] at HP
      generalize m.l[i].2.1 = t at *
      clear low h hw hn h1 hv
      have HI := itsTerm_change t k w
      have hm := meth_change t k
      go_enter Try.func89, Try.ntmps89
      go_wp2_with (first | (go_at_call 90; refine HP.mono ?_; rintro e w' ⟨rfl, rfl⟩) | (go_at_call 113; refine HI.mono ?_; rintro e w' ⟨rfl, hb⟩))
      go_ret
      exact ⟨rfl, hb⟩
    · rw [hv] at HP
      generalize m.l[i].2.1 = t at *
      clear low h hw hn h1 hv
      have HI := itsTerm_plain k t s w
      have hm := meth_plain k t s
      go_enter Try.func89, Try.ntmps89
      go_wp2_with (first | (go_at_call 90; refine HP.mono ?_; rintro e w' ⟨rfl, rfl⟩) | (go_at_call 114; refine HI.mono ?_; rintro e w' ⟨rfl, hb⟩))
      go_ret
      exact ⟨rfl, hb⟩
  · exact low (Lm.part_high h1).1 (Lm.part_high h1).2
theorem enTerm_nil (n : Int) (w : World) :
    Calls Try.prog 89 #[.pointer none, .int .i64 n] w fun e w' => e = .returned (.int .i64 (-1)) ∧ w = w' := by
  have HP := part_nil n w
  go_enter Try.func89, Try.ntmps89
  go_wp2_with (go_at_call 90; refine HP.mono ?_; rintro e w' ⟨rfl, rfl⟩)
  go_ret
  exact ⟨rfl, rfl⟩

/-- the term of the top -/
def Lm.tt (m : Lm) : Int := m.term m.top
set_option maxHeartbeats 1000000 in
theorem enTop_any (g : Nat) (m : Lm) (w : World) (h : Lg w g m) (hw : m.Wf) :
    Calls Try.prog 84 #[.pointer (some ⟨g, 0, none⟩)] w fun e w' => e = .returned (.tuple #[.int .i64 m.top, .int .i64 m.tt]) ∧ Below w.heap.size w w' := by
  have hpl := hw.place
  have hfu := hw.full
  have HT := enTerm_any g m m.top w.drew (h.later (Below.refl _ _).drew) hw (by unfold I64 Lm.top; omega)
  have e1 : (m.top : Int) = (m.fl : Int) + m.l.length := by unfold Lm.top; omega
  rw [e1] at HT
  have E : Hid ((m.top : Int) = (m.fl : Int) + m.l.length) := e1
  have E2 : Hid (m.tt = m.term ((m.fl : Int) + m.l.length)) := by unfold Lm.tt; rw [e1]; exact rfl
  clear e1
  obtain ⟨a, c, c0, c1, c2, c3, hc, hcm, hp⟩ := h.cells
  clear h hw hp
  go_enter Try.func84, Try.ntmps84
  go_wp2_with fail
  go_region
  go_wp2_with (go_at_call 89; refine HT.mono ?_; rintro e w' ⟨rfl, hb⟩)
  go_ret2
  exact ⟨by rw [E.out, E2.out]; rfl, (Below.refl _ _).drew.trans hb⟩
theorem enTop_nil (w : World) :
    Calls Try.prog 84 #[.pointer none] w fun e w' => e = .returned (.tuple #[.int .i64 0, .int .i64 0]) ∧ w = w' := by
  go_enter Try.func84, Try.ntmps84
  go_wp2
  go_ret2
  exact ⟨rfl, rfl⟩
set_option maxHeartbeats 1000000 in
theorem enFloor_any (g : Nat) (m : Lm) (w : World) (h : Lg w g m) :
    Calls Try.prog 87 #[.pointer (some ⟨g, 0, none⟩)] w fun e w' => e = .returned (.tuple #[.int .i64 m.fl, .int .i64 m.ft, .int .i64 m.fm]) ∧ Below w.heap.size w w' := by
  obtain ⟨a, c, c0, c1, c2, c3, hc, hcm, hp⟩ := h.cells
  clear h hp c3
  go_enter Try.func87, Try.ntmps87
  go_wp2_with fail
  go_region
  go_wp2
  go_ret3
  exact ⟨rfl, (Below.refl _ _).drew⟩
theorem enFloor_nil (w : World) :
    Calls Try.prog 87 #[.pointer none] w fun e w' => e = .returned (.tuple #[.int .i64 0, .int .i64 0, .int .i64 0]) ∧ w = w' := by
  go_enter Try.func87, Try.ntmps87
  go_wp2
  go_ret3
  exact ⟨rfl, rfl⟩
end Go.Proofs.Ytgjcgnmomdanaaa

/- Whether a place has a term; where a run begins; who the members are. -/
namespace Go.Proofs.Ytgjcgnmomdanaaa
open Go.RowKit
set_option linter.unusedVariables false

/-- is there such a place? -/
def Lm.hasB (m : Lm) (n : Int) : Bool := decide ((m.fl : Int) ≤ n ∧ n ≤ (m.fl : Int) + m.l.length)
/-- is there such a place, of that term? -/
def Lm.holdsB (m : Lm) (n t : Int) : Bool := m.hasB n && decide (m.term n = t)
set_option maxHeartbeats 1000000 in
theorem enholds_any (g : Nat) (m : Lm) (n t : Int) (w : World) (h : Lg w g m) (hw : m.Wf) (hn : I64 n) :
    Calls Try.prog 69 #[.pointer (some ⟨g, 0, none⟩), .int .i64 n, .int .i64 t] w fun e w' => e = .returned (.bool (m.holdsB n t)) ∧ Below w.heap.size w w' := by
  have HP := part_any g m n w h hw hn
  have low : m.part n = .nilIface → m.hasB n = false → Calls Try.prog 69 #[.pointer (some ⟨g, 0, none⟩), .int .i64 n, .int .i64 t] w fun e w' => e = .returned (.bool (m.holdsB n t)) ∧ Below w.heap.size w w' := by
    intro h1 h2
    rw [h1] at HP
    have E : Hid (m.holdsB n t = false) := by unfold Lm.holdsB; rw [h2]; exact rfl
    clear h hw hn h1 h2
    go_enter Try.func69, Try.ntmps69
    go_wp2_with (go_at_call 90; refine HP.mono ?_; rintro e w' ⟨rfl, rfl⟩)
    go_ret
    exact ⟨ret_bool E.out.symm, Below.refl _ _⟩
  rcases m.cases n with h1 | h1 | ⟨i, hi, h1⟩ | h1
  · exact low (Lm.part_low h1).1 (decide_eq_false (by omega))
  · have E : Hid (m.holdsB n t = decide ((m.ft : Int) = t)) := by
      unfold Lm.holdsB Lm.hasB; rw [decide_eq_true (p := (m.fl : Int) ≤ n ∧ n ≤ (m.fl : Int) + m.l.length) (by omega), (Lm.part_fl h1).2]; exact Bool.true_and _
    rw [(Lm.part_fl h1).1] at HP
    unfold flV at HP
    clear low h hw hn h1
    have HI := itsTerm_floor m.fl m.ft m.fm w
    have hm := meth_floor m.fl m.ft m.fm
    go_enter Try.func69, Try.ntmps69
    go_wp2_with (first | (go_at_call 90; refine HP.mono ?_; rintro e w' ⟨rfl, rfl⟩) | (go_at_call 112; refine HI.mono ?_; rintro e w' ⟨rfl, hb⟩))
    go_ret
    exact ⟨ret_bool (by rw [E.out]; first | rfl | exact (Bool.beq_eq_decide_eq _ _)), hb⟩
  · have E : Hid (m.holdsB n t = decide (m.l[i].2.1 = t)) := by
      unfold Lm.holdsB Lm.hasB; rw [decide_eq_true (p := (m.fl : Int) ≤ n ∧ n ≤ (m.fl : Int) + m.l.length) (by omega), (Lm.part_in hi h1).2]; exact Bool.true_and _
    rw [(Lm.part_in hi h1).1] at HP
    rcases pv_forms m.l[i] with ⟨k, hv⟩ | ⟨k, s, hv⟩
    · rw [hv] at HP
      generalize m.l[i].2.1 = u at *
      clear low h hw hn h1 hv
      have HI := itsTerm_change u k w
      have hm := meth_change u k
      go_enter Try.func69, Try.ntmps69
      go_wp2_with (first | (go_at_call 90; refine HP.mono ?_; rintro e w' ⟨rfl, rfl⟩) | (go_at_call 113; refine HI.mono ?_; rintro e w' ⟨rfl, hb⟩))
      go_ret
      exact ⟨ret_bool (by rw [E.out]; first | rfl | exact (Bool.beq_eq_decide_eq _ _)), hb⟩
    · rw [hv] at HP
      generalize m.l[i].2.1 = u at *
      clear low h hw hn h1 hv
      have HI := itsTerm_plain k u s w
      have hm := meth_plain k u s
      go_enter Try.func69, Try.ntmps69
      go_wp2_with (first | (go_at_call 90; refine HP.mono ?_; rintro e w' ⟨rfl, rfl⟩) | (go_at_call 114; refine HI.mono ?_; rintro e w' ⟨rfl, hb⟩))
      go_ret
      exact ⟨ret_bool (by rw [E.out]; first | rfl | exact (Bool.beq_eq_decide_eq _ _)), hb⟩
  · exact low (Lm.part_high h1).1 (decide_eq_false (by omega))

/-- does a run begin at a place? -/
def Lm.begB (m : Lm) (n : Int) : Bool := decide (n = (m.fl : Int) + 1) || decide (m.term (n - 1) ≠ m.term n)
set_option maxHeartbeats 1000000 in
theorem enbegins_any (g : Nat) (m : Lm) (n : Int) (w : World) (h : Lg w g m) (hw : m.Wf) (hn : I64 n) (hlow : (m.fl : Int) < n) :
    Calls Try.prog 88 #[.pointer (some ⟨g, 0, none⟩), .int .i64 n] w fun e w' => e = .returned (.bool (m.begB n)) ∧ Below w.heap.size w w' := by
  have hpl := hw.place
  obtain ⟨a, c, c0, c1, c2, c3, hc, hcm, hp⟩ := h.cells
  by_cases h1 : n = (m.fl : Int) + 1
  · have E : Hid (m.begB n = true) := by unfold Lm.begB; rw [decide_eq_true h1]; exact Bool.true_or _
    clear h hw hp
    go_enter Try.func88, Try.ntmps88
    go_wp2
    go_ret
    exact ⟨ret_bool E.out.symm, Below.refl _ _⟩
  · have E : Hid (m.begB n = decide (m.term (n - 1) ≠ m.term n)) := by unfold Lm.begB; rw [decide_eq_false h1]; exact Bool.false_or _
    have HT : Hid _ := fun (W : World) (hW : Below w.heap.size w W) (z : Int) (hz : I64 z) => enTerm_any g m z W (h.later hW) hw hz
    have n1 : I64 (n - 1) := by unfold I64 at *; omega
    have i64 : Hid _ := And.intro hn n1
    unfold I64 at hn n1
    clear h hw hp
    go_enter Try.func88, Try.ntmps88
    go_wp2_with fail
    refine (HT.out _ (Below.refl _ _) _ i64.out.2).mono ?_
    rintro e w1 ⟨rfl, hb⟩
    go_wp2_with fail
    refine (HT.out _ hb _ i64.out.1).mono ?_
    rintro e w2 ⟨rfl, hb2⟩
    go_wp2
    go_ret
    exact ⟨ret_bool (by rw [E.out]; first | rfl | (rw [Bool.eq_iff_iff]; simp; exact fun q => absurd q h1)), below_then hb hb2⟩

theorem as_ff (v : Value) (w : World) : (Instr.typeAssert (.iface 111 v) 132 111 true).run Try.prog w = .ok (.tuple #[v, .bool true]) w := by kernel_rfl
theorem as_cf (v : Value) (w : World) : (Instr.typeAssert (.iface 141 v) 132 111 true).run Try.prog w = .ok (.tuple #[.agg #[.int .i64 0, .int .i64 0, .int .i64 0], .bool false]) w := by kernel_rfl
theorem as_pf (v : Value) (w : World) : (Instr.typeAssert (.iface 143 v) 132 111 true).run Try.prog w = .ok (.tuple #[.agg #[.int .i64 0, .int .i64 0, .int .i64 0], .bool false]) w := by kernel_rfl
theorem as_cc (v : Value) (w : World) : (Instr.typeAssert (.iface 141 v) 132 141 true).run Try.prog w = .ok (.tuple #[v, .bool true]) w := by kernel_rfl
theorem as_fc (v : Value) (w : World) : (Instr.typeAssert (.iface 111 v) 132 141 true).run Try.prog w = .ok (.tuple #[.agg #[.int .i64 0, .int .i64 0], .bool false]) w := by kernel_rfl
theorem as_pc (v : Value) (w : World) : (Instr.typeAssert (.iface 143 v) 132 141 true).run Try.prog w = .ok (.tuple #[.agg #[.int .i64 0, .int .i64 0], .bool false]) w := by kernel_rfl
theorem as_nc (w : World) : (Instr.typeAssert .nilIface 132 141 true).run Try.prog w = .ok (.tuple #[.agg #[.int .i64 0, .int .i64 0], .bool false]) w := by kernel_rfl
theorem as_pp (v : Value) (w : World) : (Instr.typeAssert (.iface 143 v) 132 143 true).run Try.prog w = .ok (.tuple #[v, .bool true]) w := by kernel_rfl
theorem as_fp (v : Value) (w : World) : (Instr.typeAssert (.iface 111 v) 132 143 true).run Try.prog w = .ok (.tuple #[.agg #[.int .i64 0, .int .i64 0, .string ByteArray.empty], .bool false]) w := by kernel_rfl
theorem as_np (w : World) : (Instr.typeAssert .nilIface 132 143 true).run Try.prog w = .ok (.tuple #[.agg #[.int .i64 0, .int .i64 0, .string ByteArray.empty], .bool false]) w := by kernel_rfl



/-- the members as of the first k entries -/
def Lm.memK (m : Lm) : Nat → Int
  | 0 => m.fm
  | k + 1 => match m.l[k]? with | some e => if e.1 = 2 then bt e.2.2 0 else m.memK k | none => m.memK k
def Lm.mem (m : Lm) (n : Int) : Int := if m.hasB n = true then m.memK (n - m.fl).toNat else 0

end Go.Proofs.Ytgjcgnmomdanaaa
