/- A log of no entries; what stands at a place, its term; the top. -/
import Derived.Test.YtmcljbpemninlaaEn2
import Derived.Stop.Asserts
namespace Go.Proofs.Ytmcljbpemninlaa
open Go.RowKit
set_option linter.unusedVariables false

/-- can a floor be? -/
def newB (a t : Int) (k : Int) : Bool := numB a && (numB t && (maskB k && !(decide (a = 0) && decide (0 < t))))
set_option maxHeartbeats 1000000 in
theorem enNew_no (a t k : Int) (w : World) (h : newB a t k = false) :
    Calls Try.prog 60 #[.int .i64 a, .int .i64 t, .int .i64 k] w fun e w' => e = .returned (.tuple #[.pointer none, .int .i64 1]) ∧ w = w' := by
  obtain ⟨A, hA⟩ : ∃ A, numB a = A := ⟨_, rfl⟩
  obtain ⟨T, hT⟩ : ∃ T, numB t = T := ⟨_, rfl⟩
  obtain ⟨K, hK⟩ : ∃ K, maskB k = K := ⟨_, rfl⟩
  unfold newB at h
  rw [hA, hT, hK] at h
  cases A with
  | false =>
    clear h
    go_enter Try.func60, Try.ntmps60
    go_wp2_with (first | (go_at_call 68; refine (isNumber_any _ _).mono ?_; rintro e w' ⟨rfl, rfl⟩; (try rw [hA]); (try rw [hT])) | (go_at_call 53; refine (isMask_any _ _).mono ?_; rintro e w' ⟨rfl, rfl⟩; rw [hK]))
    go_ret2
    exact ⟨rfl, rfl⟩
  | true =>
    cases T with
    | false =>
      clear h
      go_enter Try.func60, Try.ntmps60
      go_wp2_with (first | (go_at_call 68; refine (isNumber_any _ _).mono ?_; rintro e w' ⟨rfl, rfl⟩; (try rw [hA]); (try rw [hT])) | (go_at_call 53; refine (isMask_any _ _).mono ?_; rintro e w' ⟨rfl, rfl⟩; rw [hK]))
      go_ret2
      exact ⟨rfl, rfl⟩
    | true =>
      cases K with
      | false =>
        clear h
        go_enter Try.func60, Try.ntmps60
        go_wp2_with (first | (go_at_call 68; refine (isNumber_any _ _).mono ?_; rintro e w' ⟨rfl, rfl⟩; (try rw [hA]); (try rw [hT])) | (go_at_call 53; refine (isMask_any _ _).mono ?_; rintro e w' ⟨rfl, rfl⟩; rw [hK]))
        go_ret2
        exact ⟨rfl, rfl⟩
      | true =>
        have h' : a = 0 ∧ 0 < t := by simpa using h
        obtain ⟨h1, h2⟩ := h'
        clear h
        go_enter Try.func60, Try.ntmps60
        go_wp2_with (first | (go_at_call 68; refine (isNumber_any _ _).mono ?_; rintro e w' ⟨rfl, rfl⟩; (try rw [hA]); (try rw [hT])) | (go_at_call 53; refine (isMask_any _ _).mono ?_; rintro e w' ⟨rfl, rfl⟩; rw [hK]))
        go_ret2
        exact ⟨rfl, rfl⟩
theorem newB_yes {a t k : Int} (h : newB a t k = true) : 0 ≤ a ∧ a ≤ 1099511627776 ∧ 0 ≤ t ∧ t ≤ 1099511627776 ∧ 1 ≤ k ∧ k ≤ 31 ∧ (a = 0 → t = 0) := by
  unfold newB numB maskB at h
  simp only [Bool.and_eq_true, decide_eq_true_eq, Bool.not_eq_true', Bool.and_eq_false_iff, decide_eq_false_iff_not] at h
  omega
/-- a log of no entries -/
def Lm.new (a t k : Nat) : Lm := ⟨a, t, k, []⟩
theorem Lm.new_wf {a t k : Nat} (h : newB a t k = true) : (Lm.new a t k).Wf := by
  have := newB_yes h
  exact ⟨by show a ≤ _; omega, by show t ≤ _; omega, by show 1 ≤ k ∧ k ≤ 31; omega, by simp [Lm.new], by simp [Lm.new], by simp [Lm.new]⟩
set_option maxHeartbeats 1000000 in
theorem enNew_yes (a t k : Nat) (w : World) (h : newB a t k = true) :
    Calls Try.prog 60 #[.int .i64 a, .int .i64 t, .int .i64 k] w fun e w' => ∃ g, e = .returned (.tuple #[.pointer (some ⟨g, 0, none⟩), .int .i64 0]) ∧ w.heap.size ≤ g ∧ Lg w' g (Lm.new a t k) ∧ Below w.heap.size w w' := by
  have hh := newB_yes h
  unfold newB at h
  simp only [Bool.and_eq_true] at h
  have hA := h.1
  have hT := h.2.1
  have hK := h.2.2.1
  clear h
  have B1 : Blk (w.alloc (.cells #[.int .i64 a, .int .i64 t, .int .i64 k, .slice none 0 0] 108)) w.heap.size 108 [.int .i64 a, .int .i64 t, .int .i64 k, .slice none 0 0] := Blk.new' w _ _
  have b1 : Below w.heap.size w (w.alloc (.cells #[.int .i64 a, .int .i64 t, .int .i64 k, .slice none 0 0] 108)) := (Below.refl _ _).alloc (Nat.le_refl _) _
  have F : Hid _ := And.intro B1 b1
  clear B1 b1
  by_cases a0 : (a : Int) = 0
  · have t0 : ¬ 0 < (t : Int) := by omega
    have a1 : ((a : Int) == 0) = true := by rw [beq_iff_eq]; exact a0
    have F' : Hid (a = 0) := by exact (by omega : a = 0)
    clear hh a0
    go_enter Try.func60, Try.ntmps60
    go_wp2_with (first | (go_at_call 68; refine (isNumber_any _ _).mono ?_; rintro e w' ⟨rfl, rfl⟩; (try rw [hA]); (try rw [hT])) | (go_at_call 53; refine (isMask_any _ _).mono ?_; rintro e w' ⟨rfl, rfl⟩; rw [hK]))
    go_ret2
    exact ⟨_, rfl, Nat.le_refl _, ⟨none, 0, F.out.1, Nat.le_refl _, ⟨Nat.zero_le _, fun _ => rfl⟩, .inl rfl⟩, F.out.2⟩
  · clear hh
    go_enter Try.func60, Try.ntmps60
    go_wp2_with (first | (go_at_call 68; refine (isNumber_any _ _).mono ?_; rintro e w' ⟨rfl, rfl⟩; (try rw [hA]); (try rw [hT])) | (go_at_call 53; refine (isMask_any _ _).mono ?_; rintro e w' ⟨rfl, rfl⟩; rw [hK]))
    go_ret2
    exact ⟨_, rfl, Nat.le_refl _, ⟨none, 0, F.out.1, Nat.le_refl _, ⟨Nat.zero_le _, fun _ => rfl⟩, .inl rfl⟩, F.out.2⟩

set_option maxHeartbeats 1000000 in
theorem part_any (g : Nat) (m : Lm) (n : Int) (w : World) (h : Lg w g m) (hw : m.Wf) (hn : I64 n) :
    Calls Try.prog 90 #[.pointer (some ⟨g, 0, none⟩), .int .i64 n] w fun e w' => e = .returned (m.part n) ∧ w = w' := by
  obtain ⟨a, c, c0, c1, c2, c3, hc, hcm, hp⟩ := h.cells
  have hpl := hw.place
  have hfu := hw.full
  unfold I64 at hn
  clear h hw
  rcases m.cases n with h1 | h1 | ⟨i, hi, h1⟩ | h1
  · rw [(Lm.part_low h1).1]
    clear hp
    go_enter Try.func90, Try.ntmps90
    go_wp2
    go_ret
    exact ⟨rfl, rfl⟩
  · rw [(Lm.part_fl h1).1]
    unfold flV
    subst h1
    clear hp
    go_enter Try.func90, Try.ntmps90
    go_wp2
    go_ret
    exact ⟨rfl, rfl⟩
  · rw [(Lm.part_in hi h1).1]
    obtain ⟨b, off, rfl, hd⟩ : ∃ b off, a = some ⟨b, off, none⟩ ∧ ∀ i (hi : i < m.l.length), w.cell? ⟨b, off + i, none⟩ = some (pv m.l[i]) := by
      rcases hp with e | hp
      · rw [e] at hi; simp at hi
      · exact hp
    have d := hd i hi
    generalize pv m.l[i] = PV at *
    have q1 : (i : Int) < (m.l.length : Int) := by omega
    have q2 : n - (m.fl : Int) - 1 = i := by omega
    have q3 : ¬ n < (m.fl : Int) := by omega
    have q4 : ¬ n = (m.fl : Int) := by omega
    have q5 : n ≤ (m.fl : Int) + 4096 := by omega
    clear hp hd h1
    go_enter Try.func90, Try.ntmps90
    go_wp2
    go_ret
    exact ⟨rfl, rfl⟩
  · rw [(Lm.part_high h1).1]
    clear hp
    go_enter Try.func90, Try.ntmps90
    go_wp2
    go_ret
    exact ⟨rfl, rfl⟩
theorem part_nil (n : Int) (w : World) :
    Calls Try.prog 90 #[.pointer none, .int .i64 n] w fun e w' => e = .returned .nilIface ∧ w = w' := by
  go_enter Try.func90, Try.ntmps90
  go_wp2
  go_ret
  exact ⟨rfl, rfl⟩
end Go.Proofs.Ytmcljbpemninlaa
