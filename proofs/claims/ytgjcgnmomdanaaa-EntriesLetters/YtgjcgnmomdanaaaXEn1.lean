/- A log that never changes, in memory: its floor, and what stands above it; entries that came in. -/
import Derived.Test.YtgjcgnmomdanaaaXDkW1
import Derived.Test.YtgjcgnmomdanaaaXDraw
import Derived.Test.YtgjcgnmomdanaaaXMp
import Derived.Maps.AppendAt
namespace Go.Proofs.Ytgjcgnmomdanaaa
open Go.RowKit
set_option linter.unusedVariables false

/-- an entry: its kind, its term, its command -/
abbrev Ent := Int × Int × List (BitVec 8)
def maskB (n : Int) : Bool := decide (1 ≤ n ∧ n ≤ 31)
def numB (n : Int) : Bool := decide (0 ≤ n ∧ n ≤ 1099511627776)
/-- can an entry be? -/
def canE (e : Ent) : Bool := decide (1 ≤ e.2.1 ∧ e.2.1 ≤ 1099511627776) && decide (e.2.2.length ≤ 4080) && (decide (e.1 = 0 ∨ e.1 = 1) || (decide (e.1 = 2) && (decide (e.2.2.length = 1) && maskB (bt e.2.2 0))))
theorem canE_term {e : Ent} (h : canE e = true) : 1 ≤ e.2.1 ∧ e.2.1 ≤ 1099511627776 := by
  unfold canE at h; simp only [Bool.and_eq_true, decide_eq_true_eq] at h; exact h.1.1
theorem canE_len {e : Ent} (h : canE e = true) : e.2.2.length ≤ 4080 := by
  unfold canE at h; simp only [Bool.and_eq_true, decide_eq_true_eq] at h; exact h.1.2
theorem canE_kind {e : Ent} (h : canE e = true) : (e.1 = 0 ∨ e.1 = 1) ∨ (e.1 = 2 ∧ e.2.2.length = 1 ∧ 1 ≤ bt e.2.2 0 ∧ bt e.2.2 0 ≤ 31) := by
  unfold canE maskB at h; simp only [Bool.and_eq_true, Bool.or_eq_true, decide_eq_true_eq] at h
  rcases h.2 with h | h
  · exact .inl h
  · exact .inr ⟨h.1, h.2.1, h.2.2⟩
/-- what stands at an entry's place -/
def pv (e : Ent) : Value := if e.1 = 2 then .iface 141 (.agg #[.int .i64 e.2.1, .int .i64 (bt e.2.2 0)]) else .iface 143 (.agg #[.int .i64 e.1, .int .i64 e.2.1, .string (str e.2.2)])
theorem pv_one (e : Ent) : (pv e).oneCell' = true := by unfold pv; split <;> rfl
/-- a log: its floor's place, term and members, and the entries above it -/
structure Lm where
  fl : Nat
  ft : Nat
  fm : Nat
  l : List Ent
structure Lm.Wf (m : Lm) : Prop where
  place : m.fl ≤ 1125899906842624
  term : m.ft ≤ 1099511627776
  mask : 1 ≤ m.fm ∧ m.fm ≤ 31
  full : m.l.length ≤ 4096
  each : ∀ e ∈ m.l, canE e = true
  rise : ((m.ft : Int) :: m.l.map (fun e : Ent => e.2.1)).Pairwise (· ≤ ·)
/-- the floor as a part -/
def flV (m : Lm) : Value := .iface 111 (.agg #[.int .i64 m.fl, .int .i64 m.ft, .int .i64 m.fm])
/-- parts that lie in a row -/
def PsAt (w : World) (a : Option Addr) (l : List Ent) : Prop := l = [] ∨ ∃ b off, a = some ⟨b, off, none⟩ ∧ ∀ i (hi : i < l.length), w.cell? ⟨b, off + i, none⟩ = some (pv l[i])
theorem PsAt.later {w w' : World} {a : Option Addr} {l : List Ent} (h : PsAt w a l) (hb : Below w.heap.size w w') : PsAt w' a l := by
  rcases h with h | ⟨b, off, rfl, h⟩
  · exact .inl h
  · exact .inr ⟨b, off, rfl, fun i hi => cell_later hb (h i hi)⟩
/-- the log at block g -/
def Lg (w : World) (g : Nat) (m : Lm) : Prop :=
  ∃ a c, Blk w g 114 [.int .i64 m.fl, .int .i64 m.ft, .int .i64 m.fm, .slice a m.l.length c] ∧ m.l.length ≤ c ∧ (c ≤ maxLen ∧ (a = none → c = 0)) ∧ PsAt w a m.l
theorem Lg.later {w w' : World} {g : Nat} {m : Lm} (h : Lg w g m) (hb : Below w.heap.size w w') : Lg w' g m := by
  obtain ⟨a, c, h1, h2, h3, h4⟩ := h
  exact ⟨a, c, h1.laterB hb, h2, h3, h4.later hb⟩
theorem Lg.lt {w : World} {g : Nat} {m : Lm} (h : Lg w g m) : g < w.heap.size := by obtain ⟨a, c, h1, _⟩ := h; exact h1.lt
theorem Lg.cells {w : World} {g : Nat} {m : Lm} (h : Lg w g m) : ∃ a c, w.cell? ⟨g, 0, none⟩ = some (.int .i64 m.fl) ∧ w.cell? ⟨g, 1, none⟩ = some (.int .i64 m.ft) ∧ w.cell? ⟨g, 2, none⟩ = some (.int .i64 m.fm) ∧ w.cell? ⟨g, 3, none⟩ = some (.slice a m.l.length c) ∧ m.l.length ≤ c ∧ (c ≤ maxLen ∧ (a = none → c = 0)) ∧ PsAt w a m.l := by
  obtain ⟨a, c, h1, h2, h3, h4⟩ := h
  have f := fun i hi => h1.cell (by simp [maxLen]) i hi
  exact ⟨a, c, f 0 (by simp), f 1 (by simp), f 2 (by simp), f 3 (by simp), h2, h3, h4⟩
/-- the highest place -/
def Lm.top (m : Lm) : Nat := m.fl + m.l.length
/-- what stands at a place -/
def Lm.part (m : Lm) (n : Int) : Value := if n < m.fl then .nilIface else if n = m.fl then flV m else match m.l[(n - m.fl - 1).toNat]? with | some e => pv e | none => .nilIface
/-- the term of a place -/
def Lm.term (m : Lm) (n : Int) : Int := if n < m.fl then -1 else if n = m.fl then m.ft else match m.l[(n - m.fl - 1).toNat]? with | some e => e.2.1 | none => -1
theorem Lm.part_low {m : Lm} {n : Int} (h : n < m.fl) : m.part n = .nilIface ∧ m.term n = -1 := by unfold Lm.part Lm.term; rw [if_pos h, if_pos h]; exact ⟨rfl, rfl⟩
theorem Lm.part_fl {m : Lm} {n : Int} (h : n = m.fl) : m.part n = flV m ∧ m.term n = m.ft := by
  have h1 : ¬ n < (m.fl : Int) := by omega
  unfold Lm.part Lm.term; rw [if_neg h1, if_neg h1, if_pos h, if_pos h]; exact ⟨rfl, rfl⟩
theorem Lm.part_high {m : Lm} {n : Int} (h : (m.fl : Int) + m.l.length < n) : m.part n = .nilIface ∧ m.term n = -1 := by
  have h1 : ¬ n < (m.fl : Int) := by omega
  have h2 : ¬ n = (m.fl : Int) := by omega
  unfold Lm.part Lm.term
  rw [if_neg h1, if_neg h1, if_neg h2, if_neg h2, List.getElem?_eq_none (by omega)]; exact ⟨rfl, rfl⟩
theorem Lm.part_in {m : Lm} {n : Int} {i : Nat} (hi : i < m.l.length) (h : n = (m.fl : Int) + i + 1) : m.part n = pv m.l[i] ∧ m.term n = m.l[i].2.1 := by
  have e : (n - m.fl - 1).toNat = i := by omega
  have h1 : ¬ n < (m.fl : Int) := by omega
  have h2 : ¬ n = (m.fl : Int) := by omega
  unfold Lm.part Lm.term
  rw [if_neg h1, if_neg h1, if_neg h2, if_neg h2, e, List.getElem?_eq_getElem hi]; exact ⟨rfl, rfl⟩
theorem Lm.cases (m : Lm) (n : Int) : (n < m.fl) ∨ (n = m.fl) ∨ (∃ i, ∃ hi : i < m.l.length, n = (m.fl : Int) + i + 1) ∨ ((m.fl : Int) + m.l.length < n) := by
  by_cases h1 : n < m.fl
  · exact .inl h1
  · by_cases h2 : n = m.fl
    · exact .inr (.inl h2)
    · by_cases h3 : (m.fl : Int) + m.l.length < n
      · exact .inr (.inr (.inr h3))
      · exact .inr (.inr (.inl ⟨(n - m.fl - 1).toNat, by omega, by omega⟩))

/-- an entry that came in -/
structure EAt (w : World) (p off i : Nat) (e : Ent) : Prop where
  kind : w.cell? ⟨p, off + i * 3, none⟩ = some (.int .i64 e.1)
  term : w.cell? ⟨p, off + i * 3 + 1, none⟩ = some (.int .i64 e.2.1)
  data : ∃ x c, w.cell? ⟨p, off + i * 3 + 2, none⟩ = some (.slice x e.2.2.length c) ∧ Row w x e.2.2 ∧ e.2.2.length ≤ c ∧ (x = none → c = 0)
  k64 : I64 e.1
  t64 : I64 e.2.1
  len : e.2.2.length ≤ 140737488351232
def EArgs (w : World) (a : Option Addr) (l : List Ent) : Prop := l = [] ∨ ∃ p off, a = some ⟨p, off, none⟩ ∧ ∀ i (hi : i < l.length), EAt w p off i l[i]
theorem EAt.later {w w' : World} {p off i : Nat} {e : Ent} (h : EAt w p off i e) (hb : Below w.heap.size w w') : EAt w' p off i e := by
  obtain ⟨h1, h2, ⟨x, c, h3, h4, h5⟩, h6, h7, h8⟩ := h
  exact ⟨cell_later hb h1, cell_later hb h2, ⟨x, c, cell_later hb h3, h4.later hb, h5⟩, h6, h7, h8⟩
theorem EArgs.later {w w' : World} {a : Option Addr} {l : List Ent} (h : EArgs w a l) (hb : Below w.heap.size w w') : EArgs w' a l := by
  rcases h with h | ⟨p, off, rfl, h⟩
  · exact .inl h
  · exact .inr ⟨p, off, rfl, fun i hi => (h i hi).later hb⟩
theorem EArgs.at {w : World} {a : Option Addr} {l : List Ent} (h : EArgs w a l) (i : Nat) (hi : i < l.length) : ∃ p off, a = some ⟨p, off, none⟩ ∧ EAt w p off i l[i] := by
  rcases h with h | ⟨p, off, rfl, h⟩
  · rw [h] at hi; simp at hi
  · exact ⟨p, off, rfl, h i hi⟩
end Go.Proofs.Ytgjcgnmomdanaaa

/- Entries that can be; a log of none; what stands at a place. -/
namespace Go.Proofs.Ytgjcgnmomdanaaa
open Go.RowKit
set_option linter.unusedVariables false
set_option maxRecDepth 4000

set_option maxHeartbeats 400000 in
theorem isNumber_any (n : Int) (w : World) :
    Calls Try.prog 44 #[.int .i64 n] w fun e w' => e = .returned (.bool (numB n)) ∧ w = w' := by
  have HB : Hid (numB n = decide (0 ≤ n ∧ n ≤ 1099511627776)) := rfl
  by_cases c1 : 0 ≤ n
  · obtain ⟨M, hM⟩ : ∃ M : Int, M = 1099511627776 := ⟨_, rfl⟩
    go_enter Try.func44, Try.ntmps44
    go_wp2
    go_ret
    exact ⟨ret_bool (by rw [HB.out]; first | (refine decide_eq_decide.2 ?_; omega) | (refine (decide_eq_true ?_).symm; omega)), rfl⟩
  · go_enter Try.func44, Try.ntmps44
    go_wp2
    go_ret
    exact ⟨ret_bool (by rw [HB.out]; first | (refine decide_eq_decide.2 ?_; omega) | (refine (decide_eq_false ?_).symm; omega)), rfl⟩
set_option maxHeartbeats 400000 in
theorem isMask_any (n : Int) (w : World) :
    Calls Try.prog 71 #[.int .i64 n] w fun e w' => e = .returned (.bool (maskB n)) ∧ w = w' := by
  have HB : Hid (maskB n = decide (1 ≤ n ∧ n ≤ 31)) := rfl
  by_cases c1 : 1 ≤ n
  · go_enter Try.func71, Try.ntmps71
    go_wp2
    go_ret
    exact ⟨ret_bool (by rw [HB.out]; first | (refine decide_eq_decide.2 ?_; omega) | (refine (decide_eq_true ?_).symm; omega)), rfl⟩
  · go_enter Try.func71, Try.ntmps71
    go_wp2
    go_ret
    exact ⟨ret_bool (by rw [HB.out]; first | (refine decide_eq_decide.2 ?_; omega) | (refine (decide_eq_false ?_).symm; omega)), rfl⟩

/-- an entry as a value -/
def entV (e : Ent) (x : Option Addr) (c : Nat) : Value := .agg #[.int .i64 e.1, .int .i64 e.2.1, .slice x e.2.2.length c]
theorem box3_below (w : World) (x y z : Value) (T : TypeId) : Below w.heap.size w (w.alloc (.cells #[x, y, z] T)) := (Below.refl _ _).alloc (Nat.le_refl _) _
theorem box3_cells (w : World) (x y z : Value) (T : TypeId) : (w.alloc (.cells #[x, y, z] T)).cell? ⟨w.heap.size, 0, none⟩ = some x ∧ (w.alloc (.cells #[x, y, z] T)).cell? ⟨w.heap.size, 1, none⟩ = some y ∧ (w.alloc (.cells #[x, y, z] T)).cell? ⟨w.heap.size, 2, none⟩ = some z := by
  have h : Blk (w.alloc (.cells #[x, y, z] T)) w.heap.size T [x, y, z] := Blk.new' w _ _
  have f := fun i hi => h.cell (by simp [maxLen]) i hi
  exact ⟨f 0 (by simp), f 1 (by simp), f 2 (by simp)⟩
set_option maxHeartbeats 1000000 in
theorem canBe9_any (k t : Int) (l : List (BitVec 8)) (x : Option Addr) (c : Nat) (w : World) (hr : Row w x l) (hlen : l.length ≤ 140737488355328) :
    Calls Try.prog 45 #[.agg #[.int .i64 k, .int .i64 t, .slice x l.length c]] w fun e w' => e = .returned (.bool (canE (k, t, l))) ∧ Below w.heap.size w w' := by
  have b1 := box3_below w (.int .i64 k) (.int .i64 t) (.slice x l.length c) 49
  obtain ⟨c0, c1, c2⟩ := box3_cells w (.int .i64 k) (.int .i64 t) (.slice x l.length c) 49
  have r1 := hr.later b1
  have F : Hid _ := b1
  obtain ⟨R, hR⟩ : ∃ R, R = canE (k, t, l) := ⟨_, rfl⟩
  rw [← hR]
  unfold canE at hR
  simp only at hR
  clear b1 hr
  by_cases t1 : t < 1
  · have HR : Hid (R = false) := by rw [hR, decide_eq_false (p := 1 ≤ t ∧ t ≤ 1099511627776) (by omega)]; rfl
    clear hR r1
    go_enter Try.func45, Try.ntmps45
    go_wp2
    go_ret
    exact ⟨ret_bool HR.out.symm, F.out⟩
  · by_cases t2 : 1099511627776 < t
    · have HR : Hid (R = false) := by rw [hR, decide_eq_false (p := 1 ≤ t ∧ t ≤ 1099511627776) (by omega)]; rfl
      have q : decide (t > 1099511627776) = true := decide_eq_true t2
      clear hR r1 t2
      go_enter Try.func45, Try.ntmps45
      go_wp2
      go_ret
      exact ⟨ret_bool HR.out.symm, F.out⟩
    · have q : decide (t > 1099511627776) = false := decide_eq_false t2
      rw [decide_eq_true (p := 1 ≤ t ∧ t ≤ 1099511627776) (by omega)] at hR
      clear t2
      by_cases l1 : 4080 < l.length
      · have HR : Hid (R = false) := by rw [hR, decide_eq_false (p := l.length ≤ 4080) (by omega)]; rfl
        have q2 : decide ((l.length : Int) > 4080) = true := decide_eq_true (by omega)
        clear hR r1
        generalize (l.length : Int) = L at *
        go_enter Try.func45, Try.ntmps45
        go_wp2
        go_ret
        exact ⟨ret_bool HR.out.symm, F.out⟩
      · have q2 : decide ((l.length : Int) > 4080) = false := decide_eq_false (by omega)
        rw [decide_eq_true (p := l.length ≤ 4080) (by omega)] at hR
        by_cases k0 : k = 0
        · subst k0
          have HR : Hid (R = true) := by rw [hR]; rfl
          clear hR r1
          generalize (l.length : Int) = L at *
          go_enter Try.func45, Try.ntmps45
          go_wp2
          go_ret
          exact ⟨ret_bool HR.out.symm, F.out⟩
        · by_cases k1 : k = 1
          · subst k1
            have HR : Hid (R = true) := by rw [hR]; rfl
            clear hR r1
            generalize (l.length : Int) = L at *
            go_enter Try.func45, Try.ntmps45
            go_wp2
            go_ret
            exact ⟨ret_bool HR.out.symm, F.out⟩
          · rw [decide_eq_false (p := k = 0 ∨ k = 1) (by omega)] at hR
            by_cases k2 : k = 2
            · subst k2
              by_cases l2 : l.length = 1
              · have HR : Hid (R = maskB (bt l 0)) := by rw [hR, decide_eq_true l2]; exact (by simp : (true && true && (false || decide ((2 : Int) = 2) && (true && maskB (bt l 0)))) = maskB (bt l 0))
                obtain ⟨b, off, rfl, hc⟩ : ∃ b off, x = some ⟨b, off, none⟩ ∧ ∀ i, i < l.length → (w.alloc (.cells #[.int .i64 2, .int .i64 t, .slice x l.length c] 49)).cell? ⟨b, off + i, none⟩ = some (.int .u8 (bt l i)) := by
                  rcases r1 with e | h
                  · rw [e] at l2; simp at l2
                  · exact h
                have d0 := hc 0 (by omega)
                rw [Nat.add_zero] at d0
                have hb := bt_bd l 0
                rw [l2] at c2 d0 F c0 c1 q2 ⊢
                generalize bt l 0 = B at *
                clear hR hc hlen l1 l2 k0 k1
                go_enter Try.func45, Try.ntmps45
                go_wp2_with (go_at_call 71; refine (isMask_any B _).mono ?_; rintro e w' ⟨rfl, rfl⟩)
                go_ret
                exact ⟨ret_bool HR.out.symm, F.out⟩
              · have HR : Hid (R = false) := by rw [hR, decide_eq_false l2]; rfl
                have q3 : ((l.length : Int) == 1) = false := by rw [beq_eq_false_iff_ne]; omega
                have q4 : ¬ (l.length : Int) = 1 := by omega
                clear hR r1 hlen l1
                go_enter Try.func45, Try.ntmps45
                go_wp2
                go_ret
                exact ⟨ret_bool HR.out.symm, F.out⟩
            · have HR : Hid (R = false) := by rw [hR, decide_eq_false k2]; rfl
              clear hR r1 hlen l1
              go_enter Try.func45, Try.ntmps45
              go_wp2
              go_ret
              exact ⟨ret_bool HR.out.symm, F.out⟩

set_option maxHeartbeats 1000000 in
theorem partOf_any (k t : Int) (l : List (BitVec 8)) (x : Option Addr) (c : Nat) (w : World) (hr : Row w x l) (hc : canE (k, t, l) = true) :
    Calls Try.prog 85 #[.agg #[.int .i64 k, .int .i64 t, .slice x l.length c]] w fun e w' => e = .returned (pv (k, t, l)) ∧ Below w.heap.size w w' := by
  have b1 := box3_below w (.int .i64 k) (.int .i64 t) (.slice x l.length c) 49
  obtain ⟨c0, c1, c2⟩ := box3_cells w (.int .i64 k) (.int .i64 t) (.slice x l.length c) 49
  have r1 := hr.later b1
  have hk := canE_kind hc
  simp only at hk
  by_cases k2 : k = 2
  · subst k2
    have l2 : l.length = 1 := by omega
    have HP : Hid (pv (2, t, l) = .iface 141 (.agg #[.int .i64 t, .int .i64 (bt l 0)])) := by exact (show pv (2, t, l) = _ from if_pos rfl)
    obtain ⟨b, off, rfl, hcc⟩ : ∃ b off, x = some ⟨b, off, none⟩ ∧ ∀ i, i < l.length → (w.alloc (.cells #[.int .i64 2, .int .i64 t, .slice x l.length c] 49)).cell? ⟨b, off + i, none⟩ = some (.int .u8 (bt l i)) := by
      rcases r1 with e | h
      · rw [e] at l2; simp at l2
      · exact h
    have d0 := hcc 0 (by omega)
    rw [Nat.add_zero] at d0
    have hb := bt_bd l 0
    rw [l2] at c2 d0 c0 c1 b1 ⊢
    generalize bt l 0 = B at *
    have F : Hid _ := b1.drew
    clear hcc hk l2 b1 hr hc
    go_enter Try.func85, Try.ntmps85
    go_wp2_with fail
    go_region
    go_wp2
    go_ret
    exact ⟨by rw [HP.out]; rfl, F.out⟩
  · have HP : Hid (pv (k, t, l) = .iface 143 (.agg #[.int .i64 k, .int .i64 t, .string (str l)])) := by exact (show pv (k, t, l) = _ from if_neg k2)
    have hs := r1.str l.length c rfl
    have F : Hid _ := b1
    clear r1 b1 hr hc
    go_enter Try.func85, Try.ntmps85
    go_wp2
    go_ret
    exact ⟨by rw [HP.out]; rfl, F.out⟩
end Go.Proofs.Ytgjcgnmomdanaaa
