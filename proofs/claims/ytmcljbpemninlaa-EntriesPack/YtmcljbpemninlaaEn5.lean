/- Whether a place has a term; where a run begins; who the members are. -/
import Derived.Test.YtmcljbpemninlaaEn4
namespace Go.Proofs.Ytmcljbpemninlaa
open Go.RowKit
set_option linter.unusedVariables false

/-- is there such a place? -/
def Lm.hasB (m : Lm) (n : Int) : Bool := decide ((m.fl : Int) ≤ n ∧ n ≤ (m.fl : Int) + m.l.length)
/-- is there such a place, of that term? -/
def Lm.holdsB (m : Lm) (n t : Int) : Bool := m.hasB n && decide (m.term n = t)
set_option maxHeartbeats 1000000 in
theorem enholds_any (g : Nat) (m : Lm) (n t : Int) (w : World) (h : Lg w g m) (hw : m.Wf) (hn : I64 n) :
    Calls Try.prog 65 #[.pointer (some ⟨g, 0, none⟩), .int .i64 n, .int .i64 t] w fun e w' => e = .returned (.bool (m.holdsB n t)) ∧ Below w.heap.size w w' := by
  have HP := part_any g m n w h hw hn
  have low : m.part n = .nilIface → m.hasB n = false → Calls Try.prog 65 #[.pointer (some ⟨g, 0, none⟩), .int .i64 n, .int .i64 t] w fun e w' => e = .returned (.bool (m.holdsB n t)) ∧ Below w.heap.size w w' := by
    intro h1 h2
    rw [h1] at HP
    have E : Hid (m.holdsB n t = false) := by unfold Lm.holdsB; rw [h2]; exact rfl
    clear h hw hn h1 h2
    go_enter Try.func65, Try.ntmps65
    go_wp2_with (go_at_call 90; refine HP.mono ?_; rintro e w' ⟨rfl, rfl⟩)
    go_ret
    exact ⟨ret_bool E.out.symm, Below.refl _ _⟩
  rcases m.cases n with h1 | h1 | ⟨i, hi, h1⟩ | h1
  · exact low (Lm.part_low h1).1 (decide_eq_false (by omega))
  · have E : Hid (m.holdsB n t = decide ((m.ft : Int) = t)) := by
      unfold Lm.holdsB Lm.hasB; rw [decide_eq_true (p := (m.fl : Int) ≤ n ∧ n ≤ (m.fl : Int) + m.l.length) (by omega), (Lm.part_fl h1).2]; exact Bool.true_and _
    rw [(Lm.part_fl h1).1] at HP
    unfold flV at HP
    clear low h hw hn h1
    have HI := itsTerm_floor m.fl m.ft m.fm w
    have hm := meth_floor m.fl m.ft m.fm
    go_enter Try.func65, Try.ntmps65
    go_wp2_with (first | (go_at_call 90; refine HP.mono ?_; rintro e w' ⟨rfl, rfl⟩) | (go_at_call 118; refine HI.mono ?_; rintro e w' ⟨rfl, hb⟩))
    go_ret
    exact ⟨ret_bool (by rw [E.out]; first | rfl | exact (Bool.beq_eq_decide_eq _ _)), hb⟩
  · have E : Hid (m.holdsB n t = decide (m.l[i].2.1 = t)) := by
      unfold Lm.holdsB Lm.hasB; rw [decide_eq_true (p := (m.fl : Int) ≤ n ∧ n ≤ (m.fl : Int) + m.l.length) (by omega), (Lm.part_in hi h1).2]; exact Bool.true_and _
    rw [(Lm.part_in hi h1).1] at HP
    rcases pv_forms m.l[i] with ⟨k, hv⟩ | ⟨k, s, hv⟩
    · rw [hv] at HP
      generalize m.l[i].2.1 = u at *
      clear low h hw hn h1 hv
      have HI := itsTerm_change u k w
      have hm := meth_change u k
      go_enter Try.func65, Try.ntmps65
      go_wp2_with (first | (go_at_call 90; refine HP.mono ?_; rintro e w' ⟨rfl, rfl⟩) | (go_at_call 119; refine HI.mono ?_; rintro e w' ⟨rfl, hb⟩))
      go_ret
      exact ⟨ret_bool (by rw [E.out]; first | rfl | exact (Bool.beq_eq_decide_eq _ _)), hb⟩
    · rw [hv] at HP
      generalize m.l[i].2.1 = u at *
      clear low h hw hn h1 hv
      have HI := itsTerm_plain k u s w
      have hm := meth_plain k u s
      go_enter Try.func65, Try.ntmps65
      go_wp2_with (first | (go_at_call 90; refine HP.mono ?_; rintro e w' ⟨rfl, rfl⟩) | (go_at_call 120; refine HI.mono ?_; rintro e w' ⟨rfl, hb⟩))
      go_ret
      exact ⟨ret_bool (by rw [E.out]; first | rfl | exact (Bool.beq_eq_decide_eq _ _)), hb⟩
  · exact low (Lm.part_high h1).1 (decide_eq_false (by omega))

/-- does a run begin at a place? -/
def Lm.begB (m : Lm) (n : Int) : Bool := decide (n = (m.fl : Int) + 1) || decide (m.term (n - 1) ≠ m.term n)
set_option maxHeartbeats 1000000 in
theorem enbegins_any (g : Nat) (m : Lm) (n : Int) (w : World) (h : Lg w g m) (hw : m.Wf) (hn : I64 n) (hlow : (m.fl : Int) < n) :
    Calls Try.prog 88 #[.pointer (some ⟨g, 0, none⟩), .int .i64 n] w fun e w' => e = .returned (.bool (m.begB n)) ∧ Below w.heap.size w w' := by
  have hpl := hw.place
  obtain ⟨a, c, c0, c1, c2, c3, hc, hcm, hp⟩ := h.cells
  by_cases h1 : n = (m.fl : Int) + 1
  · have E : Hid (m.begB n = true) := by unfold Lm.begB; rw [decide_eq_true h1]; exact Bool.true_or _
    clear h hw hp
    go_enter Try.func88, Try.ntmps88
    go_wp2
    go_ret
    exact ⟨ret_bool E.out.symm, Below.refl _ _⟩
  · have E : Hid (m.begB n = decide (m.term (n - 1) ≠ m.term n)) := by unfold Lm.begB; rw [decide_eq_false h1]; exact Bool.false_or _
    have HT : Hid _ := fun (W : World) (hW : Below w.heap.size w W) (z : Int) (hz : I64 z) => enTerm_any g m z W (h.later hW) hw hz
    have n1 : I64 (n - 1) := by unfold I64 at *; omega
    have i64 : Hid _ := And.intro hn n1
    unfold I64 at hn n1
    clear h hw hp
    go_enter Try.func88, Try.ntmps88
    go_wp2_with fail
    refine (HT.out _ (Below.refl _ _) _ i64.out.2).mono ?_
    rintro e w1 ⟨rfl, hb⟩
    go_wp2_with fail
    refine (HT.out _ hb _ i64.out.1).mono ?_
    rintro e w2 ⟨rfl, hb2⟩
    go_wp2
    go_ret
    exact ⟨ret_bool (by rw [E.out]; first | rfl | (rw [Bool.eq_iff_iff]; simp; exact fun q => absurd q h1)), below_then hb hb2⟩

theorem as_ff (v : Value) (w : World) : (Instr.typeAssert (.iface 105 v) 131 105 true).run Try.prog w = .ok (.tuple #[v, .bool true]) w := by kernel_rfl
theorem as_cf (v : Value) (w : World) : (Instr.typeAssert (.iface 146 v) 131 105 true).run Try.prog w = .ok (.tuple #[.agg #[.int .i64 0, .int .i64 0, .int .i64 0], .bool false]) w := by kernel_rfl
theorem as_pf (v : Value) (w : World) : (Instr.typeAssert (.iface 148 v) 131 105 true).run Try.prog w = .ok (.tuple #[.agg #[.int .i64 0, .int .i64 0, .int .i64 0], .bool false]) w := by kernel_rfl
theorem as_cc (v : Value) (w : World) : (Instr.typeAssert (.iface 146 v) 131 146 true).run Try.prog w = .ok (.tuple #[v, .bool true]) w := by kernel_rfl
theorem as_fc (v : Value) (w : World) : (Instr.typeAssert (.iface 105 v) 131 146 true).run Try.prog w = .ok (.tuple #[.agg #[.int .i64 0, .int .i64 0], .bool false]) w := by kernel_rfl
theorem as_pc (v : Value) (w : World) : (Instr.typeAssert (.iface 148 v) 131 146 true).run Try.prog w = .ok (.tuple #[.agg #[.int .i64 0, .int .i64 0], .bool false]) w := by kernel_rfl
theorem as_nc (w : World) : (Instr.typeAssert .nilIface 131 146 true).run Try.prog w = .ok (.tuple #[.agg #[.int .i64 0, .int .i64 0], .bool false]) w := by kernel_rfl
theorem as_pp (v : Value) (w : World) : (Instr.typeAssert (.iface 148 v) 131 148 true).run Try.prog w = .ok (.tuple #[v, .bool true]) w := by kernel_rfl
theorem as_fp (v : Value) (w : World) : (Instr.typeAssert (.iface 105 v) 131 148 true).run Try.prog w = .ok (.tuple #[.agg #[.int .i64 0, .int .i64 0, .string ByteArray.empty], .bool false]) w := by kernel_rfl
theorem as_np (w : World) : (Instr.typeAssert .nilIface 131 148 true).run Try.prog w = .ok (.tuple #[.agg #[.int .i64 0, .int .i64 0, .string ByteArray.empty], .bool false]) w := by kernel_rfl



/-- the members as of the first k entries -/
def Lm.memK (m : Lm) : Nat → Int
  | 0 => m.fm
  | k + 1 => match m.l[k]? with | some e => if e.1 = 2 then bt e.2.2 0 else m.memK k | none => m.memK k
def Lm.mem (m : Lm) (n : Int) : Int := if m.hasB n = true then m.memK (n - m.fl).toNat else 0

end Go.Proofs.Ytmcljbpemninlaa
