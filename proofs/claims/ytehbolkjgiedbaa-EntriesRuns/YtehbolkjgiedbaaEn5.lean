/- Whether a place has a term; where a run begins; who the members are. -/
import Derived.Test.YtehbolkjgiedbaaEn4
namespace Go.Proofs.Ytehbolkjgiedbaa
open Go.RowKit
set_option linter.unusedVariables false

/-- is there such a place? -/
def Lm.hasB (m : Lm) (n : Int) : Bool := decide ((m.fl : Int) ≤ n ∧ n ≤ (m.fl : Int) + m.l.length)
/-- is there such a place, of that term? -/
def Lm.holdsB (m : Lm) (n t : Int) : Bool := m.hasB n && decide (m.term n = t)
set_option maxHeartbeats 1000000 in
theorem enholds_any (g : Nat) (m : Lm) (n t : Int) (w : World) (h : Lg w g m) (hw : m.Wf) (hn : I64 n) :
    Calls Try.prog 29 #[.pointer (some ⟨g, 0, none⟩), .int .i64 n, .int .i64 t] w fun e w' => e = .returned (.bool (m.holdsB n t)) ∧ Below w.heap.size w w' := by
  have HP := part_any g m n w h hw hn
  have low : m.part n = .nilIface → m.hasB n = false → Calls Try.prog 29 #[.pointer (some ⟨g, 0, none⟩), .int .i64 n, .int .i64 t] w fun e w' => e = .returned (.bool (m.holdsB n t)) ∧ Below w.heap.size w w' := by
    intro h1 h2
    rw [h1] at HP
    have E : Hid (m.holdsB n t = false) := by unfold Lm.holdsB; rw [h2]; exact rfl
    clear h hw hn h1 h2
    go_enter Try.func29, Try.ntmps29
    go_wp2_with (go_at_call 31; refine HP.mono ?_; rintro e w' ⟨rfl, rfl⟩)
    go_ret
    exact ⟨ret_bool E.out.symm, Below.refl _ _⟩
  rcases m.cases n with h1 | h1 | ⟨i, hi, h1⟩ | h1
  · exact low (Lm.part_low h1).1 (decide_eq_false (by omega))
  · have E : Hid (m.holdsB n t = decide ((m.ft : Int) = t)) := by
      unfold Lm.holdsB Lm.hasB; rw [decide_eq_true (p := (m.fl : Int) ≤ n ∧ n ≤ (m.fl : Int) + m.l.length) (by omega), (Lm.part_fl h1).2]; exact Bool.true_and _
    rw [(Lm.part_fl h1).1] at HP
    unfold flV at HP
    clear low h hw hn h1
    have HI := itsTerm_floor m.fl m.ft m.fm w
    have hm := meth_floor m.fl m.ft m.fm
    go_enter Try.func29, Try.ntmps29
    go_wp2_with (first | (go_at_call 31; refine HP.mono ?_; rintro e w' ⟨rfl, rfl⟩) | (go_at_call 57; refine HI.mono ?_; rintro e w' ⟨rfl, hb⟩))
    go_ret
    exact ⟨ret_bool (by rw [E.out]; first | rfl | exact (Bool.beq_eq_decide_eq _ _)), hb⟩
  · have E : Hid (m.holdsB n t = decide (m.l[i].2.1 = t)) := by
      unfold Lm.holdsB Lm.hasB; rw [decide_eq_true (p := (m.fl : Int) ≤ n ∧ n ≤ (m.fl : Int) + m.l.length) (by omega), (Lm.part_in hi h1).2]; exact Bool.true_and _
    rw [(Lm.part_in hi h1).1] at HP
    rcases pv_forms m.l[i] with ⟨k, hv⟩ | ⟨k, s, hv⟩
    · rw [hv] at HP
      generalize m.l[i].2.1 = u at *
      clear low h hw hn h1 hv
      have HI := itsTerm_change u k w
      have hm := meth_change u k
      go_enter Try.func29, Try.ntmps29
      go_wp2_with (first | (go_at_call 31; refine HP.mono ?_; rintro e w' ⟨rfl, rfl⟩) | (go_at_call 58; refine HI.mono ?_; rintro e w' ⟨rfl, hb⟩))
      go_ret
      exact ⟨ret_bool (by rw [E.out]; first | rfl | exact (Bool.beq_eq_decide_eq _ _)), hb⟩
    · rw [hv] at HP
      generalize m.l[i].2.1 = u at *
      clear low h hw hn h1 hv
      have HI := itsTerm_plain k u s w
      have hm := meth_plain k u s
      go_enter Try.func29, Try.ntmps29
      go_wp2_with (first | (go_at_call 31; refine HP.mono ?_; rintro e w' ⟨rfl, rfl⟩) | (go_at_call 59; refine HI.mono ?_; rintro e w' ⟨rfl, hb⟩))
      go_ret
      exact ⟨ret_bool (by rw [E.out]; first | rfl | exact (Bool.beq_eq_decide_eq _ _)), hb⟩
  · exact low (Lm.part_high h1).1 (decide_eq_false (by omega))

/-- does a run begin at a place? -/
def Lm.begB (m : Lm) (n : Int) : Bool := decide (n = (m.fl : Int) + 1) || decide (m.term (n - 1) ≠ m.term n)
set_option maxHeartbeats 1000000 in
theorem enbegins_any (g : Nat) (m : Lm) (n : Int) (w : World) (h : Lg w g m) (hw : m.Wf) (hn : I64 n) (hlow : (m.fl : Int) < n) :
    Calls Try.prog 40 #[.pointer (some ⟨g, 0, none⟩), .int .i64 n] w fun e w' => e = .returned (.bool (m.begB n)) ∧ Below w.heap.size w w' := by
  have hpl := hw.place
  obtain ⟨a, c, c0, c1, c2, c3, hc, hcm, hp⟩ := h.cells
  by_cases h1 : n = (m.fl : Int) + 1
  · have E : Hid (m.begB n = true) := by unfold Lm.begB; rw [decide_eq_true h1]; exact Bool.true_or _
    clear h hw hp
    go_enter Try.func40, Try.ntmps40
    go_wp2
    go_ret
    exact ⟨ret_bool E.out.symm, Below.refl _ _⟩
  · have E : Hid (m.begB n = decide (m.term (n - 1) ≠ m.term n)) := by unfold Lm.begB; rw [decide_eq_false h1]; exact Bool.false_or _
    have HT : Hid _ := fun (W : World) (hW : Below w.heap.size w W) (z : Int) (hz : I64 z) => enTerm_any g m z W (h.later hW) hw hz
    have n1 : I64 (n - 1) := by unfold I64 at *; omega
    have i64 : Hid _ := And.intro hn n1
    unfold I64 at hn n1
    clear h hw hp
    go_enter Try.func40, Try.ntmps40
    go_wp2_with fail
    refine (HT.out _ (Below.refl _ _) _ i64.out.2).mono ?_
    rintro e w1 ⟨rfl, hb⟩
    go_wp2_with fail
    refine (HT.out _ hb _ i64.out.1).mono ?_
    rintro e w2 ⟨rfl, hb2⟩
    go_wp2
    go_ret
    exact ⟨ret_bool (by rw [E.out]; first | rfl | (rw [Bool.eq_iff_iff]; simp; exact fun q => absurd q h1)), below_then hb hb2⟩

theorem as_ff (v : Value) (w : World) : (Instr.typeAssert (.iface 60 v) 66 60 true).run Try.prog w = .ok (.tuple #[v, .bool true]) w := by kernel_rfl
theorem as_cf (v : Value) (w : World) : (Instr.typeAssert (.iface 84 v) 66 60 true).run Try.prog w = .ok (.tuple #[.agg #[.int .i64 0, .int .i64 0, .int .i64 0], .bool false]) w := by kernel_rfl
theorem as_pf (v : Value) (w : World) : (Instr.typeAssert (.iface 86 v) 66 60 true).run Try.prog w = .ok (.tuple #[.agg #[.int .i64 0, .int .i64 0, .int .i64 0], .bool false]) w := by kernel_rfl
theorem as_cc (v : Value) (w : World) : (Instr.typeAssert (.iface 84 v) 66 84 true).run Try.prog w = .ok (.tuple #[v, .bool true]) w := by kernel_rfl
theorem as_fc (v : Value) (w : World) : (Instr.typeAssert (.iface 60 v) 66 84 true).run Try.prog w = .ok (.tuple #[.agg #[.int .i64 0, .int .i64 0], .bool false]) w := by kernel_rfl
theorem as_pc (v : Value) (w : World) : (Instr.typeAssert (.iface 86 v) 66 84 true).run Try.prog w = .ok (.tuple #[.agg #[.int .i64 0, .int .i64 0], .bool false]) w := by kernel_rfl
theorem as_nc (w : World) : (Instr.typeAssert .nilIface 66 84 true).run Try.prog w = .ok (.tuple #[.agg #[.int .i64 0, .int .i64 0], .bool false]) w := by kernel_rfl
theorem as_pp (v : Value) (w : World) : (Instr.typeAssert (.iface 86 v) 66 86 true).run Try.prog w = .ok (.tuple #[v, .bool true]) w := by kernel_rfl
theorem as_fp (v : Value) (w : World) : (Instr.typeAssert (.iface 60 v) 66 86 true).run Try.prog w = .ok (.tuple #[.agg #[.int .i64 0, .int .i64 0, .string ByteArray.empty], .bool false]) w := by kernel_rfl
theorem as_np (w : World) : (Instr.typeAssert .nilIface 66 86 true).run Try.prog w = .ok (.tuple #[.agg #[.int .i64 0, .int .i64 0, .string ByteArray.empty], .bool false]) w := by kernel_rfl
set_option maxHeartbeats 1000000 in
theorem membersOf_floor (a t k : Int) (w : World) :
    Calls Try.prog 35 #[.iface 60 (.agg #[.int .i64 a, .int .i64 t, .int .i64 k])] w fun e w' => e = .returned (.tuple #[.int .i64 k, .bool true]) ∧ Below w.heap.size w w' := by
  have F : Hid _ := box3_below w (.int .i64 a) (.int .i64 t) (.int .i64 k) 60
  have f1 := as_ff
  go_enter Try.func35, Try.ntmps35
  go_wp2
  go_ret2
  exact ⟨rfl, F.out⟩
set_option maxHeartbeats 1000000 in
theorem membersOf_change (t k : Int) (w : World) :
    Calls Try.prog 35 #[.iface 84 (.agg #[.int .i64 t, .int .i64 k])] w fun e w' => e = .returned (.tuple #[.int .i64 k, .bool true]) ∧ Below w.heap.size w w' := by
  have F : Hid (Below w.heap.size w (w.alloc (.cells #[.int .i64 t, .int .i64 k] 84))) := (Below.refl _ _).alloc (Nat.le_refl _) _
  have f1 := as_cf
  have f2 := as_cc
  go_enter Try.func35, Try.ntmps35
  go_wp2
  go_ret2
  exact ⟨rfl, F.out⟩
set_option maxHeartbeats 1000000 in
theorem membersOf_plain (v : Value) (w : World) :
    Calls Try.prog 35 #[.iface 86 v] w fun e w' => e = .returned (.tuple #[.int .i64 0, .bool false]) ∧ Below w.heap.size w w' := by
  have f1 := as_pf
  have f2 := as_pc
  go_enter Try.func35, Try.ntmps35
  go_wp2
  go_ret2
  exact ⟨rfl, Below.refl _ _⟩

/-- the members as of the first k entries -/
def Lm.memK (m : Lm) : Nat → Int
  | 0 => m.fm
  | k + 1 => match m.l[k]? with | some e => if e.1 = 2 then bt e.2.2 0 else m.memK k | none => m.memK k
def Lm.mem (m : Lm) (n : Int) : Int := if m.hasB n = true then m.memK (n - m.fl).toNat else 0
set_option maxHeartbeats 2000000 in
theorem enMembers_any (g : Nat) (m : Lm) (n : Int) (w : World) (h : Lg w g m) (hw : m.Wf) (hn : I64 n) :
    Calls Try.prog 18 #[.pointer (some ⟨g, 0, none⟩), .int .i64 n] w fun e w' => e = .returned (.int .i64 (m.mem n)) ∧ Below w.heap.size w w' := by
  have HH : Hid _ := And.intro h hw
  have hpl := hw.place
  have hfu := hw.full
  by_cases hb : m.hasB n = true
  · have hb' := of_decide_eq_true hb
    obtain ⟨k0, hk0, e0⟩ : ∃ k : Nat, k ≤ m.l.length ∧ n = (m.fl : Int) + k := ⟨(n - m.fl).toNat, by omega, by omega⟩
    have HR : Hid (m.mem n = m.memK k0) := by
      have e1 : (n - m.fl).toNat = k0 := by omega
      unfold Lm.mem; rw [if_pos hb, e1]; exact rfl
    subst e0
    clear h hw hb hb' hn
    go_enter Try.func18, Try.ntmps18
    go_wp2_with fail
    go_loopw [1] (fun iv wr => ∃ k : Nat, k ≤ m.l.length ∧ iv = .int .i64 ((m.fl : Int) + k) ∧ m.memK k = m.memK k0 ∧ Below w.heap.size w wr) (fun iv _ => (intOf iv - m.fl).toNat)
    case atStart => exact ⟨k0, hk0, rfl, rfl, Below.refl _ _⟩
    case round =>
      obtain ⟨k, hk, rfl, hm, hbw⟩ := hrel
      have HP := part_any g m ((m.fl : Int) + k) wr (HH.out.1.later hbw) HH.out.2 (by unfold I64; omega)
      cases k with
      | zero =>
        rw [(Lm.part_fl (m := m) (n := (m.fl : Int) + (0 : Nat)) (by omega)).1] at HP
        unfold flV at HP
        have HM := membersOf_floor m.fl m.ft m.fm wr
        have F : Hid _ := And.intro hm hbw
        clear hm hbw
        go_wp2_with (first | (go_at_call 31; refine HP.mono ?_; rintro e w' ⟨rfl, rfl⟩) | (go_at_call 35; refine HM.mono ?_; rintro e w' ⟨rfl, hb2⟩))
        go_ret
        exact ⟨ret_int (by rw [HR.out, ← F.out.1]; rfl), below_then F.out.2 hb2⟩
      | succ k =>
        have hi : k < m.l.length := by omega
        rw [(Lm.part_in (m := m) (n := (m.fl : Int) + (k + 1 : Nat)) hi (by omega)).1] at HP
        by_cases c2 : m.l[k].1 = 2
        · have hv : pv m.l[k] = .iface 84 (.agg #[.int .i64 m.l[k].2.1, .int .i64 (bt m.l[k].2.2 0)]) := if_pos c2
          rw [hv] at HP
          have hmk : m.memK (k + 1) = bt m.l[k].2.2 0 := by rw [Lm.memK, List.getElem?_eq_getElem hi]; exact if_pos c2
          rw [hmk] at hm
          have HM := membersOf_change m.l[k].2.1 (bt m.l[k].2.2 0) wr
          have F : Hid _ := And.intro hm hbw
          clear hm hbw hmk hv
          generalize m.l[k].2.1 = tt at *
          generalize bt m.l[k].2.2 0 = kk at *
          go_wp2_with (first | (go_at_call 31; refine HP.mono ?_; rintro e w' ⟨rfl, rfl⟩) | (go_at_call 35; refine HM.mono ?_; rintro e w' ⟨rfl, hb2⟩))
          go_ret
          exact ⟨ret_int (by rw [HR.out, ← F.out.1]), below_then F.out.2 hb2⟩
        · have hv : pv m.l[k] = .iface 86 (.agg #[.int .i64 m.l[k].1, .int .i64 m.l[k].2.1, .string (str m.l[k].2.2)]) := if_neg c2
          rw [hv] at HP
          have hmk : m.memK (k + 1) = m.memK k := by rw [Lm.memK, List.getElem?_eq_getElem hi]; exact if_neg c2
          rw [hmk] at hm
          have HM := fun v => membersOf_plain v wr
          have F : Hid _ := And.intro hm hbw
          clear hm hbw hmk hv
          generalize (Value.agg #[.int .i64 m.l[k].1, .int .i64 m.l[k].2.1, .string (str m.l[k].2.2)]) = V at *
          go_wp2_with (first | (go_at_call 31; refine HP.mono ?_; rintro e w' ⟨rfl, rfl⟩) | (go_at_call 35; refine (HM _).mono ?_; rintro e w' ⟨rfl, hb2⟩))
          go_roundw
          case rel => exact ⟨k, by omega, by go_num, F.out.1, below_then F.out.2 hb2⟩
          case measure => simp [intOf]; omega
  · have HR : Hid (m.mem n = 0) := by exact (if_neg hb)
    have HP := part_any g m n w h hw hn
    have hlow : m.part n = .nilIface := by
      rcases m.cases n with h1 | h1 | ⟨i, hi, h1⟩ | h1
      · exact (Lm.part_low h1).1
      · exact absurd (decide_eq_true (by omega)) hb
      · exact absurd (decide_eq_true (by omega)) hb
      · exact (Lm.part_high h1).1
    rw [hlow] at HP
    clear h hw hb hlow
    go_enter Try.func18, Try.ntmps18
    go_wp2_with fail
    refine wp_loop_rounds 1 ?_
    rw [rounds_succ]
    go_wp2_with (go_at_call 31; refine HP.mono ?_; rintro e w' ⟨rfl, rfl⟩)
    go_ret
    exact ⟨ret_int HR.out.symm, Below.refl _ _⟩
end Go.Proofs.Ytehbolkjgiedbaa
