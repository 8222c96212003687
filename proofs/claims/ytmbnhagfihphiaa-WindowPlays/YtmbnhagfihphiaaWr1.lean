/- The document's window in memory: what is told of it. -/
import Derived.Test.YtmbnhagfihphiaaWd8
namespace Go.Proofs.Ytmbnhagfihphiaa
open Go.RowKit
set_option linter.unusedVariables false
set_option linter.unusedSimpArgs false
set_option maxRecDepth 8000

def kHeld : Kd Cm := ⟨62, 35, 2, 16, .agg #[.int .u32 0, .int .i64 0], fun c => [.int .u32 (c.1.toNat : Int), .int .i64 c.2.2]⟩
theorem kHeld_ok : kHeld.Ok := ⟨by simp [kHeld], fun x => rfl, fun x u hu => by simp [kHeld] at hu; rcases hu with rfl | rfl <;> rfl, Try.underlying35, by kernel_rfl, rfl, by simp [kHeld]⟩
def kTold : Kd Cm := ⟨59, 36, 2, 16, .agg #[.int .i64 0, .bool false], fun c => [.int .i64 c.2.2, .bool c.2.1]⟩
theorem kTold_ok : kTold.Ok := ⟨by simp [kTold], fun x => rfl, fun x u hu => by simp [kTold] at hu; rcases hu with rfl | rfl <;> rfl, Try.underlying36, by kernel_rfl, rfl, by simp [kTold]⟩
structure RnAt (w : World) (g : Nat) (qh qw : Option Nat) (hv wv : Value) (m : Wn) : Prop where
  blk : Blk w g 38 [.int .u32 (m.exp.toNat : Int), .int .i64 m.size, .int .i64 m.busy, hv, wv]
  held : GSl kHeld w hv qh m.held
  wait : GSl kTold w wv qw m.wait
/-- the window at block g -/
def rn (g : Nat) (p : Wq) (m : Wn) : Ob := ⟨wdW g p, [], fun w => Wq.Ap g p ∧ ∃ hv wv, RnAt w g p.1 p.2 hv wv m⟩
theorem rn_stable (g : Nat) (p : Wq) (m : Wn) (w1 w2 : World) (hb : ∀ k, k ∈ (rn g p m).W ∨ k ∈ (rn g p m).V → w2.heap[k]? = w1.heap[k]?) (h : (rn g p m).P w1) : (rn g p m).P w2 := by
  obtain ⟨hn, hv, wv, h1, h2, h3⟩ := h
  refine ⟨hn, hv, wv, ?_, h2.same (fun k hk => hb k (.inl ((mem_wdW g k p).2 (.inr (.inl hk))))), h3.same (fun k hk => hb k (.inl ((mem_wdW g k p).2 (.inr (.inr hk)))))⟩
  unfold Blk at *; rw [hb g (.inl ((mem_wdW g g p).2 (.inl rfl)))]; exact h1
theorem rn_ok {g : Nat} {p : Wq} {m : Wn} {w : World} (h : (rn g p m).P w) : (rn g p m).Ok w := by
  obtain ⟨hn, hv, wv, h1, h2, h3⟩ := id h
  refine ⟨h, fun k hk => ?_, (fun k _ hv => by cases hv), rn_stable g p m⟩
  rcases hk with hk | hk
  · rcases (mem_wdW g k p).1 hk with rfl | hk | hk
    · exact h1.lt
    · exact h2.lt k hk
    · exact h3.lt k hk
  · cases hk
/-- the held ones, those that wait, or a number, are replaced: what was done ahead of it to other blocks -/
structure RnPut (g : Nat) (p p' : Wq) (m : Wn) (w w5 : World) (hv wv hv' wv' : Value) (h' t' : List Cm) : Prop where
  ok : (rn g p m).Ok w
  blk : Blk w g 38 [.int .u32 (m.exp.toNat : Int), .int .i64 m.size, .int .i64 m.busy, hv, wv]
  turned : Turned (fun k => p.1 = some k ∨ p.2 = some k) w w5
  held : GSl kHeld w5 hv' p'.1 h'
  wait : GSl kTold w5 wv' p'.2 t'
  or1 : ∀ k, p'.1 = some k → p.1 = some k ∨ w.heap.size ≤ k
  or2 : ∀ k, p'.2 = some k → p.2 = some k ∨ w.heap.size ≤ k
  ne : ∀ k, p'.1 = some k → p'.2 ≠ some k
theorem RnPut.blk5 {g : Nat} {p p' : Wq} {m : Wn} {w w5 : World} {hv wv hv' wv' : Value} {h' t' : List Cm} (H : RnPut g p p' m w w5 hv wv hv' wv' h' t') :
    Blk w5 g 38 [.int .u32 (m.exp.toNat : Int), .int .i64 m.size, .int .i64 m.busy, hv, wv] :=
  H.blk.turned H.turned (fun e => e.elim H.ok.holds.1.a H.ok.holds.1.b)
/-- the window's cells are stored anew -/
theorem RnPut.done {g : Nat} {p p' : Wq} {m m' : Wn} {w w5 w6 : World} {hv wv hv' wv' : Value} (H : RnPut g p p' m w w5 hv wv hv' wv' m'.held m'.wait)
    (hB : Blk w6 g 38 [.int .u32 (m'.exp.toNat : Int), .int .i64 m'.size, .int .i64 m'.busy, hv', wv']) (hg : w5.grownBy w6 (some g)) :
    Step w w6 (rn g p m) (rn g p' m') := by
  have ap := H.ok.holds.1
  have lg := H.blk.lt
  have hne1 : ∀ k, p'.1 = some k → k ≠ g := by
    intro k hk e
    subst e
    rcases H.or1 k hk with e | e
    · exact ap.a e
    · omega
  have hne2 : ∀ k, p'.2 = some k → k ≠ g := by
    intro k hk e
    subst e
    rcases H.or2 k hk with e | e
    · exact ap.b e
    · omega
  have z5 := H.turned.size
  have z6 := hg.size
  have hk6 : ∀ k, k < w5.heap.size → k ≠ g → w6.heap[k]? = w5.heap[k]? := fun k hk hn => hg.block k hk (by intro e; cases e; exact hn rfl)
  refine step_of (o := rn g p m) (o' := rn g p' m') ⟨hg.os.trans H.turned.os, hg.tape.trans H.turned.tape, hg.output.trans H.turned.output, by omega, ?_⟩ ⟨⟨?_, ?_, H.ne⟩, hv', wv', hB, ?_, ?_⟩ (rn_stable g p' m') ?_ (fun k hk => by cases hk) (fun k _ hv => by cases hv)
  · intro k hk hn'
    have hn2 : ¬ (k = g ∨ p.1 = some k ∨ p.2 = some k) := fun e => hn' ((mem_wdW g k p).2 e)
    rw [hk6 k (by omega) (fun e => hn2 (.inl e)), H.turned.block k hk (fun e => hn2 (.inr e))]
  · exact fun e => hne1 g e rfl
  · exact fun e => hne2 g e rfl
  · exact H.held.same (fun k hk => hk6 k (H.held.lt k hk) (hne1 k hk))
  · exact H.wait.same (fun k hk => hk6 k (H.wait.lt k hk) (hne2 k hk))
  · intro k hk
    rcases (mem_wdW g k p').1 hk with rfl | hk | hk
    · exact ⟨.inl ((mem_wdW _ _ p).2 (.inl rfl)), by omega⟩
    · refine ⟨?_, Nat.lt_of_lt_of_le (H.held.lt k hk) z6⟩
      rcases H.or1 k hk with e | e
      · exact .inl ((mem_wdW g k p).2 (.inr (.inl e)))
      · exact .inr e
    · refine ⟨?_, Nat.lt_of_lt_of_le (H.wait.lt k hk) z6⟩
      rcases H.or2 k hk with e | e
      · exact .inl ((mem_wdW g k p).2 (.inr (.inr e)))
      · exact .inr e
theorem rn_put {g : Nat} {p : Wq} {m : Wn} {w : World} (h : (rn g p m).Ok w) : ∃ hv wv, RnAt w g p.1 p.2 hv wv m ∧ RnPut g p p m w w hv wv hv wv m.held m.wait := by
  obtain ⟨ap, hv, wv, h1, h2, h3⟩ := id h.holds
  exact ⟨hv, wv, ⟨h1, h2, h3⟩, h, h1, ⟨rfl, rfl, rfl, Nat.le_refl _, fun _ _ _ => rfl⟩, h2, h3, fun k e => .inl e, fun k e => .inl e, ap.c⟩

set_option maxHeartbeats 400000 in
theorem rnNew_yes (first : BitVec 32) (n : Nat) (w : World) (h1 : 1 ≤ n) (h2 : n ≤ 64) :
    Calls Try.prog 8 #[.int .u32 (first.toNat : Int), .int .i64 n] w fun e w' => e = .returned (.tuple #[.pointer (some ⟨w.heap.size, 0, none⟩), .int .i64 0]) ∧ (rn w.heap.size (none, none) (Wn.new first n)).Ok w' ∧ Below w.heap.size w w' := by
  have N := Blk.new' w 38 [.int .u32 (first.toNat : Int), .int .i64 n, .int .i64 0, .slice none 0 0, .slice none 0 0]
  have bn : Below w.heap.size w (w.alloc (.cells #[.int .u32 (first.toNat : Int), .int .i64 n, .int .i64 0, .slice none 0 0, .slice none 0 0] 38)) := (Below.refl _ _).alloc (Nat.le_refl _) _
  have F : Hid _ := And.intro (rn_ok (g := w.heap.size) (p := (none, none)) (m := Wn.new first n) ⟨⟨by simp, by simp, by simp⟩, _, _, N, GSl.nil _ _, GSl.nil _ _⟩) bn
  have q1 : ¬ (n : Int) < 1 := by omega
  have q2 : ¬ 64 < (n : Int) := by omega
  clear N bn h1 h2
  go_enter Try.func8, Try.ntmps8
  go_wp2
  go_ret2
  exact ⟨rfl, F.out.1, F.out.2⟩
set_option maxHeartbeats 400000 in
theorem rnNew_no (first : BitVec 32) (n : Int) (w : World) (h : n < 1 ∨ 64 < n) :
    Calls Try.prog 8 #[.int .u32 (first.toNat : Int), .int .i64 n] w fun e w' => e = .returned (.tuple #[.pointer none, .int .i64 1]) ∧ w' = w := by
  by_cases h1 : n < 1
  · clear h
    go_enter Try.func8, Try.ntmps8
    go_wp2
    go_ret2
    exact ⟨rfl, rfl⟩
  · have h2 : 64 < n := by omega
    clear h
    go_enter Try.func8, Try.ntmps8
    go_wp2
    go_ret2
    exact ⟨rfl, rfl⟩
set_option maxHeartbeats 400000 in
theorem rnDone_no (g : Nat) (p : Wq) (m : Wn) (w : World) (h : (rn g p m).Ok w) (h0 : m.busy = 0) :
    Calls Try.prog 15 #[.pointer (some ⟨g, 0, none⟩)] w fun e w' => e = .returned (.int .i64 5) ∧ w' = w := by
  obtain ⟨hn, hv, wv, hB, -, -⟩ := h.holds
  have c0 := blk_at hB 2
  simp only [List.getElem?_cons_succ, List.getElem?_cons_zero, h0] at c0
  clear hB h hn h0
  go_enter Try.func15, Try.ntmps15
  go_wp2
  go_ret
  exact ⟨rfl, rfl⟩
set_option maxHeartbeats 400000 in
theorem rnDone_yes (g : Nat) (p : Wq) (m : Wn) (w : World) (h : (rn g p m).Ok w) (hw : m.Wf) (h0 : 0 < m.busy) :
    Calls Try.prog 15 #[.pointer (some ⟨g, 0, none⟩)] w fun e w' => e = .returned (.int .i64 0) ∧ Step w w' (rn g p m) (rn g p m.done) := by
  obtain ⟨hv, wv, A, H⟩ := rn_put h
  have c0 := blk_at A.blk 2
  have f0 := blk_frozen A.blk 2
  simp only [List.getElem?_cons_succ, List.getElem?_cons_zero] at c0
  have F : Hid (Step w (w.setCell ⟨g, 2, none⟩ (.int .i64 ((m.busy : Int) - 1))) (rn g p m) (rn g p m.done)) := by
    have hB := A.blk.set 2 (.int .i64 ((m.busy : Int) - 1))
    refine RnPut.done (m' := m.done) H ?_ (grown_set w g 2 _)
    have e : ((m.done.busy : Nat) : Int) = (m.busy : Int) - 1 := by unfold Wn.done; simp only; omega
    rw [e]
    exact hB
  have q1 : ¬ (m.busy : Int) = 0 := by omega
  have q2 : -9223372036854775808 ≤ (m.busy : Int) - 1 ∧ (m.busy : Int) - 1 ≤ 9223372036854775807 := by have := hw.room; have := hw.most; omega
  generalize (m.busy : Int) = bz at *
  clear A H h hw h0
  go_enter Try.func15, Try.ntmps15
  go_wp2
  go_ret
  exact ⟨rfl, F.out⟩
set_option maxHeartbeats 1000000 in
theorem rnHigh_any (g : Nat) (p : Wq) (m : Wn) (w : World) (h : (rn g p m).Ok w) (hw : m.Wf) :
    Calls Try.prog 18 #[.pointer (some ⟨g, 0, none⟩)] w fun e w' => e = .returned (.int .u32 (m.high.toNat : Int)) ∧ ∃ n, w' = w.drewN n := by
  obtain ⟨hn, hv, wv, hB, -, -⟩ := h.holds
  have c0 := blk_at hB 0
  have c1 := blk_at hB 1
  have c2 := blk_at hB 2
  simp only [List.getElem?_cons_succ, List.getElem?_cons_zero] at c0 c1 c2
  have e0 := high_int m hw.room hw.most
  have e1 : ((m.size - m.busy : Nat) : Int) = (m.size : Int) - m.busy := by have := hw.room; omega
  rw [e1] at e0
  have E : Hid _ := e0
  have q1 := hw.most
  have q2 := hw.room
  have q3 : -9223372036854775808 ≤ (m.size : Int) - m.busy ∧ (m.size : Int) - m.busy ≤ 9223372036854775807 := by omega
  have q4 : 0 ≤ (m.size : Int) - m.busy ∧ (m.size : Int) - m.busy ≤ 64 := by omega
  generalize (m.size : Int) = sz at *
  generalize (m.busy : Int) = bz at *
  clear hB h hw hn q1 q2 e0 e1
  go_enter Try.func18, Try.ntmps18
  go_wp2_with fail
  go_quiet (fail)
  go_wp2
  go_ret
  exact ⟨ret_int (by first | exact E.out | (rw [← E.out]; omega)), _, rfl⟩
def ixI (l : List Cm) (n : BitVec 32) : Int := match ix l n with
  | none => -1
  | some k => k
theorem ixI_none {l : List Cm} {n : BitVec 32} (h : ∀ x ∈ l, ¬ x.1 = n) : ixI l n = -1 := by unfold ixI; rw [ix_none h]
theorem ixI_some {l : List Cm} {n : BitVec 32} {k : Nat} (hk : k < l.length) (h1 : l[k].1 = n) (h2 : ∀ x ∈ l.take k, ¬ x.1 = n) : ixI l n = k := by unfold ixI; rw [ix_some hk h1 h2]
theorem ixI_has (m : Wn) (n : BitVec 32) : decide (0 ≤ ixI m.held n) = m.has n := by
  unfold ixI Wn.has
  cases h : ix m.held n with
  | none =>
    have := ix_not h
    symm
    simp only [Int.reduceNeg]
    rw [List.any_eq_false.2 (fun x hx => by simpa using this x hx)]
    decide
  | some k =>
    obtain ⟨hk, he⟩ := ix_at h
    simp only
    rw [decide_eq_true (by omega)]
    exact (List.any_eq_true.2 ⟨m.held[k], List.getElem_mem _, by simpa using he⟩).symm
set_option maxHeartbeats 1000000 in
theorem rnFind_any (g : Nat) (p : Wq) (m : Wn) (n : BitVec 32) (w : World) (h : (rn g p m).Ok w) (hl : m.held.length ≤ 20000) :
    Calls Try.prog 25 #[.pointer (some ⟨g, 0, none⟩), .int .u32 (n.toNat : Int)] w fun e w' => e = .returned (.int .i64 (ixI m.held n)) ∧ w' = w := by
  obtain ⟨hn, hv, wv, hB, hH, -⟩ := h.holds
  have c3 := blk_at hB 3
  simp only [List.getElem?_cons_succ, List.getElem?_cons_zero] at c3
  obtain ⟨va, vc, rfl, hvc, -, hcs⟩ := hH.cell kHeld_ok
  have HA : Hid _ := hcs
  clear hB h hn hH hcs
  go_enter Try.func25, Try.ntmps25
  go_wp2_with fail
  go_loopw [5] (fun iv wr => ∃ (k : Nat), iv = .int .i64 k ∧ k ≤ m.held.length ∧ (∀ x ∈ m.held.take k, ¬ x.1 = n) ∧ wr = w) (fun iv _ => m.held.length - (intOf iv).toNat)
  case atStart => exact ⟨0, rfl, by omega, by simp, rfl⟩
  case round =>
    obtain ⟨k, rfl, hk, hno, hwr⟩ := hrel
    obtain rfl := hwr.symm
    clear hwr
    by_cases hlt : k < m.held.length
    · obtain ⟨b, off, rfl, -, hc⟩ := HA.out k hlt
      have k1 : w.cell? ⟨b, off + k * 2, none⟩ = some (.int .u32 (m.held[k].1.toNat : Int)) := hc 0 (by simp [kHeld])
      have q1 : (k : Int) < m.held.length := by omega
      have hsn : m.held.take (k + 1) = m.held.take k ++ [m.held[k]] := List.take_succ_eq_append_getElem hlt
      have hix : m.held[k].1 = n → ixI m.held n = k := fun e => ixI_some hlt e hno
      generalize m.held[k] = x at *
      have G : Hid _ := And.intro hno (And.intro hsn hix)
      clear hno hc hsn hix
      by_cases hx : x.1 = n
      · have HX : Hid _ := G.out.2.2 hx
        subst hx
        clear G
        go_wp2
        go_ret
        exact ⟨ret_int HX.out.symm, rfl⟩
      · have F2 : Hid (∀ y ∈ m.held.take (k + 1), ¬ y.1 = n) := (show ∀ y ∈ m.held.take (k + 1), ¬ y.1 = n from by
          rw [G.out.2.1]
          intro y hy
          rcases List.mem_append.1 hy with hy | hy
          · exact G.out.1 y hy
          · rw [List.mem_singleton.1 hy]; exact hx)
        have d1 : ¬ (x.1.toNat : Int) = (n.toNat : Int) := fun e => hx (BitVec.eq_of_toNat_eq (by omega))
        clear G hx
        go_wp2
        go_roundw
        case rel => exact ⟨k + 1, by go_num, by omega, F2.out, by first | rfl | trivial⟩
        case measure => simp [intOf]; omega
    · have hkl : k = m.held.length := by omega
      subst hkl
      have F : Hid _ := ixI_none (l := m.held) (n := n) (by simpa using hno)
      clear hno
      go_wp2
      go_ret
      exact ⟨ret_int F.out.symm, rfl⟩
end Go.Proofs.Ytmbnhagfihphiaa
