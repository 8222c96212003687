/- A window in memory: commands that are held, that wait to be told; what is told of it. -/
import Derived.Test.YtmbnhagfihphiaaGs1
import Derived.Test.YtmbnhagfihphiaaWo12
import Derived.Test.YtmbnhagfihphiaaFieldR
import Derived.BigQuiet
namespace Go.Proofs.Ytmbnhagfihphiaa
open Go.RowKit
set_option linter.unusedVariables false
set_option linter.unusedSimpArgs false
set_option maxRecDepth 4000

/-- a command: its number, whether it came now, its id -/
abbrev Cm := BitVec 32 × Bool × Int
def kCmd : Kd Cm := ⟨54, 50, 3, 16, .agg #[.int .u32 0, .bool false, .int .i64 0], fun c => [.int .u32 (c.1.toNat : Int), .bool c.2.1, .int .i64 c.2.2]⟩
theorem kCmd_ok : kCmd.Ok := ⟨by simp [kCmd], fun x => rfl, fun x u hu => by simp [kCmd] at hu; rcases hu with rfl | rfl | rfl <;> rfl, Try.underlying50, by kernel_rfl, rfl, by simp [kCmd]⟩
/-- a window: expected, places, being done, held, to be told, how many of those came now -/
structure Wn where
  exp : BitVec 32
  size : Nat
  busy : Nat
  held : List Cm
  wait : List Cm
  nows : Nat
structure Wn.Wf (m : Wn) : Prop where
  one : 1 ≤ m.size
  most : m.size ≤ 64
  room : m.busy ≤ m.size
  now64 : m.nows ≤ 64
  few : m.held.length + m.wait.length ≤ 10000
  nows : m.nows = (m.wait.filter (·.2.1)).length
structure WdAt (w : World) (g : Nat) (qh qw : Option Nat) (hv wv : Value) (m : Wn) : Prop where
  blk : Blk w g 52 [.int .u32 (m.exp.toNat : Int), .int .i64 m.size, .int .i64 m.busy, hv, wv, .int .i64 m.nows]
  held : GSl kCmd w hv qh m.held
  wait : GSl kCmd w wv qw m.wait
/-- where the held ones, and those that wait, lie -/
abbrev Wq := Option Nat × Option Nat
def wdW (g : Nat) (p : Wq) : List Nat := g :: (p.1.toList ++ p.2.toList)
theorem mem_wdW (g k : Nat) (p : Wq) : k ∈ wdW g p ↔ k = g ∨ p.1 = some k ∨ p.2 = some k := by simp [wdW]
structure Wq.Ap (g : Nat) (p : Wq) : Prop where
  a : p.1 ≠ some g
  b : p.2 ≠ some g
  c : ∀ k, p.1 = some k → p.2 ≠ some k
/-- the window at block g -/
def wd (g : Nat) (p : Wq) (m : Wn) : Ob := ⟨wdW g p, [], fun w => Wq.Ap g p ∧ ∃ hv wv, WdAt w g p.1 p.2 hv wv m⟩
theorem wd_stable (g : Nat) (p : Wq) (m : Wn) (w1 w2 : World) (hb : ∀ k, k ∈ (wd g p m).W ∨ k ∈ (wd g p m).V → w2.heap[k]? = w1.heap[k]?) (h : (wd g p m).P w1) : (wd g p m).P w2 := by
  obtain ⟨hn, hv, wv, h1, h2, h3⟩ := h
  refine ⟨hn, hv, wv, ?_, h2.same (fun k hk => hb k (.inl ((mem_wdW g k p).2 (.inr (.inl hk))))), h3.same (fun k hk => hb k (.inl ((mem_wdW g k p).2 (.inr (.inr hk)))))⟩
  unfold Blk at *; rw [hb g (.inl ((mem_wdW g g p).2 (.inl rfl)))]; exact h1
theorem wd_ok {g : Nat} {p : Wq} {m : Wn} {w : World} (h : (wd g p m).P w) : (wd g p m).Ok w := by
  obtain ⟨hn, hv, wv, h1, h2, h3⟩ := id h
  refine ⟨h, fun k hk => ?_, (fun k _ hv => by cases hv), wd_stable g p m⟩
  rcases hk with hk | hk
  · rcases (mem_wdW g k p).1 hk with rfl | hk | hk
    · exact h1.lt
    · exact h2.lt k hk
    · exact h3.lt k hk
  · cases hk
/-- the held ones, those that wait, or a number, are replaced: what was done ahead of it to other blocks -/
structure WdPut (g : Nat) (p p' : Wq) (m : Wn) (w w5 : World) (hv wv hv' wv' : Value) (h' t' : List Cm) : Prop where
  ok : (wd g p m).Ok w
  blk : Blk w g 52 [.int .u32 (m.exp.toNat : Int), .int .i64 m.size, .int .i64 m.busy, hv, wv, .int .i64 m.nows]
  turned : Turned (fun k => p.1 = some k ∨ p.2 = some k) w w5
  held : GSl kCmd w5 hv' p'.1 h'
  wait : GSl kCmd w5 wv' p'.2 t'
  or1 : ∀ k, p'.1 = some k → p.1 = some k ∨ w.heap.size ≤ k
  or2 : ∀ k, p'.2 = some k → p.2 = some k ∨ w.heap.size ≤ k
  ne : ∀ k, p'.1 = some k → p'.2 ≠ some k
theorem WdPut.blk5 {g : Nat} {p p' : Wq} {m : Wn} {w w5 : World} {hv wv hv' wv' : Value} {h' t' : List Cm} (H : WdPut g p p' m w w5 hv wv hv' wv' h' t') :
    Blk w5 g 52 [.int .u32 (m.exp.toNat : Int), .int .i64 m.size, .int .i64 m.busy, hv, wv, .int .i64 m.nows] :=
  H.blk.turned H.turned (fun e => e.elim H.ok.holds.1.a H.ok.holds.1.b)
/-- the window's cells are stored anew -/
theorem WdPut.done {g : Nat} {p p' : Wq} {m m' : Wn} {w w5 w6 : World} {hv wv hv' wv' : Value} (H : WdPut g p p' m w w5 hv wv hv' wv' m'.held m'.wait)
    (hB : Blk w6 g 52 [.int .u32 (m'.exp.toNat : Int), .int .i64 m'.size, .int .i64 m'.busy, hv', wv', .int .i64 m'.nows]) (hg : w5.grownBy w6 (some g)) :
    Step w w6 (wd g p m) (wd g p' m') := by
  have ap := H.ok.holds.1
  have lg := H.blk.lt
  have hne1 : ∀ k, p'.1 = some k → k ≠ g := by
    intro k hk e
    subst e
    rcases H.or1 k hk with e | e
    · exact ap.a e
    · omega
  have hne2 : ∀ k, p'.2 = some k → k ≠ g := by
    intro k hk e
    subst e
    rcases H.or2 k hk with e | e
    · exact ap.b e
    · omega
  have z5 := H.turned.size
  have z6 := hg.size
  have hk6 : ∀ k, k < w5.heap.size → k ≠ g → w6.heap[k]? = w5.heap[k]? := fun k hk hn => hg.block k hk (by intro e; cases e; exact hn rfl)
  refine step_of (o := wd g p m) (o' := wd g p' m') ⟨hg.os.trans H.turned.os, hg.tape.trans H.turned.tape, hg.output.trans H.turned.output, by omega, ?_⟩ ⟨⟨?_, ?_, H.ne⟩, hv', wv', hB, ?_, ?_⟩ (wd_stable g p' m') ?_ (fun k hk => by cases hk) (fun k _ hv => by cases hv)
  · intro k hk hn'
    have hn2 : ¬ (k = g ∨ p.1 = some k ∨ p.2 = some k) := fun e => hn' ((mem_wdW g k p).2 e)
    rw [hk6 k (by omega) (fun e => hn2 (.inl e)), H.turned.block k hk (fun e => hn2 (.inr e))]
  · exact fun e => hne1 g e rfl
  · exact fun e => hne2 g e rfl
  · exact H.held.same (fun k hk => hk6 k (H.held.lt k hk) (hne1 k hk))
  · exact H.wait.same (fun k hk => hk6 k (H.wait.lt k hk) (hne2 k hk))
  · intro k hk
    rcases (mem_wdW g k p').1 hk with rfl | hk | hk
    · exact ⟨.inl ((mem_wdW _ _ p).2 (.inl rfl)), by omega⟩
    · refine ⟨?_, Nat.lt_of_lt_of_le (H.held.lt k hk) z6⟩
      rcases H.or1 k hk with e | e
      · exact .inl ((mem_wdW g k p).2 (.inr (.inl e)))
      · exact .inr e
    · refine ⟨?_, Nat.lt_of_lt_of_le (H.wait.lt k hk) z6⟩
      rcases H.or2 k hk with e | e
      · exact .inl ((mem_wdW g k p).2 (.inr (.inr e)))
      · exact .inr e
theorem wd_put {g : Nat} {p : Wq} {m : Wn} {w : World} (h : (wd g p m).Ok w) : ∃ hv wv, WdAt w g p.1 p.2 hv wv m ∧ WdPut g p p m w w hv wv hv wv m.held m.wait := by
  obtain ⟨ap, hv, wv, h1, h2, h3⟩ := id h.holds
  exact ⟨hv, wv, ⟨h1, h2, h3⟩, h, h1, ⟨rfl, rfl, rfl, Nat.le_refl _, fun _ _ _ => rfl⟩, h2, h3, fun k e => .inl e, fun k e => .inl e, ap.c⟩

theorem dn9 (B : Nat) (w : World) (n : Nat) : Below B w (w.drewN n) := ⟨rfl, rfl, rfl, Nat.le_refl _, fun _ _ => rfl⟩
def Wn.high (m : Wn) : BitVec 32 := m.exp + BitVec.ofNat 32 (m.size - m.busy) - 1#32
def Wn.new (first : BitVec 32) (size : Nat) : Wn := ⟨first, size, 0, [], [], 0⟩

set_option maxHeartbeats 400000 in
theorem wdPlaces_any (g : Nat) (p : Wq) (m : Wn) (w : World) (h : (wd g p m).Ok w) (hw : m.Wf) :
    Calls Try.prog 26 #[.pointer (some ⟨g, 0, none⟩)] w fun e w' => e = .returned (.int .i64 ((m.size - m.busy : Nat) : Int)) ∧ ∃ n, w' = w.drewN n := by
  obtain ⟨hn, hv, wv, hB, -, -⟩ := h.holds
  have c1 := blk_at hB 1
  have c2 := blk_at hB 2
  simp only [List.getElem?_cons_succ, List.getElem?_cons_zero] at c1 c2
  have e0 : ((m.size : Int) - m.busy) = ((m.size - m.busy : Nat) : Int) := by have := hw.room; omega
  have E : Hid _ := e0
  clear e0
  have q1 := hw.most
  have q2 := hw.room
  have q3 : -9223372036854775808 ≤ (m.size : Int) - m.busy ∧ (m.size : Int) - m.busy ≤ 9223372036854775807 := by omega
  generalize m.size - m.busy = d at *
  generalize (m.size : Int) = sz at *
  generalize (m.busy : Int) = bz at *
  clear hB h hw hn q1 q2
  go_enter Try.func26, Try.ntmps26
  go_wp2_with fail
  go_quiet (fail)
  go_wp2
  go_ret
  exact ⟨ret_int E.out, _, rfl⟩
theorem high_int (m : Wn) (h : m.busy ≤ m.size) (h2 : m.size ≤ 64) : ((((m.exp.toNat : Int) + ((m.size - m.busy : Nat) : Int)) % 4294967296) - 1) % 4294967296 = (m.high.toNat : Int) := by
  have hx := m.exp.isLt
  unfold Wn.high
  rw [BitVec.toNat_sub, BitVec.toNat_add, BitVec.toNat_ofNat]
  simp only [BitVec.toNat_ofNat]
  generalize m.exp.toNat = x at *
  generalize m.size - m.busy = d at *
  omega
set_option maxHeartbeats 400000 in
theorem wdHigh_any (g : Nat) (p : Wq) (m : Wn) (w : World) (h : (wd g p m).Ok w) (hw : m.Wf) :
    Calls Try.prog 17 #[.pointer (some ⟨g, 0, none⟩)] w fun e w' => e = .returned (.int .u32 (m.high.toNat : Int)) ∧ ∃ n, w' = w.drewN n := by
  have HP : Hid _ := And.intro h hw
  obtain ⟨hn, hv, wv, hB, -, -⟩ := h.holds
  have c0 := blk_at hB 0
  simp only [List.getElem?_cons_succ, List.getElem?_cons_zero] at c0
  have E : Hid _ := high_int m hw.room hw.most
  clear hB h hw hn
  go_enter Try.func17, Try.ntmps17
  go_wp2_with fail
  go_quiet ((go_at_call 26; exact Calls.quiet_of (wdPlaces_any g p m _ (HP.out.1.later (dn9 _ _ _)) HP.out.2)))
  go_wp2
  go_ret
  exact ⟨ret_int E.out, _, rfl⟩
set_option maxHeartbeats 400000 in
theorem wdExp_any (g : Nat) (p : Wq) (m : Wn) (w : World) (h : (wd g p m).Ok w) :
    Calls Try.prog 16 #[.pointer (some ⟨g, 0, none⟩)] w fun e w' => e = .returned (.int .u32 (m.exp.toNat : Int)) ∧ w' = w := by
  obtain ⟨hn, hv, wv, hB, -, -⟩ := h.holds
  have c0 := blk_at hB 0
  simp only [List.getElem?_cons_succ, List.getElem?_cons_zero] at c0
  clear hB h hn
  go_enter Try.func16, Try.ntmps16
  go_wp2
  go_ret
  exact ⟨rfl, rfl⟩
set_option maxHeartbeats 400000 in
theorem wdBusy_any (g : Nat) (p : Wq) (m : Wn) (w : World) (h : (wd g p m).Ok w) :
    Calls Try.prog 20 #[.pointer (some ⟨g, 0, none⟩)] w fun e w' => e = .returned (.int .i64 m.busy) ∧ w' = w := by
  obtain ⟨hn, hv, wv, hB, -, -⟩ := h.holds
  have c0 := blk_at hB 2
  simp only [List.getElem?_cons_succ, List.getElem?_cons_zero] at c0
  clear hB h hn
  go_enter Try.func20, Try.ntmps20
  go_wp2
  go_ret
  exact ⟨rfl, rfl⟩
set_option maxHeartbeats 400000 in
theorem wdHeld_any (g : Nat) (p : Wq) (m : Wn) (w : World) (h : (wd g p m).Ok w) :
    Calls Try.prog 19 #[.pointer (some ⟨g, 0, none⟩)] w fun e w' => e = .returned (.int .i64 m.held.length) ∧ w' = w := by
  obtain ⟨hn, hv, wv, hB, hH, -⟩ := h.holds
  have c0 := blk_at hB 3
  simp only [List.getElem?_cons_succ, List.getElem?_cons_zero] at c0
  obtain ⟨a, c, rfl, -, -, -⟩ := hH.cell kCmd_ok
  clear hB h hn hH
  go_enter Try.func19, Try.ntmps19
  go_wp2
  go_ret
  exact ⟨rfl, rfl⟩
set_option maxHeartbeats 400000 in
theorem wdNew_yes (first : BitVec 32) (n : Nat) (w : World) (h1 : 1 ≤ n) (h2 : n ≤ 64) :
    Calls Try.prog 7 #[.int .u32 (first.toNat : Int), .int .i64 n] w fun e w' => e = .returned (.tuple #[.pointer (some ⟨w.heap.size, 0, none⟩), .int .i64 0]) ∧ (wd w.heap.size (none, none) (Wn.new first n)).Ok w' ∧ Below w.heap.size w w' := by
  have N := Blk.new' w 52 [.int .u32 (first.toNat : Int), .int .i64 n, .int .i64 0, .slice none 0 0, .slice none 0 0, .int .i64 0]
  have bn : Below w.heap.size w (w.alloc (.cells #[.int .u32 (first.toNat : Int), .int .i64 n, .int .i64 0, .slice none 0 0, .slice none 0 0, .int .i64 0] 52)) := (Below.refl _ _).alloc (Nat.le_refl _) _
  have F : Hid _ := And.intro (wd_ok (g := w.heap.size) (p := (none, none)) (m := Wn.new first n) ⟨⟨by simp, by simp, by simp⟩, _, _, N, GSl.nil _ _, GSl.nil _ _⟩) bn
  have q1 : ¬ (n : Int) < 1 := by omega
  have q2 : ¬ 64 < (n : Int) := by omega
  clear N bn h1 h2
  go_enter Try.func7, Try.ntmps7
  go_wp2
  go_ret2
  exact ⟨rfl, F.out.1, F.out.2⟩
set_option maxHeartbeats 400000 in
theorem wdNew_no (first : BitVec 32) (n : Int) (w : World) (h : n < 1 ∨ 64 < n) :
    Calls Try.prog 7 #[.int .u32 (first.toNat : Int), .int .i64 n] w fun e w' => e = .returned (.tuple #[.pointer none, .int .i64 1]) ∧ w' = w := by
  by_cases h1 : n < 1
  · clear h
    go_enter Try.func7, Try.ntmps7
    go_wp2
    go_ret2
    exact ⟨rfl, rfl⟩
  · have h2 : 64 < n := by omega
    clear h
    go_enter Try.func7, Try.ntmps7
    go_wp2
    go_ret2
    exact ⟨rfl, rfl⟩
def Wn.done (m : Wn) : Wn := { m with busy := m.busy - 1 }
set_option maxHeartbeats 400000 in
theorem wdDone_no (g : Nat) (p : Wq) (m : Wn) (w : World) (h : (wd g p m).Ok w) (h0 : m.busy = 0) :
    Calls Try.prog 14 #[.pointer (some ⟨g, 0, none⟩)] w fun e w' => e = .returned (.int .i64 5) ∧ w' = w := by
  obtain ⟨hn, hv, wv, hB, -, -⟩ := h.holds
  have c0 := blk_at hB 2
  simp only [List.getElem?_cons_succ, List.getElem?_cons_zero, h0] at c0
  clear hB h hn h0
  go_enter Try.func14, Try.ntmps14
  go_wp2
  go_ret
  exact ⟨rfl, rfl⟩
set_option maxHeartbeats 400000 in
theorem wdDone_yes (g : Nat) (p : Wq) (m : Wn) (w : World) (h : (wd g p m).Ok w) (hw : m.Wf) (h0 : 0 < m.busy) :
    Calls Try.prog 14 #[.pointer (some ⟨g, 0, none⟩)] w fun e w' => e = .returned (.int .i64 0) ∧ Step w w' (wd g p m) (wd g p m.done) := by
  obtain ⟨hv, wv, A, H⟩ := wd_put h
  have c0 := blk_at A.blk 2
  have f0 := blk_frozen A.blk 2
  simp only [List.getElem?_cons_succ, List.getElem?_cons_zero] at c0
  have F : Hid (Step w (w.setCell ⟨g, 2, none⟩ (.int .i64 ((m.busy : Int) - 1))) (wd g p m) (wd g p m.done)) := by
    have hB := A.blk.set 2 (.int .i64 ((m.busy : Int) - 1))
    refine WdPut.done (m' := m.done) H ?_ (grown_set w g 2 _)
    have e : ((m.done.busy : Nat) : Int) = (m.busy : Int) - 1 := by unfold Wn.done; simp only; omega
    rw [e]
    exact hB
  have q1 : ¬ (m.busy : Int) = 0 := by omega
  have q2 : -9223372036854775808 ≤ (m.busy : Int) - 1 ∧ (m.busy : Int) - 1 ≤ 9223372036854775807 := by have := hw.room; have := hw.most; omega
  generalize (m.busy : Int) = bz at *
  clear A H h hw h0
  go_enter Try.func14, Try.ntmps14
  go_wp2
  go_ret
  exact ⟨rfl, F.out⟩
end Go.Proofs.Ytmbnhagfihphiaa
