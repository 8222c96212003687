/- A unit's blocks in memory: the map, and the calls that read it. -/
import Derived.Test.YtmkacgdbmojomaaXMp
import Derived.Test.YtmkacgdbmojomaaXDkW1
import Derived.Laws.Rows
namespace Go.Proofs.Ytmkacgdbmojomaa
open Go.RowKit Go.MapKept Go.ChangeMaps
set_option linter.unusedVariables false
set_option maxRecDepth 4000

/-- an operation that yields a value -/
theorem wpList_value {P : Program} {w w' : World} {ops : Array Oper} {rest : List Oper} {o : Oper} {a : Act} {Q : Exit → Act → World → Prop} {v : Value} (hg : o.guard = none) (h : (execOp a.eval o).run P w = .ok (.value v) w') (k : wpList P ops Q rest (a.put o.dst v) w') : wpList P ops Q (o :: rest) a w := by
  refine wpList_plain hg fun K' hK' => ?_
  unfold Oper.wp
  rw [h]
  exact hK' _ _ k
/-- an operation that yields nothing -/
theorem wpList_skip {P : Program} {w w' : World} {ops : Array Oper} {rest : List Oper} {o : Oper} {a : Act} {Q : Exit → Act → World → Prop} (hg : o.guard = none) (h : (execOp a.eval o).run P w = .ok .skip w') (k : wpList P ops Q rest (a.put o.dst undef) w') : wpList P ops Q (o :: rest) a w := by
  refine wpList_plain hg fun K' hK' => ?_
  unfold Oper.wp
  rw [h]
  exact hK' _ _ k
section
variable {P : Program} {w w' : World} {a : Act} {o : Oper}
theorem exec_load {t : TypeId} {x : Operand} (ho : o.op = .load t x) {p u : Value} (hx : a.eval x = p) (h : (Instr.loadAt t p).run P w = .ok u w) : (execOp a.eval o).run P w = .ok (.value u) w := by
  simp [execOp, ho, hx, h, Result.andThen]
theorem exec_alloc {t : TypeId} (ho : o.op = .alloc t) {u : Value} (h : (Instr.alloc t true (.tuple #[])).run P w = .ok u w') : (execOp a.eval o).run P w = .ok (.value u) w' := by
  simp [execOp, ho, h, Result.andThen]
theorem exec_store {t : TypeId} {x y : Operand} (ho : o.op = .store t x y) {p u : Value} (hx : a.eval x = p) (hy : a.eval y = u) (h : (Instr.storeAt t p u).run P w = .ok () w') : (execOp a.eval o).run P w = .ok .skip w' := by
  simp [execOp, ho, hx, hy, h, Result.andThen]
theorem exec_mapUpdate {t : TypeId} {m x y : Operand} (ho : o.op = .mapUpdate t m x y) {q p u : Value} (hm : a.eval m = q) (hx : a.eval x = p) (hy : a.eval y = u) (h : (Instr.mapUpdate t q p u).run P w = .ok () w') : (execOp a.eval o).run P w = .ok .skip w' := by
  simp [execOp, ho, hm, hx, hy, h, Result.andThen]
end

/-- a block that is not there -/
def zero64 : List (BitVec 8) := List.replicate 64 0
theorem zero64_len : zero64.length = 64 := by decide
/-- a block as a value -/
def arrV (l : List (BitVec 8)) : Value := .agg (vals l).toArray
theorem info_blk : (Try.prog.info? 77).map (fun i => (i.zero, i.size)) = some (some (arrV zero64), 64) := by kernel_rfl
theorem size_blk : (Try.prog.info? 77).map (·.size) = some 64 := by
  obtain ⟨i, hi, hz⟩ := Option.map_eq_some_iff.1 info_blk
  rw [hi]; simp only [Prod.mk.injEq] at hz; simp [hz.2]
theorem zero_blk (w : World) : (zeroValue 77).run Try.prog w = .ok (arrV zero64) w := by
  obtain ⟨i, hi, hz⟩ := Option.map_eq_some_iff.1 info_blk
  simp only [Prod.mk.injEq] at hz
  simp [zeroValue, typeInfo, hi, hz.1]
theorem und_blk : Try.prog.underlying 77 = some (.array 64 5) := by kernel_rfl
theorem und_map : Try.prog.underlying 59 = some (.map 3 77) := by kernel_rfl
theorem und_int : Try.prog.underlying 3 = some (.int .i64) := by kernel_rfl

/-- a variable of a block -/
theorem alloc_blk (w : World) : (Instr.alloc 77 true (.tuple #[])).run Try.prog w = .ok (.pointer (some ⟨w.heap.size, 0, none⟩)) (w.alloc (.cells (vals zero64).toArray 77)) := by
  simp only [Instr.alloc, Sem.run_bind, zero_blk, Result.andThen_ok]
  simp [newVar, newRow, arrV, Value.cells]
/-- the blocks of an image: how many, and which are there -/
structure Im where
  n : Nat
  f : Nat → Option (List (BitVec 8))
structure Im.Wf (m : Im) : Prop where
  one : 1 ≤ m.n
  most : m.n ≤ 256
  each : ∀ k l, m.f k = some l → k < m.n ∧ l.length = 64
def Im.M (m : Im) : Int → Option Value := fun i => if 0 ≤ i then (m.f i.toNat).map arrV else none
theorem Im.M_nat (m : Im) (i : Nat) : m.M i = (m.f i).map arrV := by simp [Im.M]
theorem Im.Wf.mrange {m : Im} (h : m.Wf) (k : Int) (v : Value) (hv : m.M k = some v) : 0 ≤ k ∧ k < m.n := by
  unfold Im.M at hv
  split at hv
  · rename_i h0
    obtain ⟨l, hl, _⟩ := Option.map_eq_some_iff.1 hv
    have := (h.each _ _ hl).1
    omega
  · cases hv
/-- how many are there -/
def Im.used (m : Im) : Nat := ((List.range m.n).filter (fun i : Nat => (m.f i).isSome)).length
theorem Im.used_le (m : Im) : m.used ≤ m.n := by
  unfold Im.used
  exact Nat.le_trans (List.length_filter_le _ _) (by simp)
/-- the image at block g, its map at block b -/
def im (g b : Nat) (m : Im) : Ob :=
  ⟨[b], [g], fun w => g ≠ b ∧ Blk w g 61 [.int .i64 m.n, .map (some b)] ∧ ∃ es clock, w.heap[b]? = some (.map es clock) ∧ MapIs es clock m.M⟩
theorem im_stable (g b : Nat) (m : Im) (w1 w2 : World) (hb : ∀ k, k ∈ (im g b m).W ∨ k ∈ (im g b m).V → w2.heap[k]? = w1.heap[k]?) (h : (im g b m).P w1) : (im g b m).P w2 := by
  obtain ⟨h1, h2, es, clock, h3, h4⟩ := h
  refine ⟨h1, ?_, es, clock, ?_, h4⟩
  · unfold Blk at *; rw [hb g (.inr (by simp [im]))]; exact h2
  · rw [hb b (.inl (by simp [im]))]; exact h3
theorem im_ok {g b : Nat} {m : Im} {w : World} (h : (im g b m).P w) : (im g b m).Ok w := by
  refine ⟨h, ?_, ?_, im_stable g b m⟩
  · obtain ⟨h1, h2, es, clock, h3, h4⟩ := h
    intro k hk
    rcases hk with hk | hk
    · have : k = b := by simpa [im] using hk
      subst this
      exact (Array.getElem?_eq_some_iff.1 h3).1
    · have : k = g := by simpa [im] using hk
      subst this
      exact h2.lt
  · intro k hk hv
    have e1 : k = b := by simpa [im] using hk
    have e2 : k = g := by simpa [im] using hv
    exact h.1 (e2.symm.trans e1)
theorem im_used {m : Im} {es : Array MapEntry} {clock : Nat} (h : MapIs es clock m.M) (hw : m.Wf) : es.size = m.used := by
  rw [h.size m.n hw.mrange]
  unfold Im.used
  simp [Im.M_nat]

set_option maxHeartbeats 400000 in
theorem imNew_no (n : Int) (w : World) (hn : I64 n) (h : ¬ (1 ≤ n ∧ n ≤ 256)) :
    Calls Try.prog 6 #[.int .i64 n] w fun e w' => e = .returned (.tuple #[.pointer none, .int .i64 1]) ∧ w = w' := by
  by_cases h1 : n < 1
  · go_enter Try.func6, Try.ntmps6
    go_wp2
    go_ret2
    exact ⟨rfl, rfl⟩
  · have h2 : 256 < n := by omega
    go_enter Try.func6, Try.ntmps6
    go_wp2
    go_ret2
    exact ⟨rfl, rfl⟩
set_option maxHeartbeats 400000 in
theorem imNew_yes (n : Nat) (w : World) (h : 1 ≤ n ∧ n ≤ 256) :
    Calls Try.prog 6 #[.int .i64 n] w fun e w' => ∃ g b, e = .returned (.tuple #[.pointer (some ⟨g, 0, none⟩), .int .i64 0]) ∧ w.heap.size ≤ g ∧ w.heap.size ≤ b ∧ (im g b ⟨n, fun _ => none⟩).Ok w' ∧ Below w.heap.size w w' := by
  have h1 : ¬ ((n : Int) < 1) := by omega
  have h2 : ¬ (256 < (n : Int)) := by omega
  have hmm := @run_makeMap Try.prog
  go_enter Try.func6, Try.ntmps6
  go_wp2
  go_ret2
  have e0 : (⟨n, fun _ => none⟩ : Im).M = fun _ => none := by funext i; simp [Im.M]
  refine ⟨w.heap.size + 1, rfl, Nat.le_succ _, w.heap.size, Nat.le_refl _, im_ok ⟨Nat.succ_ne_self _, ?_, #[], 0, ?_, by rw [e0]; exact MapIs.empty _⟩, ?_⟩
  · have := Blk.new' (w.alloc (.map #[] 0)) 61 [.int .i64 n, .map (some w.heap.size)]
    rwa [World.size_alloc] at this
  · rw [Below.heap_alloc _ _ _ (by simp)]; exact (MapKept.heap_alloc w _).1
  · exact ((Below.refl _ w).alloc (Nat.le_refl _) _).alloc (by simp) _

set_option maxHeartbeats 400000 in
theorem imSize_any (g b : Nat) (m : Im) (w : World) (h : (im g b m).Ok w) :
    Calls Try.prog 46 #[.pointer (some ⟨g, 0, none⟩)] w fun e w' => e = .returned (.int .i64 m.n) ∧ w = w' := by
  obtain ⟨h1, h2, es, clock, h3, h4⟩ := h.holds
  have c0 := h2.cell (by simp [maxLen]) 0 (by simp)
  simp only [List.getElem?_cons_zero] at c0
  go_enter Try.func46, Try.ntmps46
  go_wp2
  go_ret
  exact ⟨rfl, rfl⟩
set_option maxHeartbeats 400000 in
theorem imUsed_any (g b : Nat) (m : Im) (w : World) (h : (im g b m).Ok w) (hw : m.Wf) :
    Calls Try.prog 29 #[.pointer (some ⟨g, 0, none⟩)] w fun e w' => e = .returned (.int .i64 m.used) ∧ w = w' := by
  obtain ⟨h1, h2, es, clock, h3, h4⟩ := h.holds
  have c1 := h2.cell (by simp [maxLen]) 1 (by simp)
  simp only [List.getElem?_cons_succ, List.getElem?_cons_zero] at c1
  have hl := h4.len (P := Try.prog) und_map h3 3
  rw [im_used h4 hw] at hl
  clear h2 h4
  go_enter Try.func29, Try.ntmps29
  go_wp2
  go_ret
  exact ⟨rfl, rfl⟩
/-- are these numbers of it? -/
def spansB (n : Nat) (a k : Int) : Bool := decide (0 ≤ k ∧ 0 ≤ a ∧ a ≤ n - k)
set_option maxHeartbeats 400000 in
theorem spans_any (g b : Nat) (m : Im) (a k : Int) (w : World) (h : (im g b m).Ok w) (hw : m.Wf) (ha : I64 a) (hk : I64 k) :
    Calls Try.prog 54 #[.pointer (some ⟨g, 0, none⟩), .int .i64 a, .int .i64 k] w fun e w' => e = .returned (.bool (spansB m.n a k)) ∧ w = w' := by
  obtain ⟨h1, h2, es, clock, h3, h4⟩ := h.holds
  have c0 := h2.cell (by simp [maxLen]) 0 (by simp)
  simp only [List.getElem?_cons_zero] at c0
  unfold I64 at ha hk
  have hm := hw.most
  have hN : (m.n : Int) ≤ 256 := by omega
  have HB : Hid (spansB m.n a k = decide (0 ≤ k ∧ 0 ≤ a ∧ a ≤ m.n - k)) := rfl
  clear h h2 h3 h4 hw
  by_cases q1 : 0 ≤ k
  · by_cases q2 : 0 ≤ a
    · by_cases q3 : a ≤ (m.n : Int) - k
      · go_enter Try.func54, Try.ntmps54
        go_wp2
        go_ret
        exact ⟨ret_bool (by rw [HB.out]; first | (refine decide_eq_decide.2 ?_; omega) | (refine (decide_eq_true ?_).symm; omega)), rfl⟩
      · go_enter Try.func54, Try.ntmps54
        go_wp2
        go_ret
        exact ⟨ret_bool (by rw [HB.out]; first | (refine decide_eq_decide.2 ?_; omega) | (refine (decide_eq_false ?_).symm; omega)), rfl⟩
    · go_enter Try.func54, Try.ntmps54
      go_wp2
      go_ret
      exact ⟨ret_bool (by rw [HB.out]; first | (refine decide_eq_decide.2 ?_; omega) | (refine (decide_eq_false ?_).symm; omega)), rfl⟩
  · go_enter Try.func54, Try.ntmps54
    go_wp2
    go_ret
    exact ⟨ret_bool (by rw [HB.out]; first | (refine decide_eq_decide.2 ?_; omega) | (refine (decide_eq_false ?_).symm; omega)), rfl⟩
theorem setRow_new (w : World) (old cs : Array Value) (t : TypeId) : (w.alloc (.cells old t)).setRow w.heap.size cs = w.alloc (.cells cs t) := by
  unfold World.setRow World.alloc
  simp only [World.mk.injEq, and_true]
  apply Array.ext
  · simp
  · intro i h1 h2
    simp only [Array.getElem_modify, Array.getElem_push]
    split
    · rename_i hi; subst hi; simp
    · rename_i hi
      have : i < w.heap.size := by simp at h2; omega
      simp [this]
/-- a block, stored into a new variable -/
theorem store_blk (w : World) (l : List (BitVec 8)) (hl : l.length = 64) : (Instr.storeAt 77 (.pointer (some ⟨w.heap.size, 0, none⟩)) (arrV l)).run Try.prog (w.alloc (.cells (vals zero64).toArray 77)) = .ok () (w.alloc (.cells (vals l).toArray 77)) := by
  have h := run_storeVar_row (P := Try.prog) (w.alloc (.cells (vals zero64).toArray 77)) w.heap.size 77 77 (vals zero64).toArray (vals l).toArray (MapKept.heap_alloc w _).1 (by rw [size_blk]; simp [vals_length, hl]) (by simp [vals_length, hl, zero64_len]) (by
    rw [Array.all_eq_true_iff_forall_mem]
    intro x hx
    exact vals_one l x (by simpa using hx))
  simp only [Instr.storeAt, Instr.sureAddr, Sem.run_bind, Sem.run_pure, Result.andThen_ok, arrV, h, setRow_new]
end Go.Proofs.Ytmkacgdbmojomaa

