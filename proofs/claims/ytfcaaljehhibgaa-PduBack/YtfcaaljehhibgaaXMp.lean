/- Maps whose keys are ints: what lies at a key. -/
import Derived.Test.YtfcaaljehhibgaaXAid
import Derived.Maps.OwnSet
namespace Go.Proofs.Ytfcaaljehhibgaa
open Go.RowKit Go.MapKept Go.ChangeMaps
set_option linter.unusedVariables false

/-- an int as it may be -/
def I64 (k : Int) : Prop := -9223372036854775808 ≤ k ∧ k ≤ 9223372036854775807
theorem I64.wf {k : Int} (h : I64 k) : (Lit.int .i64 k).wf = true := by
  unfold I64 at h
  simp only [Lit.wf, Bool.and_eq_true, decide_eq_true_eq]
  have e1 : IntKind.i64.min = -9223372036854775808 := by decide
  have e2 : IntKind.i64.max = 9223372036854775807 := by decide
  rw [e1, e2]
  exact h
/-- entries that say what lies at each key -/
structure MapIs (es : Array MapEntry) (clock : Nat) (M : Int → Option Value) : Prop where
  stamped : Stamped es clock
  keys : ∀ e ∈ es.toList, ∃ k : Int, e.key = .int .i64 k ∧ I64 k ∧ M k = some e.val
  all : ∀ k v, M k = some v → ∃ e ∈ es.toList, e.key = .int .i64 k
theorem MapIs.empty (clock : Nat) : MapIs #[] clock (fun _ => none) := ⟨stamped_empty _, by simp, by simp⟩
section
variable {P : Program} {k t e : TypeId} {w : World} {b : Nat} {es : Array MapEntry} {clock : Nat} {M : Int → Option Value}
theorem key_lit (hk : P.underlying k = some (.int .i64)) {i : Int} (hi : I64 i) : keyOf P k (.int .i64 i) = some (.int .i64 i) := Maps.keyOf_int_mk hk hi.wf
theorem MapIs.find (h : MapIs es clock M) (hk : P.underlying k = some (.int .i64)) {i : Int} (hi : I64 i) (w : World) :
    ((Instr.findKey k (.int .i64 i) es.toList).run P w = .ok none w ∧ M i = none ∧ ∀ x ∈ es.toList, x.key ≠ .int .i64 i) ∨
    ∃ j e0, (Instr.findKey k (.int .i64 i) es.toList).run P w = .ok (some (j, e0.val)) w ∧ es.toList[j]? = some e0 ∧ e0.key = .int .i64 i ∧ M i = some e0.val := by
  rcases (Maps.int_keyed hk).find w (key_lit hk hi) es.toList (fun x hx => by obtain ⟨q, h1, h2, _⟩ := h.keys x hx; exact ⟨_, by rw [h1]; exact key_lit hk h2⟩) with ⟨h1, h2⟩ | ⟨j, e0, h1, h2, h3⟩
  · refine .inl ⟨h1, ?_, h2⟩
    cases hM : M i with
    | none => rfl
    | some v => obtain ⟨x, hx, hy⟩ := h.all i v hM; exact absurd hy (h2 x hx)
  · refine .inr ⟨j, e0, h1, h2, h3, ?_⟩
    obtain ⟨q, q1, _, q2⟩ := h.keys e0 (List.mem_of_getElem? h2)
    rw [h3] at q1
    cases q1
    exact q2
theorem MapIs.look (h : MapIs es clock M) (hk : P.underlying k = some (.int .i64)) (ht : P.underlying t = some (.map k e)) (hb : w.heap[b]? = some (.map es clock)) {z : Value} (hz : (zeroValue e).run P w = .ok z w) {i : Int} (hi : I64 i) :
    (Instr.lookup t (.map (some b)) (.int .i64 i) false).run P w = .ok ((M i).getD z) w := by
  have hc := fun em => (Maps.int_keyed hk).check w em (key_lit hk hi)
  rcases h.find hk hi w with ⟨h1, h2, _⟩ | ⟨j, e0, h1, h2, h3, h4⟩
  · simp [Instr.lookup, run_underlying ht, MapKept.run_getObj_map hb, hc, h1, hz, Result.andThen, h2]
  · simp [Instr.lookup, run_underlying ht, MapKept.run_getObj_map hb, hc, h1, Result.andThen, h4]
theorem MapIs.look_ok (h : MapIs es clock M) (hk : P.underlying k = some (.int .i64)) (ht : P.underlying t = some (.map k e)) (hb : w.heap[b]? = some (.map es clock)) {z : Value} (hz : (zeroValue e).run P w = .ok z w) {i : Int} (hi : I64 i) :
    (Instr.lookup t (.map (some b)) (.int .i64 i) true).run P w = .ok (.tuple #[(M i).getD z, .bool (M i).isSome]) w := by
  have hc := fun em => (Maps.int_keyed hk).check w em (key_lit hk hi)
  rcases h.find hk hi w with ⟨h1, h2, _⟩ | ⟨j, e0, h1, h2, h3, h4⟩
  · simp [Instr.lookup, run_underlying ht, MapKept.run_getObj_map hb, hc, h1, hz, Result.andThen, h2]
  · simp [Instr.lookup, run_underlying ht, MapKept.run_getObj_map hb, hc, h1, Result.andThen, h4]
theorem MapIs.len (h : MapIs es clock M) (ht : P.underlying t = some (.map k e)) (hb : w.heap[b]? = some (.map es clock)) (ty : TypeId) : (Builtin.len_ #[t] ty #[.map (some b)]).run P w = .ok (.int .i64 es.size) w := by
  simp [Builtin.len_, run_underlying ht, MapKept.run_getObj_map hb, goInt, Result.andThen]
/-- what lies at a key behind a store -/
def setM (M : Int → Option Value) (i : Int) (v : Option Value) : Int → Option Value := fun j => if j = i then v else M j
theorem MapIs.store (h : MapIs es clock M) (hk : P.underlying k = some (.int .i64)) (ht : P.underlying t = some (.map k e)) (hb : w.heap[b]? = some (.map es clock)) {i : Int} (hi : I64 i) (v : Value) :
    ∃ es' clock', (Instr.mapUpdate t (.map (some b)) (.int .i64 i) v).run P w = .ok () (setBlock w b (.map es' clock')) ∧ MapIs es' clock' (setM M i (some v)) := by
  have hc := fun em => (Maps.int_keyed hk).check w em (key_lit hk hi)
  have hs := (Maps.int_keyed hk).stays w (key_lit hk hi)
  rcases h.find hk hi w with ⟨h1, h2, h3⟩ | ⟨j, e0, h1, h2, h3, h4⟩
  · refine ⟨es.push ⟨.int .i64 i, v, clock⟩, clock + 1, ?_, stamped_push h.stamped h3, ?_, ?_⟩
    · simp [Instr.mapUpdate, run_underlying ht, MapKept.run_getObj_map hb, hc, h1, MapKept.run_setObj_map _ hb, Result.andThen, setBlock]
    · intro x hx
      simp only [Array.toList_push, List.mem_append, List.mem_singleton] at hx
      rcases hx with hx | rfl
      · obtain ⟨q, q1, q2, q3⟩ := h.keys x hx
        refine ⟨q, q1, q2, ?_⟩
        have : q ≠ i := fun e => h3 x hx (by rw [q1, e])
        simp [setM, this, q3]
      · exact ⟨i, rfl, hi, by simp [setM]⟩
    · intro q u hq
      by_cases hqi : q = i
      · exact ⟨⟨.int .i64 i, v, clock⟩, by simp, by rw [hqi]⟩
      · simp [setM, hqi] at hq
        obtain ⟨x, hx, hy⟩ := h.all q u hq
        exact ⟨x, by simp at hx ⊢; exact .inl hx, hy⟩
  · have hj : es[j]? = some e0 := by simpa using h2
    have hjl : j < es.toList.length := (List.getElem?_eq_some_iff.1 h2).1
    have hlist : (es.modify j (fun e' => { e' with key := .int .i64 i, val := v })).toList = es.toList.set j { e0 with key := .int .i64 i, val := v } := by
      rw [Array.toList_modify]
      apply List.ext_getElem?
      intro q
      rw [List.getElem?_modify, List.getElem?_set]
      by_cases hq : j = q
      · subst hq; simp [hj]; simpa using hjl
      · simp [hq]
    refine ⟨es.modify j (fun e' => { e' with key := .int .i64 i, val := v }), clock, ?_, stamped_modify h.stamped _ _ (fun _ _ => rfl) (fun e' _ he' => by rw [hj] at he'; cases he'; exact h3.symm), ?_, ?_⟩
    · simp [Instr.mapUpdate, run_underlying ht, MapKept.run_getObj_map hb, hc, h1, hj, h3, hs, MapKept.run_setObj_map _ hb, Result.andThen, setBlock]
    · intro x hx
      rw [hlist] at hx
      obtain ⟨q, hq, ex⟩ := List.getElem_of_mem hx
      rw [List.getElem_set] at ex
      split at ex
      · subst ex; exact ⟨i, rfl, hi, by simp [setM]⟩
      · rename_i hne
        have hq' : q < es.toList.length := by simpa using hq
        have hx' : x ∈ es.toList := ex ▸ List.getElem_mem hq'
        obtain ⟨r, r1, r2, r3⟩ := h.keys x hx'
        refine ⟨r, r1, r2, ?_⟩
        have : r ≠ i := by
          intro er
          have hp := ((stamped_iff es clock).1 h.stamped).2.2
          have e2 : es.toList[j] = e0 := (List.getElem?_eq_some_iff.1 h2).2
          rcases Nat.lt_trichotomy q j with hlt | heq | hgt
          · have := List.pairwise_iff_getElem.1 hp q j hq' hjl hlt
            rw [ex, e2, h3, r1, er] at this; exact this rfl
          · exact hne heq.symm
          · have := List.pairwise_iff_getElem.1 hp j q hjl hq' hgt
            rw [ex, e2, h3, r1, er] at this; exact this rfl
        simp [setM, this, r3]
    · intro q u hq
      rw [hlist]
      by_cases hqi : q = i
      · refine ⟨{ e0 with key := .int .i64 i, val := v }, ?_, by rw [hqi]⟩
        rw [List.mem_iff_getElem?]
        exact ⟨j, by rw [List.getElem?_set]; simp; simpa using hjl⟩
      · simp [setM, hqi] at hq
        obtain ⟨x, hx, hy⟩ := h.all q u hq
        refine ⟨x, ?_, hy⟩
        obtain ⟨n, hn⟩ := List.mem_iff_getElem?.1 hx
        rw [List.mem_iff_getElem?]
        refine ⟨n, ?_⟩
        rw [List.getElem?_set]
        by_cases hjn : j = n
        · subst hjn
          rw [h2] at hn; cases hn
          rw [h3] at hy; cases hy
          exact absurd rfl hqi
        · simp [hjn]; simpa using hn
theorem mem_eraseIdx_other {α : Type} : ∀ (l : List α) (j n : Nat) (x : α), l[n]? = some x → n ≠ j → x ∈ l.eraseIdx j
  | a :: l, 0, n + 1, x, h, _ => by simp at h; simp; exact List.mem_of_getElem? h
  | a :: l, j + 1, 0, x, h, _ => by simp at h; simp [h]
  | a :: l, j + 1, n + 1, x, h, hn => by
    simp at h
    simp only [List.eraseIdx_cons_succ, List.mem_cons]
    exact .inr (mem_eraseIdx_other l j n x h (by omega))
theorem MapIs.drop (h : MapIs es clock M) (hk : P.underlying k = some (.int .i64)) (ht : P.underlying t = some (.map k e)) (hb : w.heap[b]? = some (.map es clock)) {i : Int} (hi : I64 i) (ty : TypeId) :
    ∃ es', (Builtin.delete_ #[t, k] ty #[.map (some b), .int .i64 i]).run P w = .ok (.tuple #[]) (setBlock w b (.map es' clock)) ∧ MapIs es' clock (setM M i none) := by
  have hc := fun em => (Maps.int_keyed hk).check w em (key_lit hk hi)
  rcases h.find hk hi w with ⟨h1, h2, h3⟩ | ⟨j, e0, h1, h2, h3, h4⟩
  · refine ⟨es, ?_, h.stamped, ?_, ?_⟩
    · simp [Builtin.delete_, run_underlying ht, MapKept.run_getObj_map hb, hc, h1, MapKept.run_setObj_map _ hb, Result.andThen, setBlock]
    · intro x hx
      obtain ⟨q, q1, q2, q3⟩ := h.keys x hx
      have : q ≠ i := fun e => h3 x hx (by rw [q1, e])
      exact ⟨q, q1, q2, by simp [setM, this, q3]⟩
    · intro q u hq
      by_cases hqi : q = i
      · simp [setM, hqi] at hq
      · simp [setM, hqi] at hq; exact h.all q u hq
  · have hjl : j < es.toList.length := (List.getElem?_eq_some_iff.1 h2).1
    have e2 : es.toList[j] = e0 := (List.getElem?_eq_some_iff.1 h2).2
    have hp := ((stamped_iff es clock).1 h.stamped).2.2
    have hl : (es.eraseIdxIfInBounds j).toList = es.toList.eraseIdx j := by
      unfold Array.eraseIdxIfInBounds
      split
      · simp
      · rename_i hn; exact absurd (by simpa using hjl) hn
    refine ⟨es.eraseIdxIfInBounds j, ?_, stamped_erase h.stamped j, ?_, ?_⟩
    · simp [Builtin.delete_, run_underlying ht, MapKept.run_getObj_map hb, hc, h1, MapKept.run_setObj_map _ hb, Result.andThen, setBlock]
    · intro x hx
      rw [hl] at hx
      have hx0 := List.mem_of_mem_eraseIdx hx
      obtain ⟨q, q1, q2, q3⟩ := h.keys x hx0
      obtain ⟨n, hnj, hn⟩ := List.mem_eraseIdx_iff_getElem?.1 hx
      have hnl : n < es.toList.length := (List.getElem?_eq_some_iff.1 hn).1
      have en : es.toList[n] = x := (List.getElem?_eq_some_iff.1 hn).2
      have : q ≠ i := by
        intro er
        rcases Nat.lt_trichotomy n j with hlt | heq | hgt
        · have := List.pairwise_iff_getElem.1 hp n j hnl hjl hlt
          rw [en, e2, h3, q1, er] at this; exact this rfl
        · exact hnj heq
        · have := List.pairwise_iff_getElem.1 hp j n hjl hnl hgt
          rw [en, e2, h3, q1, er] at this; exact this rfl
      exact ⟨q, q1, q2, by simp [setM, this, q3]⟩
    · intro q u hq
      by_cases hqi : q = i
      · simp [setM, hqi] at hq
      · simp [setM, hqi] at hq
        obtain ⟨x, hx, hy⟩ := h.all q u hq
        obtain ⟨n, hn⟩ := List.mem_iff_getElem?.1 hx
        refine ⟨x, ?_, hy⟩
        rw [hl]
        refine mem_eraseIdx_other _ j n x hn ?_
        rintro rfl
        rw [h2] at hn; cases hn
        rw [h3] at hy; cases hy
        exact hqi rfl
end
/-- how many entries there are -/
theorem MapIs.size {es : Array MapEntry} {clock : Nat} {M : Int → Option Value} (h : MapIs es clock M) (n : Nat) (hn : ∀ k v, M k = some v → 0 ≤ k ∧ k < n) : es.size = ((List.range n).filter (fun i : Nat => (M i).isSome)).length := by
  have hp := ((stamped_iff es clock).1 h.stamped).2.2
  have e1 : es.size = (es.toList.map (·.key)).length := by simp
  have e2 : ((List.range n).filter (fun i : Nat => (M i).isSome)).length = (((List.range n).filter (fun i : Nat => (M i).isSome)).map (fun i : Nat => Value.int .i64 (i : Int))).length := by simp
  rw [e1, e2]
  refine List.Perm.length_eq ((List.perm_ext_iff_of_nodup ?_ ?_).2 ?_)
  · unfold List.Nodup
    rw [List.pairwise_map]; exact hp
  · unfold List.Nodup
    rw [List.pairwise_map]
    refine List.Pairwise.imp ?_ (List.Pairwise.filter _ List.nodup_range)
    intro a c hac e
    have : (a : Int) = (c : Int) := by injection e
    omega
  · intro v
    constructor
    · intro hv
      obtain ⟨x, hx, rfl⟩ := List.mem_map.1 hv
      obtain ⟨q, q1, q2, q3⟩ := h.keys x hx
      have := hn q _ q3
      refine List.mem_map.2 ⟨q.toNat, ?_, ?_⟩
      · rw [List.mem_filter, List.mem_range]
        have e : ((q.toNat : Nat) : Int) = q := by omega
        refine ⟨by omega, ?_⟩
        simp only [e, q3, Option.isSome_some]
      · have e : ((q.toNat : Nat) : Int) = q := by omega
        rw [e, q1]
    · intro hv
      obtain ⟨i, hi, rfl⟩ := List.mem_map.1 hv
      rw [List.mem_filter, List.mem_range] at hi
      obtain ⟨u, hu⟩ := Option.isSome_iff_exists.1 hi.2
      obtain ⟨x, hx, hy⟩ := h.all i u hu
      exact List.mem_map.2 ⟨x, hx, hy⟩
end Go.Proofs.Ytfcaaljehhibgaa

