/- Maps whose keys are ints: an entry is made, then stored. -/
import Derived.Test.YtmkacgdbmojomaaXMp
import Derived.WideKeyEntry
namespace Go.Proofs.Ytmkacgdbmojomaa
open Go.RowKit Go.MapKept Go.ChangeMaps Go.WideElems
set_option linter.unusedVariables false

section
variable {P : Program} {k t e : TypeId} {w : World} {b : Nat} {es : Array MapEntry} {clock : Nat} {M : Int → Option Value}
theorem born_last {es : Array MapEntry} {clock : Nat} {x : MapEntry} (hs : Stamped es clock) (hx : x.born = clock) : (es.push x).findIdx? (fun e => ((e.born : Nat) : Int) == ((clock : Nat) : Int)) = some es.size := by
  rw [findIdx_arr, ← hx]
  refine findIdx_born (l := (es.push x).toList) (j := es.size) (e0 := x) ?_ (by simp)
  rw [Array.toList_push, List.map_append]
  refine List.nodup_append.2 ⟨hs.2.1, by simp, fun a ha c hc e1 => ?_⟩
  rw [List.map_singleton, List.mem_singleton] at hc
  obtain ⟨y, hy, rfl⟩ := List.mem_map.1 ha
  have := hs.1 y hy
  omega
/-- m[i] = v in two operations -/
theorem MapIs.entry (h : MapIs es clock M) (hk : P.underlying k = some (.int .i64)) (ht : P.underlying t = some (.map k e)) (hb : w.heap[b]? = some (.map es clock)) {z : Value} (hz : ∀ u : World, (zeroValue e).run P u = .ok z u) {i : Int} (hi : I64 i) :
    ∃ (v0 : Value) (st : Nat) (es1 : Array MapEntry) (clock1 : Nat), (Instr.mapEntry t (.map (some b)) (.int .i64 i)).run P w = .ok (.tuple #[v0, .int .i64 st]) (setBlock w b (.map es1 clock1)) ∧
      ∀ (w2 : World) (v : Value), w2.heap[b]? = some (.map es1 clock1) → ∃ es' clock', (Instr.entryStore t (.map (some b)) (.int .i64 st) v).run P w2 = .ok () (setBlock w2 b (.map es' clock')) ∧ MapIs es' clock' (setM M i (some v)) := by
  have hc := fun em => (Maps.int_keyed hk).check w em (key_lit hk hi)
  have hs := (Maps.int_keyed hk).stays w (key_lit hk hi)
  have hst := h.stamped
  rcases h.find hk hi w with ⟨h1, -, -⟩ | ⟨j, e0, h1, h2, h3, -⟩
  · refine ⟨z, clock, es.push ⟨.int .i64 i, z, clock⟩, clock + 1, ?_, fun w2 v hw2 => ?_⟩
    · simp [Instr.mapEntry, goInt, run_underlying ht, MapKept.run_getObj_map hb, hc, h1, hz, MapKept.run_setObj_map _ hb, Result.andThen, setBlock]
    · obtain ⟨es', clock', hu, hM⟩ := h.store hk ht hb hi v
      have hlast := born_last (x := ⟨.int .i64 i, z, clock⟩) hst rfl
      have hmod : (es.push ⟨.int .i64 i, z, clock⟩).modify es.size (fun e => { e with val := v }) = es.push ⟨.int .i64 i, v, clock⟩ := by
        apply Array.ext'
        rw [Array.toList_modify, Array.toList_push, Array.toList_push, ← Array.length_toList, modify_last]
      have hx : es' = es.push ⟨.int .i64 i, v, clock⟩ ∧ clock' = clock + 1 := by
        have hu2 : (Instr.mapUpdate t (.map (some b)) (.int .i64 i) v).run P w = .ok () (setBlock w b (.map (es.push ⟨.int .i64 i, v, clock⟩) (clock + 1))) := by
          simp [Instr.mapUpdate, run_underlying ht, MapKept.run_getObj_map hb, hc, h1, MapKept.run_setObj_map _ hb, Result.andThen, setBlock]
        rw [hu] at hu2
        have e1 : setBlock w b (.map es' clock') = setBlock w b (.map (es.push ⟨.int .i64 i, v, clock⟩) (clock + 1)) := by injection hu2
        have hbl : b < w.heap.size := (Array.getElem?_eq_some_iff.1 hb).1
        have e2 := congrArg (fun u : World => u.heap[b]?) e1
        simp [setBlock, hbl] at e2
        exact e2
      refine ⟨_, _, ?_, hM⟩
      rw [hx.1, hx.2]
      simp [Instr.entryStore, MapKept.run_getObj_map hw2, asInt, asIntOf, hlast, hmod, MapKept.run_setObj_map _ hw2, Result.andThen, setBlock]
  · have hj : es[j]? = some e0 := by simpa using h2
    have hsame : es.modify j (fun e => { e with key := .int .i64 i }) = es := by
      apply Array.ext'
      rw [Array.toList_modify, modify_eq_set _ _ _ _ h2]
      have : ({ e0 with key := .int .i64 i } : MapEntry) = e0 := by rw [← h3]
      rw [this]
      exact set_self _ _ _ h2
    refine ⟨e0.val, e0.born, es, clock, ?_, fun w2 v hw2 => ?_⟩
    · simp [Instr.mapEntry, goInt, run_underlying ht, MapKept.run_getObj_map hb, hc, h1, hj, h3, hs, hsame, MapKept.run_setObj_map _ hb, Result.andThen, setBlock]
    · obtain ⟨es', clock', hu, hM⟩ := h.store hk ht hb hi v
      have hidx : es.findIdx? (fun e => ((e.born : Nat) : Int) == ((e0.born : Nat) : Int)) = some j := by
        rw [findIdx_arr]
        exact findIdx_born hst.2.1 h2
      have hmod : es.modify j (fun e => { e with val := v }) = es.modify j (fun e' => { e' with key := .int .i64 i, val := v }) := by
        apply Array.ext'
        rw [Array.toList_modify, Array.toList_modify, modify_eq_set _ _ _ _ h2, modify_eq_set _ _ _ _ h2, ← h3]
      have hx : es' = es.modify j (fun e' => { e' with key := .int .i64 i, val := v }) ∧ clock' = clock := by
        have hu2 : (Instr.mapUpdate t (.map (some b)) (.int .i64 i) v).run P w = .ok () (setBlock w b (.map (es.modify j (fun e' => { e' with key := .int .i64 i, val := v })) clock)) := by
          simp [Instr.mapUpdate, run_underlying ht, MapKept.run_getObj_map hb, hc, h1, hj, h3, hs, MapKept.run_setObj_map _ hb, Result.andThen, setBlock]
        rw [hu] at hu2
        have e1 : setBlock w b (.map es' clock') = setBlock w b (.map (es.modify j (fun e' => { e' with key := .int .i64 i, val := v })) clock) := by injection hu2
        have hbl : b < w.heap.size := (Array.getElem?_eq_some_iff.1 hb).1
        have e2 := congrArg (fun u : World => u.heap[b]?) e1
        simp [setBlock, hbl] at e2
        exact e2
      refine ⟨_, _, ?_, hM⟩
      rw [hx.1, hx.2]
      simp [Instr.entryStore, MapKept.run_getObj_map hw2, asInt, asIntOf, hidx, hmod, MapKept.run_setObj_map _ hw2, Result.andThen, setBlock]
end
end Go.Proofs.Ytmkacgdbmojomaa

