/- cdb, the document's: where an operation's fields stand. -/
import Derived.Test.YtmoobfpmijdoaaaDoorXCd9
import Derived.Test.YtmoobfpmijdoaaaDoorXWo5
import Derived.Test.YtmoobfpmijdoaaaDoorXEx1
import Derived.Test.YtmoobfpmijdoaaaDoorXCdC
namespace Go.Proofs.YtmoobfpmijdoaaaDoor
open Go.RowKit
set_option linter.unusedVariables false
set_option linter.unusedSimpArgs false
set_option maxRecDepth 8000

/-- some cells of a block as a value -/
theorem loadW {T T' : TypeId} {xs : List Value} (hs : (Tryd.prog.info? T).map (·.size) = some xs.length) (ha : ∀ w, (isAgg T).run Tryd.prog w = .ok true w) {w : World} {g : Nat} (pre : List Value) {ys : List Value} (hB : Blk w g T' (pre ++ (xs ++ ys))) :
    (Instr.loadAt T (.pointer (some ⟨g, pre.length, none⟩))).run Tryd.prog w = .ok (.agg xs.toArray) w := by
  have h2 : (loadCells ⟨g, pre.length, none⟩ xs.length).run Tryd.prog w = .ok xs.toArray w := run_loadCells_list (P := Tryd.prog) w ⟨g, pre.length, none⟩ xs (fun j v hj => by
    have hadd : (⟨g, pre.length, none⟩ : Addr).add j = ⟨g, pre.length + j, none⟩ := by unfold Addr.add; split <;> simp_all
    have hjl : j < xs.length := by
      rcases Nat.lt_or_ge j xs.length with h | h
      · exact h
      · rw [List.getElem?_eq_none h] at hj; cases hj
    rw [hadd, blk_at hB (pre.length + j), List.getElem?_append_right (by omega), Nat.add_sub_cancel_left, List.getElem?_append_left hjl, hj])
  obtain ⟨i, hi, hz⟩ := Option.map_eq_some_iff.1 hs
  simp [Instr.loadAt, Instr.sureAddr, loadVar, Sem.run_bind, ha w, sizeOf, typeInfo, hi, hz, h2]
/-- a whole block is stored anew -/
theorem storeW {T T' : TypeId} {xs vs : List Value} (hs : (Tryd.prog.info? T).map (·.size) = some vs.length) {w : World} {g : Nat} (hB : Blk w g T' xs) (hl : xs.length = vs.length) (h1 : ∀ u ∈ vs, u.oneCell' = true) :
    ∃ w', (Instr.storeAt T (.pointer (some ⟨g, 0, none⟩)) (.agg vs.toArray)).run Tryd.prog w = .ok () w' ∧ Blk w' g T' vs ∧ w.grownBy w' (some g) := by
  have h := run_storeCells_cells (P := Tryd.prog) g 0 vs 0 w (fun j hj => by rw [Nat.zero_add, blk_at hB, List.getElem?_eq_getElem (by omega)]; rfl) (fun j hj => blk_frozen hB _) h1
  obtain ⟨i, hi, hz⟩ := Option.map_eq_some_iff.1 hs
  obtain ⟨h2, h3⟩ := Blk.setCells vs 0 w xs hB (by omega)
  have e : splice xs 0 vs = vs := by unfold splice; simp [← hl]
  rw [e] at h2
  exact ⟨w.setCells g 0 vs, by simp [Instr.storeAt, Instr.sureAddr, storeVar, Sem.run_bind, sizeOf, typeInfo, hi, hz, Value.cells, h], h2, h3⟩
theorem loadV {T T' : TypeId} {xs : List Value} (hs : (Tryd.prog.info? T).map (·.size) = some xs.length) (ha : ∀ w, (isAgg T).run Tryd.prog w = .ok true w) {w : World} {g : Nat} (hB : Blk w g T' xs) :
    (loadVar T ⟨g, 0, none⟩).run Tryd.prog w = .ok (.agg xs.toArray) w := by
  have h2 : (loadCells ⟨g, 0, none⟩ xs.length).run Tryd.prog w = .ok xs.toArray w := run_loadCells_list (P := Tryd.prog) w ⟨g, 0, none⟩ xs (fun j v hj => by
    have hadd : (⟨g, 0, none⟩ : Addr).add j = ⟨g, 0 + j, none⟩ := by unfold Addr.add; split <;> simp_all
    rw [hadd, Nat.zero_add, blk_at hB j, hj])
  obtain ⟨i, hi, hz⟩ := Option.map_eq_some_iff.1 hs
  simp [loadVar, Sem.run_bind, ha w, sizeOf, typeInfo, hi, hz, h2]
/-- what a function returns: a struct that lies in memory, and a value -/
theorem res_ct {fn : Func} {tmps : Array Value} {a b : Nat} {t : TypeId} {ad : Addr} {v u : Value} {w : World} (hf : fn.results = #[.cell a t, .tmp b]) (h1 : tmps.getD a undef = .pointer (some ad)) (hl : (loadVar t ad).run Tryd.prog w = .ok v w) (h2 : tmps.getD b undef = u) :
    (results fn tmps).run Tryd.prog w = .ok (.tuple #[v, u]) w := by
  have k1 : tmps[a]?.getD undef = .pointer (some ad) := by simpa using h1
  have k2 : tmps[b]?.getD undef = u := by simpa using h2
  simp [results, hf, k1, hl, k2, asAddr, Sem.run_bind]
theorem bel_grown {w W W' : World} {g : Nat} (hb : Below w.heap.size w W) (hg : W.grownBy W' (some g)) (h : w.heap.size ≤ g) : Below w.heap.size w W' :=
  hb.grown hg hb.size (fun k e => by cases e; exact h)
def plc (p : Int × Int) : List Value := [.int .i64 p.1, .int .i64 (szB p.2 : Int), .int .i64 (p.2 % 8)]
/-- the places of a row, as the document orders them -/
def psR (r : CR) : List (Int × Int) := [r.ps.getD 0 (0, 0), r.ps.getD 2 (0, 0), r.ps.getD 1 (0, 0), r.ps.getD 3 (0, 0), r.ps.getD 4 (0, 0), r.ps.getD 5 (0, 0)]
def rowV (r : CR) : List Value := (psR r).flatMap plc
theorem size_rr : (Tryd.prog.info? 95).map (·.size) = some 18 := by kernel_rfl
theorem agg_rr (w : World) : (isAgg 95).run Tryd.prog w = .ok true w := by rfl
theorem find_some_row {op : Int} {k : Nat} (hk : k < 14) (e : (rowK k).o = op) : ∃ r, findR op = some r := by
  cases h : findR op with
  | some r => exact ⟨r, rfl⟩
  | none =>
    unfold findR at h
    rw [List.find?_eq_none] at h
    have hm : rowK k ∈ tbl := by
      unfold rowK
      have hl : k < tbl.length := by simpa [tbl] using hk
      rw [List.getD_eq_getElem?_getD, List.getElem?_eq_getElem hl]
      exact List.getElem_mem hl
    exact absurd (by simpa using e) (h _ hm)
theorem rowV_0 : rowV (rowK 0) = [.int .i64 0, .int .i64 0, .int .i64 0, .int .i64 0, .int .i64 0, .int .i64 0, .int .i64 0, .int .i64 0, .int .i64 0, .int .i64 0, .int .i64 0, .int .i64 0, .int .i64 0, .int .i64 0, .int .i64 0, .int .i64 0, .int .i64 0, .int .i64 0] := by kernel_rfl
theorem rowV_1 : rowV (rowK 1) = [.int .i64 0, .int .i64 0, .int .i64 0, .int .i64 0, .int .i64 0, .int .i64 0, .int .i64 0, .int .i64 0, .int .i64 0, .int .i64 0, .int .i64 0, .int .i64 0, .int .i64 0, .int .i64 0, .int .i64 0, .int .i64 4, .int .i64 1, .int .i64 0] := by kernel_rfl
theorem rowV_2 : rowV (rowK 2) = [.int .i64 0, .int .i64 0, .int .i64 0, .int .i64 1, .int .i64 1, .int .i64 1, .int .i64 2, .int .i64 1, .int .i64 0, .int .i64 0, .int .i64 0, .int .i64 0, .int .i64 0, .int .i64 0, .int .i64 0, .int .i64 3, .int .i64 2, .int .i64 0] := by kernel_rfl
theorem rowV_3 : rowV (rowK 3) = [.int .i64 0, .int .i64 0, .int .i64 0, .int .i64 0, .int .i64 0, .int .i64 0, .int .i64 0, .int .i64 0, .int .i64 0, .int .i64 0, .int .i64 0, .int .i64 0, .int .i64 0, .int .i64 0, .int .i64 0, .int .i64 0, .int .i64 0, .int .i64 0] := by kernel_rfl
theorem rowV_4 : rowV (rowK 4) = [.int .i64 0, .int .i64 0, .int .i64 0, .int .i64 0, .int .i64 0, .int .i64 0, .int .i64 0, .int .i64 0, .int .i64 0, .int .i64 0, .int .i64 0, .int .i64 0, .int .i64 2, .int .i64 4, .int .i64 0, .int .i64 7, .int .i64 2, .int .i64 0] := by kernel_rfl
theorem rowV_5 : rowV (rowK 5) = [.int .i64 0, .int .i64 0, .int .i64 0, .int .i64 0, .int .i64 0, .int .i64 0, .int .i64 0, .int .i64 0, .int .i64 0, .int .i64 0, .int .i64 0, .int .i64 0, .int .i64 2, .int .i64 4, .int .i64 0, .int .i64 7, .int .i64 2, .int .i64 0] := by kernel_rfl
theorem rowV_6 : rowV (rowK 6) = [.int .i64 0, .int .i64 0, .int .i64 0, .int .i64 0, .int .i64 0, .int .i64 0, .int .i64 0, .int .i64 0, .int .i64 0, .int .i64 0, .int .i64 0, .int .i64 0, .int .i64 2, .int .i64 4, .int .i64 0, .int .i64 7, .int .i64 2, .int .i64 0] := by kernel_rfl
theorem rowV_7 : rowV (rowK 7) = [.int .i64 0, .int .i64 0, .int .i64 0, .int .i64 0, .int .i64 0, .int .i64 0, .int .i64 0, .int .i64 0, .int .i64 0, .int .i64 0, .int .i64 0, .int .i64 0, .int .i64 0, .int .i64 0, .int .i64 0, .int .i64 7, .int .i64 2, .int .i64 0] := by kernel_rfl
theorem rowV_8 : rowV (rowK 8) = [.int .i64 1, .int .i64 1, .int .i64 5, .int .i64 0, .int .i64 0, .int .i64 0, .int .i64 0, .int .i64 0, .int .i64 0, .int .i64 0, .int .i64 0, .int .i64 0, .int .i64 0, .int .i64 0, .int .i64 0, .int .i64 7, .int .i64 2, .int .i64 0] := by kernel_rfl
theorem rowV_9 : rowV (rowK 9) = [.int .i64 1, .int .i64 1, .int .i64 5, .int .i64 0, .int .i64 0, .int .i64 0, .int .i64 0, .int .i64 0, .int .i64 0, .int .i64 2, .int .i64 1, .int .i64 4, .int .i64 0, .int .i64 0, .int .i64 0, .int .i64 5, .int .i64 4, .int .i64 0] := by kernel_rfl
theorem rowV_10 : rowV (rowK 10) = [.int .i64 0, .int .i64 0, .int .i64 0, .int .i64 0, .int .i64 0, .int .i64 0, .int .i64 0, .int .i64 0, .int .i64 0, .int .i64 0, .int .i64 0, .int .i64 0, .int .i64 2, .int .i64 8, .int .i64 0, .int .i64 10, .int .i64 4, .int .i64 0] := by kernel_rfl
theorem rowV_11 : rowV (rowK 11) = [.int .i64 0, .int .i64 0, .int .i64 0, .int .i64 0, .int .i64 0, .int .i64 0, .int .i64 0, .int .i64 0, .int .i64 0, .int .i64 0, .int .i64 0, .int .i64 0, .int .i64 2, .int .i64 8, .int .i64 0, .int .i64 10, .int .i64 4, .int .i64 0] := by kernel_rfl
theorem rowV_12 : rowV (rowK 12) = [.int .i64 0, .int .i64 0, .int .i64 0, .int .i64 0, .int .i64 0, .int .i64 0, .int .i64 2, .int .i64 1, .int .i64 0, .int .i64 0, .int .i64 0, .int .i64 0, .int .i64 0, .int .i64 0, .int .i64 0, .int .i64 6, .int .i64 4, .int .i64 0] := by kernel_rfl
theorem rowV_13 : rowV (rowK 13) = [.int .i64 1, .int .i64 1, .int .i64 5, .int .i64 0, .int .i64 0, .int .i64 0, .int .i64 0, .int .i64 0, .int .i64 0, .int .i64 0, .int .i64 0, .int .i64 0, .int .i64 0, .int .i64 0, .int .i64 0, .int .i64 6, .int .i64 4, .int .i64 0] := by kernel_rfl
set_option maxHeartbeats 2000000 in
theorem rowOf_0 (w : World) : Calls Tryd.prog 54 #[.int .i64 0] w fun e w' => e = .returned (.tuple #[.agg #[.int .i64 0, .int .i64 0, .int .i64 0, .int .i64 0, .int .i64 0, .int .i64 0, .int .i64 0, .int .i64 0, .int .i64 0, .int .i64 0, .int .i64 0, .int .i64 0, .int .i64 0, .int .i64 0, .int .i64 0, .int .i64 0, .int .i64 0, .int .i64 0], .bool true]) ∧ Below w.heap.size w w' := by
  have B0 := Blk.new' w 95 [.int .i64 0, .int .i64 0, .int .i64 0, .int .i64 0, .int .i64 0, .int .i64 0, .int .i64 0, .int .i64 0, .int .i64 0, .int .i64 0, .int .i64 0, .int .i64 0, .int .i64 0, .int .i64 0, .int .i64 0, .int .i64 0, .int .i64 0, .int .i64 0]
  have b0_ : Below w.heap.size w (w.alloc (.cells #[.int .i64 0, .int .i64 0, .int .i64 0, .int .i64 0, .int .i64 0, .int .i64 0, .int .i64 0, .int .i64 0, .int .i64 0, .int .i64 0, .int .i64 0, .int .i64 0, .int .i64 0, .int .i64 0, .int .i64 0, .int .i64 0, .int .i64 0, .int .i64 0] 95)) := (Below.refl _ _).alloc (Nat.le_refl _) _
  obtain ⟨w0, hw0⟩ : ∃ w0, w0 = w.alloc (.cells #[.int .i64 0, .int .i64 0, .int .i64 0, .int .i64 0, .int .i64 0, .int .i64 0, .int .i64 0, .int .i64 0, .int .i64 0, .int .i64 0, .int .i64 0, .int .i64 0, .int .i64 0, .int .i64 0, .int .i64 0, .int .i64 0, .int .i64 0, .int .i64 0] 95) := ⟨_, rfl⟩
  rw [← hw0] at B0 b0_
  obtain ⟨w9, st, B9, g9⟩ := storeW (T := 95) (vs := [.int .i64 0, .int .i64 0, .int .i64 0, .int .i64 0, .int .i64 0, .int .i64 0, .int .i64 0, .int .i64 0, .int .i64 0, .int .i64 0, .int .i64 0, .int .i64 0, .int .i64 0, .int .i64 0, .int .i64 0, .int .i64 0, .int .i64 0, .int .i64 0]) size_rr B0 rfl (by decide)
  have F9 : Hid _ := And.intro B9 (bel_grown b0_ g9 (Nat.le_refl _))
  clear B9 g9 B0 b0_
  go_enter Tryd.func54, Tryd.ntmps54
  go_upto_region 1 with fail
  rw [← hw0]
  clear hw0
  go_wp2_with (refine wpList_skip rfl (exec_store rfl rfl rfl st) ?_)
  clear st
  have ld := loadV size_rr agg_rr F9.out.1
  refine bodyPost_ret (res_ct Tryd.results54 rfl ld rfl) rfl ?_
  exact ⟨rfl, F9.out.2⟩
set_option maxHeartbeats 2000000 in
theorem rowOf_1 (w : World) : Calls Tryd.prog 54 #[.int .i64 3] w fun e w' => e = .returned (.tuple #[.agg #[.int .i64 0, .int .i64 0, .int .i64 0, .int .i64 0, .int .i64 0, .int .i64 0, .int .i64 0, .int .i64 0, .int .i64 0, .int .i64 0, .int .i64 0, .int .i64 0, .int .i64 0, .int .i64 0, .int .i64 0, .int .i64 4, .int .i64 1, .int .i64 0], .bool true]) ∧ Below w.heap.size w w' := by
  have B0 := Blk.new' w 95 [.int .i64 0, .int .i64 0, .int .i64 0, .int .i64 0, .int .i64 0, .int .i64 0, .int .i64 0, .int .i64 0, .int .i64 0, .int .i64 0, .int .i64 0, .int .i64 0, .int .i64 0, .int .i64 0, .int .i64 0, .int .i64 0, .int .i64 0, .int .i64 0]
  have b0_ : Below w.heap.size w (w.alloc (.cells #[.int .i64 0, .int .i64 0, .int .i64 0, .int .i64 0, .int .i64 0, .int .i64 0, .int .i64 0, .int .i64 0, .int .i64 0, .int .i64 0, .int .i64 0, .int .i64 0, .int .i64 0, .int .i64 0, .int .i64 0, .int .i64 0, .int .i64 0, .int .i64 0] 95)) := (Below.refl _ _).alloc (Nat.le_refl _) _
  obtain ⟨w0, hw0⟩ : ∃ w0, w0 = w.alloc (.cells #[.int .i64 0, .int .i64 0, .int .i64 0, .int .i64 0, .int .i64 0, .int .i64 0, .int .i64 0, .int .i64 0, .int .i64 0, .int .i64 0, .int .i64 0, .int .i64 0, .int .i64 0, .int .i64 0, .int .i64 0, .int .i64 0, .int .i64 0, .int .i64 0] 95) := ⟨_, rfl⟩
  rw [← hw0] at B0 b0_
  obtain ⟨w9, st, B9, g9⟩ := storeW (T := 95) (vs := [.int .i64 0, .int .i64 0, .int .i64 0, .int .i64 0, .int .i64 0, .int .i64 0, .int .i64 0, .int .i64 0, .int .i64 0, .int .i64 0, .int .i64 0, .int .i64 0, .int .i64 0, .int .i64 0, .int .i64 0, .int .i64 4, .int .i64 1, .int .i64 0]) size_rr B0 rfl (by decide)
  have F9 : Hid _ := And.intro B9 (bel_grown b0_ g9 (Nat.le_refl _))
  clear B9 g9 B0 b0_
  go_enter Tryd.func54, Tryd.ntmps54
  go_upto_region 1 with fail
  rw [← hw0]
  clear hw0
  go_wp2_with (refine wpList_skip rfl (exec_store rfl rfl rfl st) ?_)
  clear st
  have ld := loadV size_rr agg_rr F9.out.1
  refine bodyPost_ret (res_ct Tryd.results54 rfl ld rfl) rfl ?_
  exact ⟨rfl, F9.out.2⟩
set_option maxHeartbeats 2000000 in
theorem rowOf_2 (w : World) : Calls Tryd.prog 54 #[.int .i64 18] w fun e w' => e = .returned (.tuple #[.agg #[.int .i64 0, .int .i64 0, .int .i64 0, .int .i64 1, .int .i64 1, .int .i64 1, .int .i64 2, .int .i64 1, .int .i64 0, .int .i64 0, .int .i64 0, .int .i64 0, .int .i64 0, .int .i64 0, .int .i64 0, .int .i64 3, .int .i64 2, .int .i64 0], .bool true]) ∧ Below w.heap.size w w' := by
  have B0 := Blk.new' w 95 [.int .i64 0, .int .i64 0, .int .i64 0, .int .i64 0, .int .i64 0, .int .i64 0, .int .i64 0, .int .i64 0, .int .i64 0, .int .i64 0, .int .i64 0, .int .i64 0, .int .i64 0, .int .i64 0, .int .i64 0, .int .i64 0, .int .i64 0, .int .i64 0]
  have b0_ : Below w.heap.size w (w.alloc (.cells #[.int .i64 0, .int .i64 0, .int .i64 0, .int .i64 0, .int .i64 0, .int .i64 0, .int .i64 0, .int .i64 0, .int .i64 0, .int .i64 0, .int .i64 0, .int .i64 0, .int .i64 0, .int .i64 0, .int .i64 0, .int .i64 0, .int .i64 0, .int .i64 0] 95)) := (Below.refl _ _).alloc (Nat.le_refl _) _
  obtain ⟨w0, hw0⟩ : ∃ w0, w0 = w.alloc (.cells #[.int .i64 0, .int .i64 0, .int .i64 0, .int .i64 0, .int .i64 0, .int .i64 0, .int .i64 0, .int .i64 0, .int .i64 0, .int .i64 0, .int .i64 0, .int .i64 0, .int .i64 0, .int .i64 0, .int .i64 0, .int .i64 0, .int .i64 0, .int .i64 0] 95) := ⟨_, rfl⟩
  rw [← hw0] at B0 b0_
  obtain ⟨w9, st, B9, g9⟩ := storeW (T := 95) (vs := [.int .i64 0, .int .i64 0, .int .i64 0, .int .i64 1, .int .i64 1, .int .i64 1, .int .i64 2, .int .i64 1, .int .i64 0, .int .i64 0, .int .i64 0, .int .i64 0, .int .i64 0, .int .i64 0, .int .i64 0, .int .i64 3, .int .i64 2, .int .i64 0]) size_rr B0 rfl (by decide)
  have F9 : Hid _ := And.intro B9 (bel_grown b0_ g9 (Nat.le_refl _))
  clear B9 g9 B0 b0_
  go_enter Tryd.func54, Tryd.ntmps54
  go_upto_region 1 with fail
  rw [← hw0]
  clear hw0
  go_wp2_with (refine wpList_skip rfl (exec_store rfl rfl rfl st) ?_)
  clear st
  have ld := loadV size_rr agg_rr F9.out.1
  refine bodyPost_ret (res_ct Tryd.results54 rfl ld rfl) rfl ?_
  exact ⟨rfl, F9.out.2⟩
set_option maxHeartbeats 2000000 in
theorem rowOf_3 (w : World) : Calls Tryd.prog 54 #[.int .i64 37] w fun e w' => e = .returned (.tuple #[.agg #[.int .i64 0, .int .i64 0, .int .i64 0, .int .i64 0, .int .i64 0, .int .i64 0, .int .i64 0, .int .i64 0, .int .i64 0, .int .i64 0, .int .i64 0, .int .i64 0, .int .i64 0, .int .i64 0, .int .i64 0, .int .i64 0, .int .i64 0, .int .i64 0], .bool true]) ∧ Below w.heap.size w w' := by
  have B0 := Blk.new' w 95 [.int .i64 0, .int .i64 0, .int .i64 0, .int .i64 0, .int .i64 0, .int .i64 0, .int .i64 0, .int .i64 0, .int .i64 0, .int .i64 0, .int .i64 0, .int .i64 0, .int .i64 0, .int .i64 0, .int .i64 0, .int .i64 0, .int .i64 0, .int .i64 0]
  have b0_ : Below w.heap.size w (w.alloc (.cells #[.int .i64 0, .int .i64 0, .int .i64 0, .int .i64 0, .int .i64 0, .int .i64 0, .int .i64 0, .int .i64 0, .int .i64 0, .int .i64 0, .int .i64 0, .int .i64 0, .int .i64 0, .int .i64 0, .int .i64 0, .int .i64 0, .int .i64 0, .int .i64 0] 95)) := (Below.refl _ _).alloc (Nat.le_refl _) _
  obtain ⟨w0, hw0⟩ : ∃ w0, w0 = w.alloc (.cells #[.int .i64 0, .int .i64 0, .int .i64 0, .int .i64 0, .int .i64 0, .int .i64 0, .int .i64 0, .int .i64 0, .int .i64 0, .int .i64 0, .int .i64 0, .int .i64 0, .int .i64 0, .int .i64 0, .int .i64 0, .int .i64 0, .int .i64 0, .int .i64 0] 95) := ⟨_, rfl⟩
  rw [← hw0] at B0 b0_
  obtain ⟨w9, st, B9, g9⟩ := storeW (T := 95) (vs := [.int .i64 0, .int .i64 0, .int .i64 0, .int .i64 0, .int .i64 0, .int .i64 0, .int .i64 0, .int .i64 0, .int .i64 0, .int .i64 0, .int .i64 0, .int .i64 0, .int .i64 0, .int .i64 0, .int .i64 0, .int .i64 0, .int .i64 0, .int .i64 0]) size_rr B0 rfl (by decide)
  have F9 : Hid _ := And.intro B9 (bel_grown b0_ g9 (Nat.le_refl _))
  clear B9 g9 B0 b0_
  go_enter Tryd.func54, Tryd.ntmps54
  go_upto_region 1 with fail
  rw [← hw0]
  clear hw0
  go_wp2_with (refine wpList_skip rfl (exec_store rfl rfl rfl st) ?_)
  clear st
  have ld := loadV size_rr agg_rr F9.out.1
  refine bodyPost_ret (res_ct Tryd.results54 rfl ld rfl) rfl ?_
  exact ⟨rfl, F9.out.2⟩
set_option maxHeartbeats 2000000 in
theorem rowOf_4 (w : World) : Calls Tryd.prog 54 #[.int .i64 40] w fun e w' => e = .returned (.tuple #[.agg #[.int .i64 0, .int .i64 0, .int .i64 0, .int .i64 0, .int .i64 0, .int .i64 0, .int .i64 0, .int .i64 0, .int .i64 0, .int .i64 0, .int .i64 0, .int .i64 0, .int .i64 2, .int .i64 4, .int .i64 0, .int .i64 7, .int .i64 2, .int .i64 0], .bool true]) ∧ Below w.heap.size w w' := by
  have B0 := Blk.new' w 95 [.int .i64 0, .int .i64 0, .int .i64 0, .int .i64 0, .int .i64 0, .int .i64 0, .int .i64 0, .int .i64 0, .int .i64 0, .int .i64 0, .int .i64 0, .int .i64 0, .int .i64 0, .int .i64 0, .int .i64 0, .int .i64 0, .int .i64 0, .int .i64 0]
  have b0_ : Below w.heap.size w (w.alloc (.cells #[.int .i64 0, .int .i64 0, .int .i64 0, .int .i64 0, .int .i64 0, .int .i64 0, .int .i64 0, .int .i64 0, .int .i64 0, .int .i64 0, .int .i64 0, .int .i64 0, .int .i64 0, .int .i64 0, .int .i64 0, .int .i64 0, .int .i64 0, .int .i64 0] 95)) := (Below.refl _ _).alloc (Nat.le_refl _) _
  obtain ⟨w0, hw0⟩ : ∃ w0, w0 = w.alloc (.cells #[.int .i64 0, .int .i64 0, .int .i64 0, .int .i64 0, .int .i64 0, .int .i64 0, .int .i64 0, .int .i64 0, .int .i64 0, .int .i64 0, .int .i64 0, .int .i64 0, .int .i64 0, .int .i64 0, .int .i64 0, .int .i64 0, .int .i64 0, .int .i64 0] 95) := ⟨_, rfl⟩
  rw [← hw0] at B0 b0_
  obtain ⟨w9, st, B9, g9⟩ := storeW (T := 95) (vs := [.int .i64 0, .int .i64 0, .int .i64 0, .int .i64 0, .int .i64 0, .int .i64 0, .int .i64 0, .int .i64 0, .int .i64 0, .int .i64 0, .int .i64 0, .int .i64 0, .int .i64 2, .int .i64 4, .int .i64 0, .int .i64 7, .int .i64 2, .int .i64 0]) size_rr B0 rfl (by decide)
  have F9 : Hid _ := And.intro B9 (bel_grown b0_ g9 (Nat.le_refl _))
  clear B9 g9 B0 b0_
  go_enter Tryd.func54, Tryd.ntmps54
  go_upto_region 1 with fail
  rw [← hw0]
  clear hw0
  go_wp2_with (refine wpList_skip rfl (exec_store rfl rfl rfl st) ?_)
  clear st
  have ld := loadV size_rr agg_rr F9.out.1
  refine bodyPost_ret (res_ct Tryd.results54 rfl ld rfl) rfl ?_
  exact ⟨rfl, F9.out.2⟩
set_option maxHeartbeats 2000000 in
theorem rowOf_5 (w : World) : Calls Tryd.prog 54 #[.int .i64 42] w fun e w' => e = .returned (.tuple #[.agg #[.int .i64 0, .int .i64 0, .int .i64 0, .int .i64 0, .int .i64 0, .int .i64 0, .int .i64 0, .int .i64 0, .int .i64 0, .int .i64 0, .int .i64 0, .int .i64 0, .int .i64 2, .int .i64 4, .int .i64 0, .int .i64 7, .int .i64 2, .int .i64 0], .bool true]) ∧ Below w.heap.size w w' := by
  have B0 := Blk.new' w 95 [.int .i64 0, .int .i64 0, .int .i64 0, .int .i64 0, .int .i64 0, .int .i64 0, .int .i64 0, .int .i64 0, .int .i64 0, .int .i64 0, .int .i64 0, .int .i64 0, .int .i64 0, .int .i64 0, .int .i64 0, .int .i64 0, .int .i64 0, .int .i64 0]
  have b0_ : Below w.heap.size w (w.alloc (.cells #[.int .i64 0, .int .i64 0, .int .i64 0, .int .i64 0, .int .i64 0, .int .i64 0, .int .i64 0, .int .i64 0, .int .i64 0, .int .i64 0, .int .i64 0, .int .i64 0, .int .i64 0, .int .i64 0, .int .i64 0, .int .i64 0, .int .i64 0, .int .i64 0] 95)) := (Below.refl _ _).alloc (Nat.le_refl _) _
  obtain ⟨w0, hw0⟩ : ∃ w0, w0 = w.alloc (.cells #[.int .i64 0, .int .i64 0, .int .i64 0, .int .i64 0, .int .i64 0, .int .i64 0, .int .i64 0, .int .i64 0, .int .i64 0, .int .i64 0, .int .i64 0, .int .i64 0, .int .i64 0, .int .i64 0, .int .i64 0, .int .i64 0, .int .i64 0, .int .i64 0] 95) := ⟨_, rfl⟩
  rw [← hw0] at B0 b0_
  obtain ⟨w9, st, B9, g9⟩ := storeW (T := 95) (vs := [.int .i64 0, .int .i64 0, .int .i64 0, .int .i64 0, .int .i64 0, .int .i64 0, .int .i64 0, .int .i64 0, .int .i64 0, .int .i64 0, .int .i64 0, .int .i64 0, .int .i64 2, .int .i64 4, .int .i64 0, .int .i64 7, .int .i64 2, .int .i64 0]) size_rr B0 rfl (by decide)
  have F9 : Hid _ := And.intro B9 (bel_grown b0_ g9 (Nat.le_refl _))
  clear B9 g9 B0 b0_
  go_enter Tryd.func54, Tryd.ntmps54
  go_upto_region 1 with fail
  rw [← hw0]
  clear hw0
  go_wp2_with (refine wpList_skip rfl (exec_store rfl rfl rfl st) ?_)
  clear st
  have ld := loadV size_rr agg_rr F9.out.1
  refine bodyPost_ret (res_ct Tryd.results54 rfl ld rfl) rfl ?_
  exact ⟨rfl, F9.out.2⟩
set_option maxHeartbeats 2000000 in
theorem rowOf_6 (w : World) : Calls Tryd.prog 54 #[.int .i64 53] w fun e w' => e = .returned (.tuple #[.agg #[.int .i64 0, .int .i64 0, .int .i64 0, .int .i64 0, .int .i64 0, .int .i64 0, .int .i64 0, .int .i64 0, .int .i64 0, .int .i64 0, .int .i64 0, .int .i64 0, .int .i64 2, .int .i64 4, .int .i64 0, .int .i64 7, .int .i64 2, .int .i64 0], .bool true]) ∧ Below w.heap.size w w' := by
  have B0 := Blk.new' w 95 [.int .i64 0, .int .i64 0, .int .i64 0, .int .i64 0, .int .i64 0, .int .i64 0, .int .i64 0, .int .i64 0, .int .i64 0, .int .i64 0, .int .i64 0, .int .i64 0, .int .i64 0, .int .i64 0, .int .i64 0, .int .i64 0, .int .i64 0, .int .i64 0]
  have b0_ : Below w.heap.size w (w.alloc (.cells #[.int .i64 0, .int .i64 0, .int .i64 0, .int .i64 0, .int .i64 0, .int .i64 0, .int .i64 0, .int .i64 0, .int .i64 0, .int .i64 0, .int .i64 0, .int .i64 0, .int .i64 0, .int .i64 0, .int .i64 0, .int .i64 0, .int .i64 0, .int .i64 0] 95)) := (Below.refl _ _).alloc (Nat.le_refl _) _
  obtain ⟨w0, hw0⟩ : ∃ w0, w0 = w.alloc (.cells #[.int .i64 0, .int .i64 0, .int .i64 0, .int .i64 0, .int .i64 0, .int .i64 0, .int .i64 0, .int .i64 0, .int .i64 0, .int .i64 0, .int .i64 0, .int .i64 0, .int .i64 0, .int .i64 0, .int .i64 0, .int .i64 0, .int .i64 0, .int .i64 0] 95) := ⟨_, rfl⟩
  rw [← hw0] at B0 b0_
  obtain ⟨w9, st, B9, g9⟩ := storeW (T := 95) (vs := [.int .i64 0, .int .i64 0, .int .i64 0, .int .i64 0, .int .i64 0, .int .i64 0, .int .i64 0, .int .i64 0, .int .i64 0, .int .i64 0, .int .i64 0, .int .i64 0, .int .i64 2, .int .i64 4, .int .i64 0, .int .i64 7, .int .i64 2, .int .i64 0]) size_rr B0 rfl (by decide)
  have F9 : Hid _ := And.intro B9 (bel_grown b0_ g9 (Nat.le_refl _))
  clear B9 g9 B0 b0_
  go_enter Tryd.func54, Tryd.ntmps54
  go_upto_region 1 with fail
  rw [← hw0]
  clear hw0
  go_wp2_with (refine wpList_skip rfl (exec_store rfl rfl rfl st) ?_)
  clear st
  have ld := loadV size_rr agg_rr F9.out.1
  refine bodyPost_ret (res_ct Tryd.results54 rfl ld rfl) rfl ?_
  exact ⟨rfl, F9.out.2⟩
set_option maxHeartbeats 2000000 in
theorem rowOf_7 (w : World) : Calls Tryd.prog 54 #[.int .i64 66] w fun e w' => e = .returned (.tuple #[.agg #[.int .i64 0, .int .i64 0, .int .i64 0, .int .i64 0, .int .i64 0, .int .i64 0, .int .i64 0, .int .i64 0, .int .i64 0, .int .i64 0, .int .i64 0, .int .i64 0, .int .i64 0, .int .i64 0, .int .i64 0, .int .i64 7, .int .i64 2, .int .i64 0], .bool true]) ∧ Below w.heap.size w w' := by
  have B0 := Blk.new' w 95 [.int .i64 0, .int .i64 0, .int .i64 0, .int .i64 0, .int .i64 0, .int .i64 0, .int .i64 0, .int .i64 0, .int .i64 0, .int .i64 0, .int .i64 0, .int .i64 0, .int .i64 0, .int .i64 0, .int .i64 0, .int .i64 0, .int .i64 0, .int .i64 0]
  have b0_ : Below w.heap.size w (w.alloc (.cells #[.int .i64 0, .int .i64 0, .int .i64 0, .int .i64 0, .int .i64 0, .int .i64 0, .int .i64 0, .int .i64 0, .int .i64 0, .int .i64 0, .int .i64 0, .int .i64 0, .int .i64 0, .int .i64 0, .int .i64 0, .int .i64 0, .int .i64 0, .int .i64 0] 95)) := (Below.refl _ _).alloc (Nat.le_refl _) _
  obtain ⟨w0, hw0⟩ : ∃ w0, w0 = w.alloc (.cells #[.int .i64 0, .int .i64 0, .int .i64 0, .int .i64 0, .int .i64 0, .int .i64 0, .int .i64 0, .int .i64 0, .int .i64 0, .int .i64 0, .int .i64 0, .int .i64 0, .int .i64 0, .int .i64 0, .int .i64 0, .int .i64 0, .int .i64 0, .int .i64 0] 95) := ⟨_, rfl⟩
  rw [← hw0] at B0 b0_
  obtain ⟨w9, st, B9, g9⟩ := storeW (T := 95) (vs := [.int .i64 0, .int .i64 0, .int .i64 0, .int .i64 0, .int .i64 0, .int .i64 0, .int .i64 0, .int .i64 0, .int .i64 0, .int .i64 0, .int .i64 0, .int .i64 0, .int .i64 0, .int .i64 0, .int .i64 0, .int .i64 7, .int .i64 2, .int .i64 0]) size_rr B0 rfl (by decide)
  have F9 : Hid _ := And.intro B9 (bel_grown b0_ g9 (Nat.le_refl _))
  clear B9 g9 B0 b0_
  go_enter Tryd.func54, Tryd.ntmps54
  go_upto_region 1 with fail
  rw [← hw0]
  clear hw0
  go_wp2_with (refine wpList_skip rfl (exec_store rfl rfl rfl st) ?_)
  clear st
  have ld := loadV size_rr agg_rr F9.out.1
  refine bodyPost_ret (res_ct Tryd.results54 rfl ld rfl) rfl ?_
  exact ⟨rfl, F9.out.2⟩
set_option maxHeartbeats 2000000 in
theorem rowOf_8 (w : World) : Calls Tryd.prog 54 #[.int .i64 94] w fun e w' => e = .returned (.tuple #[.agg #[.int .i64 1, .int .i64 1, .int .i64 5, .int .i64 0, .int .i64 0, .int .i64 0, .int .i64 0, .int .i64 0, .int .i64 0, .int .i64 0, .int .i64 0, .int .i64 0, .int .i64 0, .int .i64 0, .int .i64 0, .int .i64 7, .int .i64 2, .int .i64 0], .bool true]) ∧ Below w.heap.size w w' := by
  have B0 := Blk.new' w 95 [.int .i64 0, .int .i64 0, .int .i64 0, .int .i64 0, .int .i64 0, .int .i64 0, .int .i64 0, .int .i64 0, .int .i64 0, .int .i64 0, .int .i64 0, .int .i64 0, .int .i64 0, .int .i64 0, .int .i64 0, .int .i64 0, .int .i64 0, .int .i64 0]
  have b0_ : Below w.heap.size w (w.alloc (.cells #[.int .i64 0, .int .i64 0, .int .i64 0, .int .i64 0, .int .i64 0, .int .i64 0, .int .i64 0, .int .i64 0, .int .i64 0, .int .i64 0, .int .i64 0, .int .i64 0, .int .i64 0, .int .i64 0, .int .i64 0, .int .i64 0, .int .i64 0, .int .i64 0] 95)) := (Below.refl _ _).alloc (Nat.le_refl _) _
  obtain ⟨w0, hw0⟩ : ∃ w0, w0 = w.alloc (.cells #[.int .i64 0, .int .i64 0, .int .i64 0, .int .i64 0, .int .i64 0, .int .i64 0, .int .i64 0, .int .i64 0, .int .i64 0, .int .i64 0, .int .i64 0, .int .i64 0, .int .i64 0, .int .i64 0, .int .i64 0, .int .i64 0, .int .i64 0, .int .i64 0] 95) := ⟨_, rfl⟩
  rw [← hw0] at B0 b0_
  obtain ⟨w9, st, B9, g9⟩ := storeW (T := 95) (vs := [.int .i64 1, .int .i64 1, .int .i64 5, .int .i64 0, .int .i64 0, .int .i64 0, .int .i64 0, .int .i64 0, .int .i64 0, .int .i64 0, .int .i64 0, .int .i64 0, .int .i64 0, .int .i64 0, .int .i64 0, .int .i64 7, .int .i64 2, .int .i64 0]) size_rr B0 rfl (by decide)
  have F9 : Hid _ := And.intro B9 (bel_grown b0_ g9 (Nat.le_refl _))
  clear B9 g9 B0 b0_
  go_enter Tryd.func54, Tryd.ntmps54
  go_upto_region 1 with fail
  rw [← hw0]
  clear hw0
  go_wp2_with (refine wpList_skip rfl (exec_store rfl rfl rfl st) ?_)
  clear st
  have ld := loadV size_rr agg_rr F9.out.1
  refine bodyPost_ret (res_ct Tryd.results54 rfl ld rfl) rfl ?_
  exact ⟨rfl, F9.out.2⟩
set_option maxHeartbeats 2000000 in
theorem rowOf_9 (w : World) : Calls Tryd.prog 54 #[.int .i64 95] w fun e w' => e = .returned (.tuple #[.agg #[.int .i64 1, .int .i64 1, .int .i64 5, .int .i64 0, .int .i64 0, .int .i64 0, .int .i64 0, .int .i64 0, .int .i64 0, .int .i64 2, .int .i64 1, .int .i64 4, .int .i64 0, .int .i64 0, .int .i64 0, .int .i64 5, .int .i64 4, .int .i64 0], .bool true]) ∧ Below w.heap.size w w' := by
  have B0 := Blk.new' w 95 [.int .i64 0, .int .i64 0, .int .i64 0, .int .i64 0, .int .i64 0, .int .i64 0, .int .i64 0, .int .i64 0, .int .i64 0, .int .i64 0, .int .i64 0, .int .i64 0, .int .i64 0, .int .i64 0, .int .i64 0, .int .i64 0, .int .i64 0, .int .i64 0]
  have b0_ : Below w.heap.size w (w.alloc (.cells #[.int .i64 0, .int .i64 0, .int .i64 0, .int .i64 0, .int .i64 0, .int .i64 0, .int .i64 0, .int .i64 0, .int .i64 0, .int .i64 0, .int .i64 0, .int .i64 0, .int .i64 0, .int .i64 0, .int .i64 0, .int .i64 0, .int .i64 0, .int .i64 0] 95)) := (Below.refl _ _).alloc (Nat.le_refl _) _
  obtain ⟨w0, hw0⟩ : ∃ w0, w0 = w.alloc (.cells #[.int .i64 0, .int .i64 0, .int .i64 0, .int .i64 0, .int .i64 0, .int .i64 0, .int .i64 0, .int .i64 0, .int .i64 0, .int .i64 0, .int .i64 0, .int .i64 0, .int .i64 0, .int .i64 0, .int .i64 0, .int .i64 0, .int .i64 0, .int .i64 0] 95) := ⟨_, rfl⟩
  rw [← hw0] at B0 b0_
  obtain ⟨w9, st, B9, g9⟩ := storeW (T := 95) (vs := [.int .i64 1, .int .i64 1, .int .i64 5, .int .i64 0, .int .i64 0, .int .i64 0, .int .i64 0, .int .i64 0, .int .i64 0, .int .i64 2, .int .i64 1, .int .i64 4, .int .i64 0, .int .i64 0, .int .i64 0, .int .i64 5, .int .i64 4, .int .i64 0]) size_rr B0 rfl (by decide)
  have F9 : Hid _ := And.intro B9 (bel_grown b0_ g9 (Nat.le_refl _))
  clear B9 g9 B0 b0_
  go_enter Tryd.func54, Tryd.ntmps54
  go_upto_region 1 with fail
  rw [← hw0]
  clear hw0
  go_wp2_with (refine wpList_skip rfl (exec_store rfl rfl rfl st) ?_)
  clear st
  have ld := loadV size_rr agg_rr F9.out.1
  refine bodyPost_ret (res_ct Tryd.results54 rfl ld rfl) rfl ?_
  exact ⟨rfl, F9.out.2⟩
set_option maxHeartbeats 2000000 in
theorem rowOf_10 (w : World) : Calls Tryd.prog 54 #[.int .i64 136] w fun e w' => e = .returned (.tuple #[.agg #[.int .i64 0, .int .i64 0, .int .i64 0, .int .i64 0, .int .i64 0, .int .i64 0, .int .i64 0, .int .i64 0, .int .i64 0, .int .i64 0, .int .i64 0, .int .i64 0, .int .i64 2, .int .i64 8, .int .i64 0, .int .i64 10, .int .i64 4, .int .i64 0], .bool true]) ∧ Below w.heap.size w w' := by
  have B0 := Blk.new' w 95 [.int .i64 0, .int .i64 0, .int .i64 0, .int .i64 0, .int .i64 0, .int .i64 0, .int .i64 0, .int .i64 0, .int .i64 0, .int .i64 0, .int .i64 0, .int .i64 0, .int .i64 0, .int .i64 0, .int .i64 0, .int .i64 0, .int .i64 0, .int .i64 0]
  have b0_ : Below w.heap.size w (w.alloc (.cells #[.int .i64 0, .int .i64 0, .int .i64 0, .int .i64 0, .int .i64 0, .int .i64 0, .int .i64 0, .int .i64 0, .int .i64 0, .int .i64 0, .int .i64 0, .int .i64 0, .int .i64 0, .int .i64 0, .int .i64 0, .int .i64 0, .int .i64 0, .int .i64 0] 95)) := (Below.refl _ _).alloc (Nat.le_refl _) _
  obtain ⟨w0, hw0⟩ : ∃ w0, w0 = w.alloc (.cells #[.int .i64 0, .int .i64 0, .int .i64 0, .int .i64 0, .int .i64 0, .int .i64 0, .int .i64 0, .int .i64 0, .int .i64 0, .int .i64 0, .int .i64 0, .int .i64 0, .int .i64 0, .int .i64 0, .int .i64 0, .int .i64 0, .int .i64 0, .int .i64 0] 95) := ⟨_, rfl⟩
  rw [← hw0] at B0 b0_
  obtain ⟨w9, st, B9, g9⟩ := storeW (T := 95) (vs := [.int .i64 0, .int .i64 0, .int .i64 0, .int .i64 0, .int .i64 0, .int .i64 0, .int .i64 0, .int .i64 0, .int .i64 0, .int .i64 0, .int .i64 0, .int .i64 0, .int .i64 2, .int .i64 8, .int .i64 0, .int .i64 10, .int .i64 4, .int .i64 0]) size_rr B0 rfl (by decide)
  have F9 : Hid _ := And.intro B9 (bel_grown b0_ g9 (Nat.le_refl _))
  clear B9 g9 B0 b0_
  go_enter Tryd.func54, Tryd.ntmps54
  go_upto_region 1 with fail
  rw [← hw0]
  clear hw0
  go_wp2_with (refine wpList_skip rfl (exec_store rfl rfl rfl st) ?_)
  clear st
  have ld := loadV size_rr agg_rr F9.out.1
  refine bodyPost_ret (res_ct Tryd.results54 rfl ld rfl) rfl ?_
  exact ⟨rfl, F9.out.2⟩
set_option maxHeartbeats 2000000 in
theorem rowOf_11 (w : World) : Calls Tryd.prog 54 #[.int .i64 138] w fun e w' => e = .returned (.tuple #[.agg #[.int .i64 0, .int .i64 0, .int .i64 0, .int .i64 0, .int .i64 0, .int .i64 0, .int .i64 0, .int .i64 0, .int .i64 0, .int .i64 0, .int .i64 0, .int .i64 0, .int .i64 2, .int .i64 8, .int .i64 0, .int .i64 10, .int .i64 4, .int .i64 0], .bool true]) ∧ Below w.heap.size w w' := by
  have B0 := Blk.new' w 95 [.int .i64 0, .int .i64 0, .int .i64 0, .int .i64 0, .int .i64 0, .int .i64 0, .int .i64 0, .int .i64 0, .int .i64 0, .int .i64 0, .int .i64 0, .int .i64 0, .int .i64 0, .int .i64 0, .int .i64 0, .int .i64 0, .int .i64 0, .int .i64 0]
  have b0_ : Below w.heap.size w (w.alloc (.cells #[.int .i64 0, .int .i64 0, .int .i64 0, .int .i64 0, .int .i64 0, .int .i64 0, .int .i64 0, .int .i64 0, .int .i64 0, .int .i64 0, .int .i64 0, .int .i64 0, .int .i64 0, .int .i64 0, .int .i64 0, .int .i64 0, .int .i64 0, .int .i64 0] 95)) := (Below.refl _ _).alloc (Nat.le_refl _) _
  obtain ⟨w0, hw0⟩ : ∃ w0, w0 = w.alloc (.cells #[.int .i64 0, .int .i64 0, .int .i64 0, .int .i64 0, .int .i64 0, .int .i64 0, .int .i64 0, .int .i64 0, .int .i64 0, .int .i64 0, .int .i64 0, .int .i64 0, .int .i64 0, .int .i64 0, .int .i64 0, .int .i64 0, .int .i64 0, .int .i64 0] 95) := ⟨_, rfl⟩
  rw [← hw0] at B0 b0_
  obtain ⟨w9, st, B9, g9⟩ := storeW (T := 95) (vs := [.int .i64 0, .int .i64 0, .int .i64 0, .int .i64 0, .int .i64 0, .int .i64 0, .int .i64 0, .int .i64 0, .int .i64 0, .int .i64 0, .int .i64 0, .int .i64 0, .int .i64 2, .int .i64 8, .int .i64 0, .int .i64 10, .int .i64 4, .int .i64 0]) size_rr B0 rfl (by decide)
  have F9 : Hid _ := And.intro B9 (bel_grown b0_ g9 (Nat.le_refl _))
  clear B9 g9 B0 b0_
  go_enter Tryd.func54, Tryd.ntmps54
  go_upto_region 1 with fail
  rw [← hw0]
  clear hw0
  go_wp2_with (refine wpList_skip rfl (exec_store rfl rfl rfl st) ?_)
  clear st
  have ld := loadV size_rr agg_rr F9.out.1
  refine bodyPost_ret (res_ct Tryd.results54 rfl ld rfl) rfl ?_
  exact ⟨rfl, F9.out.2⟩
set_option maxHeartbeats 2000000 in
theorem rowOf_12 (w : World) : Calls Tryd.prog 54 #[.int .i64 160] w fun e w' => e = .returned (.tuple #[.agg #[.int .i64 0, .int .i64 0, .int .i64 0, .int .i64 0, .int .i64 0, .int .i64 0, .int .i64 2, .int .i64 1, .int .i64 0, .int .i64 0, .int .i64 0, .int .i64 0, .int .i64 0, .int .i64 0, .int .i64 0, .int .i64 6, .int .i64 4, .int .i64 0], .bool true]) ∧ Below w.heap.size w w' := by
  have B0 := Blk.new' w 95 [.int .i64 0, .int .i64 0, .int .i64 0, .int .i64 0, .int .i64 0, .int .i64 0, .int .i64 0, .int .i64 0, .int .i64 0, .int .i64 0, .int .i64 0, .int .i64 0, .int .i64 0, .int .i64 0, .int .i64 0, .int .i64 0, .int .i64 0, .int .i64 0]
  have b0_ : Below w.heap.size w (w.alloc (.cells #[.int .i64 0, .int .i64 0, .int .i64 0, .int .i64 0, .int .i64 0, .int .i64 0, .int .i64 0, .int .i64 0, .int .i64 0, .int .i64 0, .int .i64 0, .int .i64 0, .int .i64 0, .int .i64 0, .int .i64 0, .int .i64 0, .int .i64 0, .int .i64 0] 95)) := (Below.refl _ _).alloc (Nat.le_refl _) _
  obtain ⟨w0, hw0⟩ : ∃ w0, w0 = w.alloc (.cells #[.int .i64 0, .int .i64 0, .int .i64 0, .int .i64 0, .int .i64 0, .int .i64 0, .int .i64 0, .int .i64 0, .int .i64 0, .int .i64 0, .int .i64 0, .int .i64 0, .int .i64 0, .int .i64 0, .int .i64 0, .int .i64 0, .int .i64 0, .int .i64 0] 95) := ⟨_, rfl⟩
  rw [← hw0] at B0 b0_
  obtain ⟨w9, st, B9, g9⟩ := storeW (T := 95) (vs := [.int .i64 0, .int .i64 0, .int .i64 0, .int .i64 0, .int .i64 0, .int .i64 0, .int .i64 2, .int .i64 1, .int .i64 0, .int .i64 0, .int .i64 0, .int .i64 0, .int .i64 0, .int .i64 0, .int .i64 0, .int .i64 6, .int .i64 4, .int .i64 0]) size_rr B0 rfl (by decide)
  have F9 : Hid _ := And.intro B9 (bel_grown b0_ g9 (Nat.le_refl _))
  clear B9 g9 B0 b0_
  go_enter Tryd.func54, Tryd.ntmps54
  go_upto_region 1 with fail
  rw [← hw0]
  clear hw0
  go_wp2_with (refine wpList_skip rfl (exec_store rfl rfl rfl st) ?_)
  clear st
  have ld := loadV size_rr agg_rr F9.out.1
  refine bodyPost_ret (res_ct Tryd.results54 rfl ld rfl) rfl ?_
  exact ⟨rfl, F9.out.2⟩
set_option maxHeartbeats 2000000 in
theorem rowOf_13 (w : World) : Calls Tryd.prog 54 #[.int .i64 163] w fun e w' => e = .returned (.tuple #[.agg #[.int .i64 1, .int .i64 1, .int .i64 5, .int .i64 0, .int .i64 0, .int .i64 0, .int .i64 0, .int .i64 0, .int .i64 0, .int .i64 0, .int .i64 0, .int .i64 0, .int .i64 0, .int .i64 0, .int .i64 0, .int .i64 6, .int .i64 4, .int .i64 0], .bool true]) ∧ Below w.heap.size w w' := by
  have B0 := Blk.new' w 95 [.int .i64 0, .int .i64 0, .int .i64 0, .int .i64 0, .int .i64 0, .int .i64 0, .int .i64 0, .int .i64 0, .int .i64 0, .int .i64 0, .int .i64 0, .int .i64 0, .int .i64 0, .int .i64 0, .int .i64 0, .int .i64 0, .int .i64 0, .int .i64 0]
  have b0_ : Below w.heap.size w (w.alloc (.cells #[.int .i64 0, .int .i64 0, .int .i64 0, .int .i64 0, .int .i64 0, .int .i64 0, .int .i64 0, .int .i64 0, .int .i64 0, .int .i64 0, .int .i64 0, .int .i64 0, .int .i64 0, .int .i64 0, .int .i64 0, .int .i64 0, .int .i64 0, .int .i64 0] 95)) := (Below.refl _ _).alloc (Nat.le_refl _) _
  obtain ⟨w0, hw0⟩ : ∃ w0, w0 = w.alloc (.cells #[.int .i64 0, .int .i64 0, .int .i64 0, .int .i64 0, .int .i64 0, .int .i64 0, .int .i64 0, .int .i64 0, .int .i64 0, .int .i64 0, .int .i64 0, .int .i64 0, .int .i64 0, .int .i64 0, .int .i64 0, .int .i64 0, .int .i64 0, .int .i64 0] 95) := ⟨_, rfl⟩
  rw [← hw0] at B0 b0_
  obtain ⟨w9, st, B9, g9⟩ := storeW (T := 95) (vs := [.int .i64 1, .int .i64 1, .int .i64 5, .int .i64 0, .int .i64 0, .int .i64 0, .int .i64 0, .int .i64 0, .int .i64 0, .int .i64 0, .int .i64 0, .int .i64 0, .int .i64 0, .int .i64 0, .int .i64 0, .int .i64 6, .int .i64 4, .int .i64 0]) size_rr B0 rfl (by decide)
  have F9 : Hid _ := And.intro B9 (bel_grown b0_ g9 (Nat.le_refl _))
  clear B9 g9 B0 b0_
  go_enter Tryd.func54, Tryd.ntmps54
  go_upto_region 1 with fail
  rw [← hw0]
  clear hw0
  go_wp2_with (refine wpList_skip rfl (exec_store rfl rfl rfl st) ?_)
  clear st
  have ld := loadV size_rr agg_rr F9.out.1
  refine bodyPost_ret (res_ct Tryd.results54 rfl ld rfl) rfl ?_
  exact ⟨rfl, F9.out.2⟩
set_option maxHeartbeats 2000000 in
theorem rowOf_no (op : Int) (w : World) (h : findR op = none) : Calls Tryd.prog 54 #[.int .i64 op] w fun e w' => e = .returned (.tuple #[.agg #[.int .i64 0, .int .i64 0, .int .i64 0, .int .i64 0, .int .i64 0, .int .i64 0, .int .i64 0, .int .i64 0, .int .i64 0, .int .i64 0, .int .i64 0, .int .i64 0, .int .i64 0, .int .i64 0, .int .i64 0, .int .i64 0, .int .i64 0, .int .i64 0], .bool false]) ∧ Below w.heap.size w w' := by
  have hn : ∀ k, k < 14 → (rowK k).o ≠ op := fun k hk e => by
    obtain ⟨r, this⟩ := find_some_row hk e
    rw [h] at this
    cases this
  have n0 : (op == 0) = false := by have := hn 0 (by omega); simp [rowK, tbl] at this; simpa using fun e => this e.symm
  have n1 : (op == 3) = false := by have := hn 1 (by omega); simp [rowK, tbl] at this; simpa using fun e => this e.symm
  have n2 : (op == 18) = false := by have := hn 2 (by omega); simp [rowK, tbl] at this; simpa using fun e => this e.symm
  have n3 : (op == 37) = false := by have := hn 3 (by omega); simp [rowK, tbl] at this; simpa using fun e => this e.symm
  have n4 : (op == 40) = false := by have := hn 4 (by omega); simp [rowK, tbl] at this; simpa using fun e => this e.symm
  have n5 : (op == 42) = false := by have := hn 5 (by omega); simp [rowK, tbl] at this; simpa using fun e => this e.symm
  have n6 : (op == 53) = false := by have := hn 6 (by omega); simp [rowK, tbl] at this; simpa using fun e => this e.symm
  have n7 : (op == 66) = false := by have := hn 7 (by omega); simp [rowK, tbl] at this; simpa using fun e => this e.symm
  have n8 : (op == 94) = false := by have := hn 8 (by omega); simp [rowK, tbl] at this; simpa using fun e => this e.symm
  have n9 : (op == 95) = false := by have := hn 9 (by omega); simp [rowK, tbl] at this; simpa using fun e => this e.symm
  have n10 : (op == 136) = false := by have := hn 10 (by omega); simp [rowK, tbl] at this; simpa using fun e => this e.symm
  have n11 : (op == 138) = false := by have := hn 11 (by omega); simp [rowK, tbl] at this; simpa using fun e => this e.symm
  have n12 : (op == 160) = false := by have := hn 12 (by omega); simp [rowK, tbl] at this; simpa using fun e => this e.symm
  have n13 : (op == 163) = false := by have := hn 13 (by omega); simp [rowK, tbl] at this; simpa using fun e => this e.symm
  clear hn h
  have B0 := Blk.new' w 95 [.int .i64 0, .int .i64 0, .int .i64 0, .int .i64 0, .int .i64 0, .int .i64 0, .int .i64 0, .int .i64 0, .int .i64 0, .int .i64 0, .int .i64 0, .int .i64 0, .int .i64 0, .int .i64 0, .int .i64 0, .int .i64 0, .int .i64 0, .int .i64 0]
  have b0_ : Below w.heap.size w (w.alloc (.cells #[.int .i64 0, .int .i64 0, .int .i64 0, .int .i64 0, .int .i64 0, .int .i64 0, .int .i64 0, .int .i64 0, .int .i64 0, .int .i64 0, .int .i64 0, .int .i64 0, .int .i64 0, .int .i64 0, .int .i64 0, .int .i64 0, .int .i64 0, .int .i64 0] 95)) := (Below.refl _ _).alloc (Nat.le_refl _) _
  obtain ⟨w0, hw0⟩ : ∃ w0, w0 = w.alloc (.cells #[.int .i64 0, .int .i64 0, .int .i64 0, .int .i64 0, .int .i64 0, .int .i64 0, .int .i64 0, .int .i64 0, .int .i64 0, .int .i64 0, .int .i64 0, .int .i64 0, .int .i64 0, .int .i64 0, .int .i64 0, .int .i64 0, .int .i64 0, .int .i64 0] 95) := ⟨_, rfl⟩
  rw [← hw0] at B0 b0_
  obtain ⟨w9, st, B9, g9⟩ := storeW (T := 95) (vs := [.int .i64 0, .int .i64 0, .int .i64 0, .int .i64 0, .int .i64 0, .int .i64 0, .int .i64 0, .int .i64 0, .int .i64 0, .int .i64 0, .int .i64 0, .int .i64 0, .int .i64 0, .int .i64 0, .int .i64 0, .int .i64 0, .int .i64 0, .int .i64 0]) size_rr B0 rfl (by decide)
  have F9 : Hid _ := And.intro B9 (bel_grown b0_ g9 (Nat.le_refl _))
  clear B9 g9 B0 b0_
  go_enter Tryd.func54, Tryd.ntmps54
  go_upto_region 1 with fail
  rw [← hw0]
  clear hw0
  go_wp2_with (refine wpList_skip rfl (exec_store rfl rfl rfl st) ?_)
  clear st
  have ld := loadV size_rr agg_rr F9.out.1
  refine bodyPost_ret (res_ct Tryd.results54 rfl ld rfl) rfl ?_
  exact ⟨rfl, F9.out.2⟩
theorem rowOf_yes (op : Int) (r : CR) (w : World) (h : findR op = some r) : Calls Tryd.prog 54 #[.int .i64 op] w fun e w' => e = .returned (.tuple #[.agg (rowV r).toArray, .bool true]) ∧ Below w.heap.size w w' := by
  obtain ⟨k, hk, rfl, ho⟩ := findR_row h
  subst ho
  clear h
  rcases k with _ | _ | _ | _ | _ | _ | _ | _ | _ | _ | _ | _ | _ | _ | k
  · rw [rowV_0]; exact rowOf_0 w
  · rw [rowV_1]; exact rowOf_1 w
  · rw [rowV_2]; exact rowOf_2 w
  · rw [rowV_3]; exact rowOf_3 w
  · rw [rowV_4]; exact rowOf_4 w
  · rw [rowV_5]; exact rowOf_5 w
  · rw [rowV_6]; exact rowOf_6 w
  · rw [rowV_7]; exact rowOf_7 w
  · rw [rowV_8]; exact rowOf_8 w
  · rw [rowV_9]; exact rowOf_9 w
  · rw [rowV_10]; exact rowOf_10 w
  · rw [rowV_11]; exact rowOf_11 w
  · rw [rowV_12]; exact rowOf_12 w
  · rw [rowV_13]; exact rowOf_13 w
  · omega
end Go.Proofs.YtmoobfpmijdoaaaDoor

/- cdb: Out and In of both, of an operation that there is; the document's Size. -/
namespace Go.Proofs.YtmoobfpmijdoaaaDoor
open Go.RowKit
set_option linter.unusedVariables false
set_option linter.unusedSimpArgs false
set_option maxRecDepth 8000

def outV (o n : Int) : Int := if o = 42 ∨ o = 138 then n * 64 else if o = 66 ∨ o = 95 then n else 0
def inV (o n : Int) : Int := if o = 40 ∨ o = 136 then n * 64 else if o = 37 then 8 else if o = 3 ∨ o = 18 ∨ o = 94 ∨ o = 160 ∨ o = 163 then n else 0
def Few (n : Int) : Prop := 0 ≤ n ∧ n < 4294967296
set_option maxHeartbeats 800000 in
theorem ptimes_64 (n : Int) (h : Few n) (w : World) : Calls Tryd.prog 53 #[.int .i64 n, .int .i64 64] w fun e w' => e = .returned (.int .i64 (n * 64)) ∧ w = w' := by
  have q1 : min n 17179869184 = n := by have := h.1; have := h.2; omega
  have q2 : max 0 n = n := by have := h.1; omega
  have q3 : IntKind.i64.wrap (n * 64) = n * 64 := by rw [IntKind.wrap_i64]; have := h.1; have := h.2; omega
  have H : Hid (0 ≤ n) := h.1
  clear h
  go_enter Tryd.func53, Tryd.ntmps53
  go_wp2
  all_goals (go_ret; first | exact ⟨rfl, rfl⟩ | exact ⟨by rw [show n = 0 by have := H.out; omega]; rfl, rfl⟩)
set_option maxHeartbeats 800000 in
theorem rmost_64 (n : Int) (h : Few n) (w : World) : Calls Tryd.prog 57 #[.int .i64 n, .int .i64 64] w fun e w' => e = .returned (.int .i64 (n * 64)) ∧ w = w' := by
  have q1 : ¬ n < 0 := by have := h.1; omega
  have q2 : ¬ 17179869184 < n := by have := h.2; omega
  have q2' : decide (n > 17179869184) = false := by have := h.2; simp; omega
  have q3 : IntKind.i64.wrap (n * 64) = n * 64 := by rw [IntKind.wrap_i64]; have := h.1; have := h.2; omega
  clear h
  go_enter Tryd.func57, Tryd.ntmps57
  go_wp2
  go_ret
  exact ⟨rfl, rfl⟩
set_option maxHeartbeats 800000 in
theorem ptimes_1 (n : Int) (h : Few n) (w : World) : Calls Tryd.prog 53 #[.int .i64 n, .int .i64 1] w fun e w' => e = .returned (.int .i64 (n)) ∧ w = w' := by
  have q1 : min n 1099511627776 = n := by have := h.1; have := h.2; omega
  have q2 : max 0 n = n := by have := h.1; omega
  have q3 : IntKind.i64.wrap (n) = n := by rw [IntKind.wrap_i64]; have := h.1; have := h.2; omega
  have H : Hid (0 ≤ n) := h.1
  clear h
  go_enter Tryd.func53, Tryd.ntmps53
  go_wp2
  all_goals (go_ret; first | exact ⟨rfl, rfl⟩ | exact ⟨by rw [show n = 0 by have := H.out; omega]; rfl, rfl⟩)
set_option maxHeartbeats 800000 in
theorem rmost_1 (n : Int) (h : Few n) (w : World) : Calls Tryd.prog 57 #[.int .i64 n, .int .i64 1] w fun e w' => e = .returned (.int .i64 (n)) ∧ w = w' := by
  have q1 : ¬ n < 0 := by have := h.1; omega
  have q2 : ¬ 1099511627776 < n := by have := h.2; omega
  have q2' : decide (n > 1099511627776) = false := by have := h.2; simp; omega
  have q3 : IntKind.i64.wrap (n) = n := by rw [IntKind.wrap_i64]; have := h.1; have := h.2; omega
  clear h
  go_enter Tryd.func57, Tryd.ntmps57
  go_wp2
  go_ret
  exact ⟨rfl, rfl⟩
set_option maxHeartbeats 8000000 in
theorem pOut5 (k : Nat) (hk : k < 14) (x0 x1 : Int) (v : Bool) (x3 x4 n : Int) (h : Few n) (w : World) : Calls Tryd.prog 19 #[.agg #[.int .i64 (rowK k).o, .int .i64 x0, .int .i64 x1, .bool v, .int .i64 x3, .int .u64 x4, .int .i64 n]] w fun e w' => e = .returned (.int .i64 (outV (rowK k).o n)) ∧ Below w.heap.size w w' := by
  have hk' : k = 0 ∨ k = 1 ∨ k = 2 ∨ k = 3 ∨ k = 4 ∨ k = 5 ∨ k = 6 ∨ k = 7 ∨ k = 8 ∨ k = 9 ∨ k = 10 ∨ k = 11 ∨ k = 12 ∨ k = 13 := by omega
  clear hk
  rcases hk' with rfl | rfl | rfl | rfl | rfl | rfl | rfl | rfl | rfl | rfl | rfl | rfl | rfl | rfl
  · rw [show (rowK 0).o = 0 from rfl, show outV 0 n = 0 by simp [outV]]
    have b1 : Below w.heap.size w (w.alloc (.cells #[.int .i64 0, .int .i64 x0, .int .i64 x1, .bool v, .int .i64 x3, .int .u64 x4, .int .i64 n] 35)) := (Below.refl _ _).alloc (Nat.le_refl _) _
    have B1 := Blk.new' w 35 [.int .i64 0, .int .i64 x0, .int .i64 x1, .bool v, .int .i64 x3, .int .u64 x4, .int .i64 n]
    have k0 := ck_at B1 0
    have k6 := ck_at B1 6
    simp only [List.getElem?_cons_zero, List.getElem?_cons_succ] at k0 k6
    have H1 : Hid _ := b1
    clear b1 B1 h
    go_enter Tryd.func19, Tryd.ntmps19
    go_wp2
    go_ret
    exact ⟨rfl, H1.out⟩
  · rw [show (rowK 1).o = 3 from rfl, show outV 3 n = 0 by simp [outV]]
    have b1 : Below w.heap.size w (w.alloc (.cells #[.int .i64 3, .int .i64 x0, .int .i64 x1, .bool v, .int .i64 x3, .int .u64 x4, .int .i64 n] 35)) := (Below.refl _ _).alloc (Nat.le_refl _) _
    have B1 := Blk.new' w 35 [.int .i64 3, .int .i64 x0, .int .i64 x1, .bool v, .int .i64 x3, .int .u64 x4, .int .i64 n]
    have k0 := ck_at B1 0
    have k6 := ck_at B1 6
    simp only [List.getElem?_cons_zero, List.getElem?_cons_succ] at k0 k6
    have H1 : Hid _ := b1
    clear b1 B1 h
    go_enter Tryd.func19, Tryd.ntmps19
    go_wp2
    go_ret
    exact ⟨rfl, H1.out⟩
  · rw [show (rowK 2).o = 18 from rfl, show outV 18 n = 0 by simp [outV]]
    have b1 : Below w.heap.size w (w.alloc (.cells #[.int .i64 18, .int .i64 x0, .int .i64 x1, .bool v, .int .i64 x3, .int .u64 x4, .int .i64 n] 35)) := (Below.refl _ _).alloc (Nat.le_refl _) _
    have B1 := Blk.new' w 35 [.int .i64 18, .int .i64 x0, .int .i64 x1, .bool v, .int .i64 x3, .int .u64 x4, .int .i64 n]
    have k0 := ck_at B1 0
    have k6 := ck_at B1 6
    simp only [List.getElem?_cons_zero, List.getElem?_cons_succ] at k0 k6
    have H1 : Hid _ := b1
    clear b1 B1 h
    go_enter Tryd.func19, Tryd.ntmps19
    go_wp2
    go_ret
    exact ⟨rfl, H1.out⟩
  · rw [show (rowK 3).o = 37 from rfl, show outV 37 n = 0 by simp [outV]]
    have b1 : Below w.heap.size w (w.alloc (.cells #[.int .i64 37, .int .i64 x0, .int .i64 x1, .bool v, .int .i64 x3, .int .u64 x4, .int .i64 n] 35)) := (Below.refl _ _).alloc (Nat.le_refl _) _
    have B1 := Blk.new' w 35 [.int .i64 37, .int .i64 x0, .int .i64 x1, .bool v, .int .i64 x3, .int .u64 x4, .int .i64 n]
    have k0 := ck_at B1 0
    have k6 := ck_at B1 6
    simp only [List.getElem?_cons_zero, List.getElem?_cons_succ] at k0 k6
    have H1 : Hid _ := b1
    clear b1 B1 h
    go_enter Tryd.func19, Tryd.ntmps19
    go_wp2
    go_ret
    exact ⟨rfl, H1.out⟩
  · rw [show (rowK 4).o = 40 from rfl, show outV 40 n = 0 by simp [outV]]
    have b1 : Below w.heap.size w (w.alloc (.cells #[.int .i64 40, .int .i64 x0, .int .i64 x1, .bool v, .int .i64 x3, .int .u64 x4, .int .i64 n] 35)) := (Below.refl _ _).alloc (Nat.le_refl _) _
    have B1 := Blk.new' w 35 [.int .i64 40, .int .i64 x0, .int .i64 x1, .bool v, .int .i64 x3, .int .u64 x4, .int .i64 n]
    have k0 := ck_at B1 0
    have k6 := ck_at B1 6
    simp only [List.getElem?_cons_zero, List.getElem?_cons_succ] at k0 k6
    have H1 : Hid _ := b1
    clear b1 B1 h
    go_enter Tryd.func19, Tryd.ntmps19
    go_wp2
    go_ret
    exact ⟨rfl, H1.out⟩
  · rw [show (rowK 5).o = 42 from rfl, show outV 42 n = n * 64 by simp [outV]]
    have b1 : Below w.heap.size w (w.alloc (.cells #[.int .i64 42, .int .i64 x0, .int .i64 x1, .bool v, .int .i64 x3, .int .u64 x4, .int .i64 n] 35)) := (Below.refl _ _).alloc (Nat.le_refl _) _
    have B1 := Blk.new' w 35 [.int .i64 42, .int .i64 x0, .int .i64 x1, .bool v, .int .i64 x3, .int .u64 x4, .int .i64 n]
    have k0 := ck_at B1 0
    have k6 := ck_at B1 6
    simp only [List.getElem?_cons_zero, List.getElem?_cons_succ] at k0 k6
    have H1 : Hid _ := b1
    have HT : Hid (∀ X, _) := fun X => ptimes_64 n h X
    clear b1 B1 h
    go_enter Tryd.func19, Tryd.ntmps19
    go_wp2_with fail
    refine (Calls.mono (HT.out _)) ?_
    rintro e _ ⟨rfl, rfl⟩
    clear k0 k6
    go_wp2
    go_ret
    exact ⟨rfl, H1.out⟩
  · rw [show (rowK 6).o = 53 from rfl, show outV 53 n = 0 by simp [outV]]
    have b1 : Below w.heap.size w (w.alloc (.cells #[.int .i64 53, .int .i64 x0, .int .i64 x1, .bool v, .int .i64 x3, .int .u64 x4, .int .i64 n] 35)) := (Below.refl _ _).alloc (Nat.le_refl _) _
    have B1 := Blk.new' w 35 [.int .i64 53, .int .i64 x0, .int .i64 x1, .bool v, .int .i64 x3, .int .u64 x4, .int .i64 n]
    have k0 := ck_at B1 0
    have k6 := ck_at B1 6
    simp only [List.getElem?_cons_zero, List.getElem?_cons_succ] at k0 k6
    have H1 : Hid _ := b1
    clear b1 B1 h
    go_enter Tryd.func19, Tryd.ntmps19
    go_wp2
    go_ret
    exact ⟨rfl, H1.out⟩
  · rw [show (rowK 7).o = 66 from rfl, show outV 66 n = n by simp [outV]]
    have b1 : Below w.heap.size w (w.alloc (.cells #[.int .i64 66, .int .i64 x0, .int .i64 x1, .bool v, .int .i64 x3, .int .u64 x4, .int .i64 n] 35)) := (Below.refl _ _).alloc (Nat.le_refl _) _
    have B1 := Blk.new' w 35 [.int .i64 66, .int .i64 x0, .int .i64 x1, .bool v, .int .i64 x3, .int .u64 x4, .int .i64 n]
    have k0 := ck_at B1 0
    have k6 := ck_at B1 6
    simp only [List.getElem?_cons_zero, List.getElem?_cons_succ] at k0 k6
    have H1 : Hid _ := b1
    have HT : Hid (∀ X, _) := fun X => ptimes_1 n h X
    clear b1 B1 h
    go_enter Tryd.func19, Tryd.ntmps19
    go_wp2_with fail
    refine (Calls.mono (HT.out _)) ?_
    rintro e _ ⟨rfl, rfl⟩
    clear k0 k6
    go_wp2
    go_ret
    exact ⟨rfl, H1.out⟩
  · rw [show (rowK 8).o = 94 from rfl, show outV 94 n = 0 by simp [outV]]
    have b1 : Below w.heap.size w (w.alloc (.cells #[.int .i64 94, .int .i64 x0, .int .i64 x1, .bool v, .int .i64 x3, .int .u64 x4, .int .i64 n] 35)) := (Below.refl _ _).alloc (Nat.le_refl _) _
    have B1 := Blk.new' w 35 [.int .i64 94, .int .i64 x0, .int .i64 x1, .bool v, .int .i64 x3, .int .u64 x4, .int .i64 n]
    have k0 := ck_at B1 0
    have k6 := ck_at B1 6
    simp only [List.getElem?_cons_zero, List.getElem?_cons_succ] at k0 k6
    have H1 : Hid _ := b1
    clear b1 B1 h
    go_enter Tryd.func19, Tryd.ntmps19
    go_wp2
    go_ret
    exact ⟨rfl, H1.out⟩
  · rw [show (rowK 9).o = 95 from rfl, show outV 95 n = n by simp [outV]]
    have b1 : Below w.heap.size w (w.alloc (.cells #[.int .i64 95, .int .i64 x0, .int .i64 x1, .bool v, .int .i64 x3, .int .u64 x4, .int .i64 n] 35)) := (Below.refl _ _).alloc (Nat.le_refl _) _
    have B1 := Blk.new' w 35 [.int .i64 95, .int .i64 x0, .int .i64 x1, .bool v, .int .i64 x3, .int .u64 x4, .int .i64 n]
    have k0 := ck_at B1 0
    have k6 := ck_at B1 6
    simp only [List.getElem?_cons_zero, List.getElem?_cons_succ] at k0 k6
    have H1 : Hid _ := b1
    have HT : Hid (∀ X, _) := fun X => ptimes_1 n h X
    clear b1 B1 h
    go_enter Tryd.func19, Tryd.ntmps19
    go_wp2_with fail
    refine (Calls.mono (HT.out _)) ?_
    rintro e _ ⟨rfl, rfl⟩
    clear k0 k6
    go_wp2
    go_ret
    exact ⟨rfl, H1.out⟩
  · rw [show (rowK 10).o = 136 from rfl, show outV 136 n = 0 by simp [outV]]
    have b1 : Below w.heap.size w (w.alloc (.cells #[.int .i64 136, .int .i64 x0, .int .i64 x1, .bool v, .int .i64 x3, .int .u64 x4, .int .i64 n] 35)) := (Below.refl _ _).alloc (Nat.le_refl _) _
    have B1 := Blk.new' w 35 [.int .i64 136, .int .i64 x0, .int .i64 x1, .bool v, .int .i64 x3, .int .u64 x4, .int .i64 n]
    have k0 := ck_at B1 0
    have k6 := ck_at B1 6
    simp only [List.getElem?_cons_zero, List.getElem?_cons_succ] at k0 k6
    have H1 : Hid _ := b1
    clear b1 B1 h
    go_enter Tryd.func19, Tryd.ntmps19
    go_wp2
    go_ret
    exact ⟨rfl, H1.out⟩
  · rw [show (rowK 11).o = 138 from rfl, show outV 138 n = n * 64 by simp [outV]]
    have b1 : Below w.heap.size w (w.alloc (.cells #[.int .i64 138, .int .i64 x0, .int .i64 x1, .bool v, .int .i64 x3, .int .u64 x4, .int .i64 n] 35)) := (Below.refl _ _).alloc (Nat.le_refl _) _
    have B1 := Blk.new' w 35 [.int .i64 138, .int .i64 x0, .int .i64 x1, .bool v, .int .i64 x3, .int .u64 x4, .int .i64 n]
    have k0 := ck_at B1 0
    have k6 := ck_at B1 6
    simp only [List.getElem?_cons_zero, List.getElem?_cons_succ] at k0 k6
    have H1 : Hid _ := b1
    have HT : Hid (∀ X, _) := fun X => ptimes_64 n h X
    clear b1 B1 h
    go_enter Tryd.func19, Tryd.ntmps19
    go_wp2_with fail
    refine (Calls.mono (HT.out _)) ?_
    rintro e _ ⟨rfl, rfl⟩
    clear k0 k6
    go_wp2
    go_ret
    exact ⟨rfl, H1.out⟩
  · rw [show (rowK 12).o = 160 from rfl, show outV 160 n = 0 by simp [outV]]
    have b1 : Below w.heap.size w (w.alloc (.cells #[.int .i64 160, .int .i64 x0, .int .i64 x1, .bool v, .int .i64 x3, .int .u64 x4, .int .i64 n] 35)) := (Below.refl _ _).alloc (Nat.le_refl _) _
    have B1 := Blk.new' w 35 [.int .i64 160, .int .i64 x0, .int .i64 x1, .bool v, .int .i64 x3, .int .u64 x4, .int .i64 n]
    have k0 := ck_at B1 0
    have k6 := ck_at B1 6
    simp only [List.getElem?_cons_zero, List.getElem?_cons_succ] at k0 k6
    have H1 : Hid _ := b1
    clear b1 B1 h
    go_enter Tryd.func19, Tryd.ntmps19
    go_wp2
    go_ret
    exact ⟨rfl, H1.out⟩
  · rw [show (rowK 13).o = 163 from rfl, show outV 163 n = 0 by simp [outV]]
    have b1 : Below w.heap.size w (w.alloc (.cells #[.int .i64 163, .int .i64 x0, .int .i64 x1, .bool v, .int .i64 x3, .int .u64 x4, .int .i64 n] 35)) := (Below.refl _ _).alloc (Nat.le_refl _) _
    have B1 := Blk.new' w 35 [.int .i64 163, .int .i64 x0, .int .i64 x1, .bool v, .int .i64 x3, .int .u64 x4, .int .i64 n]
    have k0 := ck_at B1 0
    have k6 := ck_at B1 6
    simp only [List.getElem?_cons_zero, List.getElem?_cons_succ] at k0 k6
    have H1 : Hid _ := b1
    clear b1 B1 h
    go_enter Tryd.func19, Tryd.ntmps19
    go_wp2
    go_ret
    exact ⟨rfl, H1.out⟩
set_option maxHeartbeats 8000000 in
theorem pIn5 (k : Nat) (hk : k < 14) (x0 x1 : Int) (v : Bool) (x3 x4 n : Int) (h : Few n) (w : World) : Calls Tryd.prog 18 #[.agg #[.int .i64 (rowK k).o, .int .i64 x0, .int .i64 x1, .bool v, .int .i64 x3, .int .u64 x4, .int .i64 n]] w fun e w' => e = .returned (.int .i64 (inV (rowK k).o n)) ∧ Below w.heap.size w w' := by
  have hk' : k = 0 ∨ k = 1 ∨ k = 2 ∨ k = 3 ∨ k = 4 ∨ k = 5 ∨ k = 6 ∨ k = 7 ∨ k = 8 ∨ k = 9 ∨ k = 10 ∨ k = 11 ∨ k = 12 ∨ k = 13 := by omega
  clear hk
  rcases hk' with rfl | rfl | rfl | rfl | rfl | rfl | rfl | rfl | rfl | rfl | rfl | rfl | rfl | rfl
  · rw [show (rowK 0).o = 0 from rfl, show inV 0 n = 0 by simp [inV]]
    have b1 : Below w.heap.size w (w.alloc (.cells #[.int .i64 0, .int .i64 x0, .int .i64 x1, .bool v, .int .i64 x3, .int .u64 x4, .int .i64 n] 35)) := (Below.refl _ _).alloc (Nat.le_refl _) _
    have B1 := Blk.new' w 35 [.int .i64 0, .int .i64 x0, .int .i64 x1, .bool v, .int .i64 x3, .int .u64 x4, .int .i64 n]
    have k0 := ck_at B1 0
    have k6 := ck_at B1 6
    simp only [List.getElem?_cons_zero, List.getElem?_cons_succ] at k0 k6
    have H1 : Hid _ := b1
    clear b1 B1 h
    go_enter Tryd.func18, Tryd.ntmps18
    go_wp2
    go_ret
    exact ⟨rfl, H1.out⟩
  · rw [show (rowK 1).o = 3 from rfl, show inV 3 n = n by simp [inV]]
    have b1 : Below w.heap.size w (w.alloc (.cells #[.int .i64 3, .int .i64 x0, .int .i64 x1, .bool v, .int .i64 x3, .int .u64 x4, .int .i64 n] 35)) := (Below.refl _ _).alloc (Nat.le_refl _) _
    have B1 := Blk.new' w 35 [.int .i64 3, .int .i64 x0, .int .i64 x1, .bool v, .int .i64 x3, .int .u64 x4, .int .i64 n]
    have k0 := ck_at B1 0
    have k6 := ck_at B1 6
    simp only [List.getElem?_cons_zero, List.getElem?_cons_succ] at k0 k6
    have H1 : Hid _ := b1
    have HT : Hid (∀ X, _) := fun X => ptimes_1 n h X
    clear b1 B1 h
    go_enter Tryd.func18, Tryd.ntmps18
    go_wp2_with fail
    refine (Calls.mono (HT.out _)) ?_
    rintro e _ ⟨rfl, rfl⟩
    clear k0 k6
    go_wp2
    go_ret
    exact ⟨rfl, H1.out⟩
  · rw [show (rowK 2).o = 18 from rfl, show inV 18 n = n by simp [inV]]
    have b1 : Below w.heap.size w (w.alloc (.cells #[.int .i64 18, .int .i64 x0, .int .i64 x1, .bool v, .int .i64 x3, .int .u64 x4, .int .i64 n] 35)) := (Below.refl _ _).alloc (Nat.le_refl _) _
    have B1 := Blk.new' w 35 [.int .i64 18, .int .i64 x0, .int .i64 x1, .bool v, .int .i64 x3, .int .u64 x4, .int .i64 n]
    have k0 := ck_at B1 0
    have k6 := ck_at B1 6
    simp only [List.getElem?_cons_zero, List.getElem?_cons_succ] at k0 k6
    have H1 : Hid _ := b1
    have HT : Hid (∀ X, _) := fun X => ptimes_1 n h X
    clear b1 B1 h
    go_enter Tryd.func18, Tryd.ntmps18
    go_wp2_with fail
    refine (Calls.mono (HT.out _)) ?_
    rintro e _ ⟨rfl, rfl⟩
    clear k0 k6
    go_wp2
    go_ret
    exact ⟨rfl, H1.out⟩
  · rw [show (rowK 3).o = 37 from rfl, show inV 37 n = 8 by simp [inV]]
    have b1 : Below w.heap.size w (w.alloc (.cells #[.int .i64 37, .int .i64 x0, .int .i64 x1, .bool v, .int .i64 x3, .int .u64 x4, .int .i64 n] 35)) := (Below.refl _ _).alloc (Nat.le_refl _) _
    have B1 := Blk.new' w 35 [.int .i64 37, .int .i64 x0, .int .i64 x1, .bool v, .int .i64 x3, .int .u64 x4, .int .i64 n]
    have k0 := ck_at B1 0
    have k6 := ck_at B1 6
    simp only [List.getElem?_cons_zero, List.getElem?_cons_succ] at k0 k6
    have H1 : Hid _ := b1
    have hn0 : 0 ≤ n := h.1
    have hn1 : ¬ n < 0 := by omega
    clear b1 B1 h
    go_enter Tryd.func18, Tryd.ntmps18
    go_wp2
    go_ret
    exact ⟨rfl, H1.out⟩
  · rw [show (rowK 4).o = 40 from rfl, show inV 40 n = n * 64 by simp [inV]]
    have b1 : Below w.heap.size w (w.alloc (.cells #[.int .i64 40, .int .i64 x0, .int .i64 x1, .bool v, .int .i64 x3, .int .u64 x4, .int .i64 n] 35)) := (Below.refl _ _).alloc (Nat.le_refl _) _
    have B1 := Blk.new' w 35 [.int .i64 40, .int .i64 x0, .int .i64 x1, .bool v, .int .i64 x3, .int .u64 x4, .int .i64 n]
    have k0 := ck_at B1 0
    have k6 := ck_at B1 6
    simp only [List.getElem?_cons_zero, List.getElem?_cons_succ] at k0 k6
    have H1 : Hid _ := b1
    have HT : Hid (∀ X, _) := fun X => ptimes_64 n h X
    clear b1 B1 h
    go_enter Tryd.func18, Tryd.ntmps18
    go_wp2_with fail
    refine (Calls.mono (HT.out _)) ?_
    rintro e _ ⟨rfl, rfl⟩
    clear k0 k6
    go_wp2
    go_ret
    exact ⟨rfl, H1.out⟩
  · rw [show (rowK 5).o = 42 from rfl, show inV 42 n = 0 by simp [inV]]
    have b1 : Below w.heap.size w (w.alloc (.cells #[.int .i64 42, .int .i64 x0, .int .i64 x1, .bool v, .int .i64 x3, .int .u64 x4, .int .i64 n] 35)) := (Below.refl _ _).alloc (Nat.le_refl _) _
    have B1 := Blk.new' w 35 [.int .i64 42, .int .i64 x0, .int .i64 x1, .bool v, .int .i64 x3, .int .u64 x4, .int .i64 n]
    have k0 := ck_at B1 0
    have k6 := ck_at B1 6
    simp only [List.getElem?_cons_zero, List.getElem?_cons_succ] at k0 k6
    have H1 : Hid _ := b1
    clear b1 B1 h
    go_enter Tryd.func18, Tryd.ntmps18
    go_wp2
    go_ret
    exact ⟨rfl, H1.out⟩
  · rw [show (rowK 6).o = 53 from rfl, show inV 53 n = 0 by simp [inV]]
    have b1 : Below w.heap.size w (w.alloc (.cells #[.int .i64 53, .int .i64 x0, .int .i64 x1, .bool v, .int .i64 x3, .int .u64 x4, .int .i64 n] 35)) := (Below.refl _ _).alloc (Nat.le_refl _) _
    have B1 := Blk.new' w 35 [.int .i64 53, .int .i64 x0, .int .i64 x1, .bool v, .int .i64 x3, .int .u64 x4, .int .i64 n]
    have k0 := ck_at B1 0
    have k6 := ck_at B1 6
    simp only [List.getElem?_cons_zero, List.getElem?_cons_succ] at k0 k6
    have H1 : Hid _ := b1
    clear b1 B1 h
    go_enter Tryd.func18, Tryd.ntmps18
    go_wp2
    go_ret
    exact ⟨rfl, H1.out⟩
  · rw [show (rowK 7).o = 66 from rfl, show inV 66 n = 0 by simp [inV]]
    have b1 : Below w.heap.size w (w.alloc (.cells #[.int .i64 66, .int .i64 x0, .int .i64 x1, .bool v, .int .i64 x3, .int .u64 x4, .int .i64 n] 35)) := (Below.refl _ _).alloc (Nat.le_refl _) _
    have B1 := Blk.new' w 35 [.int .i64 66, .int .i64 x0, .int .i64 x1, .bool v, .int .i64 x3, .int .u64 x4, .int .i64 n]
    have k0 := ck_at B1 0
    have k6 := ck_at B1 6
    simp only [List.getElem?_cons_zero, List.getElem?_cons_succ] at k0 k6
    have H1 : Hid _ := b1
    clear b1 B1 h
    go_enter Tryd.func18, Tryd.ntmps18
    go_wp2
    go_ret
    exact ⟨rfl, H1.out⟩
  · rw [show (rowK 8).o = 94 from rfl, show inV 94 n = n by simp [inV]]
    have b1 : Below w.heap.size w (w.alloc (.cells #[.int .i64 94, .int .i64 x0, .int .i64 x1, .bool v, .int .i64 x3, .int .u64 x4, .int .i64 n] 35)) := (Below.refl _ _).alloc (Nat.le_refl _) _
    have B1 := Blk.new' w 35 [.int .i64 94, .int .i64 x0, .int .i64 x1, .bool v, .int .i64 x3, .int .u64 x4, .int .i64 n]
    have k0 := ck_at B1 0
    have k6 := ck_at B1 6
    simp only [List.getElem?_cons_zero, List.getElem?_cons_succ] at k0 k6
    have H1 : Hid _ := b1
    have HT : Hid (∀ X, _) := fun X => ptimes_1 n h X
    clear b1 B1 h
    go_enter Tryd.func18, Tryd.ntmps18
    go_wp2_with fail
    refine (Calls.mono (HT.out _)) ?_
    rintro e _ ⟨rfl, rfl⟩
    clear k0 k6
    go_wp2
    go_ret
    exact ⟨rfl, H1.out⟩
  · rw [show (rowK 9).o = 95 from rfl, show inV 95 n = 0 by simp [inV]]
    have b1 : Below w.heap.size w (w.alloc (.cells #[.int .i64 95, .int .i64 x0, .int .i64 x1, .bool v, .int .i64 x3, .int .u64 x4, .int .i64 n] 35)) := (Below.refl _ _).alloc (Nat.le_refl _) _
    have B1 := Blk.new' w 35 [.int .i64 95, .int .i64 x0, .int .i64 x1, .bool v, .int .i64 x3, .int .u64 x4, .int .i64 n]
    have k0 := ck_at B1 0
    have k6 := ck_at B1 6
    simp only [List.getElem?_cons_zero, List.getElem?_cons_succ] at k0 k6
    have H1 : Hid _ := b1
    clear b1 B1 h
    go_enter Tryd.func18, Tryd.ntmps18
    go_wp2
    go_ret
    exact ⟨rfl, H1.out⟩
  · rw [show (rowK 10).o = 136 from rfl, show inV 136 n = n * 64 by simp [inV]]
    have b1 : Below w.heap.size w (w.alloc (.cells #[.int .i64 136, .int .i64 x0, .int .i64 x1, .bool v, .int .i64 x3, .int .u64 x4, .int .i64 n] 35)) := (Below.refl _ _).alloc (Nat.le_refl _) _
    have B1 := Blk.new' w 35 [.int .i64 136, .int .i64 x0, .int .i64 x1, .bool v, .int .i64 x3, .int .u64 x4, .int .i64 n]
    have k0 := ck_at B1 0
    have k6 := ck_at B1 6
    simp only [List.getElem?_cons_zero, List.getElem?_cons_succ] at k0 k6
    have H1 : Hid _ := b1
    have HT : Hid (∀ X, _) := fun X => ptimes_64 n h X
    clear b1 B1 h
    go_enter Tryd.func18, Tryd.ntmps18
    go_wp2_with fail
    refine (Calls.mono (HT.out _)) ?_
    rintro e _ ⟨rfl, rfl⟩
    clear k0 k6
    go_wp2
    go_ret
    exact ⟨rfl, H1.out⟩
  · rw [show (rowK 11).o = 138 from rfl, show inV 138 n = 0 by simp [inV]]
    have b1 : Below w.heap.size w (w.alloc (.cells #[.int .i64 138, .int .i64 x0, .int .i64 x1, .bool v, .int .i64 x3, .int .u64 x4, .int .i64 n] 35)) := (Below.refl _ _).alloc (Nat.le_refl _) _
    have B1 := Blk.new' w 35 [.int .i64 138, .int .i64 x0, .int .i64 x1, .bool v, .int .i64 x3, .int .u64 x4, .int .i64 n]
    have k0 := ck_at B1 0
    have k6 := ck_at B1 6
    simp only [List.getElem?_cons_zero, List.getElem?_cons_succ] at k0 k6
    have H1 : Hid _ := b1
    clear b1 B1 h
    go_enter Tryd.func18, Tryd.ntmps18
    go_wp2
    go_ret
    exact ⟨rfl, H1.out⟩
  · rw [show (rowK 12).o = 160 from rfl, show inV 160 n = n by simp [inV]]
    have b1 : Below w.heap.size w (w.alloc (.cells #[.int .i64 160, .int .i64 x0, .int .i64 x1, .bool v, .int .i64 x3, .int .u64 x4, .int .i64 n] 35)) := (Below.refl _ _).alloc (Nat.le_refl _) _
    have B1 := Blk.new' w 35 [.int .i64 160, .int .i64 x0, .int .i64 x1, .bool v, .int .i64 x3, .int .u64 x4, .int .i64 n]
    have k0 := ck_at B1 0
    have k6 := ck_at B1 6
    simp only [List.getElem?_cons_zero, List.getElem?_cons_succ] at k0 k6
    have H1 : Hid _ := b1
    have HT : Hid (∀ X, _) := fun X => ptimes_1 n h X
    clear b1 B1 h
    go_enter Tryd.func18, Tryd.ntmps18
    go_wp2_with fail
    refine (Calls.mono (HT.out _)) ?_
    rintro e _ ⟨rfl, rfl⟩
    clear k0 k6
    go_wp2
    go_ret
    exact ⟨rfl, H1.out⟩
  · rw [show (rowK 13).o = 163 from rfl, show inV 163 n = n by simp [inV]]
    have b1 : Below w.heap.size w (w.alloc (.cells #[.int .i64 163, .int .i64 x0, .int .i64 x1, .bool v, .int .i64 x3, .int .u64 x4, .int .i64 n] 35)) := (Below.refl _ _).alloc (Nat.le_refl _) _
    have B1 := Blk.new' w 35 [.int .i64 163, .int .i64 x0, .int .i64 x1, .bool v, .int .i64 x3, .int .u64 x4, .int .i64 n]
    have k0 := ck_at B1 0
    have k6 := ck_at B1 6
    simp only [List.getElem?_cons_zero, List.getElem?_cons_succ] at k0 k6
    have H1 : Hid _ := b1
    have HT : Hid (∀ X, _) := fun X => ptimes_1 n h X
    clear b1 B1 h
    go_enter Tryd.func18, Tryd.ntmps18
    go_wp2_with fail
    refine (Calls.mono (HT.out _)) ?_
    rintro e _ ⟨rfl, rfl⟩
    clear k0 k6
    go_wp2
    go_ret
    exact ⟨rfl, H1.out⟩
set_option maxHeartbeats 8000000 in
theorem rOut5 (k : Nat) (hk : k < 14) (x0 x1 : Int) (v : Bool) (x3 x4 n : Int) (h : Few n) (w : World) : Calls Tryd.prog 25 #[.agg #[.int .i64 (rowK k).o, .int .i64 x0, .int .i64 x1, .bool v, .int .i64 x3, .int .u64 x4, .int .i64 n]] w fun e w' => e = .returned (.int .i64 (outV (rowK k).o n)) ∧ Below w.heap.size w w' := by
  have hk' : k = 0 ∨ k = 1 ∨ k = 2 ∨ k = 3 ∨ k = 4 ∨ k = 5 ∨ k = 6 ∨ k = 7 ∨ k = 8 ∨ k = 9 ∨ k = 10 ∨ k = 11 ∨ k = 12 ∨ k = 13 := by omega
  clear hk
  rcases hk' with rfl | rfl | rfl | rfl | rfl | rfl | rfl | rfl | rfl | rfl | rfl | rfl | rfl | rfl
  · rw [show (rowK 0).o = 0 from rfl, show outV 0 n = 0 by simp [outV]]
    have b1 : Below w.heap.size w (w.alloc (.cells #[.int .i64 0, .int .i64 x0, .int .i64 x1, .bool v, .int .i64 x3, .int .u64 x4, .int .i64 n] 42)) := (Below.refl _ _).alloc (Nat.le_refl _) _
    have B1 := Blk.new' w 42 [.int .i64 0, .int .i64 x0, .int .i64 x1, .bool v, .int .i64 x3, .int .u64 x4, .int .i64 n]
    have k0 := ck_at B1 0
    have k6 := ck_at B1 6
    simp only [List.getElem?_cons_zero, List.getElem?_cons_succ] at k0 k6
    have H1 : Hid _ := b1
    clear b1 B1 h
    go_enter Tryd.func25, Tryd.ntmps25
    go_wp2
    go_ret
    exact ⟨rfl, H1.out⟩
  · rw [show (rowK 1).o = 3 from rfl, show outV 3 n = 0 by simp [outV]]
    have b1 : Below w.heap.size w (w.alloc (.cells #[.int .i64 3, .int .i64 x0, .int .i64 x1, .bool v, .int .i64 x3, .int .u64 x4, .int .i64 n] 42)) := (Below.refl _ _).alloc (Nat.le_refl _) _
    have B1 := Blk.new' w 42 [.int .i64 3, .int .i64 x0, .int .i64 x1, .bool v, .int .i64 x3, .int .u64 x4, .int .i64 n]
    have k0 := ck_at B1 0
    have k6 := ck_at B1 6
    simp only [List.getElem?_cons_zero, List.getElem?_cons_succ] at k0 k6
    have H1 : Hid _ := b1
    clear b1 B1 h
    go_enter Tryd.func25, Tryd.ntmps25
    go_wp2
    go_ret
    exact ⟨rfl, H1.out⟩
  · rw [show (rowK 2).o = 18 from rfl, show outV 18 n = 0 by simp [outV]]
    have b1 : Below w.heap.size w (w.alloc (.cells #[.int .i64 18, .int .i64 x0, .int .i64 x1, .bool v, .int .i64 x3, .int .u64 x4, .int .i64 n] 42)) := (Below.refl _ _).alloc (Nat.le_refl _) _
    have B1 := Blk.new' w 42 [.int .i64 18, .int .i64 x0, .int .i64 x1, .bool v, .int .i64 x3, .int .u64 x4, .int .i64 n]
    have k0 := ck_at B1 0
    have k6 := ck_at B1 6
    simp only [List.getElem?_cons_zero, List.getElem?_cons_succ] at k0 k6
    have H1 : Hid _ := b1
    clear b1 B1 h
    go_enter Tryd.func25, Tryd.ntmps25
    go_wp2
    go_ret
    exact ⟨rfl, H1.out⟩
  · rw [show (rowK 3).o = 37 from rfl, show outV 37 n = 0 by simp [outV]]
    have b1 : Below w.heap.size w (w.alloc (.cells #[.int .i64 37, .int .i64 x0, .int .i64 x1, .bool v, .int .i64 x3, .int .u64 x4, .int .i64 n] 42)) := (Below.refl _ _).alloc (Nat.le_refl _) _
    have B1 := Blk.new' w 42 [.int .i64 37, .int .i64 x0, .int .i64 x1, .bool v, .int .i64 x3, .int .u64 x4, .int .i64 n]
    have k0 := ck_at B1 0
    have k6 := ck_at B1 6
    simp only [List.getElem?_cons_zero, List.getElem?_cons_succ] at k0 k6
    have H1 : Hid _ := b1
    clear b1 B1 h
    go_enter Tryd.func25, Tryd.ntmps25
    go_wp2
    go_ret
    exact ⟨rfl, H1.out⟩
  · rw [show (rowK 4).o = 40 from rfl, show outV 40 n = 0 by simp [outV]]
    have b1 : Below w.heap.size w (w.alloc (.cells #[.int .i64 40, .int .i64 x0, .int .i64 x1, .bool v, .int .i64 x3, .int .u64 x4, .int .i64 n] 42)) := (Below.refl _ _).alloc (Nat.le_refl _) _
    have B1 := Blk.new' w 42 [.int .i64 40, .int .i64 x0, .int .i64 x1, .bool v, .int .i64 x3, .int .u64 x4, .int .i64 n]
    have k0 := ck_at B1 0
    have k6 := ck_at B1 6
    simp only [List.getElem?_cons_zero, List.getElem?_cons_succ] at k0 k6
    have H1 : Hid _ := b1
    clear b1 B1 h
    go_enter Tryd.func25, Tryd.ntmps25
    go_wp2
    go_ret
    exact ⟨rfl, H1.out⟩
  · rw [show (rowK 5).o = 42 from rfl, show outV 42 n = n * 64 by simp [outV]]
    have b1 : Below w.heap.size w (w.alloc (.cells #[.int .i64 42, .int .i64 x0, .int .i64 x1, .bool v, .int .i64 x3, .int .u64 x4, .int .i64 n] 42)) := (Below.refl _ _).alloc (Nat.le_refl _) _
    have B1 := Blk.new' w 42 [.int .i64 42, .int .i64 x0, .int .i64 x1, .bool v, .int .i64 x3, .int .u64 x4, .int .i64 n]
    have k0 := ck_at B1 0
    have k6 := ck_at B1 6
    simp only [List.getElem?_cons_zero, List.getElem?_cons_succ] at k0 k6
    have H1 : Hid _ := b1
    have HT : Hid (∀ X, _) := fun X => rmost_64 n h X
    clear b1 B1 h
    go_enter Tryd.func25, Tryd.ntmps25
    go_wp2_with fail
    refine (Calls.mono (HT.out _)) ?_
    rintro e _ ⟨rfl, rfl⟩
    clear k0 k6
    go_wp2
    go_ret
    exact ⟨rfl, H1.out⟩
  · rw [show (rowK 6).o = 53 from rfl, show outV 53 n = 0 by simp [outV]]
    have b1 : Below w.heap.size w (w.alloc (.cells #[.int .i64 53, .int .i64 x0, .int .i64 x1, .bool v, .int .i64 x3, .int .u64 x4, .int .i64 n] 42)) := (Below.refl _ _).alloc (Nat.le_refl _) _
    have B1 := Blk.new' w 42 [.int .i64 53, .int .i64 x0, .int .i64 x1, .bool v, .int .i64 x3, .int .u64 x4, .int .i64 n]
    have k0 := ck_at B1 0
    have k6 := ck_at B1 6
    simp only [List.getElem?_cons_zero, List.getElem?_cons_succ] at k0 k6
    have H1 : Hid _ := b1
    clear b1 B1 h
    go_enter Tryd.func25, Tryd.ntmps25
    go_wp2
    go_ret
    exact ⟨rfl, H1.out⟩
  · rw [show (rowK 7).o = 66 from rfl, show outV 66 n = n by simp [outV]]
    have b1 : Below w.heap.size w (w.alloc (.cells #[.int .i64 66, .int .i64 x0, .int .i64 x1, .bool v, .int .i64 x3, .int .u64 x4, .int .i64 n] 42)) := (Below.refl _ _).alloc (Nat.le_refl _) _
    have B1 := Blk.new' w 42 [.int .i64 66, .int .i64 x0, .int .i64 x1, .bool v, .int .i64 x3, .int .u64 x4, .int .i64 n]
    have k0 := ck_at B1 0
    have k6 := ck_at B1 6
    simp only [List.getElem?_cons_zero, List.getElem?_cons_succ] at k0 k6
    have H1 : Hid _ := b1
    have HT : Hid (∀ X, _) := fun X => rmost_1 n h X
    clear b1 B1 h
    go_enter Tryd.func25, Tryd.ntmps25
    go_wp2_with fail
    refine (Calls.mono (HT.out _)) ?_
    rintro e _ ⟨rfl, rfl⟩
    clear k0 k6
    go_wp2
    go_ret
    exact ⟨rfl, H1.out⟩
  · rw [show (rowK 8).o = 94 from rfl, show outV 94 n = 0 by simp [outV]]
    have b1 : Below w.heap.size w (w.alloc (.cells #[.int .i64 94, .int .i64 x0, .int .i64 x1, .bool v, .int .i64 x3, .int .u64 x4, .int .i64 n] 42)) := (Below.refl _ _).alloc (Nat.le_refl _) _
    have B1 := Blk.new' w 42 [.int .i64 94, .int .i64 x0, .int .i64 x1, .bool v, .int .i64 x3, .int .u64 x4, .int .i64 n]
    have k0 := ck_at B1 0
    have k6 := ck_at B1 6
    simp only [List.getElem?_cons_zero, List.getElem?_cons_succ] at k0 k6
    have H1 : Hid _ := b1
    clear b1 B1 h
    go_enter Tryd.func25, Tryd.ntmps25
    go_wp2
    go_ret
    exact ⟨rfl, H1.out⟩
  · rw [show (rowK 9).o = 95 from rfl, show outV 95 n = n by simp [outV]]
    have b1 : Below w.heap.size w (w.alloc (.cells #[.int .i64 95, .int .i64 x0, .int .i64 x1, .bool v, .int .i64 x3, .int .u64 x4, .int .i64 n] 42)) := (Below.refl _ _).alloc (Nat.le_refl _) _
    have B1 := Blk.new' w 42 [.int .i64 95, .int .i64 x0, .int .i64 x1, .bool v, .int .i64 x3, .int .u64 x4, .int .i64 n]
    have k0 := ck_at B1 0
    have k6 := ck_at B1 6
    simp only [List.getElem?_cons_zero, List.getElem?_cons_succ] at k0 k6
    have H1 : Hid _ := b1
    have HT : Hid (∀ X, _) := fun X => rmost_1 n h X
    clear b1 B1 h
    go_enter Tryd.func25, Tryd.ntmps25
    go_wp2_with fail
    refine (Calls.mono (HT.out _)) ?_
    rintro e _ ⟨rfl, rfl⟩
    clear k0 k6
    go_wp2
    go_ret
    exact ⟨rfl, H1.out⟩
  · rw [show (rowK 10).o = 136 from rfl, show outV 136 n = 0 by simp [outV]]
    have b1 : Below w.heap.size w (w.alloc (.cells #[.int .i64 136, .int .i64 x0, .int .i64 x1, .bool v, .int .i64 x3, .int .u64 x4, .int .i64 n] 42)) := (Below.refl _ _).alloc (Nat.le_refl _) _
    have B1 := Blk.new' w 42 [.int .i64 136, .int .i64 x0, .int .i64 x1, .bool v, .int .i64 x3, .int .u64 x4, .int .i64 n]
    have k0 := ck_at B1 0
    have k6 := ck_at B1 6
    simp only [List.getElem?_cons_zero, List.getElem?_cons_succ] at k0 k6
    have H1 : Hid _ := b1
    clear b1 B1 h
    go_enter Tryd.func25, Tryd.ntmps25
    go_wp2
    go_ret
    exact ⟨rfl, H1.out⟩
  · rw [show (rowK 11).o = 138 from rfl, show outV 138 n = n * 64 by simp [outV]]
    have b1 : Below w.heap.size w (w.alloc (.cells #[.int .i64 138, .int .i64 x0, .int .i64 x1, .bool v, .int .i64 x3, .int .u64 x4, .int .i64 n] 42)) := (Below.refl _ _).alloc (Nat.le_refl _) _
    have B1 := Blk.new' w 42 [.int .i64 138, .int .i64 x0, .int .i64 x1, .bool v, .int .i64 x3, .int .u64 x4, .int .i64 n]
    have k0 := ck_at B1 0
    have k6 := ck_at B1 6
    simp only [List.getElem?_cons_zero, List.getElem?_cons_succ] at k0 k6
    have H1 : Hid _ := b1
    have HT : Hid (∀ X, _) := fun X => rmost_64 n h X
    clear b1 B1 h
    go_enter Tryd.func25, Tryd.ntmps25
    go_wp2_with fail
    refine (Calls.mono (HT.out _)) ?_
    rintro e _ ⟨rfl, rfl⟩
    clear k0 k6
    go_wp2
    go_ret
    exact ⟨rfl, H1.out⟩
  · rw [show (rowK 12).o = 160 from rfl, show outV 160 n = 0 by simp [outV]]
    have b1 : Below w.heap.size w (w.alloc (.cells #[.int .i64 160, .int .i64 x0, .int .i64 x1, .bool v, .int .i64 x3, .int .u64 x4, .int .i64 n] 42)) := (Below.refl _ _).alloc (Nat.le_refl _) _
    have B1 := Blk.new' w 42 [.int .i64 160, .int .i64 x0, .int .i64 x1, .bool v, .int .i64 x3, .int .u64 x4, .int .i64 n]
    have k0 := ck_at B1 0
    have k6 := ck_at B1 6
    simp only [List.getElem?_cons_zero, List.getElem?_cons_succ] at k0 k6
    have H1 : Hid _ := b1
    clear b1 B1 h
    go_enter Tryd.func25, Tryd.ntmps25
    go_wp2
    go_ret
    exact ⟨rfl, H1.out⟩
  · rw [show (rowK 13).o = 163 from rfl, show outV 163 n = 0 by simp [outV]]
    have b1 : Below w.heap.size w (w.alloc (.cells #[.int .i64 163, .int .i64 x0, .int .i64 x1, .bool v, .int .i64 x3, .int .u64 x4, .int .i64 n] 42)) := (Below.refl _ _).alloc (Nat.le_refl _) _
    have B1 := Blk.new' w 42 [.int .i64 163, .int .i64 x0, .int .i64 x1, .bool v, .int .i64 x3, .int .u64 x4, .int .i64 n]
    have k0 := ck_at B1 0
    have k6 := ck_at B1 6
    simp only [List.getElem?_cons_zero, List.getElem?_cons_succ] at k0 k6
    have H1 : Hid _ := b1
    clear b1 B1 h
    go_enter Tryd.func25, Tryd.ntmps25
    go_wp2
    go_ret
    exact ⟨rfl, H1.out⟩
set_option maxHeartbeats 8000000 in
theorem rIn5 (k : Nat) (hk : k < 14) (x0 x1 : Int) (v : Bool) (x3 x4 n : Int) (h : Few n) (w : World) : Calls Tryd.prog 26 #[.agg #[.int .i64 (rowK k).o, .int .i64 x0, .int .i64 x1, .bool v, .int .i64 x3, .int .u64 x4, .int .i64 n]] w fun e w' => e = .returned (.int .i64 (inV (rowK k).o n)) ∧ Below w.heap.size w w' := by
  have hk' : k = 0 ∨ k = 1 ∨ k = 2 ∨ k = 3 ∨ k = 4 ∨ k = 5 ∨ k = 6 ∨ k = 7 ∨ k = 8 ∨ k = 9 ∨ k = 10 ∨ k = 11 ∨ k = 12 ∨ k = 13 := by omega
  clear hk
  rcases hk' with rfl | rfl | rfl | rfl | rfl | rfl | rfl | rfl | rfl | rfl | rfl | rfl | rfl | rfl
  · rw [show (rowK 0).o = 0 from rfl, show inV 0 n = 0 by simp [inV]]
    have b1 : Below w.heap.size w (w.alloc (.cells #[.int .i64 0, .int .i64 x0, .int .i64 x1, .bool v, .int .i64 x3, .int .u64 x4, .int .i64 n] 42)) := (Below.refl _ _).alloc (Nat.le_refl _) _
    have B1 := Blk.new' w 42 [.int .i64 0, .int .i64 x0, .int .i64 x1, .bool v, .int .i64 x3, .int .u64 x4, .int .i64 n]
    have k0 := ck_at B1 0
    have k6 := ck_at B1 6
    simp only [List.getElem?_cons_zero, List.getElem?_cons_succ] at k0 k6
    have H1 : Hid _ := b1
    clear b1 B1 h
    go_enter Tryd.func26, Tryd.ntmps26
    go_wp2
    go_ret
    exact ⟨rfl, H1.out⟩
  · rw [show (rowK 1).o = 3 from rfl, show inV 3 n = n by simp [inV]]
    have b1 : Below w.heap.size w (w.alloc (.cells #[.int .i64 3, .int .i64 x0, .int .i64 x1, .bool v, .int .i64 x3, .int .u64 x4, .int .i64 n] 42)) := (Below.refl _ _).alloc (Nat.le_refl _) _
    have B1 := Blk.new' w 42 [.int .i64 3, .int .i64 x0, .int .i64 x1, .bool v, .int .i64 x3, .int .u64 x4, .int .i64 n]
    have k0 := ck_at B1 0
    have k6 := ck_at B1 6
    simp only [List.getElem?_cons_zero, List.getElem?_cons_succ] at k0 k6
    have H1 : Hid _ := b1
    have HT : Hid (∀ X, _) := fun X => rmost_1 n h X
    clear b1 B1 h
    go_enter Tryd.func26, Tryd.ntmps26
    go_wp2_with fail
    refine (Calls.mono (HT.out _)) ?_
    rintro e _ ⟨rfl, rfl⟩
    clear k0 k6
    go_wp2
    go_ret
    exact ⟨rfl, H1.out⟩
  · rw [show (rowK 2).o = 18 from rfl, show inV 18 n = n by simp [inV]]
    have b1 : Below w.heap.size w (w.alloc (.cells #[.int .i64 18, .int .i64 x0, .int .i64 x1, .bool v, .int .i64 x3, .int .u64 x4, .int .i64 n] 42)) := (Below.refl _ _).alloc (Nat.le_refl _) _
    have B1 := Blk.new' w 42 [.int .i64 18, .int .i64 x0, .int .i64 x1, .bool v, .int .i64 x3, .int .u64 x4, .int .i64 n]
    have k0 := ck_at B1 0
    have k6 := ck_at B1 6
    simp only [List.getElem?_cons_zero, List.getElem?_cons_succ] at k0 k6
    have H1 : Hid _ := b1
    have HT : Hid (∀ X, _) := fun X => rmost_1 n h X
    clear b1 B1 h
    go_enter Tryd.func26, Tryd.ntmps26
    go_wp2_with fail
    refine (Calls.mono (HT.out _)) ?_
    rintro e _ ⟨rfl, rfl⟩
    clear k0 k6
    go_wp2
    go_ret
    exact ⟨rfl, H1.out⟩
  · rw [show (rowK 3).o = 37 from rfl, show inV 37 n = 8 by simp [inV]]
    have b1 : Below w.heap.size w (w.alloc (.cells #[.int .i64 37, .int .i64 x0, .int .i64 x1, .bool v, .int .i64 x3, .int .u64 x4, .int .i64 n] 42)) := (Below.refl _ _).alloc (Nat.le_refl _) _
    have B1 := Blk.new' w 42 [.int .i64 37, .int .i64 x0, .int .i64 x1, .bool v, .int .i64 x3, .int .u64 x4, .int .i64 n]
    have k0 := ck_at B1 0
    have k6 := ck_at B1 6
    simp only [List.getElem?_cons_zero, List.getElem?_cons_succ] at k0 k6
    have H1 : Hid _ := b1
    have hn0 : 0 ≤ n := h.1
    have hn1 : ¬ n < 0 := by omega
    clear b1 B1 h
    go_enter Tryd.func26, Tryd.ntmps26
    go_wp2
    go_ret
    exact ⟨rfl, H1.out⟩
  · rw [show (rowK 4).o = 40 from rfl, show inV 40 n = n * 64 by simp [inV]]
    have b1 : Below w.heap.size w (w.alloc (.cells #[.int .i64 40, .int .i64 x0, .int .i64 x1, .bool v, .int .i64 x3, .int .u64 x4, .int .i64 n] 42)) := (Below.refl _ _).alloc (Nat.le_refl _) _
    have B1 := Blk.new' w 42 [.int .i64 40, .int .i64 x0, .int .i64 x1, .bool v, .int .i64 x3, .int .u64 x4, .int .i64 n]
    have k0 := ck_at B1 0
    have k6 := ck_at B1 6
    simp only [List.getElem?_cons_zero, List.getElem?_cons_succ] at k0 k6
    have H1 : Hid _ := b1
    have HT : Hid (∀ X, _) := fun X => rmost_64 n h X
    clear b1 B1 h
    go_enter Tryd.func26, Tryd.ntmps26
    go_wp2_with fail
    refine (Calls.mono (HT.out _)) ?_
    rintro e _ ⟨rfl, rfl⟩
    clear k0 k6
    go_wp2
    go_ret
    exact ⟨rfl, H1.out⟩
  · rw [show (rowK 5).o = 42 from rfl, show inV 42 n = 0 by simp [inV]]
    have b1 : Below w.heap.size w (w.alloc (.cells #[.int .i64 42, .int .i64 x0, .int .i64 x1, .bool v, .int .i64 x3, .int .u64 x4, .int .i64 n] 42)) := (Below.refl _ _).alloc (Nat.le_refl _) _
    have B1 := Blk.new' w 42 [.int .i64 42, .int .i64 x0, .int .i64 x1, .bool v, .int .i64 x3, .int .u64 x4, .int .i64 n]
    have k0 := ck_at B1 0
    have k6 := ck_at B1 6
    simp only [List.getElem?_cons_zero, List.getElem?_cons_succ] at k0 k6
    have H1 : Hid _ := b1
    clear b1 B1 h
    go_enter Tryd.func26, Tryd.ntmps26
    go_wp2
    go_ret
    exact ⟨rfl, H1.out⟩
  · rw [show (rowK 6).o = 53 from rfl, show inV 53 n = 0 by simp [inV]]
    have b1 : Below w.heap.size w (w.alloc (.cells #[.int .i64 53, .int .i64 x0, .int .i64 x1, .bool v, .int .i64 x3, .int .u64 x4, .int .i64 n] 42)) := (Below.refl _ _).alloc (Nat.le_refl _) _
    have B1 := Blk.new' w 42 [.int .i64 53, .int .i64 x0, .int .i64 x1, .bool v, .int .i64 x3, .int .u64 x4, .int .i64 n]
    have k0 := ck_at B1 0
    have k6 := ck_at B1 6
    simp only [List.getElem?_cons_zero, List.getElem?_cons_succ] at k0 k6
    have H1 : Hid _ := b1
    clear b1 B1 h
    go_enter Tryd.func26, Tryd.ntmps26
    go_wp2
    go_ret
    exact ⟨rfl, H1.out⟩
  · rw [show (rowK 7).o = 66 from rfl, show inV 66 n = 0 by simp [inV]]
    have b1 : Below w.heap.size w (w.alloc (.cells #[.int .i64 66, .int .i64 x0, .int .i64 x1, .bool v, .int .i64 x3, .int .u64 x4, .int .i64 n] 42)) := (Below.refl _ _).alloc (Nat.le_refl _) _
    have B1 := Blk.new' w 42 [.int .i64 66, .int .i64 x0, .int .i64 x1, .bool v, .int .i64 x3, .int .u64 x4, .int .i64 n]
    have k0 := ck_at B1 0
    have k6 := ck_at B1 6
    simp only [List.getElem?_cons_zero, List.getElem?_cons_succ] at k0 k6
    have H1 : Hid _ := b1
    clear b1 B1 h
    go_enter Tryd.func26, Tryd.ntmps26
    go_wp2
    go_ret
    exact ⟨rfl, H1.out⟩
  · rw [show (rowK 8).o = 94 from rfl, show inV 94 n = n by simp [inV]]
    have b1 : Below w.heap.size w (w.alloc (.cells #[.int .i64 94, .int .i64 x0, .int .i64 x1, .bool v, .int .i64 x3, .int .u64 x4, .int .i64 n] 42)) := (Below.refl _ _).alloc (Nat.le_refl _) _
    have B1 := Blk.new' w 42 [.int .i64 94, .int .i64 x0, .int .i64 x1, .bool v, .int .i64 x3, .int .u64 x4, .int .i64 n]
    have k0 := ck_at B1 0
    have k6 := ck_at B1 6
    simp only [List.getElem?_cons_zero, List.getElem?_cons_succ] at k0 k6
    have H1 : Hid _ := b1
    have HT : Hid (∀ X, _) := fun X => rmost_1 n h X
    clear b1 B1 h
    go_enter Tryd.func26, Tryd.ntmps26
    go_wp2_with fail
    refine (Calls.mono (HT.out _)) ?_
    rintro e _ ⟨rfl, rfl⟩
    clear k0 k6
    go_wp2
    go_ret
    exact ⟨rfl, H1.out⟩
  · rw [show (rowK 9).o = 95 from rfl, show inV 95 n = 0 by simp [inV]]
    have b1 : Below w.heap.size w (w.alloc (.cells #[.int .i64 95, .int .i64 x0, .int .i64 x1, .bool v, .int .i64 x3, .int .u64 x4, .int .i64 n] 42)) := (Below.refl _ _).alloc (Nat.le_refl _) _
    have B1 := Blk.new' w 42 [.int .i64 95, .int .i64 x0, .int .i64 x1, .bool v, .int .i64 x3, .int .u64 x4, .int .i64 n]
    have k0 := ck_at B1 0
    have k6 := ck_at B1 6
    simp only [List.getElem?_cons_zero, List.getElem?_cons_succ] at k0 k6
    have H1 : Hid _ := b1
    clear b1 B1 h
    go_enter Tryd.func26, Tryd.ntmps26
    go_wp2
    go_ret
    exact ⟨rfl, H1.out⟩
  · rw [show (rowK 10).o = 136 from rfl, show inV 136 n = n * 64 by simp [inV]]
    have b1 : Below w.heap.size w (w.alloc (.cells #[.int .i64 136, .int .i64 x0, .int .i64 x1, .bool v, .int .i64 x3, .int .u64 x4, .int .i64 n] 42)) := (Below.refl _ _).alloc (Nat.le_refl _) _
    have B1 := Blk.new' w 42 [.int .i64 136, .int .i64 x0, .int .i64 x1, .bool v, .int .i64 x3, .int .u64 x4, .int .i64 n]
    have k0 := ck_at B1 0
    have k6 := ck_at B1 6
    simp only [List.getElem?_cons_zero, List.getElem?_cons_succ] at k0 k6
    have H1 : Hid _ := b1
    have HT : Hid (∀ X, _) := fun X => rmost_64 n h X
    clear b1 B1 h
    go_enter Tryd.func26, Tryd.ntmps26
    go_wp2_with fail
    refine (Calls.mono (HT.out _)) ?_
    rintro e _ ⟨rfl, rfl⟩
    clear k0 k6
    go_wp2
    go_ret
    exact ⟨rfl, H1.out⟩
  · rw [show (rowK 11).o = 138 from rfl, show inV 138 n = 0 by simp [inV]]
    have b1 : Below w.heap.size w (w.alloc (.cells #[.int .i64 138, .int .i64 x0, .int .i64 x1, .bool v, .int .i64 x3, .int .u64 x4, .int .i64 n] 42)) := (Below.refl _ _).alloc (Nat.le_refl _) _
    have B1 := Blk.new' w 42 [.int .i64 138, .int .i64 x0, .int .i64 x1, .bool v, .int .i64 x3, .int .u64 x4, .int .i64 n]
    have k0 := ck_at B1 0
    have k6 := ck_at B1 6
    simp only [List.getElem?_cons_zero, List.getElem?_cons_succ] at k0 k6
    have H1 : Hid _ := b1
    clear b1 B1 h
    go_enter Tryd.func26, Tryd.ntmps26
    go_wp2
    go_ret
    exact ⟨rfl, H1.out⟩
  · rw [show (rowK 12).o = 160 from rfl, show inV 160 n = n by simp [inV]]
    have b1 : Below w.heap.size w (w.alloc (.cells #[.int .i64 160, .int .i64 x0, .int .i64 x1, .bool v, .int .i64 x3, .int .u64 x4, .int .i64 n] 42)) := (Below.refl _ _).alloc (Nat.le_refl _) _
    have B1 := Blk.new' w 42 [.int .i64 160, .int .i64 x0, .int .i64 x1, .bool v, .int .i64 x3, .int .u64 x4, .int .i64 n]
    have k0 := ck_at B1 0
    have k6 := ck_at B1 6
    simp only [List.getElem?_cons_zero, List.getElem?_cons_succ] at k0 k6
    have H1 : Hid _ := b1
    have HT : Hid (∀ X, _) := fun X => rmost_1 n h X
    clear b1 B1 h
    go_enter Tryd.func26, Tryd.ntmps26
    go_wp2_with fail
    refine (Calls.mono (HT.out _)) ?_
    rintro e _ ⟨rfl, rfl⟩
    clear k0 k6
    go_wp2
    go_ret
    exact ⟨rfl, H1.out⟩
  · rw [show (rowK 13).o = 163 from rfl, show inV 163 n = n by simp [inV]]
    have b1 : Below w.heap.size w (w.alloc (.cells #[.int .i64 163, .int .i64 x0, .int .i64 x1, .bool v, .int .i64 x3, .int .u64 x4, .int .i64 n] 42)) := (Below.refl _ _).alloc (Nat.le_refl _) _
    have B1 := Blk.new' w 42 [.int .i64 163, .int .i64 x0, .int .i64 x1, .bool v, .int .i64 x3, .int .u64 x4, .int .i64 n]
    have k0 := ck_at B1 0
    have k6 := ck_at B1 6
    simp only [List.getElem?_cons_zero, List.getElem?_cons_succ] at k0 k6
    have H1 : Hid _ := b1
    have HT : Hid (∀ X, _) := fun X => rmost_1 n h X
    clear b1 B1 h
    go_enter Tryd.func26, Tryd.ntmps26
    go_wp2_with fail
    refine (Calls.mono (HT.out _)) ?_
    rintro e _ ⟨rfl, rfl⟩
    clear k0 k6
    go_wp2
    go_ret
    exact ⟨rfl, H1.out⟩
set_option maxHeartbeats 8000000 in
theorem rSizeOp_any (op : Int) (w : World) : Calls Tryd.prog 24 #[.int .i64 op] w fun e w' => e = .returned (.int .i64 (szO op)) ∧ Below w.heap.size w w' := by
  cases hfr : findR op with
  | none =>
    have e1 : szO op = 0 := by unfold szO; rw [hfr]
    rw [e1]
    have HF : Hid _ := rowOf_no op w hfr
    clear hfr e1
    go_enter Tryd.func24, Tryd.ntmps24
    go_wp2_with fail
    refine (Calls.mono HF.out) ?_
    rintro e w1 ⟨rfl, b1⟩
    clear HF
    have N2 := Blk.new' w1 95 [.int .i64 0, .int .i64 0, .int .i64 0, .int .i64 0, .int .i64 0, .int .i64 0, .int .i64 0, .int .i64 0, .int .i64 0, .int .i64 0, .int .i64 0, .int .i64 0, .int .i64 0, .int .i64 0, .int .i64 0, .int .i64 0, .int .i64 0, .int .i64 0]
    have bn2 : Below w1.heap.size w1 (w1.alloc (.cells #[.int .i64 0, .int .i64 0, .int .i64 0, .int .i64 0, .int .i64 0, .int .i64 0, .int .i64 0, .int .i64 0, .int .i64 0, .int .i64 0, .int .i64 0, .int .i64 0, .int .i64 0, .int .i64 0, .int .i64 0, .int .i64 0, .int .i64 0, .int .i64 0] 95)) := (Below.refl _ _).alloc (Nat.le_refl _) _
    obtain ⟨w2, hw2⟩ : ∃ w2, w2 = w1.alloc (.cells #[.int .i64 0, .int .i64 0, .int .i64 0, .int .i64 0, .int .i64 0, .int .i64 0, .int .i64 0, .int .i64 0, .int .i64 0, .int .i64 0, .int .i64 0, .int .i64 0, .int .i64 0, .int .i64 0, .int .i64 0, .int .i64 0, .int .i64 0, .int .i64 0] 95) := ⟨_, rfl⟩
    rw [← hw2] at N2 bn2
    obtain ⟨w3, st3, B3, g3⟩ := storeW (T := 95) (vs := [.int .i64 0, .int .i64 0, .int .i64 0, .int .i64 0, .int .i64 0, .int .i64 0, .int .i64 0, .int .i64 0, .int .i64 0, .int .i64 0, .int .i64 0, .int .i64 0, .int .i64 0, .int .i64 0, .int .i64 0, .int .i64 0, .int .i64 0, .int .i64 0]) size_rr N2 rfl (by decide)
    have F : Hid _ := bel_grown (below_then b1 bn2) g3 (by have := b1.size; omega)
    clear B3 g3 N2 bn2 b1
    go_wp2_with (refine wpList_skip rfl (exec_store rfl rfl rfl (by rw [← hw2]; exact st3)) ?_)
    go_ret
    exact ⟨rfl, F.out⟩
  | some r =>
    obtain ⟨k, hk, hrk, hro⟩ := findR_row hfr
    have e1 : szO op = szK (rowK k).o := by unfold szO; rw [hfr, hrk]
    have HF0 := rowOf_yes op r w hfr
    rw [e1]
    subst hrk
    rw [← hro] at HF0 ⊢
    clear hfr hro e1
    have hk' : k = 0 ∨ k = 1 ∨ k = 2 ∨ k = 3 ∨ k = 4 ∨ k = 5 ∨ k = 6 ∨ k = 7 ∨ k = 8 ∨ k = 9 ∨ k = 10 ∨ k = 11 ∨ k = 12 ∨ k = 13 := by omega
    clear hk
    rcases hk' with rfl | rfl | rfl | rfl | rfl | rfl | rfl | rfl | rfl | rfl | rfl | rfl | rfl | rfl
    · rw [rowV_0] at HF0
      have HF : Hid _ := HF0
      clear HF0
      rw [show szK (rowK 0).o = 6 from rfl]
      rw [show (rowK 0).o = 0 from rfl] at *
      go_enter Tryd.func24, Tryd.ntmps24
      go_wp2_with fail
      refine (Calls.mono HF.out) ?_
      rintro e w1 ⟨rfl, b1⟩
      clear HF
      have N2 := Blk.new' w1 95 [.int .i64 0, .int .i64 0, .int .i64 0, .int .i64 0, .int .i64 0, .int .i64 0, .int .i64 0, .int .i64 0, .int .i64 0, .int .i64 0, .int .i64 0, .int .i64 0, .int .i64 0, .int .i64 0, .int .i64 0, .int .i64 0, .int .i64 0, .int .i64 0]
      have bn2 : Below w1.heap.size w1 (w1.alloc (.cells #[.int .i64 0, .int .i64 0, .int .i64 0, .int .i64 0, .int .i64 0, .int .i64 0, .int .i64 0, .int .i64 0, .int .i64 0, .int .i64 0, .int .i64 0, .int .i64 0, .int .i64 0, .int .i64 0, .int .i64 0, .int .i64 0, .int .i64 0, .int .i64 0] 95)) := (Below.refl _ _).alloc (Nat.le_refl _) _
      obtain ⟨w2, hw2⟩ : ∃ w2, w2 = w1.alloc (.cells #[.int .i64 0, .int .i64 0, .int .i64 0, .int .i64 0, .int .i64 0, .int .i64 0, .int .i64 0, .int .i64 0, .int .i64 0, .int .i64 0, .int .i64 0, .int .i64 0, .int .i64 0, .int .i64 0, .int .i64 0, .int .i64 0, .int .i64 0, .int .i64 0] 95) := ⟨_, rfl⟩
      rw [← hw2] at N2 bn2
      obtain ⟨w3, st3, B3, g3⟩ := storeW (T := 95) (vs := [.int .i64 0, .int .i64 0, .int .i64 0, .int .i64 0, .int .i64 0, .int .i64 0, .int .i64 0, .int .i64 0, .int .i64 0, .int .i64 0, .int .i64 0, .int .i64 0, .int .i64 0, .int .i64 0, .int .i64 0, .int .i64 0, .int .i64 0, .int .i64 0]) size_rr N2 rfl (by decide)
      have F : Hid _ := bel_grown (below_then b1 bn2) g3 (by have := b1.size; omega)
      clear B3 g3 N2 bn2 b1
      go_wp2_with (refine wpList_skip rfl (exec_store rfl rfl rfl (by rw [← hw2]; exact st3)) ?_)
      go_ret
      exact ⟨rfl, F.out⟩
    · rw [rowV_1] at HF0
      have HF : Hid _ := HF0
      clear HF0
      rw [show szK (rowK 1).o = 6 from rfl]
      rw [show (rowK 1).o = 3 from rfl] at *
      go_enter Tryd.func24, Tryd.ntmps24
      go_wp2_with fail
      refine (Calls.mono HF.out) ?_
      rintro e w1 ⟨rfl, b1⟩
      clear HF
      have N2 := Blk.new' w1 95 [.int .i64 0, .int .i64 0, .int .i64 0, .int .i64 0, .int .i64 0, .int .i64 0, .int .i64 0, .int .i64 0, .int .i64 0, .int .i64 0, .int .i64 0, .int .i64 0, .int .i64 0, .int .i64 0, .int .i64 0, .int .i64 0, .int .i64 0, .int .i64 0]
      have bn2 : Below w1.heap.size w1 (w1.alloc (.cells #[.int .i64 0, .int .i64 0, .int .i64 0, .int .i64 0, .int .i64 0, .int .i64 0, .int .i64 0, .int .i64 0, .int .i64 0, .int .i64 0, .int .i64 0, .int .i64 0, .int .i64 0, .int .i64 0, .int .i64 0, .int .i64 0, .int .i64 0, .int .i64 0] 95)) := (Below.refl _ _).alloc (Nat.le_refl _) _
      obtain ⟨w2, hw2⟩ : ∃ w2, w2 = w1.alloc (.cells #[.int .i64 0, .int .i64 0, .int .i64 0, .int .i64 0, .int .i64 0, .int .i64 0, .int .i64 0, .int .i64 0, .int .i64 0, .int .i64 0, .int .i64 0, .int .i64 0, .int .i64 0, .int .i64 0, .int .i64 0, .int .i64 0, .int .i64 0, .int .i64 0] 95) := ⟨_, rfl⟩
      rw [← hw2] at N2 bn2
      obtain ⟨w3, st3, B3, g3⟩ := storeW (T := 95) (vs := [.int .i64 0, .int .i64 0, .int .i64 0, .int .i64 0, .int .i64 0, .int .i64 0, .int .i64 0, .int .i64 0, .int .i64 0, .int .i64 0, .int .i64 0, .int .i64 0, .int .i64 0, .int .i64 0, .int .i64 0, .int .i64 4, .int .i64 1, .int .i64 0]) size_rr N2 rfl (by decide)
      have F : Hid _ := bel_grown (below_then b1 bn2) g3 (by have := b1.size; omega)
      clear B3 g3 N2 bn2 b1
      go_wp2_with (refine wpList_skip rfl (exec_store rfl rfl rfl (by rw [← hw2]; exact st3)) ?_)
      go_ret
      exact ⟨rfl, F.out⟩
    · rw [rowV_2] at HF0
      have HF : Hid _ := HF0
      clear HF0
      rw [show szK (rowK 2).o = 6 from rfl]
      rw [show (rowK 2).o = 18 from rfl] at *
      go_enter Tryd.func24, Tryd.ntmps24
      go_wp2_with fail
      refine (Calls.mono HF.out) ?_
      rintro e w1 ⟨rfl, b1⟩
      clear HF
      have N2 := Blk.new' w1 95 [.int .i64 0, .int .i64 0, .int .i64 0, .int .i64 0, .int .i64 0, .int .i64 0, .int .i64 0, .int .i64 0, .int .i64 0, .int .i64 0, .int .i64 0, .int .i64 0, .int .i64 0, .int .i64 0, .int .i64 0, .int .i64 0, .int .i64 0, .int .i64 0]
      have bn2 : Below w1.heap.size w1 (w1.alloc (.cells #[.int .i64 0, .int .i64 0, .int .i64 0, .int .i64 0, .int .i64 0, .int .i64 0, .int .i64 0, .int .i64 0, .int .i64 0, .int .i64 0, .int .i64 0, .int .i64 0, .int .i64 0, .int .i64 0, .int .i64 0, .int .i64 0, .int .i64 0, .int .i64 0] 95)) := (Below.refl _ _).alloc (Nat.le_refl _) _
      obtain ⟨w2, hw2⟩ : ∃ w2, w2 = w1.alloc (.cells #[.int .i64 0, .int .i64 0, .int .i64 0, .int .i64 0, .int .i64 0, .int .i64 0, .int .i64 0, .int .i64 0, .int .i64 0, .int .i64 0, .int .i64 0, .int .i64 0, .int .i64 0, .int .i64 0, .int .i64 0, .int .i64 0, .int .i64 0, .int .i64 0] 95) := ⟨_, rfl⟩
      rw [← hw2] at N2 bn2
      obtain ⟨w3, st3, B3, g3⟩ := storeW (T := 95) (vs := [.int .i64 0, .int .i64 0, .int .i64 0, .int .i64 1, .int .i64 1, .int .i64 1, .int .i64 2, .int .i64 1, .int .i64 0, .int .i64 0, .int .i64 0, .int .i64 0, .int .i64 0, .int .i64 0, .int .i64 0, .int .i64 3, .int .i64 2, .int .i64 0]) size_rr N2 rfl (by decide)
      have F : Hid _ := bel_grown (below_then b1 bn2) g3 (by have := b1.size; omega)
      clear B3 g3 N2 bn2 b1
      go_wp2_with (refine wpList_skip rfl (exec_store rfl rfl rfl (by rw [← hw2]; exact st3)) ?_)
      go_ret
      exact ⟨rfl, F.out⟩
    · rw [rowV_3] at HF0
      have HF : Hid _ := HF0
      clear HF0
      rw [show szK (rowK 3).o = 10 from rfl]
      rw [show (rowK 3).o = 37 from rfl] at *
      go_enter Tryd.func24, Tryd.ntmps24
      go_wp2_with fail
      refine (Calls.mono HF.out) ?_
      rintro e w1 ⟨rfl, b1⟩
      clear HF
      have N2 := Blk.new' w1 95 [.int .i64 0, .int .i64 0, .int .i64 0, .int .i64 0, .int .i64 0, .int .i64 0, .int .i64 0, .int .i64 0, .int .i64 0, .int .i64 0, .int .i64 0, .int .i64 0, .int .i64 0, .int .i64 0, .int .i64 0, .int .i64 0, .int .i64 0, .int .i64 0]
      have bn2 : Below w1.heap.size w1 (w1.alloc (.cells #[.int .i64 0, .int .i64 0, .int .i64 0, .int .i64 0, .int .i64 0, .int .i64 0, .int .i64 0, .int .i64 0, .int .i64 0, .int .i64 0, .int .i64 0, .int .i64 0, .int .i64 0, .int .i64 0, .int .i64 0, .int .i64 0, .int .i64 0, .int .i64 0] 95)) := (Below.refl _ _).alloc (Nat.le_refl _) _
      obtain ⟨w2, hw2⟩ : ∃ w2, w2 = w1.alloc (.cells #[.int .i64 0, .int .i64 0, .int .i64 0, .int .i64 0, .int .i64 0, .int .i64 0, .int .i64 0, .int .i64 0, .int .i64 0, .int .i64 0, .int .i64 0, .int .i64 0, .int .i64 0, .int .i64 0, .int .i64 0, .int .i64 0, .int .i64 0, .int .i64 0] 95) := ⟨_, rfl⟩
      rw [← hw2] at N2 bn2
      obtain ⟨w3, st3, B3, g3⟩ := storeW (T := 95) (vs := [.int .i64 0, .int .i64 0, .int .i64 0, .int .i64 0, .int .i64 0, .int .i64 0, .int .i64 0, .int .i64 0, .int .i64 0, .int .i64 0, .int .i64 0, .int .i64 0, .int .i64 0, .int .i64 0, .int .i64 0, .int .i64 0, .int .i64 0, .int .i64 0]) size_rr N2 rfl (by decide)
      have F : Hid _ := bel_grown (below_then b1 bn2) g3 (by have := b1.size; omega)
      clear B3 g3 N2 bn2 b1
      go_wp2_with (refine wpList_skip rfl (exec_store rfl rfl rfl (by rw [← hw2]; exact st3)) ?_)
      go_ret
      exact ⟨rfl, F.out⟩
    · rw [rowV_4] at HF0
      have HF : Hid _ := HF0
      clear HF0
      rw [show szK (rowK 4).o = 10 from rfl]
      rw [show (rowK 4).o = 40 from rfl] at *
      go_enter Tryd.func24, Tryd.ntmps24
      go_wp2_with fail
      refine (Calls.mono HF.out) ?_
      rintro e w1 ⟨rfl, b1⟩
      clear HF
      have N2 := Blk.new' w1 95 [.int .i64 0, .int .i64 0, .int .i64 0, .int .i64 0, .int .i64 0, .int .i64 0, .int .i64 0, .int .i64 0, .int .i64 0, .int .i64 0, .int .i64 0, .int .i64 0, .int .i64 0, .int .i64 0, .int .i64 0, .int .i64 0, .int .i64 0, .int .i64 0]
      have bn2 : Below w1.heap.size w1 (w1.alloc (.cells #[.int .i64 0, .int .i64 0, .int .i64 0, .int .i64 0, .int .i64 0, .int .i64 0, .int .i64 0, .int .i64 0, .int .i64 0, .int .i64 0, .int .i64 0, .int .i64 0, .int .i64 0, .int .i64 0, .int .i64 0, .int .i64 0, .int .i64 0, .int .i64 0] 95)) := (Below.refl _ _).alloc (Nat.le_refl _) _
      obtain ⟨w2, hw2⟩ : ∃ w2, w2 = w1.alloc (.cells #[.int .i64 0, .int .i64 0, .int .i64 0, .int .i64 0, .int .i64 0, .int .i64 0, .int .i64 0, .int .i64 0, .int .i64 0, .int .i64 0, .int .i64 0, .int .i64 0, .int .i64 0, .int .i64 0, .int .i64 0, .int .i64 0, .int .i64 0, .int .i64 0] 95) := ⟨_, rfl⟩
      rw [← hw2] at N2 bn2
      obtain ⟨w3, st3, B3, g3⟩ := storeW (T := 95) (vs := [.int .i64 0, .int .i64 0, .int .i64 0, .int .i64 0, .int .i64 0, .int .i64 0, .int .i64 0, .int .i64 0, .int .i64 0, .int .i64 0, .int .i64 0, .int .i64 0, .int .i64 2, .int .i64 4, .int .i64 0, .int .i64 7, .int .i64 2, .int .i64 0]) size_rr N2 rfl (by decide)
      have F : Hid _ := bel_grown (below_then b1 bn2) g3 (by have := b1.size; omega)
      clear B3 g3 N2 bn2 b1
      go_wp2_with (refine wpList_skip rfl (exec_store rfl rfl rfl (by rw [← hw2]; exact st3)) ?_)
      go_ret
      exact ⟨rfl, F.out⟩
    · rw [rowV_5] at HF0
      have HF : Hid _ := HF0
      clear HF0
      rw [show szK (rowK 5).o = 10 from rfl]
      rw [show (rowK 5).o = 42 from rfl] at *
      go_enter Tryd.func24, Tryd.ntmps24
      go_wp2_with fail
      refine (Calls.mono HF.out) ?_
      rintro e w1 ⟨rfl, b1⟩
      clear HF
      have N2 := Blk.new' w1 95 [.int .i64 0, .int .i64 0, .int .i64 0, .int .i64 0, .int .i64 0, .int .i64 0, .int .i64 0, .int .i64 0, .int .i64 0, .int .i64 0, .int .i64 0, .int .i64 0, .int .i64 0, .int .i64 0, .int .i64 0, .int .i64 0, .int .i64 0, .int .i64 0]
      have bn2 : Below w1.heap.size w1 (w1.alloc (.cells #[.int .i64 0, .int .i64 0, .int .i64 0, .int .i64 0, .int .i64 0, .int .i64 0, .int .i64 0, .int .i64 0, .int .i64 0, .int .i64 0, .int .i64 0, .int .i64 0, .int .i64 0, .int .i64 0, .int .i64 0, .int .i64 0, .int .i64 0, .int .i64 0] 95)) := (Below.refl _ _).alloc (Nat.le_refl _) _
      obtain ⟨w2, hw2⟩ : ∃ w2, w2 = w1.alloc (.cells #[.int .i64 0, .int .i64 0, .int .i64 0, .int .i64 0, .int .i64 0, .int .i64 0, .int .i64 0, .int .i64 0, .int .i64 0, .int .i64 0, .int .i64 0, .int .i64 0, .int .i64 0, .int .i64 0, .int .i64 0, .int .i64 0, .int .i64 0, .int .i64 0] 95) := ⟨_, rfl⟩
      rw [← hw2] at N2 bn2
      obtain ⟨w3, st3, B3, g3⟩ := storeW (T := 95) (vs := [.int .i64 0, .int .i64 0, .int .i64 0, .int .i64 0, .int .i64 0, .int .i64 0, .int .i64 0, .int .i64 0, .int .i64 0, .int .i64 0, .int .i64 0, .int .i64 0, .int .i64 2, .int .i64 4, .int .i64 0, .int .i64 7, .int .i64 2, .int .i64 0]) size_rr N2 rfl (by decide)
      have F : Hid _ := bel_grown (below_then b1 bn2) g3 (by have := b1.size; omega)
      clear B3 g3 N2 bn2 b1
      go_wp2_with (refine wpList_skip rfl (exec_store rfl rfl rfl (by rw [← hw2]; exact st3)) ?_)
      go_ret
      exact ⟨rfl, F.out⟩
    · rw [rowV_6] at HF0
      have HF : Hid _ := HF0
      clear HF0
      rw [show szK (rowK 6).o = 10 from rfl]
      rw [show (rowK 6).o = 53 from rfl] at *
      go_enter Tryd.func24, Tryd.ntmps24
      go_wp2_with fail
      refine (Calls.mono HF.out) ?_
      rintro e w1 ⟨rfl, b1⟩
      clear HF
      have N2 := Blk.new' w1 95 [.int .i64 0, .int .i64 0, .int .i64 0, .int .i64 0, .int .i64 0, .int .i64 0, .int .i64 0, .int .i64 0, .int .i64 0, .int .i64 0, .int .i64 0, .int .i64 0, .int .i64 0, .int .i64 0, .int .i64 0, .int .i64 0, .int .i64 0, .int .i64 0]
      have bn2 : Below w1.heap.size w1 (w1.alloc (.cells #[.int .i64 0, .int .i64 0, .int .i64 0, .int .i64 0, .int .i64 0, .int .i64 0, .int .i64 0, .int .i64 0, .int .i64 0, .int .i64 0, .int .i64 0, .int .i64 0, .int .i64 0, .int .i64 0, .int .i64 0, .int .i64 0, .int .i64 0, .int .i64 0] 95)) := (Below.refl _ _).alloc (Nat.le_refl _) _
      obtain ⟨w2, hw2⟩ : ∃ w2, w2 = w1.alloc (.cells #[.int .i64 0, .int .i64 0, .int .i64 0, .int .i64 0, .int .i64 0, .int .i64 0, .int .i64 0, .int .i64 0, .int .i64 0, .int .i64 0, .int .i64 0, .int .i64 0, .int .i64 0, .int .i64 0, .int .i64 0, .int .i64 0, .int .i64 0, .int .i64 0] 95) := ⟨_, rfl⟩
      rw [← hw2] at N2 bn2
      obtain ⟨w3, st3, B3, g3⟩ := storeW (T := 95) (vs := [.int .i64 0, .int .i64 0, .int .i64 0, .int .i64 0, .int .i64 0, .int .i64 0, .int .i64 0, .int .i64 0, .int .i64 0, .int .i64 0, .int .i64 0, .int .i64 0, .int .i64 2, .int .i64 4, .int .i64 0, .int .i64 7, .int .i64 2, .int .i64 0]) size_rr N2 rfl (by decide)
      have F : Hid _ := bel_grown (below_then b1 bn2) g3 (by have := b1.size; omega)
      clear B3 g3 N2 bn2 b1
      go_wp2_with (refine wpList_skip rfl (exec_store rfl rfl rfl (by rw [← hw2]; exact st3)) ?_)
      go_ret
      exact ⟨rfl, F.out⟩
    · rw [rowV_7] at HF0
      have HF : Hid _ := HF0
      clear HF0
      rw [show szK (rowK 7).o = 10 from rfl]
      rw [show (rowK 7).o = 66 from rfl] at *
      go_enter Tryd.func24, Tryd.ntmps24
      go_wp2_with fail
      refine (Calls.mono HF.out) ?_
      rintro e w1 ⟨rfl, b1⟩
      clear HF
      have N2 := Blk.new' w1 95 [.int .i64 0, .int .i64 0, .int .i64 0, .int .i64 0, .int .i64 0, .int .i64 0, .int .i64 0, .int .i64 0, .int .i64 0, .int .i64 0, .int .i64 0, .int .i64 0, .int .i64 0, .int .i64 0, .int .i64 0, .int .i64 0, .int .i64 0, .int .i64 0]
      have bn2 : Below w1.heap.size w1 (w1.alloc (.cells #[.int .i64 0, .int .i64 0, .int .i64 0, .int .i64 0, .int .i64 0, .int .i64 0, .int .i64 0, .int .i64 0, .int .i64 0, .int .i64 0, .int .i64 0, .int .i64 0, .int .i64 0, .int .i64 0, .int .i64 0, .int .i64 0, .int .i64 0, .int .i64 0] 95)) := (Below.refl _ _).alloc (Nat.le_refl _) _
      obtain ⟨w2, hw2⟩ : ∃ w2, w2 = w1.alloc (.cells #[.int .i64 0, .int .i64 0, .int .i64 0, .int .i64 0, .int .i64 0, .int .i64 0, .int .i64 0, .int .i64 0, .int .i64 0, .int .i64 0, .int .i64 0, .int .i64 0, .int .i64 0, .int .i64 0, .int .i64 0, .int .i64 0, .int .i64 0, .int .i64 0] 95) := ⟨_, rfl⟩
      rw [← hw2] at N2 bn2
      obtain ⟨w3, st3, B3, g3⟩ := storeW (T := 95) (vs := [.int .i64 0, .int .i64 0, .int .i64 0, .int .i64 0, .int .i64 0, .int .i64 0, .int .i64 0, .int .i64 0, .int .i64 0, .int .i64 0, .int .i64 0, .int .i64 0, .int .i64 0, .int .i64 0, .int .i64 0, .int .i64 7, .int .i64 2, .int .i64 0]) size_rr N2 rfl (by decide)
      have F : Hid _ := bel_grown (below_then b1 bn2) g3 (by have := b1.size; omega)
      clear B3 g3 N2 bn2 b1
      go_wp2_with (refine wpList_skip rfl (exec_store rfl rfl rfl (by rw [← hw2]; exact st3)) ?_)
      go_ret
      exact ⟨rfl, F.out⟩
    · rw [rowV_8] at HF0
      have HF : Hid _ := HF0
      clear HF0
      rw [show szK (rowK 8).o = 10 from rfl]
      rw [show (rowK 8).o = 94 from rfl] at *
      go_enter Tryd.func24, Tryd.ntmps24
      go_wp2_with fail
      refine (Calls.mono HF.out) ?_
      rintro e w1 ⟨rfl, b1⟩
      clear HF
      have N2 := Blk.new' w1 95 [.int .i64 0, .int .i64 0, .int .i64 0, .int .i64 0, .int .i64 0, .int .i64 0, .int .i64 0, .int .i64 0, .int .i64 0, .int .i64 0, .int .i64 0, .int .i64 0, .int .i64 0, .int .i64 0, .int .i64 0, .int .i64 0, .int .i64 0, .int .i64 0]
      have bn2 : Below w1.heap.size w1 (w1.alloc (.cells #[.int .i64 0, .int .i64 0, .int .i64 0, .int .i64 0, .int .i64 0, .int .i64 0, .int .i64 0, .int .i64 0, .int .i64 0, .int .i64 0, .int .i64 0, .int .i64 0, .int .i64 0, .int .i64 0, .int .i64 0, .int .i64 0, .int .i64 0, .int .i64 0] 95)) := (Below.refl _ _).alloc (Nat.le_refl _) _
      obtain ⟨w2, hw2⟩ : ∃ w2, w2 = w1.alloc (.cells #[.int .i64 0, .int .i64 0, .int .i64 0, .int .i64 0, .int .i64 0, .int .i64 0, .int .i64 0, .int .i64 0, .int .i64 0, .int .i64 0, .int .i64 0, .int .i64 0, .int .i64 0, .int .i64 0, .int .i64 0, .int .i64 0, .int .i64 0, .int .i64 0] 95) := ⟨_, rfl⟩
      rw [← hw2] at N2 bn2
      obtain ⟨w3, st3, B3, g3⟩ := storeW (T := 95) (vs := [.int .i64 1, .int .i64 1, .int .i64 5, .int .i64 0, .int .i64 0, .int .i64 0, .int .i64 0, .int .i64 0, .int .i64 0, .int .i64 0, .int .i64 0, .int .i64 0, .int .i64 0, .int .i64 0, .int .i64 0, .int .i64 7, .int .i64 2, .int .i64 0]) size_rr N2 rfl (by decide)
      have F : Hid _ := bel_grown (below_then b1 bn2) g3 (by have := b1.size; omega)
      clear B3 g3 N2 bn2 b1
      go_wp2_with (refine wpList_skip rfl (exec_store rfl rfl rfl (by rw [← hw2]; exact st3)) ?_)
      go_ret
      exact ⟨rfl, F.out⟩
    · rw [rowV_9] at HF0
      have HF : Hid _ := HF0
      clear HF0
      rw [show szK (rowK 9).o = 10 from rfl]
      rw [show (rowK 9).o = 95 from rfl] at *
      go_enter Tryd.func24, Tryd.ntmps24
      go_wp2_with fail
      refine (Calls.mono HF.out) ?_
      rintro e w1 ⟨rfl, b1⟩
      clear HF
      have N2 := Blk.new' w1 95 [.int .i64 0, .int .i64 0, .int .i64 0, .int .i64 0, .int .i64 0, .int .i64 0, .int .i64 0, .int .i64 0, .int .i64 0, .int .i64 0, .int .i64 0, .int .i64 0, .int .i64 0, .int .i64 0, .int .i64 0, .int .i64 0, .int .i64 0, .int .i64 0]
      have bn2 : Below w1.heap.size w1 (w1.alloc (.cells #[.int .i64 0, .int .i64 0, .int .i64 0, .int .i64 0, .int .i64 0, .int .i64 0, .int .i64 0, .int .i64 0, .int .i64 0, .int .i64 0, .int .i64 0, .int .i64 0, .int .i64 0, .int .i64 0, .int .i64 0, .int .i64 0, .int .i64 0, .int .i64 0] 95)) := (Below.refl _ _).alloc (Nat.le_refl _) _
      obtain ⟨w2, hw2⟩ : ∃ w2, w2 = w1.alloc (.cells #[.int .i64 0, .int .i64 0, .int .i64 0, .int .i64 0, .int .i64 0, .int .i64 0, .int .i64 0, .int .i64 0, .int .i64 0, .int .i64 0, .int .i64 0, .int .i64 0, .int .i64 0, .int .i64 0, .int .i64 0, .int .i64 0, .int .i64 0, .int .i64 0] 95) := ⟨_, rfl⟩
      rw [← hw2] at N2 bn2
      obtain ⟨w3, st3, B3, g3⟩ := storeW (T := 95) (vs := [.int .i64 1, .int .i64 1, .int .i64 5, .int .i64 0, .int .i64 0, .int .i64 0, .int .i64 0, .int .i64 0, .int .i64 0, .int .i64 2, .int .i64 1, .int .i64 4, .int .i64 0, .int .i64 0, .int .i64 0, .int .i64 5, .int .i64 4, .int .i64 0]) size_rr N2 rfl (by decide)
      have F : Hid _ := bel_grown (below_then b1 bn2) g3 (by have := b1.size; omega)
      clear B3 g3 N2 bn2 b1
      go_wp2_with (refine wpList_skip rfl (exec_store rfl rfl rfl (by rw [← hw2]; exact st3)) ?_)
      go_ret
      exact ⟨rfl, F.out⟩
    · rw [rowV_10] at HF0
      have HF : Hid _ := HF0
      clear HF0
      rw [show szK (rowK 10).o = 16 from rfl]
      rw [show (rowK 10).o = 136 from rfl] at *
      go_enter Tryd.func24, Tryd.ntmps24
      go_wp2_with fail
      refine (Calls.mono HF.out) ?_
      rintro e w1 ⟨rfl, b1⟩
      clear HF
      have N2 := Blk.new' w1 95 [.int .i64 0, .int .i64 0, .int .i64 0, .int .i64 0, .int .i64 0, .int .i64 0, .int .i64 0, .int .i64 0, .int .i64 0, .int .i64 0, .int .i64 0, .int .i64 0, .int .i64 0, .int .i64 0, .int .i64 0, .int .i64 0, .int .i64 0, .int .i64 0]
      have bn2 : Below w1.heap.size w1 (w1.alloc (.cells #[.int .i64 0, .int .i64 0, .int .i64 0, .int .i64 0, .int .i64 0, .int .i64 0, .int .i64 0, .int .i64 0, .int .i64 0, .int .i64 0, .int .i64 0, .int .i64 0, .int .i64 0, .int .i64 0, .int .i64 0, .int .i64 0, .int .i64 0, .int .i64 0] 95)) := (Below.refl _ _).alloc (Nat.le_refl _) _
      obtain ⟨w2, hw2⟩ : ∃ w2, w2 = w1.alloc (.cells #[.int .i64 0, .int .i64 0, .int .i64 0, .int .i64 0, .int .i64 0, .int .i64 0, .int .i64 0, .int .i64 0, .int .i64 0, .int .i64 0, .int .i64 0, .int .i64 0, .int .i64 0, .int .i64 0, .int .i64 0, .int .i64 0, .int .i64 0, .int .i64 0] 95) := ⟨_, rfl⟩
      rw [← hw2] at N2 bn2
      obtain ⟨w3, st3, B3, g3⟩ := storeW (T := 95) (vs := [.int .i64 0, .int .i64 0, .int .i64 0, .int .i64 0, .int .i64 0, .int .i64 0, .int .i64 0, .int .i64 0, .int .i64 0, .int .i64 0, .int .i64 0, .int .i64 0, .int .i64 2, .int .i64 8, .int .i64 0, .int .i64 10, .int .i64 4, .int .i64 0]) size_rr N2 rfl (by decide)
      have F : Hid _ := bel_grown (below_then b1 bn2) g3 (by have := b1.size; omega)
      clear B3 g3 N2 bn2 b1
      go_wp2_with (refine wpList_skip rfl (exec_store rfl rfl rfl (by rw [← hw2]; exact st3)) ?_)
      go_ret
      exact ⟨rfl, F.out⟩
    · rw [rowV_11] at HF0
      have HF : Hid _ := HF0
      clear HF0
      rw [show szK (rowK 11).o = 16 from rfl]
      rw [show (rowK 11).o = 138 from rfl] at *
      go_enter Tryd.func24, Tryd.ntmps24
      go_wp2_with fail
      refine (Calls.mono HF.out) ?_
      rintro e w1 ⟨rfl, b1⟩
      clear HF
      have N2 := Blk.new' w1 95 [.int .i64 0, .int .i64 0, .int .i64 0, .int .i64 0, .int .i64 0, .int .i64 0, .int .i64 0, .int .i64 0, .int .i64 0, .int .i64 0, .int .i64 0, .int .i64 0, .int .i64 0, .int .i64 0, .int .i64 0, .int .i64 0, .int .i64 0, .int .i64 0]
      have bn2 : Below w1.heap.size w1 (w1.alloc (.cells #[.int .i64 0, .int .i64 0, .int .i64 0, .int .i64 0, .int .i64 0, .int .i64 0, .int .i64 0, .int .i64 0, .int .i64 0, .int .i64 0, .int .i64 0, .int .i64 0, .int .i64 0, .int .i64 0, .int .i64 0, .int .i64 0, .int .i64 0, .int .i64 0] 95)) := (Below.refl _ _).alloc (Nat.le_refl _) _
      obtain ⟨w2, hw2⟩ : ∃ w2, w2 = w1.alloc (.cells #[.int .i64 0, .int .i64 0, .int .i64 0, .int .i64 0, .int .i64 0, .int .i64 0, .int .i64 0, .int .i64 0, .int .i64 0, .int .i64 0, .int .i64 0, .int .i64 0, .int .i64 0, .int .i64 0, .int .i64 0, .int .i64 0, .int .i64 0, .int .i64 0] 95) := ⟨_, rfl⟩
      rw [← hw2] at N2 bn2
      obtain ⟨w3, st3, B3, g3⟩ := storeW (T := 95) (vs := [.int .i64 0, .int .i64 0, .int .i64 0, .int .i64 0, .int .i64 0, .int .i64 0, .int .i64 0, .int .i64 0, .int .i64 0, .int .i64 0, .int .i64 0, .int .i64 0, .int .i64 2, .int .i64 8, .int .i64 0, .int .i64 10, .int .i64 4, .int .i64 0]) size_rr N2 rfl (by decide)
      have F : Hid _ := bel_grown (below_then b1 bn2) g3 (by have := b1.size; omega)
      clear B3 g3 N2 bn2 b1
      go_wp2_with (refine wpList_skip rfl (exec_store rfl rfl rfl (by rw [← hw2]; exact st3)) ?_)
      go_ret
      exact ⟨rfl, F.out⟩
    · rw [rowV_12] at HF0
      have HF : Hid _ := HF0
      clear HF0
      rw [show szK (rowK 12).o = 12 from rfl]
      rw [show (rowK 12).o = 160 from rfl] at *
      go_enter Tryd.func24, Tryd.ntmps24
      go_wp2_with fail
      refine (Calls.mono HF.out) ?_
      rintro e w1 ⟨rfl, b1⟩
      clear HF
      have N2 := Blk.new' w1 95 [.int .i64 0, .int .i64 0, .int .i64 0, .int .i64 0, .int .i64 0, .int .i64 0, .int .i64 0, .int .i64 0, .int .i64 0, .int .i64 0, .int .i64 0, .int .i64 0, .int .i64 0, .int .i64 0, .int .i64 0, .int .i64 0, .int .i64 0, .int .i64 0]
      have bn2 : Below w1.heap.size w1 (w1.alloc (.cells #[.int .i64 0, .int .i64 0, .int .i64 0, .int .i64 0, .int .i64 0, .int .i64 0, .int .i64 0, .int .i64 0, .int .i64 0, .int .i64 0, .int .i64 0, .int .i64 0, .int .i64 0, .int .i64 0, .int .i64 0, .int .i64 0, .int .i64 0, .int .i64 0] 95)) := (Below.refl _ _).alloc (Nat.le_refl _) _
      obtain ⟨w2, hw2⟩ : ∃ w2, w2 = w1.alloc (.cells #[.int .i64 0, .int .i64 0, .int .i64 0, .int .i64 0, .int .i64 0, .int .i64 0, .int .i64 0, .int .i64 0, .int .i64 0, .int .i64 0, .int .i64 0, .int .i64 0, .int .i64 0, .int .i64 0, .int .i64 0, .int .i64 0, .int .i64 0, .int .i64 0] 95) := ⟨_, rfl⟩
      rw [← hw2] at N2 bn2
      obtain ⟨w3, st3, B3, g3⟩ := storeW (T := 95) (vs := [.int .i64 0, .int .i64 0, .int .i64 0, .int .i64 0, .int .i64 0, .int .i64 0, .int .i64 2, .int .i64 1, .int .i64 0, .int .i64 0, .int .i64 0, .int .i64 0, .int .i64 0, .int .i64 0, .int .i64 0, .int .i64 6, .int .i64 4, .int .i64 0]) size_rr N2 rfl (by decide)
      have F : Hid _ := bel_grown (below_then b1 bn2) g3 (by have := b1.size; omega)
      clear B3 g3 N2 bn2 b1
      go_wp2_with (refine wpList_skip rfl (exec_store rfl rfl rfl (by rw [← hw2]; exact st3)) ?_)
      go_ret
      exact ⟨rfl, F.out⟩
    · rw [rowV_13] at HF0
      have HF : Hid _ := HF0
      clear HF0
      rw [show szK (rowK 13).o = 12 from rfl]
      rw [show (rowK 13).o = 163 from rfl] at *
      go_enter Tryd.func24, Tryd.ntmps24
      go_wp2_with fail
      refine (Calls.mono HF.out) ?_
      rintro e w1 ⟨rfl, b1⟩
      clear HF
      have N2 := Blk.new' w1 95 [.int .i64 0, .int .i64 0, .int .i64 0, .int .i64 0, .int .i64 0, .int .i64 0, .int .i64 0, .int .i64 0, .int .i64 0, .int .i64 0, .int .i64 0, .int .i64 0, .int .i64 0, .int .i64 0, .int .i64 0, .int .i64 0, .int .i64 0, .int .i64 0]
      have bn2 : Below w1.heap.size w1 (w1.alloc (.cells #[.int .i64 0, .int .i64 0, .int .i64 0, .int .i64 0, .int .i64 0, .int .i64 0, .int .i64 0, .int .i64 0, .int .i64 0, .int .i64 0, .int .i64 0, .int .i64 0, .int .i64 0, .int .i64 0, .int .i64 0, .int .i64 0, .int .i64 0, .int .i64 0] 95)) := (Below.refl _ _).alloc (Nat.le_refl _) _
      obtain ⟨w2, hw2⟩ : ∃ w2, w2 = w1.alloc (.cells #[.int .i64 0, .int .i64 0, .int .i64 0, .int .i64 0, .int .i64 0, .int .i64 0, .int .i64 0, .int .i64 0, .int .i64 0, .int .i64 0, .int .i64 0, .int .i64 0, .int .i64 0, .int .i64 0, .int .i64 0, .int .i64 0, .int .i64 0, .int .i64 0] 95) := ⟨_, rfl⟩
      rw [← hw2] at N2 bn2
      obtain ⟨w3, st3, B3, g3⟩ := storeW (T := 95) (vs := [.int .i64 1, .int .i64 1, .int .i64 5, .int .i64 0, .int .i64 0, .int .i64 0, .int .i64 0, .int .i64 0, .int .i64 0, .int .i64 0, .int .i64 0, .int .i64 0, .int .i64 0, .int .i64 0, .int .i64 0, .int .i64 6, .int .i64 4, .int .i64 0]) size_rr N2 rfl (by decide)
      have F : Hid _ := bel_grown (below_then b1 bn2) g3 (by have := b1.size; omega)
      clear B3 g3 N2 bn2 b1
      go_wp2_with (refine wpList_skip rfl (exec_store rfl rfl rfl (by rw [← hw2]; exact st3)) ?_)
      go_ret
      exact ⟨rfl, F.out⟩
end Go.Proofs.YtmoobfpmijdoaaaDoor
