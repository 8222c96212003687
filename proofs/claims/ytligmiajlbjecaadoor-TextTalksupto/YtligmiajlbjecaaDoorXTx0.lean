/- text: aids. -/
import Derived.Test.YtligmiajlbjecaaDoorXWo5
import Derived.Test.YtligmiajlbjecaaDoorXEx1
import Derived.Test.YtligmiajlbjecaaDoorXAid
import Derived.Test.YtligmiajlbjecaaDoorXPdU
namespace Go.Proofs.YtligmiajlbjecaaDoor
open Go.RowKit
set_option linter.unusedVariables false
set_option linter.unusedSimpArgs false
set_option maxRecDepth 8000

theorem ck_at {w : World} {g : Nat} {t : TypeId} {xs : List Value} (h : Blk w g t xs) (i : Nat) : w.cell? ⟨g, i, none⟩ = xs[i]? := blk_at h i
theorem ck_fz {w : World} {g : Nat} {t : TypeId} {xs : List Value} (h : Blk w g t xs) (i : Nat) : w.frozen? ⟨g, i, none⟩ = false := blk_frozen h i
theorem ck_later {w w' : World} {x : Addr} {v : Value} (h : w.cell? x = some v) (hb : Below w.heap.size w w') : w'.cell? x = some v := cell_later hb h
/-- some cells of a block as a value -/
theorem loadW {T T' : TypeId} {xs : List Value} (hs : (Tryd.prog.info? T).map (·.size) = some xs.length) (ha : ∀ w, (isAgg T).run Tryd.prog w = .ok true w) {w : World} {g : Nat} (pre : List Value) {ys : List Value} (hB : Blk w g T' (pre ++ (xs ++ ys))) :
    (Instr.loadAt T (.pointer (some ⟨g, pre.length, none⟩))).run Tryd.prog w = .ok (.agg xs.toArray) w := by
  have h2 : (loadCells ⟨g, pre.length, none⟩ xs.length).run Tryd.prog w = .ok xs.toArray w := run_loadCells_list (P := Tryd.prog) w ⟨g, pre.length, none⟩ xs (fun j v hj => by
    have hadd : (⟨g, pre.length, none⟩ : Addr).add j = ⟨g, pre.length + j, none⟩ := by unfold Addr.add; split <;> simp_all
    have hjl : j < xs.length := by
      rcases Nat.lt_or_ge j xs.length with h | h
      · exact h
      · rw [List.getElem?_eq_none h] at hj; cases hj
    rw [hadd, blk_at hB (pre.length + j), List.getElem?_append_right (by omega), Nat.add_sub_cancel_left, List.getElem?_append_left hjl, hj])
  obtain ⟨i, hi, hz⟩ := Option.map_eq_some_iff.1 hs
  simp [Instr.loadAt, Instr.sureAddr, loadVar, Sem.run_bind, ha w, sizeOf, typeInfo, hi, hz, h2]
/-- a whole block is stored anew -/
theorem storeW {T T' : TypeId} {xs vs : List Value} (hs : (Tryd.prog.info? T).map (·.size) = some vs.length) {w : World} {g : Nat} (hB : Blk w g T' xs) (hl : xs.length = vs.length) (h1 : ∀ u ∈ vs, u.oneCell' = true) :
    ∃ w', (Instr.storeAt T (.pointer (some ⟨g, 0, none⟩)) (.agg vs.toArray)).run Tryd.prog w = .ok () w' ∧ Blk w' g T' vs ∧ w.grownBy w' (some g) := by
  have h := run_storeCells_cells (P := Tryd.prog) g 0 vs 0 w (fun j hj => by rw [Nat.zero_add, blk_at hB, List.getElem?_eq_getElem (by omega)]; rfl) (fun j hj => blk_frozen hB _) h1
  obtain ⟨i, hi, hz⟩ := Option.map_eq_some_iff.1 hs
  obtain ⟨h2, h3⟩ := Blk.setCells vs 0 w xs hB (by omega)
  have e : splice xs 0 vs = vs := by unfold splice; simp [← hl]
  rw [e] at h2
  exact ⟨w.setCells g 0 vs, by simp [Instr.storeAt, Instr.sureAddr, storeVar, Sem.run_bind, sizeOf, typeInfo, hi, hz, Value.cells, h], h2, h3⟩
theorem loadV {T T' : TypeId} {xs : List Value} (hs : (Tryd.prog.info? T).map (·.size) = some xs.length) (ha : ∀ w, (isAgg T).run Tryd.prog w = .ok true w) {w : World} {g : Nat} (hB : Blk w g T' xs) :
    (loadVar T ⟨g, 0, none⟩).run Tryd.prog w = .ok (.agg xs.toArray) w := by
  have h2 : (loadCells ⟨g, 0, none⟩ xs.length).run Tryd.prog w = .ok xs.toArray w := run_loadCells_list (P := Tryd.prog) w ⟨g, 0, none⟩ xs (fun j v hj => by
    have hadd : (⟨g, 0, none⟩ : Addr).add j = ⟨g, 0 + j, none⟩ := by unfold Addr.add; split <;> simp_all
    rw [hadd, Nat.zero_add, blk_at hB j, hj])
  obtain ⟨i, hi, hz⟩ := Option.map_eq_some_iff.1 hs
  simp [loadVar, Sem.run_bind, ha w, sizeOf, typeInfo, hi, hz, h2]
/-- what a function returns: a struct that lies in memory, and a value -/
theorem res_ct {fn : Func} {tmps : Array Value} {a b : Nat} {t : TypeId} {ad : Addr} {v u : Value} {w : World} (hf : fn.results = #[.cell a t, .tmp b]) (h1 : tmps.getD a undef = .pointer (some ad)) (hl : (loadVar t ad).run Tryd.prog w = .ok v w) (h2 : tmps.getD b undef = u) :
    (results fn tmps).run Tryd.prog w = .ok (.tuple #[v, u]) w := by
  have k1 : tmps[a]?.getD undef = .pointer (some ad) := by simpa using h1
  have k2 : tmps[b]?.getD undef = u := by simpa using h2
  simp [results, hf, k1, hl, k2, asAddr, Sem.run_bind]
theorem bel_grown {w W W' : World} {g : Nat} (hb : Below w.heap.size w W) (hg : W.grownBy W' (some g)) (h : w.heap.size ≤ g) : Below w.heap.size w W' :=
  hb.grown hg hb.size (fun k e => by cases e; exact h)
end Go.Proofs.YtligmiajlbjecaaDoor

/- text: Default; the rule of three keys. -/
namespace Go.Proofs.YtligmiajlbjecaaDoor
open Go.RowKit
set_option linter.unusedVariables false
set_option linter.unusedSimpArgs false
set_option maxRecDepth 8000

set_option maxHeartbeats 2000000 in
theorem tdefault (w : World) : Calls Tryd.prog 25 #[] w fun e w' => e = .returned (.agg #[.bool false, .bool false, .int .i64 8192, .int .i64 8192, .int .i64 262144, .int .i64 65536, .bool true, .bool true, .bool false, .string ⟨#[]⟩, .string ⟨#[]⟩]) ∧ Below w.heap.size w w' := by
  have b : Below w.heap.size w (w.alloc (.cells #[.bool false, .bool false, .int .i64 8192, .int .i64 8192, .int .i64 262144, .int .i64 65536, .bool true, .bool true, .bool false, .string ⟨#[]⟩, .string ⟨#[]⟩] 50)) := (Below.refl _ _).alloc (Nat.le_refl _) _
  have B := Blk.new' w 50 [.bool false, .bool false, .int .i64 8192, .int .i64 8192, .int .i64 262144, .int .i64 65536, .bool true, .bool true, .bool false, .string ⟨#[]⟩, .string ⟨#[]⟩]
  obtain ⟨w1, hw1⟩ : ∃ w1, w1 = w.alloc (.cells #[.bool false, .bool false, .int .i64 8192, .int .i64 8192, .int .i64 262144, .int .i64 65536, .bool true, .bool true, .bool false, .string ⟨#[]⟩, .string ⟨#[]⟩] 50) := ⟨_, rfl⟩
  rw [← hw1] at b B
  have F : Hid _ := And.intro B b
  clear B b
  go_enter Tryd.func25, Tryd.ntmps25
  go_wp2
  rw [← hw1]
  clear hw1
  have y0 := ck_at F.out.1 0
  have y1 := ck_at F.out.1 1
  have y2 := ck_at F.out.1 2
  have y3 := ck_at F.out.1 3
  have y4 := ck_at F.out.1 4
  have y5 := ck_at F.out.1 5
  have y6 := ck_at F.out.1 6
  have y7 := ck_at F.out.1 7
  have y8 := ck_at F.out.1 8
  have y9 := ck_at F.out.1 9
  have y10 := ck_at F.out.1 10
  simp only [List.getElem?_cons_zero, List.getElem?_cons_succ] at y0 y1 y2 y3 y4 y5 y6 y7 y8 y9 y10
  refine bodyPost_ret (v := .agg #[.bool false, .bool false, .int .i64 8192, .int .i64 8192, .int .i64 262144, .int .i64 65536, .bool true, .bool true, .bool false, .string ⟨#[]⟩, .string ⟨#[]⟩]) (by simp [results, Tryd.results25, go_sem, y0, y1, y2, y3, y4, y5, y6, y7, y8, y9, y10]) rfl ?_
  exact ⟨rfl, F.out.2⟩
set_option maxHeartbeats 4000000 in
theorem trule_HD (w : World) : Calls Tryd.prog 36 #[.string ⟨#[72, 101, 97, 100, 101, 114, 68, 105, 103, 101, 115, 116]⟩] w fun e w' => e = .returned (.tuple #[.agg #[.int .i64 2, .int .i64 0, .int .i64 0, .string ⟨#[]⟩], .bool true]) ∧ Below w.heap.size w w' := by
  have b : Below w.heap.size w (w.alloc (.cells #[.int .i64 2, .int .i64 0, .int .i64 0, .string ⟨#[]⟩] 65)) := (Below.refl _ _).alloc (Nat.le_refl _) _
  have B := Blk.new' w 65 [.int .i64 2, .int .i64 0, .int .i64 0, .string ⟨#[]⟩]
  obtain ⟨w1, hw1⟩ : ∃ w1, w1 = w.alloc (.cells #[.int .i64 2, .int .i64 0, .int .i64 0, .string ⟨#[]⟩] 65) := ⟨_, rfl⟩
  rw [← hw1] at b B
  have F : Hid _ := And.intro B b
  clear B b
  go_enter Tryd.func36, Tryd.ntmps36
  go_wp2
  rw [← hw1]
  clear hw1
  have y0 := ck_at F.out.1 0
  have y1 := ck_at F.out.1 1
  have y2 := ck_at F.out.1 2
  have y3 := ck_at F.out.1 3
  simp only [List.getElem?_cons_zero, List.getElem?_cons_succ] at y0 y1 y2 y3
  refine bodyPost_ret (v := .tuple #[.agg #[.int .i64 2, .int .i64 0, .int .i64 0, .string ⟨#[]⟩], .bool true]) (by simp [results, Tryd.results36, go_sem, y0, y1, y2, y3]) rfl ?_
  exact ⟨rfl, F.out.2⟩
set_option maxHeartbeats 4000000 in
theorem trule_MB (w : World) : Calls Tryd.prog 36 #[.string ⟨#[77, 97, 120, 66, 117, 114, 115, 116, 76, 101, 110, 103, 116, 104]⟩] w fun e w' => e = .returned (.tuple #[.agg #[.int .i64 5, .int .i64 512, .int .i64 16777215, .string ⟨#[]⟩], .bool true]) ∧ Below w.heap.size w w' := by
  have b : Below w.heap.size w (w.alloc (.cells #[.int .i64 5, .int .i64 512, .int .i64 16777215, .string ⟨#[]⟩] 65)) := (Below.refl _ _).alloc (Nat.le_refl _) _
  have B := Blk.new' w 65 [.int .i64 5, .int .i64 512, .int .i64 16777215, .string ⟨#[]⟩]
  obtain ⟨w1, hw1⟩ : ∃ w1, w1 = w.alloc (.cells #[.int .i64 5, .int .i64 512, .int .i64 16777215, .string ⟨#[]⟩] 65) := ⟨_, rfl⟩
  rw [← hw1] at b B
  have F : Hid _ := And.intro B b
  clear B b
  go_enter Tryd.func36, Tryd.ntmps36
  go_wp2
  rw [← hw1]
  clear hw1
  have y0 := ck_at F.out.1 0
  have y1 := ck_at F.out.1 1
  have y2 := ck_at F.out.1 2
  have y3 := ck_at F.out.1 3
  simp only [List.getElem?_cons_zero, List.getElem?_cons_succ] at y0 y1 y2 y3
  refine bodyPost_ret (v := .tuple #[.agg #[.int .i64 5, .int .i64 512, .int .i64 16777215, .string ⟨#[]⟩], .bool true]) (by simp [results, Tryd.results36, go_sem, y0, y1, y2, y3]) rfl ?_
  exact ⟨rfl, F.out.2⟩
set_option maxHeartbeats 4000000 in
theorem trule_X (w : World) : Calls Tryd.prog 36 #[.string ⟨#[88]⟩] w fun e w' => e = .returned (.tuple #[.agg #[.int .i64 0, .int .i64 0, .int .i64 0, .string ⟨#[]⟩], .bool false]) ∧ Below w.heap.size w w' := by
  have b : Below w.heap.size w (w.alloc (.cells #[.int .i64 0, .int .i64 0, .int .i64 0, .string ⟨#[]⟩] 65)) := (Below.refl _ _).alloc (Nat.le_refl _) _
  have B := Blk.new' w 65 [.int .i64 0, .int .i64 0, .int .i64 0, .string ⟨#[]⟩]
  obtain ⟨w1, hw1⟩ : ∃ w1, w1 = w.alloc (.cells #[.int .i64 0, .int .i64 0, .int .i64 0, .string ⟨#[]⟩] 65) := ⟨_, rfl⟩
  rw [← hw1] at b B
  have F : Hid _ := And.intro B b
  clear B b
  go_enter Tryd.func36, Tryd.ntmps36
  go_wp2
  rw [← hw1]
  clear hw1
  have y0 := ck_at F.out.1 0
  have y1 := ck_at F.out.1 1
  have y2 := ck_at F.out.1 2
  have y3 := ck_at F.out.1 3
  simp only [List.getElem?_cons_zero, List.getElem?_cons_succ] at y0 y1 y2 y3
  refine bodyPost_ret (v := .tuple #[.agg #[.int .i64 0, .int .i64 0, .int .i64 0, .string ⟨#[]⟩], .bool false]) (by simp [results, Tryd.results36, go_sem, y0, y1, y2, y3]) rfl ?_
  exact ⟨rfl, F.out.2⟩
end Go.Proofs.YtligmiajlbjecaaDoor
