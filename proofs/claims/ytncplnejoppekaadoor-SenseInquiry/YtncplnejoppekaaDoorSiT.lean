/- sense: the table of an inquiry's pages: from the row's condition to the memory. -/
import Derived.Test.YtncplnejoppekaaDoorWrap
import Derived.Test.YtncplnejoppekaaDoorOpA
import Derived.Test.YtncplnejoppekaaDoorFieldW1
import Derived.Lib.LaidTab
import Derived.Lib.AppendIntMem
import Derived.Test.YtncplnejoppekaaDoorSiShelf
import Derived.OpenShut
namespace Go.Proofs.YtncplnejoppekaaDoor
open Go.ChangeShapes Go.WideShapes Go.ChangeAt Go.RowKit Go.Deep
set_option linter.unusedVariables false
set_option linter.unusedSimpArgs false
set_option maxRecDepth 100000

/-- bytes that a page of the table has -/
structure HdT (w : World) (x : Option Addr) (c : Nat) (l : List (BitVec 8)) : Prop where
  row : Row w x l
  le : l.length ≤ c
  nil : x = none → c = 0
theorem HdT.later {w w' : World} {x : Option Addr} {c : Nat} {l : List (BitVec 8)} (h : HdT w x c l) (hb : Below w.heap.size w w') : HdT w' x c l := ⟨h.row.later hb, h.le, h.nil⟩
def pgh0 : List (BitVec 8) := [0#8, 0#8, 6#8, 2#8, 31#8, 16#8, 0#8, 2#8]
def pgh1 : List (BitVec 8) := [0#8, 128#8, 131#8]
def pgh3 : List (BitVec 8) := [2#8, 1#8, 0#8, 11#8]
abbrev namesS : ByteArray := ⟨#[99, 97, 105, 115, 115, 111, 110, 32, 98, 108, 111, 99, 107, 32, 117, 110, 105, 116, 32, 32, 32, 32, 32, 32, 48, 48, 48, 49]⟩
def pgC (x0 : Option Addr) (c0 : Nat) (x1 : Option Addr) (c1 : Nat) (x3 : Option Addr) (c3 : Nat) : List Value :=
  [.bool false, .int .i64 0, .slice x0 8 c0, .string namesS, .bool false,
   .bool true, .int .i64 0, .slice x1 3 c1, .string ⟨#[]⟩, .bool false,
   .bool true, .int .i64 128, .slice none 0 0, .string ⟨#[]⟩, .bool true,
   .bool true, .int .i64 131, .slice x3 4 c3, .string ⟨#[]⟩, .bool true]
/-- the table as it is laid -/
def PgT (w : World) : Prop := ∃ x0 c0 x1 c1 x3 c3, w.var? Tryd.prog "caisson/sense.pages" = some (pgC x0 c0 x1 c1 x3 c3).toArray ∧ HdT w x0 c0 pgh0 ∧ HdT w x1 c1 pgh1 ∧ HdT w x3 c3 pgh3
section
variable {H : Type} {enc : TypeId × Value → H} {W : World} {fuel : Nat} {pl : List MemPlace}
theorem pg_bytes {v : Value} {l : List (BitVec 8)} (hf : DataW.trod enc Tryd.prog W 0 (fun _ => true) false fuel 22 [v] = some (.slice (lits .u8 (l.map fun b => (b.toNat : Int))) [], pl)) : ∃ x c, v = .slice x l.length c ∧ HdT W x c l := by
  rcases open_ints Tryd.underlying22 Tryd.underlying5 cells1_u8 hf with ⟨hcs, hx⟩ | ⟨x, len, cap, zs, hcs, _, hl, hm, hz, hx, hcell, hwz⟩
  · simp at hx
  · simp at hcs
    subst hcs
    simp only [Prod.mk.injEq, DataW.slice.injEq] at hx
    have hz' : zs.length = cap := by simpa using hz
    have e : zs.take len = l.map fun b => (b.toNat : Int) := by
      have h := hx.1.1
      unfold lits at h
      exact (List.map_inj_right (fun a b h => by injection h with h; injection h)).1 h.symm
    have hlen : len = l.length := by
      have := congrArg List.length e
      simpa [hz', Nat.min_eq_left hl] using this
    subst hlen
    refine ⟨some x, cap, rfl, ?_, hl, fun h => by cases h⟩
    by_cases h0 : l.length = 0
    · exact .inl (List.eq_nil_of_length_eq_zero h0)
    · obtain ⟨b, off, spot⟩ := x
      have hspot : spot = none := by simpa [Addr.add] using World.cell?_spot (hcell 0 (by omega))
      subst hspot
      refine .inr ⟨b, off, rfl, fun i hi => ?_⟩
      have hc := hcell i (by omega)
      rw [opn_add] at hc
      rw [hc]
      have e2 : zs[i]? = some ((l[i]'hi).toNat : Int) := by
        have h := congrArg (fun t => t[i]?) e
        simp only [List.getElem?_take, hi, if_true, List.getElem?_map, List.getElem?_eq_getElem hi, Option.map_some] at h
        exact h
      unfold bt
      simp [List.getD, e2, List.getElem?_eq_getElem hi]
theorem pg_nil {v : Value} (hf : DataW.trod enc Tryd.prog W 0 (fun _ => true) false fuel 22 [v] = some (.nil, pl)) : v = .slice none 0 0 := by
  rcases open_ints Tryd.underlying22 Tryd.underlying5 cells1_u8 hf with ⟨hcs, hx⟩ | ⟨x, len, cap, zs, hcs, _, hl, hm, hz, hx, hcell, hwz⟩
  · simpa using hcs
  · simp at hx
theorem cells_pg : Tryd.prog.cellsOf 31 = 5 := by kernel_rfl
theorem under_pg : ∃ f0 f1 f2 f3 f4, Tryd.prog.underlying 31 = some (.struct #[f0, f1, f2, f3, f4]) ∧ (f0.offset = 0 ∧ f1.offset = 1 ∧ f2.offset = 2 ∧ f3.offset = 3 ∧ f4.offset = 4) ∧ (Tryd.prog.cellsOf f0.type = 1 ∧ Tryd.prog.cellsOf f1.type = 1 ∧ Tryd.prog.cellsOf f2.type = 1 ∧ Tryd.prog.cellsOf f3.type = 1 ∧ Tryd.prog.cellsOf f4.type = 1) ∧ (Tryd.prog.underlying f0.type = some .bool ∧ Tryd.prog.underlying f1.type = some (.int .i64) ∧ f2.type = 22 ∧ Tryd.prog.underlying f3.type = some .string ∧ Tryd.prog.underlying f4.type = some .bool) := by
  exact ⟨_, _, _, _, _, Tryd.underlying31, ⟨rfl, rfl, rfl, rfl, rfl⟩, ⟨by kernel_rfl, by kernel_rfl, by kernel_rfl, by kernel_rfl, by kernel_rfl⟩, ⟨Tryd.underlying4, Tryd.underlying3, rfl, Tryd.underlying9, Tryd.underlying4⟩⟩
theorem pg_row {cs : List Value} {b s : Bool} {n : Int} {t : List UInt8} {dh : DataW H} (hlen : cs.length = 5)
    (hf : DataW.trod enc Tryd.prog W 0 (fun _ => true) false fuel 31 cs = some (.agg [.lit (.bool b), .lit (.int .i64 n), dh, .lit (.string t), .lit (.bool s)], pl)) :
    ∃ v k p2, cs = [.bool b, .int .i64 n, v, .string ⟨t.toArray⟩, .bool s] ∧ DataW.trod enc Tryd.prog W 0 (fun _ => true) false k 22 [v] = some (dh, p2) := by
  obtain ⟨f0, f1, f2, f3, f4, hu, ⟨o0, o1, o2, o3, o4⟩, ⟨c0, c1, c2, c3, c4⟩, ⟨u0, u1, u2, u3, u4⟩⟩ := under_pg
  obtain ⟨xs, k, hk, hxy, _, hxl, hfl⟩ := DataW.trod_struct hu hf
  match xs, hxl, cs, hlen with
  | [y0, y1, y2, y3, y4], _, [v0, v1, v2, v3, v4], _ =>
    simp only [Prod.mk.injEq, DataW.agg.injEq, List.map_cons, List.map_nil, List.cons.injEq, and_true] at hxy
    obtain ⟨⟨e0, e1, e2, e3, e4⟩, -⟩ := hxy
    have g0 := hfl 0 f0 rfl
    have g1 := hfl 1 f1 rfl
    have g2 := hfl 2 f2 rfl
    have g3 := hfl 3 f3 rfl
    have g4 := hfl 4 f4 rfl
    simp [o0, o1, o2, o3, o4, c0, c1, c2, c3, c4] at g0 g1 g2 g3 g4
    obtain ⟨z0, q0, r0⟩ := DataW.trod_bool u0 g0
    obtain ⟨z1, q1, r1, _⟩ := DataW.trod_int u1 g1
    obtain ⟨z3, q3, r3, _⟩ := DataW.trod_string u3 g3
    obtain ⟨z4, q4, r4⟩ := DataW.trod_bool u4 g4
    simp at q0 q1 q3 q4
    subst q0 q1 q3 q4
    rw [r0] at e0
    rw [r1] at e1
    rw [r3] at e3
    rw [r4] at e4
    simp only [DataW.lit.injEq, Lit.bool.injEq, Lit.int.injEq, Lit.string.injEq, true_and] at e0 e1 e3 e4
    subst e0 e1 e4
    rw [u2] at g2
    refine ⟨v2, k, y2.2, ?_, ?_⟩
    · rw [e3]
    · rw [g2, e2]
end
def PowS (w : World) : Prop := Lib.TabIs Tryd.prog w "internal/strconv.uint64pow10" .u64 Lib.pow10Tab
theorem PowS.later {w w' : World} (h : PowS w) (hb : Below w.heap.size w w') : PowS w' := Lib.tabBelow_of_tabIs h w' hb
theorem pg_named : Tryd.prog.globalNamed "caisson/sense.pages" = some 0 := by kernel_rfl
theorem pg_type : (Tryd.prog.globals[0]?).map (·.type) = some 32 := by kernel_rfl
theorem pow_named : Tryd.prog.globalNamed "internal/strconv.uint64pow10" = some 1 := by kernel_rfl
theorem pow_type : (Tryd.prog.globals[1]?).map (·.type) = some 64 := by kernel_rfl
theorem cells_pgs : Tryd.prog.cellsOf 32 = 20 := by kernel_rfl
theorem PgT.cells {w : World} (h : PgT w) : ∃ x0 c0 x1 c1 x3 c3, (∃ t f, w.heap[0]? = some (.cells (pgC x0 c0 x1 c1 x3 c3).toArray t f)) ∧ HdT w x0 c0 pgh0 ∧ HdT w x1 c1 pgh1 ∧ HdT w x3 c3 pgh3 := by
  obtain ⟨x0, c0, x1, c1, x3, c3, hv, h0⟩ := h
  refine ⟨x0, c0, x1, c1, x3, c3, ?_, h0⟩
  unfold World.var? at hv
  rw [pg_named] at hv
  simp only [Option.bind_some] at hv
  split at hv
  · rename_i cs t f he
    cases hv
    exact ⟨t, f, he⟩
  · cases hv
theorem PgT.later {w w' : World} (h : PgT w) (hb : Below w.heap.size w w') : PgT w' := by
  obtain ⟨x0, c0, x1, c1, x3, c3, ⟨t, f, he⟩, h0, h1, h3⟩ := h.cells
  refine ⟨x0, c0, x1, c1, x3, c3, ?_, h0.later hb, h1.later hb, h3.later hb⟩
  have hlt : 0 < w.heap.size := by
    rcases Nat.lt_or_ge 0 w.heap.size with h | h
    · exact h
    · rw [Array.getElem?_eq_none h] at he; cases he
  unfold World.var?
  rw [pg_named]
  simp only [Option.bind_some]
  rw [hb.block _ hlt, he]
theorem pg_of_laid {W : World} (h : laidMetH Tryd.prog [("math/bits.deBruijn32tab", Rows.laid_math_bits_deBruijn32tab), ("math/bits.deBruijn64tab", Rows.laid_math_bits_deBruijn64tab), ("internal/strconv.uint64pow10", Rows.laid_internal_strconv_uint64pow10), ("caisson/sense.pages", Rows.laid_caisson_sense_pages)] W) : PowS W ∧ PgT W := by
  have h' : laidMet Tryd.prog [("math/bits.deBruijn32tab", Rows.laid_math_bits_deBruijn32tab), ("math/bits.deBruijn64tab", Rows.laid_math_bits_deBruijn64tab), ("internal/strconv.uint64pow10", Rows.laid_internal_strconv_uint64pow10), ("caisson/sense.pages", Rows.laid_caisson_sense_pages)] W := h
  obtain ⟨ps, ⟨g, t, cs, fuel, p, q, hg, ht, hvar, hd, ⟨g2, t2, cs2, fuel2, p2, q2, hg2, ht2, hvar2, hd2, ⟨g3, t3, cs3, fuel3, p3, q3, hg3, ht3, hvar3, hd3, ⟨g4, t4, cs4, fuel4, p4, q4, hg4, ht4, hvar4, hd4, _, _⟩, _⟩, _⟩, _⟩, _⟩ := h'
  obtain rfl := Option.some.inj (pow_named.symm.trans hg3)
  obtain rfl := Option.some.inj (pow_type.symm.trans ht3)
  obtain rfl := Option.some.inj (pg_named.symm.trans hg4)
  obtain rfl := Option.some.inj (pg_type.symm.trans ht4)
  refine ⟨?_, ?_⟩
  · have e := Lib.cells_of_tab (k := .u64) (zs := Lib.pow10Tab) Tryd.underlying64 Tryd.underlying41 (by kernel_rfl) (by kernel_rfl) hd3
    unfold PowS Lib.TabIs
    rw [hvar3, ← e]
  · obtain ⟨xs, m, -, hx, hlen, hxl, hel⟩ := DataW.trod_array Tryd.underlying32 hd4
    rw [cells_pgs] at hlen
    obtain ⟨cs4⟩ := cs4
    simp only at hlen hel hvar4
    match xs, hxl, cs4, hlen with
    | [y0, y1, y2, y3], _, [v0, v1, v2, v3, v4, v5, v6, v7, v8, v9, v10, v11, v12, v13, v14, v15, v16, v17, v18, v19], _ =>
      unfold Rows.laid_caisson_sense_pages at hx
      simp only [Prod.mk.injEq, DataW.agg.injEq, List.map_cons, List.map_nil, List.cons.injEq, and_true] at hx
      obtain ⟨⟨e0, e1, e2, e3⟩, -⟩ := hx
      have g0 := hel 0 (by omega)
      have g1 := hel 1 (by omega)
      have g2 := hel 2 (by omega)
      have g3 := hel 3 (by omega)
      simp [cells_pg] at g0 g1 g2 g3
      obtain ⟨y0a, y0b⟩ := y0
      obtain ⟨y1a, y1b⟩ := y1
      obtain ⟨y2a, y2b⟩ := y2
      obtain ⟨y3a, y3b⟩ := y3
      simp only at e0 e1 e2 e3
      subst e0 e1 e2 e3
      obtain ⟨u0, k0, r0, s0, f0⟩ := pg_row (by rfl) g0
      obtain ⟨u1, k1, r1, s1, f1⟩ := pg_row (by rfl) g1
      obtain ⟨u2, k2, r2, s2, f2⟩ := pg_row (by rfl) g2
      obtain ⟨u3, k3, r3, s3, f3⟩ := pg_row (by rfl) g3
      obtain ⟨x0, c0, rfl, H0⟩ := pg_bytes (l := pgh0) f0
      obtain ⟨x1, c1, rfl, H1⟩ := pg_bytes (l := pgh1) f1
      have e2 := pg_nil f2
      obtain ⟨x3, c3, rfl, H3⟩ := pg_bytes (l := pgh3) f3
      subst e2
      simp only [List.cons.injEq, and_true] at s0 s1 s2 s3
      obtain ⟨rfl, rfl, rfl, rfl, rfl⟩ := s0
      obtain ⟨rfl, rfl, rfl, rfl, rfl⟩ := s1
      obtain ⟨rfl, rfl, rfl, rfl, rfl⟩ := s2
      obtain ⟨rfl, rfl, rfl, rfl, rfl⟩ := s3
      exact ⟨x0, c0, x1, c1, x3, c3, hvar4, H0, H1, H3⟩
end Go.Proofs.YtncplnejoppekaaDoor
