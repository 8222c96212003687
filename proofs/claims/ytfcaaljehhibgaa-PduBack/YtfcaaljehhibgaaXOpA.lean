/- Bytes within what came in. -/
import Derived.Test.YtfcaaljehhibgaaXWrap
import Derived.Test.YtfcaaljehhibgaaXMp
import Derived.Deep.SlicePairs
namespace Go.Proofs.Ytfcaaljehhibgaa
open Go.ChangeShapes Go.WideShapes Go.ChangeAt Go.RowKit Go.Deep
set_option linter.unusedVariables false
set_option maxRecDepth 100000

theorem opn_bytes {H : Type} {enc : TypeId × Value → H} {W : World} {v : Value} {d : DataW H} {p : List MemPlace} {fuel : Nat}
    (hf : DataW.trod enc Try.prog W 0 (fun _ => true) true fuel 34 [v] = some (d, p)) :
    ∃ a len cap l, v = .slice a len cap ∧ (∀ B, cap ≤ B → Arg B W a len cap l) ∧ Places d cap := by
  rcases open_ints Try.underlying34 Try.underlying5 cells1_u8 hf with ⟨hcs, hx⟩ | ⟨x, len, cap, zs, hcs, _, hl, hm, hz, hx, hcell, hwz⟩
  · simp at hcs
    subst hcs
    simp only [Prod.mk.injEq] at hx
    exact ⟨none, 0, 0, [], rfl, fun B hB => ⟨rfl, Nat.le_refl _, hB, .inl rfl, fun _ => rfl⟩, .inl ⟨hx.1, rfl⟩⟩
  · simp at hcs
    subst hcs
    simp only [Prod.mk.injEq] at hx
    have hz' : zs.length = cap := by simpa using hz
    refine ⟨_, _, _, (zs.take len).map fun n => BitVec.ofNat 8 n.toNat, rfl, fun B hB => ⟨by simp; omega, hl, hB, ?_, fun h => by cases h⟩, .inr ⟨_, _, hx.1, by simp [lits]; omega⟩⟩
    by_cases h0 : len = 0
    · exact .inl (by simp [h0])
    · obtain ⟨b, off, spot⟩ := x
      have hspot : spot = none := by simpa [Addr.add] using World.cell?_spot (hcell 0 (by omega))
      subst hspot
      refine .inr ⟨b, off, rfl, fun i hi => ?_⟩
      have hi' : i < len := by simp at hi; omega
      have hc := hcell i (by omega)
      have e : (⟨b, off, none⟩ : Addr).add i = ⟨b, off + i, none⟩ := by unfold Addr.add; split <;> simp_all
      rw [e] at hc
      rw [hc]
      have hw := hwz (zs[i]'(by omega)) (List.getElem_mem _)
      simp [Lit.wf, IntKind.min, IntKind.max, IntKind.signed, IntKind.bits] at hw
      unfold bt
      simp only [List.getD, List.getElem?_map, List.getElem?_take, hi', if_true, List.getElem?_eq_getElem (show i < zs.length by omega), Option.map_some, Option.getD_some, BitVec.toNat_ofNat]
      congr 2
      omega
theorem opn_add (b off i : Nat) : (⟨b, off, none⟩ : Addr).add i = ⟨b, off + i, none⟩ := by unfold Addr.add; split <;> simp_all
theorem opn_weights {H : Type} {P : Program} {e : TypeId} {l : List (DataW H)} {d : DataW H} (h : d ∈ l) : ∀ n ∈ d.weights P e, n ∈ DataW.weightsAll P e l := by
  induction l with
  | nil => cases h
  | cons x r ih =>
    intro n hn
    rw [DataW.weightsAll]
    rcases List.mem_cons.1 h with e | e
    · subst e; exact List.mem_append_left _ hn
    · exact List.mem_append_right _ (ih e n hn)
/-- bytes that came in within something -/
structure DatOk (W : World) (x : Option Addr) (l : List (BitVec 8)) (c : Nat) : Prop where
  row : Row W x l
  le : l.length ≤ c
  nil : x = none → c = 0
  most : l.length ≤ 140737488351232
theorem DatOk.later {w w' : World} {x : Option Addr} {l : List (BitVec 8)} {c : Nat} (h : DatOk w x l c) (hb : Below w.heap.size w w') : DatOk w' x l c := ⟨h.row.later hb, h.le, h.nil, h.most⟩
theorem opn_dat {H : Type} {enc : TypeId × Value → H} {W : World} {v : Value} {d : DataW H} {p : List MemPlace} {fuel : Nat}
    (hf : DataW.trod enc Try.prog W 0 (fun _ => true) true fuel 34 [v] = some (d, p)) (hwt : ∀ n ∈ d.weights Try.prog 34, n ≤ reachBytes) :
    ∃ l x c, v = .slice x l.length c ∧ DatOk W x l c := by
  obtain ⟨a1, l1, p1, x1, rfl, hA1, hP1⟩ := opn_bytes hf
  have b1 : p1 ≤ 140737488351232 := by
    rcases hP1 with ⟨_, rfl⟩ | ⟨es, sp, rfl, rfl⟩
    · omega
    · have m1 : (es.length + sp.length) * 1 ∈ DataW.weights Try.prog 34 (DataW.slice es sp) := by simp [DataW.weights, Try.underlying34, bytes_u8]
      have := hwt _ m1
      unfold reachBytes at this
      omega
  have A := hA1 _ b1
  have h1 := A.le
  have h2 := A.len_eq
  exact ⟨x1, a1, p1, by rw [h2], A.row, by omega, A.isNil, by omega⟩
end Go.Proofs.Ytfcaaljehhibgaa

/- A letter that came in, and what was agreed on. -/
namespace Go.Proofs.Ytfcaaljehhibgaa
open Go.ChangeShapes Go.WideShapes Go.ChangeAt Go.RowKit Go.Deep
set_option linter.unusedVariables false
set_option maxRecDepth 100000

theorem opn_u32 {n : Int} (w : (Lit.int .u32 n).wf = true) : ∃ b : BitVec 32, n = (b.toNat : Int) := by
  simp [Lit.wf, IntKind.min, IntKind.max, IntKind.signed, IntKind.bits] at w
  refine ⟨BitVec.ofNat 32 n.toNat, ?_⟩
  rw [BitVec.toNat_ofNat]
  omega
theorem cells_n32 : Try.prog.cellsOf 44 = 1 := by kernel_rfl
theorem und_ar7 : Try.prog.underlying 45 = some (.array 7 44) := by kernel_rfl
theorem opn_arr7_cells {H : Type} {enc : TypeId × Value → H} {W : World} {cs : List Value} {d : DataW H} {p : List MemPlace} {fuel : Nat} (hlen : cs.length = 7)
    (hf : DataW.trod enc Try.prog W 0 (fun _ => true) true fuel 45 cs = some (d, p)) (hwt : ∀ n ∈ d.weights Try.prog 45, n ≤ reachBytes) :
    ∃ (z0 z1 z2 z3 z4 z5 z6 : BitVec 32), cs = [.int .u32 (z0.toNat : Int), .int .u32 (z1.toNat : Int), .int .u32 (z2.toNat : Int), .int .u32 (z3.toNat : Int), .int .u32 (z4.toNat : Int), .int .u32 (z5.toNat : Int), .int .u32 (z6.toNat : Int)] ∧ True := by
  obtain ⟨xs, m, hm, hx, hcl, hxl, hel⟩ := DataW.trod_array und_ar7 hf
  match xs, hxl, cs, hlen with
  | [y0, y1, y2, y3, y4, y5, y6], _, [v0, v1, v2, v3, v4, v5, v6], _ =>
    have g0 := hel 0 (by omega)
    have g1 := hel 1 (by omega)
    have g2 := hel 2 (by omega)
    have g3 := hel 3 (by omega)
    have g4 := hel 4 (by omega)
    have g5 := hel 5 (by omega)
    have g6 := hel 6 (by omega)
    simp [cells_n32] at g0 g1 g2 g3 g4 g5 g6
    obtain ⟨z0, q0, _, w0⟩ := DataW.trod_int Try.underlying44 g0
    simp at q0
    subst q0
    obtain ⟨z0, rfl⟩ := opn_u32 w0
    obtain ⟨z1, q1, _, w1⟩ := DataW.trod_int Try.underlying44 g1
    simp at q1
    subst q1
    obtain ⟨z1, rfl⟩ := opn_u32 w1
    obtain ⟨z2, q2, _, w2⟩ := DataW.trod_int Try.underlying44 g2
    simp at q2
    subst q2
    obtain ⟨z2, rfl⟩ := opn_u32 w2
    obtain ⟨z3, q3, _, w3⟩ := DataW.trod_int Try.underlying44 g3
    simp at q3
    subst q3
    obtain ⟨z3, rfl⟩ := opn_u32 w3
    obtain ⟨z4, q4, _, w4⟩ := DataW.trod_int Try.underlying44 g4
    simp at q4
    subst q4
    obtain ⟨z4, rfl⟩ := opn_u32 w4
    obtain ⟨z5, q5, _, w5⟩ := DataW.trod_int Try.underlying44 g5
    simp at q5
    subst q5
    obtain ⟨z5, rfl⟩ := opn_u32 w5
    obtain ⟨z6, q6, _, w6⟩ := DataW.trod_int Try.underlying44 g6
    simp at q6
    subst q6
    obtain ⟨z6, rfl⟩ := opn_u32 w6
    exact ⟨z0, z1, z2, z3, z4, z5, z6, rfl, trivial⟩
theorem cells_pdu17 : Try.prog.cellsOf 50 = 15 := by kernel_rfl
theorem under_pdu17 : ∃ f0 f1 f2 f3 f4 f5 f6 f7 f8, Try.prog.underlying 50 = some (.struct #[f0, f1, f2, f3, f4, f5, f6, f7, f8]) ∧ (f0.offset = 0 ∧ f1.offset = 1 ∧ f2.offset = 2 ∧ f3.offset = 3 ∧ f4.offset = 4 ∧ f5.offset = 5 ∧ f6.offset = 6 ∧ f7.offset = 7 ∧ f8.offset = 14) ∧ (Try.prog.cellsOf f0.type = 1 ∧ Try.prog.cellsOf f1.type = 1 ∧ Try.prog.cellsOf f2.type = 1 ∧ Try.prog.cellsOf f3.type = 1 ∧ Try.prog.cellsOf f4.type = 1 ∧ Try.prog.cellsOf f5.type = 1 ∧ Try.prog.cellsOf f6.type = 1 ∧ Try.prog.cellsOf f7.type = 7 ∧ Try.prog.cellsOf f8.type = 1) ∧ (Try.prog.underlying f0.type = some (.int .i64) ∧ Try.prog.underlying f1.type = some .bool ∧ Try.prog.underlying f2.type = some (.int .i64) ∧ Try.prog.underlying f3.type = some (.int .i64) ∧ Try.prog.underlying f4.type = some (.int .i64) ∧ Try.prog.underlying f5.type = some (.int .u64) ∧ Try.prog.underlying f6.type = some (.int .u32) ∧ f7.type = 45 ∧ f8.type = 34) := by
  exact ⟨_, _, _, _, _, _, _, _, _, Try.underlying50, ⟨rfl, rfl, rfl, rfl, rfl, rfl, rfl, rfl, rfl⟩, ⟨by kernel_rfl, by kernel_rfl, by kernel_rfl, by kernel_rfl, by kernel_rfl, by kernel_rfl, by kernel_rfl, by kernel_rfl, by kernel_rfl⟩, ⟨Try.underlying3, Try.underlying4, Try.underlying3, Try.underlying3, Try.underlying3, Try.underlying43, Try.underlying44, rfl, rfl⟩⟩
theorem opn_pdu17_cells {H : Type} {enc : TypeId × Value → H} {W : World} {cs : List Value} {d : DataW H} {p : List MemPlace} {fuel : Nat} (hlen : cs.length = 15)
    (hf : DataW.trod enc Try.prog W 0 (fun _ => true) true fuel 50 cs = some (d, p)) (hwt : ∀ n ∈ d.weights Try.prog 50, n ≤ reachBytes) :
    ∃ (z0 : Int) (z1 : Bool) (z2 : Int) (z3 : Int) (z4 : Int) (z5 : BitVec 64) (z6 : BitVec 32) (z7_0 : BitVec 32) (z7_1 : BitVec 32) (z7_2 : BitVec 32) (z7_3 : BitVec 32) (z7_4 : BitVec 32) (z7_5 : BitVec 32) (z7_6 : BitVec 32) (z8 : List (BitVec 8)) (z8x : Option Addr) (z8c : Nat), cs = [.int .i64 z0, .bool z1, .int .i64 z2, .int .i64 z3, .int .i64 z4, .int .u64 (z5.toNat : Int), .int .u32 (z6.toNat : Int), .int .u32 (z7_0.toNat : Int), .int .u32 (z7_1.toNat : Int), .int .u32 (z7_2.toNat : Int), .int .u32 (z7_3.toNat : Int), .int .u32 (z7_4.toNat : Int), .int .u32 (z7_5.toNat : Int), .int .u32 (z7_6.toNat : Int), .slice z8x z8.length z8c] ∧ I64 z0 ∧ I64 z2 ∧ I64 z3 ∧ I64 z4 ∧ DatOk W z8x z8 z8c := by
  obtain ⟨f0, f1, f2, f3, f4, f5, f6, f7, f8, hu, ⟨o0, o1, o2, o3, o4, o5, o6, o7, o8⟩, ⟨c0, c1, c2, c3, c4, c5, c6, c7, c8⟩, ⟨u0, u1, u2, u3, u4, u5, u6, u7, u8⟩⟩ := under_pdu17
  obtain ⟨xs, k, hk, hxy, _, hxl, hfl⟩ := DataW.trod_struct hu hf
  match xs, hxl, cs, hlen with
  | [y0, y1, y2, y3, y4, y5, y6, y7, y8], _, [v0, v1, v2, v3, v4, v5, v6, v7, v8, v9, v10, v11, v12, v13, v14], _ =>
    simp only [Prod.mk.injEq] at hxy
    have hd : d = .agg [y0.1, y1.1, y2.1, y3.1, y4.1, y5.1, y6.1, y7.1, y8.1] := hxy.1
    have g0 := hfl 0 f0 rfl
    have g1 := hfl 1 f1 rfl
    have g2 := hfl 2 f2 rfl
    have g3 := hfl 3 f3 rfl
    have g4 := hfl 4 f4 rfl
    have g5 := hfl 5 f5 rfl
    have g6 := hfl 6 f6 rfl
    have g7 := hfl 7 f7 rfl
    have g8 := hfl 8 f8 rfl
    simp [o0, o1, o2, o3, o4, o5, o6, o7, o8, c0, c1, c2, c3, c4, c5, c6, c7, c8] at g0 g1 g2 g3 g4 g5 g6 g7 g8
    obtain ⟨z0, q0, _, w0⟩ := DataW.trod_int u0 g0
    simp at q0
    subst q0
    obtain ⟨z1, q1, _⟩ := DataW.trod_bool u1 g1
    simp at q1
    subst q1
    obtain ⟨z2, q2, _, w2⟩ := DataW.trod_int u2 g2
    simp at q2
    subst q2
    obtain ⟨z3, q3, _, w3⟩ := DataW.trod_int u3 g3
    simp at q3
    subst q3
    obtain ⟨z4, q4, _, w4⟩ := DataW.trod_int u4 g4
    simp at q4
    subst q4
    obtain ⟨z5, q5, _, w5⟩ := DataW.trod_int u5 g5
    simp at q5
    subst q5
    obtain ⟨z5, rfl⟩ := u64_of_wf w5
    obtain ⟨z6, q6, _, w6⟩ := DataW.trod_int u6 g6
    simp at q6
    subst q6
    obtain ⟨z6, rfl⟩ := opn_u32 w6
    rw [u7] at g7
    have W7 : ∀ n ∈ y7.1.weights Try.prog 45, n ≤ reachBytes := fun n hn => hwt n (by
      rw [hd, DataW.weights, hu]
      exact DataW.weights_mem_each (j := 7) (t := 45) (by simp [u7]) (by rfl) _ hn)
    obtain ⟨z7_0, z7_1, z7_2, z7_3, z7_4, z7_5, z7_6, q7, D7⟩ := opn_arr7_cells (by rfl) g7 W7
    simp only [List.cons.injEq, and_true] at q7
    obtain ⟨rfl, rfl, rfl, rfl, rfl, rfl, rfl⟩ := q7
    rw [u8] at g8
    have W8 : ∀ n ∈ y8.1.weights Try.prog 34, n ≤ reachBytes := fun n hn => hwt n (by
      rw [hd, DataW.weights, hu]
      exact DataW.weights_mem_each (j := 8) (t := 34) (by simp [u8]) (by rfl) _ hn)
    obtain ⟨z8, z8x, z8c, rfl, D8⟩ := opn_dat g8 W8
    exact ⟨z0, z1, z2, z3, z4, z5, z6, z7_0, z7_1, z7_2, z7_3, z7_4, z7_5, z7_6, z8, z8x, z8c, rfl, i64_of_wf w0, i64_of_wf w2, i64_of_wf w3, i64_of_wf w4, D8⟩
theorem open_pdu17 {H : Type} {enc : TypeId × Value → H} {W : World} {r : Reach} {b0 : Nat} {v : Value} {d : DataW H} {p : List MemPlace} {ts : List TypeId} {ds : List (DataW H)} {j : Nat}
    (hv : Value.okWide Try.prog W r b0 50 v) (h : DataW.Trod enc Try.prog W 0 (fun _ => true) true 50 v d p)
    (hsz : (DataW.weightsEach Try.prog ts ds).all (· ≤ reachBytes) = true) (ht : ts[j]? = some 50) (hd : ds[j]? = some d) :
    ∃ (z0 : Int) (z1 : Bool) (z2 : Int) (z3 : Int) (z4 : Int) (z5 : BitVec 64) (z6 : BitVec 32) (z7_0 : BitVec 32) (z7_1 : BitVec 32) (z7_2 : BitVec 32) (z7_3 : BitVec 32) (z7_4 : BitVec 32) (z7_5 : BitVec 32) (z7_6 : BitVec 32) (z8 : List (BitVec 8)) (z8x : Option Addr) (z8c : Nat), v = .agg #[.int .i64 z0, .bool z1, .int .i64 z2, .int .i64 z3, .int .i64 z4, .int .u64 (z5.toNat : Int), .int .u32 (z6.toNat : Int), .int .u32 (z7_0.toNat : Int), .int .u32 (z7_1.toNat : Int), .int .u32 (z7_2.toNat : Int), .int .u32 (z7_3.toNat : Int), .int .u32 (z7_4.toNat : Int), .int .u32 (z7_5.toNat : Int), .int .u32 (z7_6.toNat : Int), .slice z8x z8.length z8c] ∧ I64 z0 ∧ I64 z2 ∧ I64 z3 ∧ I64 z4 ∧ DatOk W z8x z8 z8c := by
  obtain ⟨f0, f1, f2, f3, f4, f5, f6, f7, f8, hu, _⟩ := under_pdu17
  obtain ⟨cs, rfl, hcs⟩ := okWide_struct hu hv
  obtain ⟨fuel, hf⟩ := h
  rw [cells_pdu17] at hcs
  obtain ⟨z0, z1, z2, z3, z4, z5, z6, z7_0, z7_1, z7_2, z7_3, z7_4, z7_5, z7_6, z8, z8x, z8c, he, hO⟩ := opn_pdu17_cells (cs := cs.toList) (by simpa using hcs) hf (fun m hm => by
    have := List.all_eq_true.1 hsz _ (DataW.weights_mem_each ht hd _ hm)
    simpa using this)
  exact ⟨z0, z1, z2, z3, z4, z5, z6, z7_0, z7_1, z7_2, z7_3, z7_4, z7_5, z7_6, z8, z8x, z8c, by rw [← he], hO⟩
theorem cells_opts17 : Try.prog.cellsOf 23 = 3 := by kernel_rfl
theorem under_opts17 : ∃ f0 f1 f2, Try.prog.underlying 23 = some (.struct #[f0, f1, f2]) ∧ (f0.offset = 0 ∧ f1.offset = 1 ∧ f2.offset = 2) ∧ (Try.prog.cellsOf f0.type = 1 ∧ Try.prog.cellsOf f1.type = 1 ∧ Try.prog.cellsOf f2.type = 1) ∧ (Try.prog.underlying f0.type = some .bool ∧ Try.prog.underlying f1.type = some .bool ∧ Try.prog.underlying f2.type = some (.int .i64)) := by
  exact ⟨_, _, _, Try.underlying23, ⟨rfl, rfl, rfl⟩, ⟨by kernel_rfl, by kernel_rfl, by kernel_rfl⟩, ⟨Try.underlying4, Try.underlying4, Try.underlying3⟩⟩
theorem opn_opts17_cells {H : Type} {enc : TypeId × Value → H} {W : World} {cs : List Value} {d : DataW H} {p : List MemPlace} {fuel : Nat} (hlen : cs.length = 3)
    (hf : DataW.trod enc Try.prog W 0 (fun _ => true) true fuel 23 cs = some (d, p)) (hwt : ∀ n ∈ d.weights Try.prog 23, n ≤ reachBytes) :
    ∃ (z0 : Bool) (z1 : Bool) (z2 : Int), cs = [.bool z0, .bool z1, .int .i64 z2] ∧ I64 z2 := by
  obtain ⟨f0, f1, f2, hu, ⟨o0, o1, o2⟩, ⟨c0, c1, c2⟩, ⟨u0, u1, u2⟩⟩ := under_opts17
  obtain ⟨xs, k, hk, hxy, _, hxl, hfl⟩ := DataW.trod_struct hu hf
  match xs, hxl, cs, hlen with
  | [y0, y1, y2], _, [v0, v1, v2], _ =>
    simp only [Prod.mk.injEq] at hxy
    have hd : d = .agg [y0.1, y1.1, y2.1] := hxy.1
    have g0 := hfl 0 f0 rfl
    have g1 := hfl 1 f1 rfl
    have g2 := hfl 2 f2 rfl
    simp [o0, o1, o2, c0, c1, c2] at g0 g1 g2
    obtain ⟨z0, q0, _⟩ := DataW.trod_bool u0 g0
    simp at q0
    subst q0
    obtain ⟨z1, q1, _⟩ := DataW.trod_bool u1 g1
    simp at q1
    subst q1
    obtain ⟨z2, q2, _, w2⟩ := DataW.trod_int u2 g2
    simp at q2
    subst q2
    exact ⟨z0, z1, z2, rfl, i64_of_wf w2⟩
theorem open_opts17 {H : Type} {enc : TypeId × Value → H} {W : World} {r : Reach} {b0 : Nat} {v : Value} {d : DataW H} {p : List MemPlace} {ts : List TypeId} {ds : List (DataW H)} {j : Nat}
    (hv : Value.okWide Try.prog W r b0 23 v) (h : DataW.Trod enc Try.prog W 0 (fun _ => true) true 23 v d p)
    (hsz : (DataW.weightsEach Try.prog ts ds).all (· ≤ reachBytes) = true) (ht : ts[j]? = some 23) (hd : ds[j]? = some d) :
    ∃ (z0 : Bool) (z1 : Bool) (z2 : Int), v = .agg #[.bool z0, .bool z1, .int .i64 z2] ∧ I64 z2 := by
  obtain ⟨f0, f1, f2, hu, _⟩ := under_opts17
  obtain ⟨cs, rfl, hcs⟩ := okWide_struct hu hv
  obtain ⟨fuel, hf⟩ := h
  rw [cells_opts17] at hcs
  obtain ⟨z0, z1, z2, he, hO⟩ := opn_opts17_cells (cs := cs.toList) (by simpa using hcs) hf (fun m hm => by
    have := List.all_eq_true.1 hsz _ (DataW.weights_mem_each ht hd _ hm)
    simpa using this)
  exact ⟨z0, z1, z2, by rw [← he], hO⟩
end Go.Proofs.Ytfcaaljehhibgaa

/- Letters that came in. -/
namespace Go.Proofs.Ytfcaaljehhibgaa
open Go.ChangeShapes Go.WideShapes Go.ChangeAt Go.RowKit Go.Deep
set_option linter.unusedVariables false
set_option maxRecDepth 100000

/-- the struct number i of a slice -/
def Pdu17At (W : World) (b off i : Nat) : Prop := ∃ (z0 : Int) (z1 : Bool) (z2 : Int) (z3 : Int) (z4 : Int) (z5 : BitVec 64) (z6 : BitVec 32) (z7_0 : BitVec 32) (z7_1 : BitVec 32) (z7_2 : BitVec 32) (z7_3 : BitVec 32) (z7_4 : BitVec 32) (z7_5 : BitVec 32) (z7_6 : BitVec 32) (z8 : List (BitVec 8)) (z8x : Option Addr) (z8c : Nat), W.cell? ⟨b, off + i * 15, none⟩ = some (.int .i64 z0) ∧ W.cell? ⟨b, off + i * 15 + 1, none⟩ = some (.bool z1) ∧ W.cell? ⟨b, off + i * 15 + 2, none⟩ = some (.int .i64 z2) ∧ W.cell? ⟨b, off + i * 15 + 3, none⟩ = some (.int .i64 z3) ∧ W.cell? ⟨b, off + i * 15 + 4, none⟩ = some (.int .i64 z4) ∧ W.cell? ⟨b, off + i * 15 + 5, none⟩ = some (.int .u64 (z5.toNat : Int)) ∧ W.cell? ⟨b, off + i * 15 + 6, none⟩ = some (.int .u32 (z6.toNat : Int)) ∧ W.cell? ⟨b, off + i * 15 + 7, none⟩ = some (.int .u32 (z7_0.toNat : Int)) ∧ W.cell? ⟨b, off + i * 15 + 8, none⟩ = some (.int .u32 (z7_1.toNat : Int)) ∧ W.cell? ⟨b, off + i * 15 + 9, none⟩ = some (.int .u32 (z7_2.toNat : Int)) ∧ W.cell? ⟨b, off + i * 15 + 10, none⟩ = some (.int .u32 (z7_3.toNat : Int)) ∧ W.cell? ⟨b, off + i * 15 + 11, none⟩ = some (.int .u32 (z7_4.toNat : Int)) ∧ W.cell? ⟨b, off + i * 15 + 12, none⟩ = some (.int .u32 (z7_5.toNat : Int)) ∧ W.cell? ⟨b, off + i * 15 + 13, none⟩ = some (.int .u32 (z7_6.toNat : Int)) ∧ W.cell? ⟨b, off + i * 15 + 14, none⟩ = some (.slice z8x z8.length z8c) ∧ I64 z0 ∧ I64 z2 ∧ I64 z3 ∧ I64 z4 ∧ DatOk W z8x z8 z8c
structure Pdu17Arg (W : World) (a : Option Addr) (len cap : Nat) : Prop where
  le : len ≤ cap
  most : cap ≤ maxLen
  few : len ≤ 140737488355328
  each : len ≠ 0 → ∃ b off, a = some ⟨b, off, none⟩ ∧ ∀ i, i < len → Pdu17At W b off i
theorem bytes_pdu17 : Try.prog.bytesOf 50 = 104 := by kernel_rfl
theorem open_pdu17s {H : Type} {enc : TypeId × Value → H} {W : World} {r : Reach} {b0 : Nat} {v : Value} {d : DataW H} {p : List MemPlace} {ts : List TypeId} {ds : List (DataW H)} {j : Nat}
    (hv : Value.okWide Try.prog W r b0 58 v) (h : DataW.Trod enc Try.prog W 0 (fun _ => true) true 58 v d p)
    (hsz : (DataW.weightsEach Try.prog ts ds).all (· ≤ reachBytes) = true) (ht : ts[j]? = some 58) (hd : ds[j]? = some d) :
    ∃ a len cap, v = .slice a len cap ∧ Pdu17Arg W a len cap := by
  obtain ⟨a, len, cap, rfl⟩ := okWide_slice Try.underlying58 hv
  obtain ⟨fuel, hf⟩ := h
  refine ⟨a, len, cap, rfl, ?_⟩
  rcases open_slice Try.underlying58 hf with ⟨hcs, hx⟩ | ⟨x, len', cap', m, n, D, Pl, hcs, hb, hl, hm, hmm, hx, hel⟩
  · simp [Value.cells] at hcs
    obtain ⟨rfl, rfl, rfl⟩ := hcs
    exact ⟨Nat.le_refl _, by simp, by omega, fun h => absurd rfl h⟩
  · simp [Value.cells] at hcs
    obtain ⟨rfl, rfl, rfl⟩ := hcs
    simp at hmm
    subst hmm
    simp only [Prod.mk.injEq] at hx
    have hbound : len ≤ 140737488355328 := by
      have hd' := hd
      rw [hx.1] at hd'
      have := sized_slice hsz ht hd' Try.underlying58
      rw [bytes_pdu17, List.length_map, List.length_range] at this
      unfold reachBytes at this
      omega
    refine ⟨hl, hm, hbound, fun h0 => ?_⟩
    have hspot : x.spot = none := by
      obtain ⟨cs', h1, _⟩ := hel 0 (by omega)
      rw [cells_pdu17] at h1
      obtain ⟨_, hlen, hcell⟩ := World.cells?_some h1
      have := World.cell?_spot ((hcell 0 (by omega)).trans (List.getElem?_eq_getElem (by omega)))
      simpa [Addr.add] using this
    obtain ⟨b, off, spot⟩ := x
    simp only at hspot
    subst hspot
    refine ⟨b, off, rfl, fun i hi => ?_⟩
    obtain ⟨cs', h1, h2⟩ := hel i (by omega)
    rw [cells_pdu17] at h1
    obtain ⟨_, hlen, hcell⟩ := World.cells?_some h1
    have hmem : D i ∈ (List.range len).map D := List.mem_map.2 ⟨i, List.mem_range.2 hi, rfl⟩
    obtain ⟨z0, z1, z2, z3, z4, z5, z6, z7_0, z7_1, z7_2, z7_3, z7_4, z7_5, z7_6, z8, z8x, z8c, rfl, hO⟩ := opn_pdu17_cells hlen h2 (fun m hm => by
      have m3 : m ∈ DataW.weights Try.prog 58 d := by
        rw [hx.1, DataW.weights, Try.underlying58]
        exact List.mem_cons_of_mem _ (List.mem_append_left _ (opn_weights hmem _ hm))
      have := List.all_eq_true.1 hsz _ (DataW.weights_mem_each ht hd _ m3)
      simpa using this)
    have e0 := hcell 0 (by omega)
    have e1 := hcell 1 (by omega)
    have e2 := hcell 2 (by omega)
    have e3 := hcell 3 (by omega)
    have e4 := hcell 4 (by omega)
    have e5 := hcell 5 (by omega)
    have e6 := hcell 6 (by omega)
    have e7 := hcell 7 (by omega)
    have e8 := hcell 8 (by omega)
    have e9 := hcell 9 (by omega)
    have e10 := hcell 10 (by omega)
    have e11 := hcell 11 (by omega)
    have e12 := hcell 12 (by omega)
    have e13 := hcell 13 (by omega)
    have e14 := hcell 14 (by omega)
    simp only [opn_add, List.getElem?_cons_zero, List.getElem?_cons_succ, Nat.add_zero] at e0 e1 e2 e3 e4 e5 e6 e7 e8 e9 e10 e11 e12 e13 e14
    exact ⟨z0, z1, z2, z3, z4, z5, z6, z7_0, z7_1, z7_2, z7_3, z7_4, z7_5, z7_6, z8, z8x, z8c, e0, e1, e2, e3, e4, e5, e6, e7, e8, e9, e10, e11, e12, e13, e14, hO⟩
end Go.Proofs.Ytfcaaljehhibgaa
