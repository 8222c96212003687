/- Calls of a disk, from their row's shape to plain values. -/
import Derived.Test.YtmhnlfgakpelkaaDkW9
import Derived.Test.YtmhnlfgakpelkaaWrap
import Derived.Deep.SlicePairs
namespace Go.Proofs.Ytmhnlfgakpelkaa
open Go.ChangeShapes Go.WideShapes Go.ChangeAt Go.RowKit Go.Deep
set_option linter.unusedVariables false

theorem open_bytes_cells' {H : Type} {enc : TypeId × Value → H} {W : World} {v : Value} {d : DataW H} {p : List MemPlace} {fuel : Nat}
    (hf : DataW.trod enc Try.prog W 0 (fun _ => true) true fuel 22 [v] = some (d, p)) :
    ∃ a len cap l, v = .slice a len cap ∧ (∀ B, cap ≤ B → Arg B W a len cap l) ∧ Places d cap := by
  rcases open_ints Try.underlying22 Try.underlying5 cells1_u8 hf with ⟨hcs, hx⟩ | ⟨x, len, cap, zs, hcs, _, hl, hm, hz, hx, hcell, hwz⟩
  · simp at hcs
    subst hcs
    simp only [Prod.mk.injEq] at hx
    exact ⟨none, 0, 0, [], rfl, fun B hB => ⟨rfl, Nat.le_refl _, hB, .inl rfl, fun _ => rfl⟩, .inl ⟨hx.1, rfl⟩⟩
  · simp at hcs
    subst hcs
    simp only [Prod.mk.injEq] at hx
    have hz' : zs.length = cap := by simpa using hz
    refine ⟨_, _, _, (zs.take len).map fun n => BitVec.ofNat 8 n.toNat, rfl, fun B hB => ⟨by simp; omega, hl, hB, ?_, fun h => by cases h⟩, .inr ⟨_, _, hx.1, by simp [lits]; omega⟩⟩
    by_cases h0 : len = 0
    · exact .inl (by simp [h0])
    · obtain ⟨b, off, spot⟩ := x
      have hspot : spot = none := by simpa [Addr.add] using World.cell?_spot (hcell 0 (by omega))
      subst hspot
      refine .inr ⟨b, off, rfl, fun i hi => ?_⟩
      have hi' : i < len := by simp at hi; omega
      have hc := hcell i (by omega)
      have e : (⟨b, off, none⟩ : Addr).add i = ⟨b, off + i, none⟩ := by unfold Addr.add; split <;> simp_all
      rw [e] at hc
      rw [hc]
      have hw := hwz (zs[i]'(by omega)) (List.getElem_mem _)
      simp [Lit.wf, IntKind.min, IntKind.max, IntKind.signed, IntKind.bits] at hw
      unfold bt
      simp only [List.getD, List.getElem?_map, List.getElem?_take, hi', if_true, List.getElem?_eq_getElem (show i < zs.length by omega), Option.map_some, Option.getD_some, BitVec.toNat_ofNat]
      congr 2
      omega

theorem cells1_int : Try.prog.cellsOf 3 = 1 := by kernel_rfl
theorem bytes_int : Try.prog.bytesOf 3 = 8 := by kernel_rfl
/-- numbers that came in -/
structure IArg (B : Nat) (w : World) (a : Option Addr) (len cap : Nat) (l : List Int) : Prop where
  len_eq : l.length = len
  le : len ≤ cap
  bound : cap ≤ B
  row : IRow w a l
theorem open_i64_cells {H : Type} {enc : TypeId × Value → H} {W : World} {v : Value} {d : DataW H} {p : List MemPlace} {fuel : Nat}
    (hf : DataW.trod enc Try.prog W 0 (fun _ => true) true fuel 42 [v] = some (d, p)) :
    ∃ a len cap l, v = .slice a len cap ∧ (∀ B, cap ≤ B → IArg B W a len cap l) ∧ Places d cap := by
  rcases open_ints Try.underlying42 Try.underlying3 cells1_int hf with ⟨hcs, hx⟩ | ⟨x, len, cap, zs, hcs, _, hl, hm, hz, hx, hcell, hwz⟩
  · simp at hcs
    subst hcs
    simp only [Prod.mk.injEq] at hx
    exact ⟨none, 0, 0, [], rfl, fun B hB => ⟨rfl, Nat.le_refl _, hB, (fun x hx => by cases hx), .inl rfl⟩, .inl ⟨hx.1, rfl⟩⟩
  · simp at hcs
    subst hcs
    simp only [Prod.mk.injEq] at hx
    have hz' : zs.length = cap := by simpa using hz
    refine ⟨_, _, _, zs.take len, rfl, fun B hB => ⟨by simp; omega, hl, hB, fun x hx => ?_, ?_⟩, .inr ⟨_, _, hx.1, by simp [lits]; omega⟩⟩
    · have hw := hwz x (List.mem_of_mem_take hx)
      simp [Lit.wf, IntKind.min, IntKind.max, IntKind.signed, IntKind.bits] at hw
      omega
    · by_cases h0 : len = 0
      · exact .inl (by simp [h0])
      · obtain ⟨b, off, spot⟩ := x
        have hspot : spot = none := by simpa [Addr.add] using World.cell?_spot (hcell 0 (by omega))
        subst hspot
        refine .inr ⟨b, off, rfl, fun i hi => ?_⟩
        have hi' : i < len := by simp at hi; omega
        have hc := hcell i (by omega)
        have e : (⟨b, off, none⟩ : Addr).add i = ⟨b, off + i, none⟩ := by unfold Addr.add; split <;> simp_all
        rw [e] at hc
        rw [hc]
        simp [List.getElem_take, List.getD, List.getElem?_eq_getElem (show i < zs.length by omega)]

/-- the values of one call -/
structure DOp (W : World) (k n : Int) (b l : Value) : Prop where
  kinds : -9223372036854775808 ≤ k ∧ k ≤ 9223372036854775807
  nums : -9223372036854775808 ≤ n ∧ n ≤ 9223372036854775807
  bytes : ∃ a len cap x, b = .slice a len cap ∧ Arg 140737488351232 W a len cap x
  ints : ∃ a len cap x, l = .slice a len cap ∧ IArg 140737488351232 W a len cap x

theorem cells_dop : Try.prog.cellsOf 44 = 4 := by kernel_rfl
theorem under_dop : ∃ f0 f1 f2 f3, Try.prog.underlying 44 = some (.struct #[f0, f1, f2, f3]) ∧ (f0.offset = 0 ∧ f1.offset = 1 ∧ f2.offset = 2 ∧ f3.offset = 3) ∧
    (Try.prog.cellsOf f0.type = 1 ∧ Try.prog.cellsOf f1.type = 1 ∧ Try.prog.cellsOf f2.type = 1 ∧ Try.prog.cellsOf f3.type = 1) ∧
    (Try.prog.underlying f0.type = some (.int .i64) ∧ Try.prog.underlying f1.type = some (.int .i64) ∧ f2.type = 22 ∧ f3.type = 42) := by
  refine ⟨_, _, _, _, Try.underlying44, ⟨rfl, rfl, rfl, rfl⟩, ⟨by kernel_rfl, by kernel_rfl, by kernel_rfl, by kernel_rfl⟩, ⟨?_, ?_, rfl, rfl⟩⟩
  · exact Try.underlying3
  · exact Try.underlying3

/-- one call's cells; what its weights say is a bound -/
theorem open_dop_cells {H : Type} {enc : TypeId × Value → H} {W : World} {cs : List Value} {d : DataW H} {p : List MemPlace} {fuel : Nat} (hlen : cs.length = 4)
    (hf : DataW.trod enc Try.prog W 0 (fun _ => true) true fuel 44 cs = some (d, p)) (hwt : ∀ n ∈ d.weights Try.prog 44, n ≤ reachBytes) :
    ∃ k n b l, cs = [.int .i64 k, .int .i64 n, b, l] ∧ DOp W k n b l := by
  obtain ⟨f0, f1, f2, f3, hu, ⟨o0, o1, o2, o3⟩, ⟨c0, c1, c2, c3⟩, ⟨u0, u1, u2, u3⟩⟩ := under_dop
  obtain ⟨xs, k, hk, hxy, _, hxl, hfl⟩ := DataW.trod_struct hu hf
  match xs, hxl, cs, hlen with
  | [y0, y1, y2, y3], _, [v0, v1, v2, v3], _ =>
    have g0 := hfl 0 f0 rfl
    have g1 := hfl 1 f1 rfl
    have g2 := hfl 2 f2 rfl
    have g3 := hfl 3 f3 rfl
    simp [o0, o1, o2, o3, c0, c1, c2, c3] at g0 g1 g2 g3
    obtain ⟨z0, q0, _, w0⟩ := DataW.trod_int u0 g0
    obtain ⟨z1, q1, _, w1⟩ := DataW.trod_int u1 g1
    simp at q0 q1
    subst q0 q1
    rw [u2] at g2
    rw [u3] at g3
    obtain ⟨y2d, y2p⟩ := y2
    obtain ⟨y3d, y3p⟩ := y3
    obtain ⟨a2, l2, p2, x2, rfl, hA2, hP2⟩ := open_bytes_cells' g2
    obtain ⟨a3, l3, p3, x3, rfl, hA3, hP3⟩ := open_i64_cells g3
    simp only [Prod.mk.injEq] at hxy
    have hd : d = .agg [y0.1, y1.1, y2d, y3d] := hxy.1
    have b2 : p2 ≤ 140737488351232 := by
      rcases hP2 with ⟨_, rfl⟩ | ⟨es, sp, rfl, rfl⟩
      · omega
      · have m1 : (es.length + sp.length) * 1 ∈ DataW.weights Try.prog 22 (DataW.slice es sp) := by simp [DataW.weights, Try.underlying22, bytes_u8]
        have m2 : (es.length + sp.length) * 1 ∈ DataW.weights Try.prog 44 d := by
          rw [hd, DataW.weights, hu]
          exact DataW.weights_mem_each (j := 2) (t := 22) (by simp [u2]) (by rfl) _ m1
        have := hwt _ m2
        unfold reachBytes at this
        omega
    have b3 : p3 ≤ 140737488351232 := by
      rcases hP3 with ⟨_, rfl⟩ | ⟨es, sp, rfl, rfl⟩
      · omega
      · have m1 : (es.length + sp.length) * 8 ∈ DataW.weights Try.prog 42 (DataW.slice es sp) := by simp [DataW.weights, Try.underlying42, bytes_int]
        have m2 : (es.length + sp.length) * 8 ∈ DataW.weights Try.prog 44 d := by
          rw [hd, DataW.weights, hu]
          exact DataW.weights_mem_each (j := 3) (t := 42) (by simp [u3]) (by rfl) _ m1
        have := hwt _ m2
        unfold reachBytes at this
        omega
    exact ⟨z0, z1, _, _, rfl, i64_of_wf w0, i64_of_wf w1, ⟨a2, l2, p2, x2, rfl, hA2 _ b2⟩, ⟨a3, l3, p3, x3, rfl, hA3 _ b3⟩⟩

theorem open_dop {H : Type} {enc : TypeId × Value → H} {W : World} {r : Reach} {b0 : Nat} {v : Value} {d : DataW H} {p : List MemPlace} {ts : List TypeId} {ds : List (DataW H)} {j : Nat}
    (hv : Value.okWide Try.prog W r b0 44 v) (h : DataW.Trod enc Try.prog W 0 (fun _ => true) true 44 v d p)
    (hsz : (DataW.weightsEach Try.prog ts ds).all (· ≤ reachBytes) = true) (ht : ts[j]? = some 44) (hd : ds[j]? = some d) :
    ∃ k n b l, v = .agg #[.int .i64 k, .int .i64 n, b, l] ∧ DOp W k n b l := by
  obtain ⟨f0, f1, f2, f3, hu, _⟩ := under_dop
  obtain ⟨cs, rfl, hcs⟩ := okWide_struct hu hv
  obtain ⟨fuel, hf⟩ := h
  rw [cells_dop] at hcs
  obtain ⟨k, n, b, l, he, hO⟩ := open_dop_cells (cs := cs.toList) (by simpa using hcs) hf (fun m hm => by
    have := List.all_eq_true.1 hsz _ (DataW.weights_mem_each ht hd _ hm)
    simpa using this)
  exact ⟨k, n, b, l, by rw [← he], hO⟩

/-- a list of calls in memory -/
structure DOps (W : World) (a : Option Addr) (len cap : Nat) : Prop where
  le : len ≤ cap
  most : cap ≤ maxLen
  each : len ≠ 0 → ∃ b off, a = some ⟨b, off, none⟩ ∧ ∀ i, i < len → ∃ k n x l, W.cell? ⟨b, off + i * 4, none⟩ = some (.int .i64 k) ∧ W.cell? ⟨b, off + i * 4 + 1, none⟩ = some (.int .i64 n) ∧ W.cell? ⟨b, off + i * 4 + 2, none⟩ = some x ∧ W.cell? ⟨b, off + i * 4 + 3, none⟩ = some l ∧ DOp W k n x l
theorem add_at' (b off i : Nat) : (⟨b, off, none⟩ : Addr).add i = ⟨b, off + i, none⟩ := by unfold Addr.add; split <;> simp_all
theorem all_weights' {H : Type} {P : Program} {e : TypeId} {l : List (DataW H)} {d : DataW H} (h : d ∈ l) : ∀ n ∈ d.weights P e, n ∈ DataW.weightsAll P e l := by
  induction l with
  | nil => cases h
  | cons x r ih =>
    intro n hn
    rw [DataW.weightsAll]
    rcases List.mem_cons.1 h with e | e
    · subst e; exact List.mem_append_left _ hn
    · exact List.mem_append_right _ (ih e n hn)
theorem open_dops {H : Type} {enc : TypeId × Value → H} {W : World} {r : Reach} {b0 : Nat} {v : Value} {d : DataW H} {p : List MemPlace} {ts : List TypeId} {ds : List (DataW H)} {j : Nat}
    (hv : Value.okWide Try.prog W r b0 23 v) (h : DataW.Trod enc Try.prog W 0 (fun _ => true) true 23 v d p)
    (hsz : (DataW.weightsEach Try.prog ts ds).all (· ≤ reachBytes) = true) (ht : ts[j]? = some 23) (hd : ds[j]? = some d) :
    ∃ a len cap, v = .slice a len cap ∧ DOps W a len cap := by
  obtain ⟨a, len, cap, rfl⟩ := okWide_slice Try.underlying23 hv
  obtain ⟨fuel, hf⟩ := h
  refine ⟨a, len, cap, rfl, ?_⟩
  rcases open_slice Try.underlying23 hf with ⟨hcs, hx⟩ | ⟨x, len', cap', m, n, D, Pl, hcs, hb, hl, hm, hmm, hx, hel⟩
  · simp [Value.cells] at hcs
    obtain ⟨rfl, rfl, rfl⟩ := hcs
    exact ⟨Nat.le_refl _, by simp, fun h => absurd rfl h⟩
  · simp [Value.cells] at hcs
    obtain ⟨rfl, rfl, rfl⟩ := hcs
    simp at hmm
    subst hmm
    simp only [Prod.mk.injEq] at hx
    refine ⟨hl, hm, fun h0 => ?_⟩
    have hspot : x.spot = none := by
      obtain ⟨cs', h1, _⟩ := hel 0 (by omega)
      rw [cells_dop] at h1
      obtain ⟨_, hlen, hcell⟩ := World.cells?_some h1
      have := World.cell?_spot ((hcell 0 (by omega)).trans (List.getElem?_eq_getElem (by omega)))
      simpa [Addr.add] using this
    obtain ⟨b, off, spot⟩ := x
    simp only at hspot
    subst hspot
    refine ⟨b, off, rfl, fun i hi => ?_⟩
    obtain ⟨cs', h1, h2⟩ := hel i (by omega)
    rw [cells_dop] at h1
    obtain ⟨_, hlen, hcell⟩ := World.cells?_some h1
    have hmem : D i ∈ (List.range len).map D := List.mem_map.2 ⟨i, List.mem_range.2 hi, rfl⟩
    obtain ⟨k, n', bb, ll, rfl, hO⟩ := open_dop_cells hlen h2 (fun m hm => by
      have m3 : m ∈ DataW.weights Try.prog 23 d := by
        rw [hx.1, DataW.weights, Try.underlying23]
        exact List.mem_cons_of_mem _ (List.mem_append_left _ (all_weights' hmem _ hm))
      have := List.all_eq_true.1 hsz _ (DataW.weights_mem_each ht hd _ m3)
      simpa using this)
    have e0 := hcell 0 (by omega)
    have e1 := hcell 1 (by omega)
    have e2 := hcell 2 (by omega)
    have e3 := hcell 3 (by omega)
    simp only [add_at', List.getElem?_cons_zero, List.getElem?_cons_succ, Nat.add_zero] at e0 e1 e2 e3
    exact ⟨k, n', bb, ll, e0, e1, e2, e3, hO⟩
theorem open_i64s {H : Type} {enc : TypeId × Value → H} {W : World} {r : Reach} {b0 : Nat} {v : Value} {d : DataW H} {p : List MemPlace} {ts : List TypeId} {ds : List (DataW H)} {j : Nat}
    (hv : Value.okWide Try.prog W r b0 42 v) (h : DataW.Trod enc Try.prog W 0 (fun _ => true) true 42 v d p)
    (hsz : (DataW.weightsEach Try.prog ts ds).all (· ≤ reachBytes) = true) (ht : ts[j]? = some 42) (hd : ds[j]? = some d) :
    ∃ a len cap l, v = .slice a len cap ∧ IArg 140737488351232 W a len cap l := by
  obtain ⟨a, len, cap, rfl⟩ := okWide_slice Try.underlying42 hv
  obtain ⟨fuel, hf⟩ := h
  obtain ⟨a', len', cap', l, he, hA, hP⟩ := open_i64_cells (v := .slice a len cap) (by simpa [Value.cells] using hf)
  cases he
  refine ⟨a, len, cap, l, rfl, hA _ ?_⟩
  rcases hP with ⟨_, rfl⟩ | ⟨es, sp, rfl, rfl⟩
  · omega
  · have := sized_slice hsz ht hd Try.underlying42
    rw [bytes_int] at this
    unfold reachBytes at this
    omega
end Go.Proofs.Ytmhnlfgakpelkaa
