/- A slice of operations, from its row's shape to plain cells. -/
import Derived.Test.YtkajedabcedifabWrap
import Derived.Deep.SlicePairs
namespace Go.Proofs.Ytkajedabcedifab
open Go.ChangeShapes Go.WideShapes Go.ChangeAt Go.RowKit Go.Deep

theorem open_bytes_cells {H : Type} {enc : TypeId × Value → H} {W : World} {v : Value} {d : DataW H} {p : List MemPlace} {fuel : Nat}
    (hf : DataW.trod enc Try.prog W 0 (fun _ => true) true fuel 22 [v] = some (d, p)) :
    ∃ a len cap l, v = .slice a len cap ∧ (∀ B, cap ≤ B → Arg B W a len cap l) ∧ Places d cap := by
  rcases open_ints Try.underlying22 Try.underlying5 cells1_u8 hf with ⟨hcs, hx⟩ | ⟨x, len, cap, zs, hcs, _, hl, hm, hz, hx, hcell, hwz⟩
  · simp at hcs
    subst hcs
    simp only [Prod.mk.injEq] at hx
    exact ⟨none, 0, 0, [], rfl, fun B hB => ⟨rfl, Nat.le_refl _, hB, .inl rfl, fun _ => rfl⟩, .inl ⟨hx.1, rfl⟩⟩
  · simp at hcs
    subst hcs
    simp only [Prod.mk.injEq] at hx
    have hz' : zs.length = cap := by simpa using hz
    refine ⟨_, _, _, (zs.take len).map fun n => BitVec.ofNat 8 n.toNat, rfl, fun B hB => ⟨by simp; omega, hl, hB, ?_, fun h => by cases h⟩, .inr ⟨_, _, hx.1, by simp [lits]; omega⟩⟩
    by_cases h0 : len = 0
    · exact .inl (by simp [h0])
    · obtain ⟨b, off, spot⟩ := x
      have hspot : spot = none := by simpa [Addr.add] using World.cell?_spot (hcell 0 (by omega))
      subst hspot
      refine .inr ⟨b, off, rfl, fun i hi => ?_⟩
      have hi' : i < len := by simp at hi; omega
      have hc := hcell i (by omega)
      have e : (⟨b, off, none⟩ : Addr).add i = ⟨b, off + i, none⟩ := by unfold Addr.add; split <;> simp_all
      rw [e] at hc
      rw [hc]
      have hw := hwz (zs[i]'(by omega)) (List.getElem_mem _)
      simp [Lit.wf, IntKind.min, IntKind.max, IntKind.signed, IntKind.bits] at hw
      unfold bt
      simp only [List.getD, List.getElem?_map, List.getElem?_take, hi', if_true, List.getElem?_eq_getElem (show i < zs.length by omega), Option.map_some, Option.getD_some, BitVec.toNat_ofNat]
      congr 2
      omega

/-- the cells of one operation -/
structure OpAt (W : World) (b off : Nat) (k s n : Int) (p : Value) : Prop where
  kind : W.cell? ⟨b, off, none⟩ = some (.int .i64 k)
  size : W.cell? ⟨b, off + 1, none⟩ = some (.int .i64 s)
  num : W.cell? ⟨b, off + 2, none⟩ = some (.int .i64 n)
  part : W.cell? ⟨b, off + 3, none⟩ = some p
  kinds : -9223372036854775808 ≤ k ∧ k ≤ 9223372036854775807
  sizes : -9223372036854775808 ≤ s ∧ s ≤ 9223372036854775807
  nums : -9223372036854775808 ≤ n ∧ n ≤ 9223372036854775807

/-- a slice of operations; Q tells of each one's bytes -/
structure Ops (Q : Value → Prop) (W : World) (a : Option Addr) (len cap : Nat) : Prop where
  le : len ≤ cap
  most : cap ≤ maxLen
  each : len ≠ 0 → ∃ b off, a = some ⟨b, off, none⟩ ∧ ∀ i, i < len → ∃ k s n p, OpAt W b (off + i * 4) k s n p ∧ Q p

theorem Ops.mono {Q Q' : Value → Prop} {W : World} {a : Option Addr} {len cap : Nat} (h : Ops Q W a len cap) (hq : ∀ u, Q u → Q' u) : Ops Q' W a len cap :=
  ⟨h.le, h.most, fun h0 => by
    obtain ⟨b, off, ha, hx⟩ := h.each h0
    exact ⟨b, off, ha, fun i hi => by obtain ⟨k, s, n, p, h1, h2⟩ := hx i hi; exact ⟨k, s, n, p, h1, hq p h2⟩⟩⟩

theorem cells_op : Try.prog.cellsOf 56 = 4 := by kernel_rfl
theorem under_op : ∃ f0 f1 f2 f3, Try.prog.underlying 56 = some (.struct #[f0, f1, f2, f3]) ∧ (f0.offset = 0 ∧ f1.offset = 1 ∧ f2.offset = 2 ∧ f3.offset = 3) ∧
    (Try.prog.cellsOf f0.type = 1 ∧ Try.prog.cellsOf f1.type = 1 ∧ Try.prog.cellsOf f2.type = 1 ∧ Try.prog.cellsOf f3.type = 1) ∧
    (Try.prog.underlying f0.type = some (.int .i64) ∧ Try.prog.underlying f1.type = some (.int .i64) ∧ Try.prog.underlying f2.type = some (.int .i64) ∧ f3.type = 22) := by
  refine ⟨_, _, _, _, Try.underlying56, ⟨rfl, rfl, rfl, rfl⟩, ⟨by kernel_rfl, by kernel_rfl, by kernel_rfl, by kernel_rfl⟩, ⟨?_, ?_, ?_, rfl⟩⟩
  · exact Try.underlying3
  · exact Try.underlying3
  · exact Try.underlying2

theorem add_at (b off i : Nat) : (⟨b, off, none⟩ : Addr).add i = ⟨b, off + i, none⟩ := by unfold Addr.add; split <;> simp_all

theorem open_ops {H : Type} {enc : TypeId × Value → H} {W : World} {r : Reach} {b0 : Nat} {v : Value} {d : DataW H} {p : List MemPlace}
    (hv : Value.okWide Try.prog W r b0 49 v) (h : DataW.Trod enc Try.prog W 0 (fun _ => true) true 49 v d p) :
    ∃ a len cap, v = .slice a len cap ∧ Ops (fun u => ∃ ap lp cp l dP es sp e, d = .slice es sp ∧ e ∈ es ∧ (∃ d0 d1 d2, e = .agg [d0, d1, d2, dP]) ∧ u = .slice ap lp cp ∧ (∀ B, cp ≤ B → Arg B W ap lp cp l) ∧ Places dP cp) W a len cap := by
  obtain ⟨a, len, cap, rfl⟩ := okWide_slice Try.underlying49 hv
  obtain ⟨fuel, hf⟩ := h
  obtain ⟨f0, f1, f2, f3, hu, ⟨o0, o1, o2, o3⟩, ⟨c0, c1, c2, c3⟩, ⟨u0, u1, u2, u3⟩⟩ := under_op
  refine ⟨a, len, cap, rfl, ?_⟩
  rcases open_slice Try.underlying49 hf with ⟨hcs, hx⟩ | ⟨x, len', cap', m, n, D, Pl, hcs, hb, hl, hm, hmm, hx, hel⟩
  · simp [Value.cells] at hcs
    obtain ⟨rfl, rfl, rfl⟩ := hcs
    exact ⟨Nat.le_refl _, by simp, fun h => absurd rfl h⟩
  · simp [Value.cells] at hcs
    obtain ⟨rfl, rfl, rfl⟩ := hcs
    simp at hmm
    subst hmm
    simp only [Prod.mk.injEq] at hx
    refine ⟨hl, hm, fun h0 => ?_⟩
    have hspot : x.spot = none := by
      obtain ⟨cs', h1, _⟩ := hel 0 (by omega)
      rw [cells_op] at h1
      obtain ⟨_, hlen, hcell⟩ := World.cells?_some h1
      have := World.cell?_spot ((hcell 0 (by omega)).trans (List.getElem?_eq_getElem (by omega)))
      simpa [Addr.add] using this
    obtain ⟨b, off, spot⟩ := x
    simp only at hspot
    subst hspot
    refine ⟨b, off, rfl, fun i hi => ?_⟩
    obtain ⟨cs', h1, h2⟩ := hel i (by omega)
    rw [cells_op] at h1
    obtain ⟨_, hlen, hcell⟩ := World.cells?_some h1
    obtain ⟨xs, k, hk, hxy, _, hxl, hfl⟩ := DataW.trod_struct hu h2
    match xs, hxl, cs', hlen with
    | [y0, y1, y2, y3], _, [v0, v1, v2, v3], _ =>
      have g0 := hfl 0 f0 rfl
      have g1 := hfl 1 f1 rfl
      have g2 := hfl 2 f2 rfl
      have g3 := hfl 3 f3 rfl
      simp [o0, o1, o2, o3, c0, c1, c2, c3] at g0 g1 g2 g3
      have e0 := hcell 0 (by omega)
      have e1 := hcell 1 (by omega)
      have e2 := hcell 2 (by omega)
      have e3 := hcell 3 (by omega)
      simp only [add_at, List.getElem?_cons_zero, List.getElem?_cons_succ, Nat.add_zero] at e0 e1 e2 e3
      obtain ⟨z0, q0, _, w0⟩ := DataW.trod_int u0 g0
      obtain ⟨z1, q1, _, w1⟩ := DataW.trod_int u1 g1
      obtain ⟨z2, q2, _, w2⟩ := DataW.trod_int u2 g2
      simp at q0 q1 q2
      subst q0 q1 q2
      rw [u3] at g3
      obtain ⟨y3d, y3p⟩ := y3
      obtain ⟨ap, lp, cp, l, rfl, hA, hP⟩ := open_bytes_cells g3
      simp only [Prod.mk.injEq] at hxy
      refine ⟨z0, z1, z2, _, ⟨e0, e1, e2, e3, i64_of_wf w0, i64_of_wf w1, i64_of_wf w2⟩, ap, lp, cp, l, y3d, _, _, D i, hx.1, ?_, ⟨_, _, _, hxy.1⟩, rfl, hA, hP⟩
      exact List.mem_map.2 ⟨i, List.mem_range.2 hi, rfl⟩

theorem open_ops_shape {H : Type} {enc : TypeId × Value → H} {W : World} {r : Reach} {b0 : Nat} {v : Value} {d : DataW H} {p : List MemPlace}
    (hv : Value.okWide Try.prog W r b0 49 v) (h : DataW.Trod enc Try.prog W 0 (fun _ => true) true 49 v d p) :
    ∃ a len cap, v = .slice a len cap ∧ Ops (fun u => ∃ ap lp cp, u = .slice ap lp cp) W a len cap := by
  obtain ⟨a, len, cap, rfl, ho⟩ := open_ops hv h
  refine ⟨a, len, cap, rfl, ho.mono ?_⟩
  rintro u ⟨ap, lp, cp, _, _, _, _, _, _, _, _, hu, _, _⟩
  exact ⟨ap, lp, cp, hu⟩
end Go.Proofs.Ytkajedabcedifab
