/- Numbers, and calls of three numbers, from their row's shape to plain values. -/
import Derived.Test.YtdagekciipfnoaaXWrap
import Derived.Test.YtdagekciipfnoaaXMp
import Derived.Deep.SlicePairs
namespace Go.Proofs.Ytdagekciipfnoaa
open Go.ChangeShapes Go.WideShapes Go.ChangeAt Go.RowKit Go.Deep
set_option linter.unusedVariables false
set_option maxRecDepth 100000

/-- a list of numbers in memory -/
structure NArg (W : World) (a : Option Addr) (len cap : Nat) : Prop where
  le : len ≤ cap
  most : cap ≤ maxLen
  each : len ≠ 0 → ∃ b off, a = some ⟨b, off, none⟩ ∧ ∀ i, i < len → ∃ z, W.cell? ⟨b, off + i, none⟩ = some (.int .i64 z) ∧ I64 z
/-- a list of calls in memory -/
structure TArg (W : World) (a : Option Addr) (len cap : Nat) : Prop where
  le : len ≤ cap
  most : cap ≤ maxLen
  each : len ≠ 0 → ∃ b off, a = some ⟨b, off, none⟩ ∧ ∀ i, i < len → ∃ k x y, W.cell? ⟨b, off + i * 3, none⟩ = some (.int .i64 k) ∧ W.cell? ⟨b, off + i * 3 + 1, none⟩ = some (.int .i64 x) ∧ W.cell? ⟨b, off + i * 3 + 2, none⟩ = some (.int .i64 y) ∧ I64 k ∧ I64 x ∧ I64 y
theorem NArg.later {w w' : World} {a : Option Addr} {len cap : Nat} (h : NArg w a len cap) (hb : Below w.heap.size w w') : NArg w' a len cap :=
  ⟨h.le, h.most, fun h0 => by obtain ⟨b, off, e, hc⟩ := h.each h0; exact ⟨b, off, e, fun i hi => by obtain ⟨z, h1, h2⟩ := hc i hi; exact ⟨z, cell_later hb h1, h2⟩⟩⟩
theorem TArg.later {w w' : World} {a : Option Addr} {len cap : Nat} (h : TArg w a len cap) (hb : Below w.heap.size w w') : TArg w' a len cap :=
  ⟨h.le, h.most, fun h0 => by obtain ⟨b, off, e, hc⟩ := h.each h0; exact ⟨b, off, e, fun i hi => by obtain ⟨k, x, y, h1, h2, h3, h4⟩ := hc i hi; exact ⟨k, x, y, cell_later hb h1, cell_later hb h2, cell_later hb h3, h4⟩⟩⟩
theorem add_at7 (b off i : Nat) : (⟨b, off, none⟩ : Addr).add i = ⟨b, off + i, none⟩ := by unfold Addr.add; split <;> simp_all
theorem i64_wf {z : Int} (h : (Lit.int .i64 z).wf = true) : I64 z := i64_of_wf h
theorem open_nums (LT E : TypeId) (hL : Try.prog.underlying LT = some (.slice E)) (hE : Try.prog.underlying E = some (.int .i64)) (hc1 : Try.prog.cellsOf E = 1)
    {H : Type} {enc : TypeId × Value → H} {W : World} {r : Reach} {b0 : Nat} {v : Value} {d : DataW H} {p : List MemPlace}
    (hv : Value.okWide Try.prog W r b0 LT v) (h : DataW.Trod enc Try.prog W 0 (fun _ => true) true LT v d p) :
    ∃ a len cap, v = .slice a len cap ∧ NArg W a len cap := by
  obtain ⟨a, len, cap, rfl⟩ := okWide_slice hL hv
  obtain ⟨fuel, hf⟩ := h
  refine ⟨a, len, cap, rfl, ?_⟩
  rcases open_ints hL hE hc1 hf with ⟨hcs, hx⟩ | ⟨x, len', cap', zs, hcs, _, hl, hm, hz, hx, hcell, hwz⟩
  · simp [Value.cells] at hcs
    obtain ⟨rfl, rfl, rfl⟩ := hcs
    exact ⟨Nat.le_refl _, by simp, fun h => absurd rfl h⟩
  · simp [Value.cells] at hcs
    obtain ⟨rfl, rfl, rfl⟩ := hcs
    have hz' : zs.length = cap := by simpa using hz
    refine ⟨hl, hm, fun h0 => ?_⟩
    obtain ⟨b, off, spot⟩ := x
    have hspot : spot = none := by simpa [Addr.add] using World.cell?_spot (hcell 0 (by omega))
    subst hspot
    refine ⟨b, off, rfl, fun i hi => ?_⟩
    have hc := hcell i (by omega)
    rw [add_at7] at hc
    exact ⟨_, hc, i64_wf (hwz _ (by rw [List.getD, List.getElem?_eq_getElem (show i < zs.length by omega)]; exact List.getElem_mem _))⟩
theorem open_trip_cells (E : TypeId) (hu : ∃ f0 f1 f2, Try.prog.underlying E = some (.struct #[f0, f1, f2]) ∧ (f0.offset = 0 ∧ f1.offset = 1 ∧ f2.offset = 2) ∧ (Try.prog.cellsOf f0.type = 1 ∧ Try.prog.cellsOf f1.type = 1 ∧ Try.prog.cellsOf f2.type = 1) ∧ (Try.prog.underlying f0.type = some (.int .i64) ∧ Try.prog.underlying f1.type = some (.int .i64) ∧ Try.prog.underlying f2.type = some (.int .i64)))
    {H : Type} {enc : TypeId × Value → H} {W : World} {cs : List Value} {d : DataW H} {p : List MemPlace} {fuel : Nat} (hlen : cs.length = 3)
    (hf : DataW.trod enc Try.prog W 0 (fun _ => true) true fuel E cs = some (d, p)) :
    ∃ k x y, cs = [.int .i64 k, .int .i64 x, .int .i64 y] ∧ I64 k ∧ I64 x ∧ I64 y := by
  obtain ⟨f0, f1, f2, hu, ⟨o0, o1, o2⟩, ⟨c0, c1, c2⟩, ⟨u0, u1, u2⟩⟩ := hu
  obtain ⟨xs, k, hk, hxy, _, hxl, hfl⟩ := DataW.trod_struct hu hf
  match xs, hxl, cs, hlen with
  | [y0, y1, y2], _, [v0, v1, v2], _ =>
    have g0 := hfl 0 f0 rfl
    have g1 := hfl 1 f1 rfl
    have g2 := hfl 2 f2 rfl
    simp [o0, o1, o2, c0, c1, c2] at g0 g1 g2
    obtain ⟨z0, q0, _, w0⟩ := DataW.trod_int u0 g0
    obtain ⟨z1, q1, _, w1⟩ := DataW.trod_int u1 g1
    obtain ⟨z2, q2, _, w2⟩ := DataW.trod_int u2 g2
    simp at q0 q1 q2
    subst q0 q1 q2
    exact ⟨z0, z1, z2, rfl, i64_wf w0, i64_wf w1, i64_wf w2⟩
theorem open_trips (LT E : TypeId) (hL : Try.prog.underlying LT = some (.slice E)) (hc3 : Try.prog.cellsOf E = 3)
    (hu : ∃ f0 f1 f2, Try.prog.underlying E = some (.struct #[f0, f1, f2]) ∧ (f0.offset = 0 ∧ f1.offset = 1 ∧ f2.offset = 2) ∧ (Try.prog.cellsOf f0.type = 1 ∧ Try.prog.cellsOf f1.type = 1 ∧ Try.prog.cellsOf f2.type = 1) ∧ (Try.prog.underlying f0.type = some (.int .i64) ∧ Try.prog.underlying f1.type = some (.int .i64) ∧ Try.prog.underlying f2.type = some (.int .i64)))
    {H : Type} {enc : TypeId × Value → H} {W : World} {r : Reach} {b0 : Nat} {v : Value} {d : DataW H} {p : List MemPlace}
    (hv : Value.okWide Try.prog W r b0 LT v) (h : DataW.Trod enc Try.prog W 0 (fun _ => true) true LT v d p) :
    ∃ a len cap, v = .slice a len cap ∧ TArg W a len cap := by
  obtain ⟨a, len, cap, rfl⟩ := okWide_slice hL hv
  obtain ⟨fuel, hf⟩ := h
  refine ⟨a, len, cap, rfl, ?_⟩
  rcases open_slice hL hf with ⟨hcs, hx⟩ | ⟨x, len', cap', m, n, D, Pl, hcs, hb, hl, hm, hmm, hx, hel⟩
  · simp [Value.cells] at hcs
    obtain ⟨rfl, rfl, rfl⟩ := hcs
    exact ⟨Nat.le_refl _, by simp, fun h => absurd rfl h⟩
  · simp [Value.cells] at hcs
    obtain ⟨rfl, rfl, rfl⟩ := hcs
    simp at hmm
    subst hmm
    refine ⟨hl, hm, fun h0 => ?_⟩
    have hspot : x.spot = none := by
      obtain ⟨cs', h1, _⟩ := hel 0 (by omega)
      rw [hc3] at h1
      obtain ⟨_, hlen, hcell⟩ := World.cells?_some h1
      have := World.cell?_spot ((hcell 0 (by omega)).trans (List.getElem?_eq_getElem (by omega)))
      simpa [Addr.add] using this
    obtain ⟨b, off, spot⟩ := x
    simp only at hspot
    subst hspot
    refine ⟨b, off, rfl, fun i hi => ?_⟩
    obtain ⟨cs', h1, h2⟩ := hel i (by omega)
    rw [hc3] at h1
    obtain ⟨_, hlen, hcell⟩ := World.cells?_some h1
    obtain ⟨k, x, y, rfl, hO⟩ := open_trip_cells E hu hlen h2
    have e0 := hcell 0 (by omega)
    have e1 := hcell 1 (by omega)
    have e2 := hcell 2 (by omega)
    simp only [add_at7, List.getElem?_cons_zero, List.getElem?_cons_succ, Nat.add_zero] at e0 e1 e2
    exact ⟨k, x, y, e0, e1, e2, hO⟩
theorem cells1_int64 : Try.prog.cellsOf 2 = 1 := by kernel_rfl
theorem cells1_int7 : Try.prog.cellsOf 3 = 1 := by kernel_rfl
section
variable {H : Type} {enc : TypeId × Value → H} {W : World} {r : Reach} {b0 : Nat} {v : Value} {d : DataW H} {p : List MemPlace} {ts : List TypeId} {ds : List (DataW H)} {j : Nat}

theorem open_nints (hv : Value.okWide Try.prog W r b0 23 v) (h : DataW.Trod enc Try.prog W 0 (fun _ => true) true 23 v d p) (hsz : (DataW.weightsEach Try.prog ts ds).all (· ≤ reachBytes) = true) (ht : ts[j]? = some 23) (hd : ds[j]? = some d) : ∃ a len cap, v = .slice a len cap ∧ NArg W a len cap :=
  open_nums 23 3 Try.underlying23 Try.underlying3 cells1_int7 hv h


end
end Go.Proofs.Ytdagekciipfnoaa

