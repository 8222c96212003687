/- Calls of a world that came in. -/
import Derived.Test.YtjfodmdijajfbaaWoShape
import Derived.Test.YtjfodmdijajfbaaMp
import Derived.Test.YtjfodmdijajfbaaDkOps
import Derived.Deep.SlicePairs
namespace Go.Proofs.Ytjfodmdijajfbaa
open Go.ChangeShapes Go.WideShapes Go.ChangeAt Go.RowKit Go.Deep
set_option linter.unusedVariables false
set_option maxRecDepth 100000

/-- the values of one call -/
structure WOp (W : World) (k f n : Int) (b : Value) : Prop where
  kinds : I64 k
  froms : I64 f
  nums : I64 n
  bytes : ∃ a len cap x, b = .slice a len cap ∧ Arg 140737488351232 W a len cap x
theorem open_wop_cells {H : Type} {enc : TypeId × Value → H} {W : World} {cs : List Value} {d : DataW H} {p : List MemPlace} {fuel : Nat} (hlen : cs.length = 4)
    (hf : DataW.trod enc Try.prog W 0 (fun _ => true) true fuel 34 cs = some (d, p)) (hwt : ∀ n ∈ d.weights Try.prog 34, n ≤ reachBytes) :
    ∃ k f n b, cs = [.int .i64 k, .int .i64 f, .int .i64 n, b] ∧ WOp W k f n b := by
  obtain ⟨f0, f1, f2, f3, hu, ⟨o0, o1, o2, o3⟩, ⟨c0, c1, c2, c3⟩, ⟨u0, u1, u2, u3⟩⟩ := under_wop
  obtain ⟨xs, k, hk, hxy, _, hxl, hfl⟩ := DataW.trod_struct hu hf
  match xs, hxl, cs, hlen with
  | [y0, y1, y2, y3], _, [v0, v1, v2, v3], _ =>
    have g0 := hfl 0 f0 rfl
    have g1 := hfl 1 f1 rfl
    have g2 := hfl 2 f2 rfl
    have g3 := hfl 3 f3 rfl
    simp [o0, o1, o2, o3, c0, c1, c2, c3] at g0 g1 g2 g3
    obtain ⟨z0, q0, _, w0⟩ := DataW.trod_int u0 g0
    obtain ⟨z1, q1, _, w1⟩ := DataW.trod_int u1 g1
    obtain ⟨z2, q2, _, w2⟩ := DataW.trod_int u2 g2
    simp at q0 q1 q2
    subst q0 q1 q2
    rw [u3] at g3
    obtain ⟨y3d, y3p⟩ := y3
    obtain ⟨a3, l3, p3, x3, rfl, hA3, hP3⟩ := open_bytes_cells' g3
    simp only [Prod.mk.injEq] at hxy
    have hd : d = .agg [y0.1, y1.1, y2.1, y3d] := hxy.1
    have b3 : p3 ≤ 140737488351232 := by
      rcases hP3 with ⟨_, rfl⟩ | ⟨es, sp, rfl, rfl⟩
      · omega
      · have m1 : (es.length + sp.length) * 1 ∈ DataW.weights Try.prog 32 (DataW.slice es sp) := by simp [DataW.weights, Try.underlying32, bytes_u8]
        have m2 : (es.length + sp.length) * 1 ∈ DataW.weights Try.prog 34 d := by
          rw [hd, DataW.weights, hu]
          exact DataW.weights_mem_each (j := 3) (t := 32) (by simp [u3]) (by rfl) _ m1
        have := hwt _ m2
        unfold reachBytes at this
        omega
    exact ⟨z0, z1, z2, _, rfl, i64_of_wf w0, i64_of_wf w1, i64_of_wf w2, ⟨a3, l3, p3, x3, rfl, hA3 _ b3⟩⟩
/-- a list of calls in memory -/
structure WOps (W : World) (a : Option Addr) (len cap : Nat) : Prop where
  le : len ≤ cap
  most : cap ≤ maxLen
  each : len ≠ 0 → ∃ b off, a = some ⟨b, off, none⟩ ∧ ∀ i, i < len → ∃ k f n x, W.cell? ⟨b, off + i * 4, none⟩ = some (.int .i64 k) ∧ W.cell? ⟨b, off + i * 4 + 1, none⟩ = some (.int .i64 f) ∧ W.cell? ⟨b, off + i * 4 + 2, none⟩ = some (.int .i64 n) ∧ W.cell? ⟨b, off + i * 4 + 3, none⟩ = some x ∧ WOp W k f n x
theorem open_wops {H : Type} {enc : TypeId × Value → H} {W : World} {r : Reach} {b0 : Nat} {v : Value} {d : DataW H} {p : List MemPlace} {ts : List TypeId} {ds : List (DataW H)} {j : Nat}
    (hv : Value.okWide Try.prog W r b0 22 v) (h : DataW.Trod enc Try.prog W 0 (fun _ => true) true 22 v d p)
    (hsz : (DataW.weightsEach Try.prog ts ds).all (· ≤ reachBytes) = true) (ht : ts[j]? = some 22) (hd : ds[j]? = some d) :
    ∃ a len cap, v = .slice a len cap ∧ WOps W a len cap := by
  obtain ⟨a, len, cap, rfl⟩ := okWide_slice Try.underlying22 hv
  obtain ⟨fuel, hf⟩ := h
  refine ⟨a, len, cap, rfl, ?_⟩
  rcases open_slice Try.underlying22 hf with ⟨hcs, hx⟩ | ⟨x, len', cap', m, n, D, Pl, hcs, hb, hl, hm, hmm, hx, hel⟩
  · simp [Value.cells] at hcs
    obtain ⟨rfl, rfl, rfl⟩ := hcs
    exact ⟨Nat.le_refl _, by simp, fun h => absurd rfl h⟩
  · simp [Value.cells] at hcs
    obtain ⟨rfl, rfl, rfl⟩ := hcs
    simp at hmm
    subst hmm
    simp only [Prod.mk.injEq] at hx
    refine ⟨hl, hm, fun h0 => ?_⟩
    have hspot : x.spot = none := by
      obtain ⟨cs', h1, _⟩ := hel 0 (by omega)
      rw [cells_wop] at h1
      obtain ⟨_, hlen, hcell⟩ := World.cells?_some h1
      have := World.cell?_spot ((hcell 0 (by omega)).trans (List.getElem?_eq_getElem (by omega)))
      simpa [Addr.add] using this
    obtain ⟨b, off, spot⟩ := x
    simp only at hspot
    subst hspot
    refine ⟨b, off, rfl, fun i hi => ?_⟩
    obtain ⟨cs', h1, h2⟩ := hel i (by omega)
    rw [cells_wop] at h1
    obtain ⟨_, hlen, hcell⟩ := World.cells?_some h1
    have hmem : D i ∈ (List.range len).map D := List.mem_map.2 ⟨i, List.mem_range.2 hi, rfl⟩
    obtain ⟨k, f, n', bb, rfl, hO⟩ := open_wop_cells hlen h2 (fun m hm => by
      have m3 : m ∈ DataW.weights Try.prog 22 d := by
        rw [hx.1, DataW.weights, Try.underlying22]
        exact List.mem_cons_of_mem _ (List.mem_append_left _ (all_weights' hmem _ hm))
      have := List.all_eq_true.1 hsz _ (DataW.weights_mem_each ht hd _ m3)
      simpa using this)
    have e0 := hcell 0 (by omega)
    have e1 := hcell 1 (by omega)
    have e2 := hcell 2 (by omega)
    have e3 := hcell 3 (by omega)
    simp only [add_at', List.getElem?_cons_zero, List.getElem?_cons_succ, Nat.add_zero] at e0 e1 e2 e3
    exact ⟨k, f, n', bb, e0, e1, e2, e3, hO⟩
end Go.Proofs.Ytjfodmdijajfbaa
