/- Acts of window that came in. -/
import Derived.Test.YtmbnhagfihphiaaOpA
namespace Go.Proofs.Ytmbnhagfihphiaa
open Go.ChangeShapes Go.WideShapes Go.ChangeAt Go.RowKit Go.Deep
set_option linter.unusedVariables false
set_option maxRecDepth 100000

theorem opn_u32 {z : Int} (w : (Lit.int .u32 z).wf = true) : ∃ y : BitVec 32, z = (y.toNat : Int) := by
  obtain ⟨y, h⟩ := u32_of_wf w
  exact ⟨y, h⟩
theorem cells_act19 : Try.prog.cellsOf 33 = 4 := by kernel_rfl
theorem under_act19 : ∃ f0 f1 f2 f3, Try.prog.underlying 33 = some (.struct #[f0, f1, f2, f3]) ∧ (f0.offset = 0 ∧ f1.offset = 1 ∧ f2.offset = 2 ∧ f3.offset = 3) ∧ (Try.prog.cellsOf f0.type = 1 ∧ Try.prog.cellsOf f1.type = 1 ∧ Try.prog.cellsOf f2.type = 1 ∧ Try.prog.cellsOf f3.type = 1) ∧ (Try.prog.underlying f0.type = some (.int .i64) ∧ Try.prog.underlying f1.type = some (.int .u32) ∧ Try.prog.underlying f2.type = some .bool ∧ Try.prog.underlying f3.type = some (.int .i64)) := by
  exact ⟨_, _, _, _, Try.underlying33, ⟨rfl, rfl, rfl, rfl⟩, ⟨by kernel_rfl, by kernel_rfl, by kernel_rfl, by kernel_rfl⟩, ⟨Try.underlying3, Try.underlying22, Try.underlying4, Try.underlying2⟩⟩
theorem opn_act19_cells {H : Type} {enc : TypeId × Value → H} {W : World} {cs : List Value} {d : DataW H} {p : List MemPlace} {fuel : Nat} (hlen : cs.length = 4)
    (hf : DataW.trod enc Try.prog W 0 (fun _ => true) true fuel 33 cs = some (d, p)) (hwt : ∀ n ∈ d.weights Try.prog 33, n ≤ reachBytes) :
    ∃ (z0 : Int) (z1 : BitVec 32) (z2 : Bool) (z3 : Int), cs = [.int .i64 z0, .int .u32 (z1.toNat : Int), .bool z2, .int .i64 z3] ∧ I64 z0 ∧ I64 z3 := by
  obtain ⟨f0, f1, f2, f3, hu, ⟨o0, o1, o2, o3⟩, ⟨c0, c1, c2, c3⟩, ⟨u0, u1, u2, u3⟩⟩ := under_act19
  obtain ⟨xs, k, hk, hxy, _, hxl, hfl⟩ := DataW.trod_struct hu hf
  match xs, hxl, cs, hlen with
  | [y0, y1, y2, y3], _, [v0, v1, v2, v3], _ =>
    simp only [Prod.mk.injEq] at hxy
    have hd : d = .agg [y0.1, y1.1, y2.1, y3.1] := hxy.1
    have g0 := hfl 0 f0 rfl
    have g1 := hfl 1 f1 rfl
    have g2 := hfl 2 f2 rfl
    have g3 := hfl 3 f3 rfl
    simp [o0, o1, o2, o3, c0, c1, c2, c3] at g0 g1 g2 g3
    obtain ⟨z0, q0, _, w0⟩ := DataW.trod_int u0 g0
    simp at q0
    subst q0
    obtain ⟨z1, q1, _, w1⟩ := DataW.trod_int u1 g1
    simp at q1
    subst q1
    obtain ⟨z1, rfl⟩ := opn_u32 w1
    obtain ⟨z2, q2, _⟩ := DataW.trod_bool u2 g2
    simp at q2
    subst q2
    obtain ⟨z3, q3, _, w3⟩ := DataW.trod_int u3 g3
    simp at q3
    subst q3
    exact ⟨z0, z1, z2, z3, rfl, i64_of_wf w0, i64_of_wf w3⟩
theorem open_act19 {H : Type} {enc : TypeId × Value → H} {W : World} {r : Reach} {b0 : Nat} {v : Value} {d : DataW H} {p : List MemPlace} {ts : List TypeId} {ds : List (DataW H)} {j : Nat}
    (hv : Value.okWide Try.prog W r b0 33 v) (h : DataW.Trod enc Try.prog W 0 (fun _ => true) true 33 v d p)
    (hsz : (DataW.weightsEach Try.prog ts ds).all (· ≤ reachBytes) = true) (ht : ts[j]? = some 33) (hd : ds[j]? = some d) :
    ∃ (z0 : Int) (z1 : BitVec 32) (z2 : Bool) (z3 : Int), v = .agg #[.int .i64 z0, .int .u32 (z1.toNat : Int), .bool z2, .int .i64 z3] ∧ I64 z0 ∧ I64 z3 := by
  obtain ⟨f0, f1, f2, f3, hu, _⟩ := under_act19
  obtain ⟨cs, rfl, hcs⟩ := okWide_struct hu hv
  obtain ⟨fuel, hf⟩ := h
  rw [cells_act19] at hcs
  obtain ⟨z0, z1, z2, z3, he, hO⟩ := opn_act19_cells (cs := cs.toList) (by simpa using hcs) hf (fun m hm => by
    have := List.all_eq_true.1 hsz _ (DataW.weights_mem_each ht hd _ hm)
    simpa using this)
  exact ⟨z0, z1, z2, z3, by rw [← he], hO⟩
/-- the struct number i of a slice -/
def Act19At (W : World) (b off i : Nat) : Prop := ∃ (z0 : Int) (z1 : BitVec 32) (z2 : Bool) (z3 : Int), W.cell? ⟨b, off + i * 4, none⟩ = some (.int .i64 z0) ∧ W.cell? ⟨b, off + i * 4 + 1, none⟩ = some (.int .u32 (z1.toNat : Int)) ∧ W.cell? ⟨b, off + i * 4 + 2, none⟩ = some (.bool z2) ∧ W.cell? ⟨b, off + i * 4 + 3, none⟩ = some (.int .i64 z3) ∧ I64 z0 ∧ I64 z3
structure Act19Arg (W : World) (a : Option Addr) (len cap : Nat) : Prop where
  le : len ≤ cap
  most : cap ≤ maxLen
  few : len ≤ 140737488355328
  each : len ≠ 0 → ∃ b off, a = some ⟨b, off, none⟩ ∧ ∀ i, i < len → Act19At W b off i
theorem bytes_act19 : Try.prog.bytesOf 33 = 24 := by kernel_rfl
theorem open_act19s {H : Type} {enc : TypeId × Value → H} {W : World} {r : Reach} {b0 : Nat} {v : Value} {d : DataW H} {p : List MemPlace} {ts : List TypeId} {ds : List (DataW H)} {j : Nat}
    (hv : Value.okWide Try.prog W r b0 23 v) (h : DataW.Trod enc Try.prog W 0 (fun _ => true) true 23 v d p)
    (hsz : (DataW.weightsEach Try.prog ts ds).all (· ≤ reachBytes) = true) (ht : ts[j]? = some 23) (hd : ds[j]? = some d) :
    ∃ a len cap, v = .slice a len cap ∧ Act19Arg W a len cap := by
  obtain ⟨a, len, cap, rfl⟩ := okWide_slice Try.underlying23 hv
  obtain ⟨fuel, hf⟩ := h
  refine ⟨a, len, cap, rfl, ?_⟩
  rcases open_slice Try.underlying23 hf with ⟨hcs, hx⟩ | ⟨x, len', cap', m, n, D, Pl, hcs, hb, hl, hm, hmm, hx, hel⟩
  · simp [Value.cells] at hcs
    obtain ⟨rfl, rfl, rfl⟩ := hcs
    exact ⟨Nat.le_refl _, by simp, by omega, fun h => absurd rfl h⟩
  · simp [Value.cells] at hcs
    obtain ⟨rfl, rfl, rfl⟩ := hcs
    simp at hmm
    subst hmm
    simp only [Prod.mk.injEq] at hx
    have hbound : len ≤ 140737488355328 := by
      have hd' := hd
      rw [hx.1] at hd'
      have := sized_slice hsz ht hd' Try.underlying23
      rw [bytes_act19, List.length_map, List.length_range] at this
      unfold reachBytes at this
      omega
    refine ⟨hl, hm, hbound, fun h0 => ?_⟩
    have hspot : x.spot = none := by
      obtain ⟨cs', h1, _⟩ := hel 0 (by omega)
      rw [cells_act19] at h1
      obtain ⟨_, hlen, hcell⟩ := World.cells?_some h1
      have := World.cell?_spot ((hcell 0 (by omega)).trans (List.getElem?_eq_getElem (by omega)))
      simpa [Addr.add] using this
    obtain ⟨b, off, spot⟩ := x
    simp only at hspot
    subst hspot
    refine ⟨b, off, rfl, fun i hi => ?_⟩
    obtain ⟨cs', h1, h2⟩ := hel i (by omega)
    rw [cells_act19] at h1
    obtain ⟨_, hlen, hcell⟩ := World.cells?_some h1
    have hmem : D i ∈ (List.range len).map D := List.mem_map.2 ⟨i, List.mem_range.2 hi, rfl⟩
    obtain ⟨z0, z1, z2, z3, rfl, hO⟩ := opn_act19_cells hlen h2 (fun m hm => by
      have m3 : m ∈ DataW.weights Try.prog 23 d := by
        rw [hx.1, DataW.weights, Try.underlying23]
        exact List.mem_cons_of_mem _ (List.mem_append_left _ (opn_weights hmem _ hm))
      have := List.all_eq_true.1 hsz _ (DataW.weights_mem_each ht hd _ m3)
      simpa using this)
    have e0 := hcell 0 (by omega)
    have e1 := hcell 1 (by omega)
    have e2 := hcell 2 (by omega)
    have e3 := hcell 3 (by omega)
    simp only [opn_add, List.getElem?_cons_zero, List.getElem?_cons_succ, Nat.add_zero] at e0 e1 e2 e3
    exact ⟨z0, z1, z2, z3, e0, e1, e2, e3, hO⟩
end Go.Proofs.Ytmbnhagfihphiaa
