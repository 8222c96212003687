/- Calls that came in. -/
import Derived.Test.YtkcbbaanlkpeiaaXDdA2
namespace Go.Proofs.Ytkcbbaanlkpeiaa
open Go.ChangeShapes Go.WideShapes Go.ChangeAt Go.RowKit Go.Deep
set_option linter.unusedVariables false
set_option maxRecDepth 100000

/-- the struct number i of a slice -/
def Op12At (W : World) (b off i : Nat) : Prop := ∃ (z0 : Int) (z1 : Int) (z2 : Int) (z3_0 : Int) (z3_1 : Int) (z3_2 : Int) (z3_3 : Int) (z3_4 : List (BitVec 8)) (z3_4x : Option Addr) (z3_4c : Nat), W.cell? ⟨b, off + i * 8, none⟩ = some (.int .i64 z0) ∧ W.cell? ⟨b, off + i * 8 + 1, none⟩ = some (.int .i64 z1) ∧ W.cell? ⟨b, off + i * 8 + 2, none⟩ = some (.int .i64 z2) ∧ W.cell? ⟨b, off + i * 8 + 3, none⟩ = some (.int .i64 z3_0) ∧ W.cell? ⟨b, off + i * 8 + 4, none⟩ = some (.int .i64 z3_1) ∧ W.cell? ⟨b, off + i * 8 + 5, none⟩ = some (.int .i64 z3_2) ∧ W.cell? ⟨b, off + i * 8 + 6, none⟩ = some (.int .i64 z3_3) ∧ W.cell? ⟨b, off + i * 8 + 7, none⟩ = some (.slice z3_4x z3_4.length z3_4c) ∧ I64 z0 ∧ I64 z1 ∧ I64 z2 ∧ I64 z3_0 ∧ I64 z3_1 ∧ I64 z3_2 ∧ I64 z3_3 ∧ DatOk W z3_4x z3_4 z3_4c
structure Op12Arg (W : World) (a : Option Addr) (len cap : Nat) : Prop where
  le : len ≤ cap
  most : cap ≤ maxLen
  few : len ≤ 140737488355328
  each : len ≠ 0 → ∃ b off, a = some ⟨b, off, none⟩ ∧ ∀ i, i < len → Op12At W b off i
theorem bytes_op12 : Try.prog.bytesOf 45 = 80 := by kernel_rfl
theorem open_op12s {H : Type} {enc : TypeId × Value → H} {W : World} {r : Reach} {b0 : Nat} {v : Value} {d : DataW H} {p : List MemPlace} {ts : List TypeId} {ds : List (DataW H)} {j : Nat}
    (hv : Value.okWide Try.prog W r b0 39 v) (h : DataW.Trod enc Try.prog W 0 (fun _ => true) true 39 v d p)
    (hsz : (DataW.weightsEach Try.prog ts ds).all (· ≤ reachBytes) = true) (ht : ts[j]? = some 39) (hd : ds[j]? = some d) :
    ∃ a len cap, v = .slice a len cap ∧ Op12Arg W a len cap := by
  obtain ⟨a, len, cap, rfl⟩ := okWide_slice Try.underlying39 hv
  obtain ⟨fuel, hf⟩ := h
  refine ⟨a, len, cap, rfl, ?_⟩
  rcases open_slice Try.underlying39 hf with ⟨hcs, hx⟩ | ⟨x, len', cap', m, n, D, Pl, hcs, hb, hl, hm, hmm, hx, hel⟩
  · simp [Value.cells] at hcs
    obtain ⟨rfl, rfl, rfl⟩ := hcs
    exact ⟨Nat.le_refl _, by simp, by omega, fun h => absurd rfl h⟩
  · simp [Value.cells] at hcs
    obtain ⟨rfl, rfl, rfl⟩ := hcs
    simp at hmm
    subst hmm
    simp only [Prod.mk.injEq] at hx
    have hbound : len ≤ 140737488355328 := by
      have hd' := hd
      rw [hx.1] at hd'
      have := sized_slice hsz ht hd' Try.underlying39
      rw [bytes_op12, List.length_map, List.length_range] at this
      unfold reachBytes at this
      omega
    refine ⟨hl, hm, hbound, fun h0 => ?_⟩
    have hspot : x.spot = none := by
      obtain ⟨cs', h1, _⟩ := hel 0 (by omega)
      rw [cells_op12] at h1
      obtain ⟨_, hlen, hcell⟩ := World.cells?_some h1
      have := World.cell?_spot ((hcell 0 (by omega)).trans (List.getElem?_eq_getElem (by omega)))
      simpa [Addr.add] using this
    obtain ⟨b, off, spot⟩ := x
    simp only at hspot
    subst hspot
    refine ⟨b, off, rfl, fun i hi => ?_⟩
    obtain ⟨cs', h1, h2⟩ := hel i (by omega)
    rw [cells_op12] at h1
    obtain ⟨_, hlen, hcell⟩ := World.cells?_some h1
    have hmem : D i ∈ (List.range len).map D := List.mem_map.2 ⟨i, List.mem_range.2 hi, rfl⟩
    obtain ⟨z0, z1, z2, z3_0, z3_1, z3_2, z3_3, z3_4, z3_4x, z3_4c, rfl, hO⟩ := opn_op12_cells hlen h2 (fun m hm => by
      have m3 : m ∈ DataW.weights Try.prog 39 d := by
        rw [hx.1, DataW.weights, Try.underlying39]
        exact List.mem_cons_of_mem _ (List.mem_append_left _ (opn_weights hmem _ hm))
      have := List.all_eq_true.1 hsz _ (DataW.weights_mem_each ht hd _ m3)
      simpa using this)
    have e0 := hcell 0 (by omega)
    have e1 := hcell 1 (by omega)
    have e2 := hcell 2 (by omega)
    have e3 := hcell 3 (by omega)
    have e4 := hcell 4 (by omega)
    have e5 := hcell 5 (by omega)
    have e6 := hcell 6 (by omega)
    have e7 := hcell 7 (by omega)
    simp only [opn_add, List.getElem?_cons_zero, List.getElem?_cons_succ, Nat.add_zero] at e0 e1 e2 e3 e4 e5 e6 e7
    exact ⟨z0, z1, z2, z3_0, z3_1, z3_2, z3_3, z3_4, z3_4x, z3_4c, e0, e1, e2, e3, e4, e5, e6, e7, hO⟩
end Go.Proofs.Ytkcbbaanlkpeiaa

