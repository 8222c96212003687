/- Acts that came in. -/
import Derived.Test.YtlopkfenbeahgaaXRvA2
namespace Go.Proofs.Ytlopkfenbeahgaa
open Go.ChangeShapes Go.WideShapes Go.ChangeAt Go.RowKit Go.Deep
set_option linter.unusedVariables false
set_option maxRecDepth 100000

/-- the struct number i of a slice -/
def Act13At (W : World) (b off i : Nat) : Prop := ∃ (z0 : Int) (z1_0 : Int) (z1_1 : BitVec 64) (z1_2 : BitVec 64) (z1_3 : Int), W.cell? ⟨b, off + i * 5, none⟩ = some (.int .i64 z0) ∧ W.cell? ⟨b, off + i * 5 + 1, none⟩ = some (.int .i64 z1_0) ∧ W.cell? ⟨b, off + i * 5 + 2, none⟩ = some (.int .u64 (z1_1.toNat : Int)) ∧ W.cell? ⟨b, off + i * 5 + 3, none⟩ = some (.int .u64 (z1_2.toNat : Int)) ∧ W.cell? ⟨b, off + i * 5 + 4, none⟩ = some (.int .i64 z1_3) ∧ I64 z0 ∧ I64 z1_0 ∧ I64 z1_3
structure Act13Arg (W : World) (a : Option Addr) (len cap : Nat) : Prop where
  le : len ≤ cap
  most : cap ≤ maxLen
  few : len ≤ 140737488355328
  each : len ≠ 0 → ∃ b off, a = some ⟨b, off, none⟩ ∧ ∀ i, i < len → Act13At W b off i
theorem bytes_act13 : Try.prog.bytesOf 36 = 40 := by kernel_rfl
theorem open_act13s {H : Type} {enc : TypeId × Value → H} {W : World} {r : Reach} {b0 : Nat} {v : Value} {d : DataW H} {p : List MemPlace} {ts : List TypeId} {ds : List (DataW H)} {j : Nat}
    (hv : Value.okWide Try.prog W r b0 22 v) (h : DataW.Trod enc Try.prog W 0 (fun _ => true) true 22 v d p)
    (hsz : (DataW.weightsEach Try.prog ts ds).all (· ≤ reachBytes) = true) (ht : ts[j]? = some 22) (hd : ds[j]? = some d) :
    ∃ a len cap, v = .slice a len cap ∧ Act13Arg W a len cap := by
  obtain ⟨a, len, cap, rfl⟩ := okWide_slice Try.underlying22 hv
  obtain ⟨fuel, hf⟩ := h
  refine ⟨a, len, cap, rfl, ?_⟩
  rcases open_slice Try.underlying22 hf with ⟨hcs, hx⟩ | ⟨x, len', cap', m, n, D, Pl, hcs, hb, hl, hm, hmm, hx, hel⟩
  · simp [Value.cells] at hcs
    obtain ⟨rfl, rfl, rfl⟩ := hcs
    exact ⟨Nat.le_refl _, by simp, by omega, fun h => absurd rfl h⟩
  · simp [Value.cells] at hcs
    obtain ⟨rfl, rfl, rfl⟩ := hcs
    simp at hmm
    subst hmm
    simp only [Prod.mk.injEq] at hx
    have hbound : len ≤ 140737488355328 := by
      have hd' := hd
      rw [hx.1] at hd'
      have := sized_slice hsz ht hd' Try.underlying22
      rw [bytes_act13, List.length_map, List.length_range] at this
      unfold reachBytes at this
      omega
    refine ⟨hl, hm, hbound, fun h0 => ?_⟩
    have hspot : x.spot = none := by
      obtain ⟨cs', h1, _⟩ := hel 0 (by omega)
      rw [cells_act13] at h1
      obtain ⟨_, hlen, hcell⟩ := World.cells?_some h1
      have := World.cell?_spot ((hcell 0 (by omega)).trans (List.getElem?_eq_getElem (by omega)))
      simpa [Addr.add] using this
    obtain ⟨b, off, spot⟩ := x
    simp only at hspot
    subst hspot
    refine ⟨b, off, rfl, fun i hi => ?_⟩
    obtain ⟨cs', h1, h2⟩ := hel i (by omega)
    rw [cells_act13] at h1
    obtain ⟨_, hlen, hcell⟩ := World.cells?_some h1
    have hmem : D i ∈ (List.range len).map D := List.mem_map.2 ⟨i, List.mem_range.2 hi, rfl⟩
    obtain ⟨z0, z1_0, z1_1, z1_2, z1_3, rfl, hO⟩ := opn_act13_cells hlen h2 (fun m hm => by
      have m3 : m ∈ DataW.weights Try.prog 22 d := by
        rw [hx.1, DataW.weights, Try.underlying22]
        exact List.mem_cons_of_mem _ (List.mem_append_left _ (opn_weights hmem _ hm))
      have := List.all_eq_true.1 hsz _ (DataW.weights_mem_each ht hd _ m3)
      simpa using this)
    have e0 := hcell 0 (by omega)
    have e1 := hcell 1 (by omega)
    have e2 := hcell 2 (by omega)
    have e3 := hcell 3 (by omega)
    have e4 := hcell 4 (by omega)
    simp only [opn_add, List.getElem?_cons_zero, List.getElem?_cons_succ, Nat.add_zero] at e0 e1 e2 e3 e4
    exact ⟨z0, z1_0, z1_1, z1_2, z1_3, e0, e1, e2, e3, e4, hO⟩
end Go.Proofs.Ytlopkfenbeahgaa

