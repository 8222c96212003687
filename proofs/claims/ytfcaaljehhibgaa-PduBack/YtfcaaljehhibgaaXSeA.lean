/- Slices of numbers of any kind, from their row's shape to a list. -/
import Derived.Test.YtfcaaljehhibgaaXWrap
import Derived.Deep.SlicePairs
namespace Go.Proofs.Ytfcaaljehhibgaa
open Go.ChangeShapes Go.WideShapes Go.ChangeAt Go.RowKit Go.Deep
set_option linter.unusedVariables false
set_option maxRecDepth 100000

/-- a list of numbers of one kind in memory -/
structure VArg (k : IntKind) (W : World) (a : Option Addr) (len cap : Nat) (l : List Int) : Prop where
  num : l.length = len
  le : len ≤ cap
  most : cap ≤ maxLen
  each : len ≠ 0 → ∃ b off, a = some ⟨b, off, none⟩ ∧ ∀ i (h : i < l.length), W.cell? ⟨b, off + i, none⟩ = some (.int k l[i])
  wf : ∀ n ∈ l, (Lit.int k n).wf = true
theorem add_atV (b off i : Nat) : (⟨b, off, none⟩ : Addr).add i = ⟨b, off + i, none⟩ := by unfold Addr.add; split <;> simp_all
theorem open_vals (k : IntKind) (LT E : TypeId) (hL : Try.prog.underlying LT = some (.slice E)) (hE : Try.prog.underlying E = some (.int k)) (hc1 : Try.prog.cellsOf E = 1)
    {H : Type} {enc : TypeId × Value → H} {W : World} {r : Reach} {b0 : Nat} {v : Value} {d : DataW H} {p : List MemPlace}
    (hv : Value.okWide Try.prog W r b0 LT v) (h : DataW.Trod enc Try.prog W 0 (fun _ => true) true LT v d p) :
    ∃ a len cap l, v = .slice a len cap ∧ VArg k W a len cap l := by
  obtain ⟨a, len, cap, rfl⟩ := okWide_slice hL hv
  obtain ⟨fuel, hf⟩ := h
  rcases open_ints hL hE hc1 hf with ⟨hcs, hx⟩ | ⟨x, len', cap', zs, hcs, _, hl, hm, hz, hx, hcell, hwz⟩
  · simp [Value.cells] at hcs
    obtain ⟨rfl, rfl, rfl⟩ := hcs
    exact ⟨_, _, _, [], rfl, rfl, Nat.le_refl _, by simp, fun h => absurd rfl h, by simp⟩
  · simp [Value.cells] at hcs
    obtain ⟨rfl, rfl, rfl⟩ := hcs
    have hz' : zs.length = cap := by simpa using hz
    have hlt : (zs.take len).length = len := by rw [List.length_take]; omega
    refine ⟨_, _, _, zs.take len, rfl, hlt, hl, hm, fun h0 => ?_, fun n hn => hwz n (List.mem_of_mem_take hn)⟩
    obtain ⟨b, off, spot⟩ := x
    have hspot : spot = none := by simpa [Addr.add] using World.cell?_spot (hcell 0 (by omega))
    subst hspot
    refine ⟨b, off, rfl, fun i hi => ?_⟩
    have hc := hcell i (by omega)
    rw [add_atV] at hc
    rw [hc, List.getD, List.getElem?_eq_getElem (show i < zs.length by omega)]
    simp
section
variable {H : Type} {enc : TypeId × Value → H} {W : World} {r : Reach} {b0 : Nat} {v : Value} {d : DataW H} {p : List MemPlace} {ts : List TypeId} {ds : List (DataW H)} {j : Nat}

theorem open_vints (hv : Value.okWide Try.prog W r b0 59 v) (h : DataW.Trod enc Try.prog W 0 (fun _ => true) true 59 v d p) (hsz : (DataW.weightsEach Try.prog ts ds).all (· ≤ reachBytes) = true) (ht : ts[j]? = some 59) (hd : ds[j]? = some d) : ∃ a len cap l, v = .slice a len cap ∧ VArg .i64 W a len cap l :=
  open_vals .i64 59 3 Try.underlying59 Try.underlying3 (by kernel_rfl) hv h
end
end Go.Proofs.Ytfcaaljehhibgaa

