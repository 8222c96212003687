/- Calls of a disk, from their row's shape to plain values. -/
import Derived.Test.YtjfodmdijajfbaaDkW9
import Derived.Test.YtjfodmdijajfbaaWrap
import Derived.Deep.SlicePairs
namespace Go.Proofs.Ytjfodmdijajfbaa
open Go.ChangeShapes Go.WideShapes Go.ChangeAt Go.RowKit Go.Deep
set_option linter.unusedVariables false
set_option maxRecDepth 100000

theorem open_bytes_cells' {H : Type} {enc : TypeId × Value → H} {W : World} {v : Value} {d : DataW H} {p : List MemPlace} {fuel : Nat}
    (hf : DataW.trod enc Try.prog W 0 (fun _ => true) true fuel 32 [v] = some (d, p)) :
    ∃ a len cap l, v = .slice a len cap ∧ (∀ B, cap ≤ B → Arg B W a len cap l) ∧ Places d cap := by
  rcases open_ints Try.underlying32 Try.underlying5 cells1_u8 hf with ⟨hcs, hx⟩ | ⟨x, len, cap, zs, hcs, _, hl, hm, hz, hx, hcell, hwz⟩
  · simp at hcs
    subst hcs
    simp only [Prod.mk.injEq] at hx
    exact ⟨none, 0, 0, [], rfl, fun B hB => ⟨rfl, Nat.le_refl _, hB, .inl rfl, fun _ => rfl⟩, .inl ⟨hx.1, rfl⟩⟩
  · simp at hcs
    subst hcs
    simp only [Prod.mk.injEq] at hx
    have hz' : zs.length = cap := by simpa using hz
    refine ⟨_, _, _, (zs.take len).map fun n => BitVec.ofNat 8 n.toNat, rfl, fun B hB => ⟨by simp; omega, hl, hB, ?_, fun h => by cases h⟩, .inr ⟨_, _, hx.1, by simp [lits]; omega⟩⟩
    by_cases h0 : len = 0
    · exact .inl (by simp [h0])
    · obtain ⟨b, off, spot⟩ := x
      have hspot : spot = none := by simpa [Addr.add] using World.cell?_spot (hcell 0 (by omega))
      subst hspot
      refine .inr ⟨b, off, rfl, fun i hi => ?_⟩
      have hi' : i < len := by simp at hi; omega
      have hc := hcell i (by omega)
      have e : (⟨b, off, none⟩ : Addr).add i = ⟨b, off + i, none⟩ := by unfold Addr.add; split <;> simp_all
      rw [e] at hc
      rw [hc]
      have hw := hwz (zs[i]'(by omega)) (List.getElem_mem _)
      simp [Lit.wf, IntKind.min, IntKind.max, IntKind.signed, IntKind.bits] at hw
      unfold bt
      simp only [List.getD, List.getElem?_map, List.getElem?_take, hi', if_true, List.getElem?_eq_getElem (show i < zs.length by omega), Option.map_some, Option.getD_some, BitVec.toNat_ofNat]
      congr 2
      omega

theorem cells1_int : Try.prog.cellsOf 3 = 1 := by kernel_rfl
theorem bytes_int : Try.prog.bytesOf 3 = 8 := by kernel_rfl
/-- numbers that came in -/
structure IArg (B : Nat) (w : World) (a : Option Addr) (len cap : Nat) (l : List Int) : Prop where
  len_eq : l.length = len
  le : len ≤ cap
  bound : cap ≤ B
  row : IRow w a l
theorem open_i64_cells {H : Type} {enc : TypeId × Value → H} {W : World} {v : Value} {d : DataW H} {p : List MemPlace} {fuel : Nat}
    (hf : DataW.trod enc Try.prog W 0 (fun _ => true) true fuel 38 [v] = some (d, p)) :
    ∃ a len cap l, v = .slice a len cap ∧ (∀ B, cap ≤ B → IArg B W a len cap l) ∧ Places d cap := by
  rcases open_ints Try.underlying38 Try.underlying3 cells1_int hf with ⟨hcs, hx⟩ | ⟨x, len, cap, zs, hcs, _, hl, hm, hz, hx, hcell, hwz⟩
  · simp at hcs
    subst hcs
    simp only [Prod.mk.injEq] at hx
    exact ⟨none, 0, 0, [], rfl, fun B hB => ⟨rfl, Nat.le_refl _, hB, (fun x hx => by cases hx), .inl rfl⟩, .inl ⟨hx.1, rfl⟩⟩
  · simp at hcs
    subst hcs
    simp only [Prod.mk.injEq] at hx
    have hz' : zs.length = cap := by simpa using hz
    refine ⟨_, _, _, zs.take len, rfl, fun B hB => ⟨by simp; omega, hl, hB, fun x hx => ?_, ?_⟩, .inr ⟨_, _, hx.1, by simp [lits]; omega⟩⟩
    · have hw := hwz x (List.mem_of_mem_take hx)
      simp [Lit.wf, IntKind.min, IntKind.max, IntKind.signed, IntKind.bits] at hw
      omega
    · by_cases h0 : len = 0
      · exact .inl (by simp [h0])
      · obtain ⟨b, off, spot⟩ := x
        have hspot : spot = none := by simpa [Addr.add] using World.cell?_spot (hcell 0 (by omega))
        subst hspot
        refine .inr ⟨b, off, rfl, fun i hi => ?_⟩
        have hi' : i < len := by simp at hi; omega
        have hc := hcell i (by omega)
        have e : (⟨b, off, none⟩ : Addr).add i = ⟨b, off + i, none⟩ := by unfold Addr.add; split <;> simp_all
        rw [e] at hc
        rw [hc]
        simp [List.getElem_take, List.getD, List.getElem?_eq_getElem (show i < zs.length by omega)]

/-- the values of one call -/
structure DOp (W : World) (k n : Int) (b l : Value) : Prop where
  kinds : -9223372036854775808 ≤ k ∧ k ≤ 9223372036854775807
  nums : -9223372036854775808 ≤ n ∧ n ≤ 9223372036854775807
  bytes : ∃ a len cap x, b = .slice a len cap ∧ Arg 140737488351232 W a len cap x
  ints : ∃ a len cap x, l = .slice a len cap ∧ IArg 140737488351232 W a len cap x





/-- a list of calls in memory -/
structure DOps (W : World) (a : Option Addr) (len cap : Nat) : Prop where
  le : len ≤ cap
  most : cap ≤ maxLen
  each : len ≠ 0 → ∃ b off, a = some ⟨b, off, none⟩ ∧ ∀ i, i < len → ∃ k n x l, W.cell? ⟨b, off + i * 4, none⟩ = some (.int .i64 k) ∧ W.cell? ⟨b, off + i * 4 + 1, none⟩ = some (.int .i64 n) ∧ W.cell? ⟨b, off + i * 4 + 2, none⟩ = some x ∧ W.cell? ⟨b, off + i * 4 + 3, none⟩ = some l ∧ DOp W k n x l
theorem add_at' (b off i : Nat) : (⟨b, off, none⟩ : Addr).add i = ⟨b, off + i, none⟩ := by unfold Addr.add; split <;> simp_all
theorem all_weights' {H : Type} {P : Program} {e : TypeId} {l : List (DataW H)} {d : DataW H} (h : d ∈ l) : ∀ n ∈ d.weights P e, n ∈ DataW.weightsAll P e l := by
  induction l with
  | nil => cases h
  | cons x r ih =>
    intro n hn
    rw [DataW.weightsAll]
    rcases List.mem_cons.1 h with e | e
    · subst e; exact List.mem_append_left _ hn
    · exact List.mem_append_right _ (ih e n hn)

theorem open_i64s {H : Type} {enc : TypeId × Value → H} {W : World} {r : Reach} {b0 : Nat} {v : Value} {d : DataW H} {p : List MemPlace} {ts : List TypeId} {ds : List (DataW H)} {j : Nat}
    (hv : Value.okWide Try.prog W r b0 38 v) (h : DataW.Trod enc Try.prog W 0 (fun _ => true) true 38 v d p)
    (hsz : (DataW.weightsEach Try.prog ts ds).all (· ≤ reachBytes) = true) (ht : ts[j]? = some 38) (hd : ds[j]? = some d) :
    ∃ a len cap l, v = .slice a len cap ∧ IArg 140737488351232 W a len cap l := by
  obtain ⟨a, len, cap, rfl⟩ := okWide_slice Try.underlying38 hv
  obtain ⟨fuel, hf⟩ := h
  obtain ⟨a', len', cap', l, he, hA, hP⟩ := open_i64_cells (v := .slice a len cap) (by simpa [Value.cells] using hf)
  cases he
  refine ⟨a, len, cap, l, rfl, hA _ ?_⟩
  rcases hP with ⟨_, rfl⟩ | ⟨es, sp, rfl, rfl⟩
  · omega
  · have := sized_slice hsz ht hd Try.underlying38
    rw [bytes_int] at this
    unfold reachBytes at this
    omega
end Go.Proofs.Ytjfodmdijajfbaa
