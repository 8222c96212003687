/- Bytes within what came in. -/
import Derived.Test.YtgonglbgejaffaaXWrap
import Derived.Test.YtgonglbgejaffaaXMp
import Derived.Deep.SlicePairs
namespace Go.Proofs.Ytgonglbgejaffaa
open Go.ChangeShapes Go.WideShapes Go.ChangeAt Go.RowKit Go.Deep
set_option linter.unusedVariables false
set_option maxRecDepth 100000

theorem opn_bytes {H : Type} {enc : TypeId × Value → H} {W : World} {v : Value} {d : DataW H} {p : List MemPlace} {fuel : Nat}
    (hf : DataW.trod enc Try.prog W 0 (fun _ => true) true fuel 22 [v] = some (d, p)) :
    ∃ a len cap l, v = .slice a len cap ∧ (∀ B, cap ≤ B → Arg B W a len cap l) ∧ Places d cap := by
  rcases open_ints Try.underlying22 Try.underlying5 cells1_u8 hf with ⟨hcs, hx⟩ | ⟨x, len, cap, zs, hcs, _, hl, hm, hz, hx, hcell, hwz⟩
  · simp at hcs
    subst hcs
    simp only [Prod.mk.injEq] at hx
    exact ⟨none, 0, 0, [], rfl, fun B hB => ⟨rfl, Nat.le_refl _, hB, .inl rfl, fun _ => rfl⟩, .inl ⟨hx.1, rfl⟩⟩
  · simp at hcs
    subst hcs
    simp only [Prod.mk.injEq] at hx
    have hz' : zs.length = cap := by simpa using hz
    refine ⟨_, _, _, (zs.take len).map fun n => BitVec.ofNat 8 n.toNat, rfl, fun B hB => ⟨by simp; omega, hl, hB, ?_, fun h => by cases h⟩, .inr ⟨_, _, hx.1, by simp [lits]; omega⟩⟩
    by_cases h0 : len = 0
    · exact .inl (by simp [h0])
    · obtain ⟨b, off, spot⟩ := x
      have hspot : spot = none := by simpa [Addr.add] using World.cell?_spot (hcell 0 (by omega))
      subst hspot
      refine .inr ⟨b, off, rfl, fun i hi => ?_⟩
      have hi' : i < len := by simp at hi; omega
      have hc := hcell i (by omega)
      have e : (⟨b, off, none⟩ : Addr).add i = ⟨b, off + i, none⟩ := by unfold Addr.add; split <;> simp_all
      rw [e] at hc
      rw [hc]
      have hw := hwz (zs[i]'(by omega)) (List.getElem_mem _)
      simp [Lit.wf, IntKind.min, IntKind.max, IntKind.signed, IntKind.bits] at hw
      unfold bt
      simp only [List.getD, List.getElem?_map, List.getElem?_take, hi', if_true, List.getElem?_eq_getElem (show i < zs.length by omega), Option.map_some, Option.getD_some, BitVec.toNat_ofNat]
      congr 2
      omega
theorem opn_add (b off i : Nat) : (⟨b, off, none⟩ : Addr).add i = ⟨b, off + i, none⟩ := by unfold Addr.add; split <;> simp_all
theorem opn_weights {H : Type} {P : Program} {e : TypeId} {l : List (DataW H)} {d : DataW H} (h : d ∈ l) : ∀ n ∈ d.weights P e, n ∈ DataW.weightsAll P e l := by
  induction l with
  | nil => cases h
  | cons x r ih =>
    intro n hn
    rw [DataW.weightsAll]
    rcases List.mem_cons.1 h with e | e
    · subst e; exact List.mem_append_left _ hn
    · exact List.mem_append_right _ (ih e n hn)
/-- bytes that came in within something -/
structure DatOk (W : World) (x : Option Addr) (l : List (BitVec 8)) (c : Nat) : Prop where
  row : Row W x l
  le : l.length ≤ c
  nil : x = none → c = 0
  most : l.length ≤ 140737488351232
theorem DatOk.later {w w' : World} {x : Option Addr} {l : List (BitVec 8)} {c : Nat} (h : DatOk w x l c) (hb : Below w.heap.size w w') : DatOk w' x l c := ⟨h.row.later hb, h.le, h.nil, h.most⟩
theorem opn_dat {H : Type} {enc : TypeId × Value → H} {W : World} {v : Value} {d : DataW H} {p : List MemPlace} {fuel : Nat}
    (hf : DataW.trod enc Try.prog W 0 (fun _ => true) true fuel 22 [v] = some (d, p)) (hwt : ∀ n ∈ d.weights Try.prog 22, n ≤ reachBytes) :
    ∃ l x c, v = .slice x l.length c ∧ DatOk W x l c := by
  obtain ⟨a1, l1, p1, x1, rfl, hA1, hP1⟩ := opn_bytes hf
  have b1 : p1 ≤ 140737488351232 := by
    rcases hP1 with ⟨_, rfl⟩ | ⟨es, sp, rfl, rfl⟩
    · omega
    · have m1 : (es.length + sp.length) * 1 ∈ DataW.weights Try.prog 22 (DataW.slice es sp) := by simp [DataW.weights, Try.underlying22, bytes_u8]
      have := hwt _ m1
      unfold reachBytes at this
      omega
  have A := hA1 _ b1
  have h1 := A.le
  have h2 := A.len_eq
  exact ⟨x1, a1, p1, by rw [h2], A.row, by omega, A.isNil, by omega⟩
end Go.Proofs.Ytgonglbgejaffaa

