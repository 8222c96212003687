/- Slices of bytes that came in. -/
import Derived.Test.YtgonglbgejaffaaXOpA
namespace Go.Proofs.Ytgonglbgejaffaa
open Go.ChangeShapes Go.WideShapes Go.ChangeAt Go.RowKit Go.Deep
set_option linter.unusedVariables false
set_option maxRecDepth 100000

theorem bytes_strs : Try.prog.bytesOf 22 = 24 := by kernel_rfl
theorem cells_strs : Try.prog.cellsOf 22 = 1 := by kernel_rfl
theorem opn_arg {H : Type} {enc : TypeId × Value → H} {W : World} {v : Value} {d : DataW H} {p : List MemPlace} {fuel : Nat}
    (hf : DataW.trod enc Try.prog W 0 (fun _ => true) true fuel 22 [v] = some (d, p)) (hwt : ∀ n ∈ d.weights Try.prog 22, n ≤ reachBytes) :
    ∃ l x c, v = .slice x l.length c ∧ Arg 140737488351232 W x l.length c l := by
  obtain ⟨a1, l1, p1, x1, rfl, hA1, hP1⟩ := opn_bytes hf
  have b1 : p1 ≤ 140737488351232 := by
    rcases hP1 with ⟨_, rfl⟩ | ⟨es, sp, rfl, rfl⟩
    · omega
    · have m1 : (es.length + sp.length) * 1 ∈ DataW.weights Try.prog 22 (DataW.slice es sp) := by simp [DataW.weights, Try.underlying22, bytes_u8]
      have := hwt _ m1
      unfold reachBytes at this
      omega
  have A := hA1 _ b1
  have h2 := A.len_eq
  subst h2
  exact ⟨x1, a1, p1, rfl, A⟩
/-- a slice of slices of bytes -/
def StAt (W : World) (b off i : Nat) (l : List (BitVec 8)) : Prop := ∃ x c, W.cell? ⟨b, off + i, none⟩ = some (.slice x l.length c) ∧ Arg 140737488351232 W x l.length c l
def SArgs (W : World) (a : Option Addr) (ls : List (List (BitVec 8))) : Prop := ls = [] ∨ ∃ b off, a = some ⟨b, off, none⟩ ∧ ∀ i (hi : i < ls.length), StAt W b off i ls[i]
theorem StAt.later {W W' : World} {b off i : Nat} {l : List (BitVec 8)} (h : StAt W b off i l) (hb : Below W.heap.size W W') : StAt W' b off i l := by
  obtain ⟨x, c, h1, h2⟩ := h
  refine ⟨x, c, ?_, ⟨h2.len_eq, h2.le, h2.bound, h2.row.later hb, h2.isNil⟩⟩
  have hlt : b < W.heap.size := by
    unfold World.cell? at h1
    by_cases e : b < W.heap.size
    · exact e
    · have e2 : W.heap[b]? = none := Array.getElem?_eq_none (by omega)
      simp [e2] at h1
  unfold World.cell? at h1 ⊢
  simp only [hb.block b hlt]
  exact h1
theorem SArgs.later {W W' : World} {a : Option Addr} {ls : List (List (BitVec 8))} (h : SArgs W a ls) (hb : Below W.heap.size W W') : SArgs W' a ls := by
  rcases h with h | ⟨b, off, rfl, h⟩
  · exact .inl h
  · exact .inr ⟨b, off, rfl, fun i hi => (h i hi).later hb⟩
theorem choose_listS {α : Type} (n : Nat) (R : Nat → α → Prop) (h : ∀ i, i < n → ∃ x, R i x) : ∃ l : List α, l.length = n ∧ ∀ i (hi : i < l.length), R i l[i] := by
  induction n with
  | zero => exact ⟨[], rfl, fun i hi => by simp at hi⟩
  | succ n ih =>
    obtain ⟨l, hl, hR⟩ := ih (fun i hi => h i (by omega))
    obtain ⟨x, hx⟩ := h n (by omega)
    refine ⟨l ++ [x], by simp [hl], fun i hi => ?_⟩
    by_cases hi' : i < l.length
    · rw [List.getElem_append_left hi']; exact hR i hi'
    · have : i = n := by simp at hi; omega
      subst this
      rw [List.getElem_append_right (by omega)]
      simpa using hx
theorem open_strs {H : Type} {enc : TypeId × Value → H} {W : World} {r : Reach} {b0 : Nat} {v : Value} {d : DataW H} {p : List MemPlace} {ts : List TypeId} {ds : List (DataW H)} {j : Nat}
    (hv : Value.okWide Try.prog W r b0 23 v) (h : DataW.Trod enc Try.prog W 0 (fun _ => true) true 23 v d p)
    (hsz : (DataW.weightsEach Try.prog ts ds).all (· ≤ reachBytes) = true) (ht : ts[j]? = some 23) (hd : ds[j]? = some d) :
    ∃ a len cap ls, v = .slice a len cap ∧ ls.length = len ∧ len ≤ cap ∧ len ≤ 140737488355328 ∧ SArgs W a ls := by
  obtain ⟨a, len, cap, rfl⟩ := okWide_slice Try.underlying23 hv
  obtain ⟨fuel, hf⟩ := h
  rcases open_slice Try.underlying23 hf with ⟨hcs, hx⟩ | ⟨x, len', cap', m, n, D, Pl, hcs, hb, hl, hm, hmm, hx, hel⟩
  · simp [Value.cells] at hcs
    obtain ⟨rfl, rfl, rfl⟩ := hcs
    exact ⟨none, 0, 0, [], rfl, rfl, Nat.le_refl _, by omega, .inl rfl⟩
  · simp [Value.cells] at hcs
    obtain ⟨rfl, rfl, rfl⟩ := hcs
    simp at hmm
    subst hmm
    simp only [Prod.mk.injEq] at hx
    have hbound : len ≤ 140737488355328 := by
      have hd' := hd
      rw [hx.1] at hd'
      have := sized_slice hsz ht hd' Try.underlying23
      rw [bytes_strs, List.length_map, List.length_range] at this
      unfold reachBytes at this
      omega
    by_cases h0 : len = 0
    · exact ⟨_, len, _, [], rfl, by simp [h0], hl, by omega, .inl rfl⟩
    have hspot : x.spot = none := by
      obtain ⟨cs', h1, _⟩ := hel 0 (by omega)
      rw [cells_strs] at h1
      obtain ⟨_, hlen, hcell⟩ := World.cells?_some h1
      have := World.cell?_spot ((hcell 0 (by omega)).trans (List.getElem?_eq_getElem (by omega)))
      simpa [Addr.add] using this
    obtain ⟨b, off, spot⟩ := x
    simp only at hspot
    subst hspot
    obtain ⟨l, hll, hR⟩ := choose_listS len (fun i r => StAt W b off i r) (fun i hi => by
      obtain ⟨cs', h1, h2⟩ := hel i (by omega)
      rw [cells_strs] at h1
      obtain ⟨_, hlen, hcell⟩ := World.cells?_some h1
      have hmem : D i ∈ (List.range len).map D := List.mem_map.2 ⟨i, List.mem_range.2 hi, rfl⟩
      have e0 := hcell 0 (by omega)
      match cs', hlen with
      | [v0], _ =>
        obtain ⟨z, zx, zc, rfl, hD⟩ := opn_arg h2 (fun m hm => by
          have m3 : m ∈ DataW.weights Try.prog 23 d := by
            rw [hx.1, DataW.weights, Try.underlying23]
            exact List.mem_cons_of_mem _ (List.mem_append_left _ (opn_weights hmem _ hm))
          have := List.all_eq_true.1 hsz _ (DataW.weights_mem_each ht hd _ m3)
          simpa using this)
        simp only [opn_add, List.getElem?_cons_zero, Nat.add_zero, Nat.mul_one] at e0
        exact ⟨z, zx, zc, e0, hD⟩)
    exact ⟨_, len, _, l, rfl, hll, hl, by omega, .inr ⟨b, off, rfl, hR⟩⟩
end Go.Proofs.Ytgonglbgejaffaa

