/- Entries that came in. -/
import Derived.Test.YtgjcgnmomdanaaaXEn1
import Derived.Test.YtgjcgnmomdanaaaXWrap
import Derived.Deep.SlicePairs
namespace Go.Proofs.Ytgjcgnmomdanaaa
open Go.ChangeShapes Go.WideShapes Go.ChangeAt Go.RowKit Go.Deep
set_option linter.unusedVariables false
set_option maxRecDepth 100000

theorem open_bytes_e {H : Type} {enc : TypeId × Value → H} {W : World} {v : Value} {d : DataW H} {p : List MemPlace} {fuel : Nat}
    (hf : DataW.trod enc Try.prog W 0 (fun _ => true) true fuel 23 [v] = some (d, p)) :
    ∃ a len cap l, v = .slice a len cap ∧ (∀ B, cap ≤ B → Arg B W a len cap l) ∧ Places d cap := by
  rcases open_ints Try.underlying23 Try.underlying5 cells1_u8 hf with ⟨hcs, hx⟩ | ⟨x, len, cap, zs, hcs, _, hl, hm, hz, hx, hcell, hwz⟩
  · simp at hcs
    subst hcs
    simp only [Prod.mk.injEq] at hx
    exact ⟨none, 0, 0, [], rfl, fun B hB => ⟨rfl, Nat.le_refl _, hB, .inl rfl, fun _ => rfl⟩, .inl ⟨hx.1, rfl⟩⟩
  · simp at hcs
    subst hcs
    simp only [Prod.mk.injEq] at hx
    have hz' : zs.length = cap := by simpa using hz
    refine ⟨_, _, _, (zs.take len).map fun n => BitVec.ofNat 8 n.toNat, rfl, fun B hB => ⟨by simp; omega, hl, hB, ?_, fun h => by cases h⟩, .inr ⟨_, _, hx.1, by simp [lits]; omega⟩⟩
    by_cases h0 : len = 0
    · exact .inl (by simp [h0])
    · obtain ⟨b, off, spot⟩ := x
      have hspot : spot = none := by simpa [Addr.add] using World.cell?_spot (hcell 0 (by omega))
      subst hspot
      refine .inr ⟨b, off, rfl, fun i hi => ?_⟩
      have hi' : i < len := by simp at hi; omega
      have hc := hcell i (by omega)
      have e : (⟨b, off, none⟩ : Addr).add i = ⟨b, off + i, none⟩ := by unfold Addr.add; split <;> simp_all
      rw [e] at hc
      rw [hc]
      have hw := hwz (zs[i]'(by omega)) (List.getElem_mem _)
      simp [Lit.wf, IntKind.min, IntKind.max, IntKind.signed, IntKind.bits] at hw
      unfold bt
      simp only [List.getD, List.getElem?_map, List.getElem?_take, hi', if_true, List.getElem?_eq_getElem (show i < zs.length by omega), Option.map_some, Option.getD_some, BitVec.toNat_ofNat]
      congr 2
      omega

theorem add_at_e (b off i : Nat) : (⟨b, off, none⟩ : Addr).add i = ⟨b, off + i, none⟩ := by unfold Addr.add; split <;> simp_all
theorem all_weights_e {H : Type} {P : Program} {e : TypeId} {l : List (DataW H)} {d : DataW H} (h : d ∈ l) : ∀ n ∈ d.weights P e, n ∈ DataW.weightsAll P e l := by
  induction l with
  | nil => cases h
  | cons x r ih =>
    intro n hn
    rw [DataW.weightsAll]
    rcases List.mem_cons.1 h with e | e
    · subst e; exact List.mem_append_left _ hn
    · exact List.mem_append_right _ (ih e n hn)
theorem bytes_ent : Try.prog.bytesOf 49 = 40 := by kernel_rfl
theorem cells_ent : Try.prog.cellsOf 49 = 3 := by kernel_rfl
theorem under_ent : ∃ f0 f1 f2, Try.prog.underlying 49 = some (.struct #[f0, f1, f2]) ∧ (f0.offset = 0 ∧ f1.offset = 1 ∧ f2.offset = 2) ∧
    (Try.prog.cellsOf f0.type = 1 ∧ Try.prog.cellsOf f1.type = 1 ∧ Try.prog.cellsOf f2.type = 1) ∧ (Try.prog.underlying f0.type = some (.int .i64) ∧ Try.prog.underlying f1.type = some (.int .i64) ∧ f2.type = 23) := by
  refine ⟨_, _, _, Try.underlying49, ⟨rfl, rfl, rfl⟩, ⟨by kernel_rfl, by kernel_rfl, by kernel_rfl⟩, ⟨?_, ?_, rfl⟩⟩
  · exact Try.underlying3
  · exact Try.underlying2
/-- one entry's cells -/
theorem open_ent_cells {H : Type} {enc : TypeId × Value → H} {W : World} {cs : List Value} {d : DataW H} {p : List MemPlace} {fuel : Nat} (hlen : cs.length = 3)
    (hf : DataW.trod enc Try.prog W 0 (fun _ => true) true fuel 49 cs = some (d, p)) (hwt : ∀ n ∈ d.weights Try.prog 49, n ≤ reachBytes) :
    ∃ (r : Ent) (x : Option Addr) (c : Nat), cs = [.int .i64 r.1, .int .i64 r.2.1, .slice x r.2.2.length c] ∧ I64 r.1 ∧ I64 r.2.1 ∧ Row W x r.2.2 ∧ r.2.2.length ≤ c ∧ (x = none → c = 0) ∧ r.2.2.length ≤ 140737488351232 := by
  obtain ⟨f0, f1, f2, hu, ⟨o0, o1, o2⟩, ⟨c0, c1, c2⟩, ⟨u0, u1, u2⟩⟩ := under_ent
  obtain ⟨xs, k, hk, hxy, _, hxl, hfl⟩ := DataW.trod_struct hu hf
  match xs, hxl, cs, hlen with
  | [y0, y1, y2], _, [v0, v1, v2], _ =>
    have g0 := hfl 0 f0 rfl
    have g1 := hfl 1 f1 rfl
    have g2 := hfl 2 f2 rfl
    simp [o0, o1, o2, c0, c1, c2] at g0 g1 g2
    obtain ⟨z0, q0, _, w0⟩ := DataW.trod_int u0 g0
    simp at q0
    subst q0
    obtain ⟨z1, q1, _, w1⟩ := DataW.trod_int u1 g1
    simp at q1
    subst q1
    rw [u2] at g2
    obtain ⟨y2d, y2p⟩ := y2
    obtain ⟨a1, l1, p1, x1, rfl, hA1, hP1⟩ := open_bytes_e g2
    simp only [Prod.mk.injEq] at hxy
    have hd : d = .agg [y0.1, y1.1, y2d] := hxy.1
    have b1 : p1 ≤ 140737488351232 := by
      rcases hP1 with ⟨_, rfl⟩ | ⟨es, sp, rfl, rfl⟩
      · omega
      · have m1 : (es.length + sp.length) * 1 ∈ DataW.weights Try.prog 23 (DataW.slice es sp) := by simp [DataW.weights, Try.underlying23, bytes_u8]
        have m2 : (es.length + sp.length) * 1 ∈ DataW.weights Try.prog 49 d := by
          rw [hd, DataW.weights, hu]
          exact DataW.weights_mem_each (j := 2) (t := 23) (by simp [u2]) (by rfl) _ m1
        have := hwt _ m2
        unfold reachBytes at this
        omega
    have A := hA1 _ b1
    refine ⟨(z0, z1, x1), a1, p1, by rw [A.len_eq], i64_of_wf w0, i64_of_wf w1, A.row, ?_, A.isNil, ?_⟩
    · have := A.le; have := A.len_eq; simp only; omega
    · have := A.le; have := A.len_eq; simp only; omega
theorem choose_list9 {α : Type} (n : Nat) (R : Nat → α → Prop) (h : ∀ i, i < n → ∃ x, R i x) : ∃ l : List α, l.length = n ∧ ∀ i (hi : i < l.length), R i l[i] := by
  induction n with
  | zero => exact ⟨[], rfl, fun i hi => by simp at hi⟩
  | succ n ih =>
    obtain ⟨l, hl, hR⟩ := ih (fun i hi => h i (by omega))
    obtain ⟨x, hx⟩ := h n (by omega)
    refine ⟨l ++ [x], by simp [hl], fun i hi => ?_⟩
    by_cases hi' : i < l.length
    · rw [List.getElem_append_left hi']; exact hR i hi'
    · have : i = n := by simp at hi; omega
      subst this
      rw [List.getElem_append_right (by omega)]
      simpa using hx
theorem open_ents {H : Type} {enc : TypeId × Value → H} {W : World} {r : Reach} {b0 : Nat} {v : Value} {d : DataW H} {p : List MemPlace} {ts : List TypeId} {ds : List (DataW H)} {j : Nat}
    (hv : Value.okWide Try.prog W r b0 22 v) (h : DataW.Trod enc Try.prog W 0 (fun _ => true) true 22 v d p)
    (hsz : (DataW.weightsEach Try.prog ts ds).all (· ≤ reachBytes) = true) (ht : ts[j]? = some 22) (hd : ds[j]? = some d) :
    ∃ a len cap l, v = .slice a len cap ∧ l.length = len ∧ len ≤ cap ∧ len ≤ 140737488355328 ∧ EArgs W a l := by
  obtain ⟨a, len, cap, rfl⟩ := okWide_slice Try.underlying22 hv
  obtain ⟨fuel, hf⟩ := h
  rcases open_slice Try.underlying22 hf with ⟨hcs, hx⟩ | ⟨x, len', cap', m, n, D, Pl, hcs, hb, hl, hm, hmm, hx, hel⟩
  · simp [Value.cells] at hcs
    obtain ⟨rfl, rfl, rfl⟩ := hcs
    exact ⟨none, 0, 0, [], rfl, rfl, Nat.le_refl _, by omega, .inl rfl⟩
  · simp [Value.cells] at hcs
    obtain ⟨rfl, rfl, rfl⟩ := hcs
    simp at hmm
    subst hmm
    simp only [Prod.mk.injEq] at hx
    by_cases h0 : len = 0
    · exact ⟨_, len, _, [], rfl, by simp [h0], hl, by omega, .inl rfl⟩
    have hspot : x.spot = none := by
      obtain ⟨cs', h1, _⟩ := hel 0 (by omega)
      rw [cells_ent] at h1
      obtain ⟨_, hlen, hcell⟩ := World.cells?_some h1
      have := World.cell?_spot ((hcell 0 (by omega)).trans (List.getElem?_eq_getElem (by omega)))
      simpa [Addr.add] using this
    obtain ⟨b, off, spot⟩ := x
    simp only at hspot
    subst hspot
    obtain ⟨l, hll, hR⟩ := choose_list9 len (fun i r => EAt W b off i r) (fun i hi => by
      obtain ⟨cs', h1, h2⟩ := hel i (by omega)
      rw [cells_ent] at h1
      obtain ⟨_, hlen, hcell⟩ := World.cells?_some h1
      have hmem : D i ∈ (List.range len).map D := List.mem_map.2 ⟨i, List.mem_range.2 hi, rfl⟩
      obtain ⟨r, x', c, rfl, hI, hI2, hRow, hle, hnil, hle2⟩ := open_ent_cells hlen h2 (fun m hm => by
        have m3 : m ∈ DataW.weights Try.prog 22 d := by
          rw [hx.1, DataW.weights, Try.underlying22]
          exact List.mem_cons_of_mem _ (List.mem_append_left _ (all_weights_e hmem _ hm))
        have := List.all_eq_true.1 hsz _ (DataW.weights_mem_each ht hd _ m3)
        simpa using this)
      have e0 := hcell 0 (by omega)
      have e1 := hcell 1 (by omega)
      have e2 := hcell 2 (by omega)
      simp only [add_at_e, List.getElem?_cons_zero, List.getElem?_cons_succ, Nat.add_zero] at e0 e1 e2
      exact ⟨r, e0, e1, ⟨x', c, e2, hRow, hle, hnil⟩, hI, hI2, hle2⟩)
    have hbound : len ≤ 140737488355328 := by
      have hd' := hd
      rw [hx.1] at hd'
      have := sized_slice hsz ht hd' Try.underlying22
      rw [bytes_ent, List.length_map, List.length_range] at this
      unfold reachBytes at this
      omega
    exact ⟨_, len, _, l, rfl, hll, hl, hbound, .inr ⟨b, off, rfl, hR⟩⟩
end Go.Proofs.Ytgjcgnmomdanaaa

