/- Pairs that came in. -/
import Derived.Test.YtligmiajlbjecaaDoorXOpA
import Derived.Test.YtligmiajlbjecaaDoorXWd1
import Derived.Test.YtligmiajlbjecaaDoorXTx8
import Derived.ChangeMaps5
import Derived.Test.YtligmiajlbjecaaDoorXWrap
namespace Go.Proofs.YtligmiajlbjecaaDoor
open Go.ChangeShapes Go.WideShapes Go.ChangeAt Go.RowKit Go.Deep
set_option linter.unusedVariables false
set_option maxRecDepth 100000

theorem cells_prz : Tryd.prog.cellsOf 41 = 2 := by kernel_rfl
theorem under_prz : ∃ f0 f1, Tryd.prog.underlying 41 = some (.struct #[f0, f1]) ∧ (f0.offset = 0 ∧ f1.offset = 1) ∧ (Tryd.prog.cellsOf f0.type = 1 ∧ Tryd.prog.cellsOf f1.type = 1) ∧ (Tryd.prog.underlying f0.type = some .string ∧ Tryd.prog.underlying f1.type = some .string) := by
  exact ⟨_, _, Tryd.underlying41, ⟨rfl, rfl⟩, ⟨by kernel_rfl, by kernel_rfl⟩, ⟨Tryd.underlying9, Tryd.underlying9⟩⟩
theorem opn_prz_cells {H : Type} {enc : TypeId × Value → H} {W : World} {cs : List Value} {d : DataW H} {p : List MemPlace} {fuel : Nat} (hlen : cs.length = 2)
    (hf : DataW.trod enc Tryd.prog W 0 (fun _ => true) true fuel 41 cs = some (d, p)) (hwt : ∀ n ∈ d.weights Tryd.prog 41, n ≤ reachBytes) :
    ∃ (z0 : ByteArray) (z1 : ByteArray), cs = [.string z0, .string z1] ∧ z0.size ≤ maxLen ∧ z1.size ≤ maxLen := by
  obtain ⟨f0, f1, hu, ⟨o0, o1⟩, ⟨c0, c1⟩, ⟨u0, u1⟩⟩ := under_prz
  obtain ⟨xs, k, hk, hxy, _, hxl, hfl⟩ := DataW.trod_struct hu hf
  match xs, hxl, cs, hlen with
  | [y0, y1], _, [v0, v1], _ =>
    simp only [Prod.mk.injEq] at hxy
    have hd : d = .agg [y0.1, y1.1] := hxy.1
    have g0 := hfl 0 f0 rfl
    have g1 := hfl 1 f1 rfl
    simp [o0, o1, c0, c1] at g0 g1
    obtain ⟨z0, q0, _, r0⟩ := DataW.trod_string u0 g0
    simp at q0
    subst q0
    obtain ⟨z1, q1, _, r1⟩ := DataW.trod_string u1 g1
    simp at q1
    subst q1
    exact ⟨z0, z1, rfl, r0, r1⟩
theorem open_prz {H : Type} {enc : TypeId × Value → H} {W : World} {r : Reach} {b0 : Nat} {v : Value} {d : DataW H} {p : List MemPlace} {ts : List TypeId} {ds : List (DataW H)} {j : Nat}
    (hv : Value.okWide Tryd.prog W r b0 41 v) (h : DataW.Trod enc Tryd.prog W 0 (fun _ => true) true 41 v d p)
    (hsz : (DataW.weightsEach Tryd.prog ts ds).all (· ≤ reachBytes) = true) (ht : ts[j]? = some 41) (hd : ds[j]? = some d) :
    ∃ (z0 : ByteArray) (z1 : ByteArray), v = .agg #[.string z0, .string z1] ∧ z0.size ≤ maxLen ∧ z1.size ≤ maxLen := by
  obtain ⟨f0, f1, hu, _⟩ := under_prz
  obtain ⟨cs, rfl, hcs⟩ := okWide_struct hu hv
  obtain ⟨fuel, hf⟩ := h
  rw [cells_prz] at hcs
  obtain ⟨z0, z1, he, hO⟩ := opn_prz_cells (cs := cs.toList) (by simpa using hcs) hf (fun m hm => by
    have := List.all_eq_true.1 hsz _ (DataW.weights_mem_each ht hd _ hm)
    simpa using this)
  exact ⟨z0, z1, by rw [← he], hO⟩
/-- the struct number i of a slice -/
def PrzAt (W : World) (b off i : Nat) : Prop := ∃ (z0 : ByteArray) (z1 : ByteArray), W.cell? ⟨b, off + i * 2, none⟩ = some (.string z0) ∧ W.cell? ⟨b, off + i * 2 + 1, none⟩ = some (.string z1) ∧ z0.size ≤ maxLen ∧ z1.size ≤ maxLen
structure PrzArg (W : World) (a : Option Addr) (len cap : Nat) : Prop where
  le : len ≤ cap
  most : cap ≤ maxLen
  few : len * 32 ≤ 140737488355328
  nil : a = none → cap = 0
  each : len ≠ 0 → ∃ b off, a = some ⟨b, off, none⟩ ∧ ∀ i, i < len → PrzAt W b off i
theorem bytes_prz : Tryd.prog.bytesOf 41 = 32 := by kernel_rfl
theorem open_przs {H : Type} {enc : TypeId × Value → H} {W : World} {r : Reach} {b0 : Nat} {v : Value} {d : DataW H} {p : List MemPlace} {ts : List TypeId} {ds : List (DataW H)} {j : Nat}
    (hv : Value.okWide Tryd.prog W r b0 22 v) (h : DataW.Trod enc Tryd.prog W 0 (fun _ => true) true 22 v d p)
    (hsz : (DataW.weightsEach Tryd.prog ts ds).all (· ≤ reachBytes) = true) (ht : ts[j]? = some 22) (hd : ds[j]? = some d) :
    ∃ a len cap, v = .slice a len cap ∧ PrzArg W a len cap := by
  obtain ⟨a, len, cap, rfl⟩ := okWide_slice Tryd.underlying22 hv
  obtain ⟨fuel, hf⟩ := h
  refine ⟨a, len, cap, rfl, ?_⟩
  rcases open_slice Tryd.underlying22 hf with ⟨hcs, hx⟩ | ⟨x, len', cap', m, n, D, Pl, hcs, hb, hl, hm, hmm, hx, hel⟩
  · simp [Value.cells] at hcs
    obtain ⟨rfl, rfl, rfl⟩ := hcs
    exact ⟨Nat.le_refl _, by simp, by omega, fun _ => rfl, fun h => absurd rfl h⟩
  · simp [Value.cells] at hcs
    obtain ⟨rfl, rfl, rfl⟩ := hcs
    simp at hmm
    subst hmm
    simp only [Prod.mk.injEq] at hx
    have hbound : len * 32 ≤ 140737488355328 := by
      have hd' := hd
      rw [hx.1] at hd'
      have := sized_slice hsz ht hd' Tryd.underlying22
      rw [bytes_prz, List.length_map, List.length_range] at this
      unfold reachBytes at this
      omega
    refine ⟨hl, hm, hbound, (fun h => by cases h), fun h0 => ?_⟩
    have hspot : x.spot = none := by
      obtain ⟨cs', h1, _⟩ := hel 0 (by omega)
      rw [cells_prz] at h1
      obtain ⟨_, hlen, hcell⟩ := World.cells?_some h1
      have := World.cell?_spot ((hcell 0 (by omega)).trans (List.getElem?_eq_getElem (by omega)))
      simpa [Addr.add] using this
    obtain ⟨b, off, spot⟩ := x
    simp only at hspot
    subst hspot
    refine ⟨b, off, rfl, fun i hi => ?_⟩
    obtain ⟨cs', h1, h2⟩ := hel i (by omega)
    rw [cells_prz] at h1
    obtain ⟨_, hlen, hcell⟩ := World.cells?_some h1
    have hmem : D i ∈ (List.range len).map D := List.mem_map.2 ⟨i, List.mem_range.2 hi, rfl⟩
    obtain ⟨z0, z1, rfl, hO⟩ := opn_prz_cells hlen h2 (fun m hm => by
      have m3 : m ∈ DataW.weights Tryd.prog 22 d := by
        rw [hx.1, DataW.weights, Tryd.underlying22]
        exact List.mem_cons_of_mem _ (List.mem_append_left _ (opn_weights hmem _ hm))
      have := List.all_eq_true.1 hsz _ (DataW.weights_mem_each ht hd _ m3)
      simpa using this)
    have e0 := hcell 0 (by omega)
    have e1 := hcell 1 (by omega)
    simp only [opn_add, List.getElem?_cons_zero, List.getElem?_cons_succ, Nat.add_zero] at e0 e1
    exact ⟨z0, z1, e0, e1, hO⟩
/-- a pair of the document's -/
def kRp : Kd (ByteArray × ByteArray) := ⟨41, 22, 2, 32, .agg #[.string ⟨#[]⟩, .string ⟨#[]⟩], fun x => [.string x.1, .string x.2]⟩
theorem kRp_ok : kRp.Ok := ⟨by simp [kRp], fun x => rfl, fun x u hu => by simp [kRp] at hu; rcases hu with rfl | rfl <;> rfl, Tryd.underlying22, by kernel_rfl, rfl, by simp [kRp]⟩
/-- pairs that came in -/
structure PrArg (W : World) (a : Option Addr) (len cap : Nat) (l : List (ByteArray × ByteArray)) : Prop where
  len_eq : len = l.length
  at_ : GAt kRp W (.slice a l.length cap) l
  few : l.length * 32 ≤ 140737488355328
  short : ∀ x ∈ l, x.1.size ≤ maxLen ∧ x.2.size ≤ maxLen
theorem pr_list {W : World} {b off len : Nat} (hc : ∀ i, i < len → PrzAt W b off i) : ∀ n, n ≤ len → ∃ l : List (ByteArray × ByteArray), l.length = n ∧ (∀ x ∈ l, x.1.size ≤ maxLen ∧ x.2.size ≤ maxLen) ∧ ∀ j u, (kRp.cs l)[j]? = some u → W.cell? ⟨b, off + j, none⟩ = some u
  | 0, _ => ⟨[], rfl, (fun x h => by cases h), fun j u h => by simp [Kd.cs] at h⟩
  | n + 1, hn => by
    obtain ⟨l, hl, hs, ih⟩ := pr_list hc n (by omega)
    obtain ⟨z0, z1, e0, e1, r0, r1⟩ := hc n (by omega)
    refine ⟨l ++ [(z0, z1)], by simp [hl], fun x hx => ?_, fun j u h => ?_⟩
    · rcases List.mem_append.1 hx with hx | hx
      · exact hs x hx
      · rw [List.mem_singleton.1 hx]; exact ⟨r0, r1⟩
    rw [Kd.cs_append, List.getElem?_append] at h
    have hlen : (kRp.cs l).length = n * 2 := by rw [Kd.cs_length kRp_ok, hl]; rfl
    rw [hlen] at h
    split at h
    · exact ih j u h
    · have e : kRp.cs [(z0, z1)] = [.string z0, .string z1] := rfl
      rw [e] at h
      rcases hj : j - n * 2 with _ | _ | k
      · rw [hj] at h
        obtain rfl : j = n * 2 := by omega
        simpa using e0.trans h
      · rw [hj] at h
        obtain rfl : j = n * 2 + 1 := by omega
        rw [← Nat.add_assoc]
        simpa using e1.trans h
      · rw [hj] at h
        simp at h
theorem pr_arg {W : World} {a : Option Addr} {len cap : Nat} (h : PrzArg W a len cap) : ∃ l, PrArg W a len cap l := by
  rcases Nat.eq_zero_or_pos len with h0 | h0
  · subst h0
    exact ⟨[], rfl, ⟨a, cap, rfl, Nat.zero_le _, fun e => ⟨rfl, h.nil e⟩, fun ad e j u hu => by simp [Kd.cs] at hu⟩, by simp, (fun x hx => by cases hx)⟩
  · obtain ⟨b, off, rfl, hc⟩ := h.each (by omega)
    obtain ⟨l, hl, hs, hcs⟩ := pr_list hc len (Nat.le_refl _)
    refine ⟨l, hl.symm, ⟨_, cap, rfl, by rw [hl]; exact h.le, (fun e => by cases e), fun ad e j u hu => ?_⟩, by rw [hl]; exact h.few, hs⟩
    cases e
    rw [opn_add]
    exact hcs j u hu
theorem open_prs {H : Type} {enc : TypeId × Value → H} {W : World} {r : Reach} {b0 : Nat} {v : Value} {d : DataW H} {p : List MemPlace} {ts : List TypeId} {ds : List (DataW H)} {j : Nat}
    (hv : Value.okWide Tryd.prog W r b0 22 v) (h : DataW.Trod enc Tryd.prog W 0 (fun _ => true) true 22 v d p)
    (hsz : (DataW.weightsEach Tryd.prog ts ds).all (· ≤ reachBytes) = true) (ht : ts[j]? = some 22) (hd : ds[j]? = some d) :
    ∃ a len cap l, v = .slice a len cap ∧ PrArg W a len cap l := by
  obtain ⟨a, len, cap, e, hA⟩ := open_przs hv h hsz ht hd
  obtain ⟨l, hl⟩ := pr_arg hA
  exact ⟨a, len, cap, l, e, hl⟩
end Go.Proofs.YtligmiajlbjecaaDoor

/- Pairs that came in, few. -/
namespace Go.Proofs.YtligmiajlbjecaaDoor
open Go.ChangeShapes Go.WideShapes Go.ChangeAt Go.RowKit Go.Deep
set_option linter.unusedVariables false
set_option maxRecDepth 100000

theorem prs_small {H : Type} {enc : TypeId × Value → H} {W : World} {r : Reach} {b0 : Nat} {v : Value} {d : DataW H} {p : List MemPlace} {ds : List (DataW H)}
    (hv : Value.okWide Tryd.prog W r b0 22 v) (h : DataW.Trod enc Tryd.prog W 0 (fun _ => true) true 22 v d p)
    (hk : Rows.uptoSmall H ds = true) (hd : d ∈ ds) : ∃ a len cap, v = .slice a len cap ∧ len ≤ 1048576 := by
  obtain ⟨a, len, cap, rfl⟩ := okWide_slice Tryd.underlying22 hv
  obtain ⟨fuel, hf⟩ := h
  refine ⟨a, len, cap, rfl, ?_⟩
  have h1 : Rows.uptoBulkAll ds ≤ 1048576 := of_decide_eq_true hk
  have h2 := bulk_part hd
  rcases open_slice Tryd.underlying22 hf with ⟨hcs, hx⟩ | ⟨x, len', cap', m, n, D, Pl, hcs, hb, hl, hm, hmm, hx, hel⟩
  · simp [Value.cells] at hcs
    obtain ⟨rfl, rfl, rfl⟩ := hcs
    omega
  · simp [Value.cells] at hcs
    obtain ⟨rfl, rfl, rfl⟩ := hcs
    simp only [Prod.mk.injEq] at hx
    rw [hx.1] at h2
    simp only [Rows.uptoBulk] at h2
    have h3 := bulk_length ((List.range len).map D)
    rw [List.length_map, List.length_range] at h3
    omega
end Go.Proofs.YtligmiajlbjecaaDoor
