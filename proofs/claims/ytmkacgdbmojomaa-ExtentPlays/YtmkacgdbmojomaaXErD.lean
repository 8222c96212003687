/- extent: a script that came in. -/
import Derived.Test.YtmkacgdbmojomaaXEr7
import Derived.Test.YtmkacgdbmojomaaXEx16
import Derived.Test.YtmkacgdbmojomaaXOpA
namespace Go.Proofs.Ytmkacgdbmojomaa
open Go.ChangeShapes Go.WideShapes Go.ChangeAt Go.RowKit Go.Deep
set_option linter.unusedVariables false
set_option maxRecDepth 100000

/-- one change's cells, its bytes as few as can be reached -/
theorem opn_chg_cells {H : Type} {enc : TypeId × Value → H} {W : World} {cs : List Value} {d : DataW H} {p : List MemPlace} {fuel : Nat} (hlen : cs.length = 2)
    (hf : DataW.trod enc Try.prog W 0 (fun _ => true) true fuel 57 cs = some (d, p)) (hwt : ∀ n ∈ d.weights Try.prog 57, n ≤ reachBytes) :
    ∃ (r : Int × List (BitVec 8)) (x : Option Addr) (c : Nat), cs = [.int .i64 r.1, .slice x r.2.length c] ∧ I64 r.1 ∧ DatOk W x r.2 c := by
  obtain ⟨f0, f1, hu, ⟨o0, o1⟩, ⟨c0, c1⟩, ⟨u0, u1⟩⟩ := under_chg
  obtain ⟨xs, k, hk, hxy, _, hxl, hfl⟩ := DataW.trod_struct hu hf
  match xs, hxl, cs, hlen with
  | [y0, y1], _, [v0, v1], _ =>
    simp only [Prod.mk.injEq] at hxy
    have hd : d = .agg [y0.1, y1.1] := hxy.1
    have g0 := hfl 0 f0 rfl
    have g1 := hfl 1 f1 rfl
    simp [o0, o1, c0, c1] at g0 g1
    obtain ⟨z0, q0, _, w0⟩ := DataW.trod_int u0 g0
    simp at q0
    subst q0
    rw [u1] at g1
    have W1 : ∀ n ∈ y1.1.weights Try.prog 31, n ≤ reachBytes := fun n hn => hwt n (by
      rw [hd, DataW.weights, hu]
      exact DataW.weights_mem_each (j := 1) (t := 31) (by simp [u1]) (by rfl) _ hn)
    obtain ⟨z1, z1x, z1c, rfl, D1⟩ := opn_dat g1 W1
    exact ⟨(z0, z1), z1x, z1c, rfl, i64_of_wf w0, D1⟩
/-- changes within something that came in -/
structure ChsOk (W : World) (a : Option Addr) (l : List (Int × List (BitVec 8))) (c : Nat) : Prop where
  cs : CArgs W a l
  le : l.length ≤ c
  few : l.length * 32 ≤ 140737488355328
  each : ∀ r ∈ l, r.2.length ≤ 140737488351232
theorem opn_chs {H : Type} {enc : TypeId × Value → H} {W : World} {v : Value} {d : DataW H} {p : List MemPlace} {fuel : Nat}
    (hf : DataW.trod enc Try.prog W 0 (fun _ => true) true fuel 32 [v] = some (d, p)) (hwt : ∀ n ∈ d.weights Try.prog 32, n ≤ reachBytes) :
    ∃ a l c, v = .slice a l.length c ∧ ChsOk W a l c := by
  rcases open_slice Try.underlying32 hf with ⟨hcs, hx⟩ | ⟨x, len', cap', m, n, D, Pl, hcs, hb, hl, hm, hmm, hx, hel⟩
  · simp at hcs
    subst hcs
    exact ⟨none, [], 0, rfl, .inl rfl, Nat.le_refl _, by simp, fun r hr => by cases hr⟩
  · simp at hcs
    subst hcs
    simp at hmm
    subst hmm
    simp only [Prod.mk.injEq] at hx
    by_cases h0 : len' = 0
    · subst h0
      exact ⟨_, [], _, rfl, .inl rfl, Nat.zero_le _, by simp, fun r hr => by cases hr⟩
    have hspot : x.spot = none := by
      obtain ⟨cs', h1, _⟩ := hel 0 (by omega)
      rw [cells_chg] at h1
      obtain ⟨_, hlen, hcell⟩ := World.cells?_some h1
      have := World.cell?_spot ((hcell 0 (by omega)).trans (List.getElem?_eq_getElem (by omega)))
      simpa [Addr.add] using this
    obtain ⟨b, off, spot⟩ := x
    simp only at hspot
    subst hspot
    obtain ⟨l, hll, hR⟩ := choose_list len' (fun i (r : Int × List (BitVec 8)) => CAt W b off i r ∧ r.2.length ≤ 140737488351232) (fun i hi => by
      obtain ⟨cs', h1, h2⟩ := hel i (by omega)
      rw [cells_chg] at h1
      obtain ⟨_, hlen, hcell⟩ := World.cells?_some h1
      have hmem : D i ∈ (List.range len').map D := List.mem_map.2 ⟨i, List.mem_range.2 hi, rfl⟩
      obtain ⟨r, x', c, rfl, hI, hD⟩ := opn_chg_cells hlen h2 (fun m hm => hwt m (by
        rw [hx.1, DataW.weights, Try.underlying32]
        exact List.mem_cons_of_mem _ (List.mem_append_left _ (all_weights_c hmem _ hm))))
      have e0 := hcell 0 (by omega)
      have e1 := hcell 1 (by omega)
      simp only [add_at_c, List.getElem?_cons_zero, List.getElem?_cons_succ, Nat.add_zero] at e0 e1
      exact ⟨r, ⟨hI, e0, ⟨x', c, e1, hD.row⟩, by have := hD.most; omega⟩, hD.most⟩)
    have hbound : len' * 32 ≤ 140737488355328 := by
      have := hwt ((((List.range len').map D).length + ((List.range (m - len')).map fun j => D (len' + j)).length) * Try.prog.bytesOf 57) (by
        rw [hx.1, DataW.weights, Try.underlying32]
        exact List.mem_cons_self)
      rw [bytes_chg, List.length_map, List.length_range] at this
      unfold reachBytes at this
      omega
    exact ⟨_, l, _, by rw [hll], .inr ⟨b, off, rfl, fun i hi => (hR i hi).1⟩, by omega, by omega, fun r hr => by
      obtain ⟨i, hi, rfl⟩ := List.getElem_of_mem hr
      exact (hR i hi).2⟩
theorem opn_dat2 {H : Type} {enc : TypeId × Value → H} {W : World} {v : Value} {d : DataW H} {p : List MemPlace} {fuel : Nat}
    (hf : DataW.trod enc Try.prog W 0 (fun _ => true) true fuel 31 [v] = some (d, p)) (hwt : ∀ n ∈ d.weights Try.prog 31, n ≤ reachBytes) :
    ∃ l x c, v = .slice x l.length c ∧ Arg 140737488351232 W x l.length c l := by
  obtain ⟨a1, l1, p1, x1, rfl, hA1, hP1⟩ := opn_bytes hf
  have b1 : p1 ≤ 140737488351232 := by
    rcases hP1 with ⟨_, rfl⟩ | ⟨es, sp, rfl, rfl⟩
    · omega
    · have m1 : (es.length + sp.length) * 1 ∈ DataW.weights Try.prog 31 (DataW.slice es sp) := by simp [DataW.weights, Try.underlying31, bytes_u8]
      have := hwt _ m1
      unfold reachBytes at this
      omega
  have A := hA1 _ b1
  have e := A.len_eq
  exact ⟨x1, a1, p1, by rw [e], by rw [e]; exact A⟩
theorem cells_op5 : Try.prog.cellsOf 34 = 5 := by kernel_rfl
theorem bytes_op5 : Try.prog.bytesOf 34 = 72 := by kernel_rfl
theorem under_op5 : ∃ f0 f1 f2 f3 f4, Try.prog.underlying 34 = some (.struct #[f0, f1, f2, f3, f4]) ∧ (f0.offset = 0 ∧ f1.offset = 1 ∧ f2.offset = 2 ∧ f3.offset = 3 ∧ f4.offset = 4) ∧
    (Try.prog.cellsOf f0.type = 1 ∧ Try.prog.cellsOf f1.type = 1 ∧ Try.prog.cellsOf f2.type = 1 ∧ Try.prog.cellsOf f3.type = 1 ∧ Try.prog.cellsOf f4.type = 1) ∧
    (Try.prog.underlying f0.type = some (.int .i64) ∧ Try.prog.underlying f1.type = some (.int .i64) ∧ Try.prog.underlying f2.type = some (.int .i64) ∧ f3.type = 31 ∧ f4.type = 32) := by
  exact ⟨_, _, _, _, _, Try.underlying34, ⟨rfl, rfl, rfl, rfl, rfl⟩, ⟨by kernel_rfl, by kernel_rfl, by kernel_rfl, by kernel_rfl, by kernel_rfl⟩, ⟨Try.underlying3, Try.underlying3, Try.underlying3, rfl, rfl⟩⟩
theorem opn_op5_cells {H : Type} {enc : TypeId × Value → H} {W : World} {cs : List Value} {d : DataW H} {p : List MemPlace} {fuel : Nat} (hlen : cs.length = 5)
    (hf : DataW.trod enc Try.prog W 0 (fun _ => true) true fuel 34 cs = some (d, p)) (hwt : ∀ n ∈ d.weights Try.prog 34, n ≤ reachBytes) :
    ∃ (o : Op5) (ab : Option Addr) (bc : Nat) (al : Option Addr) (lc : Nat), cs = [.int .i64 o.kd, .int .i64 o.lba, .int .i64 o.nn, .slice ab o.bs.length bc, .slice al o.L.length lc] ∧ OpW W o ab bc al lc := by
  obtain ⟨f0, f1, f2, f3, f4, hu, ⟨o0, o1, o2, o3, o4⟩, ⟨c0, c1, c2, c3, c4⟩, ⟨u0, u1, u2, u3, u4⟩⟩ := under_op5
  obtain ⟨xs, k, hk, hxy, _, hxl, hfl⟩ := DataW.trod_struct hu hf
  match xs, hxl, cs, hlen with
  | [y0, y1, y2, y3, y4], _, [v0, v1, v2, v3, v4], _ =>
    simp only [Prod.mk.injEq] at hxy
    have hd : d = .agg [y0.1, y1.1, y2.1, y3.1, y4.1] := hxy.1
    have g0 := hfl 0 f0 rfl
    have g1 := hfl 1 f1 rfl
    have g2 := hfl 2 f2 rfl
    have g3 := hfl 3 f3 rfl
    have g4 := hfl 4 f4 rfl
    simp [o0, o1, o2, o3, o4, c0, c1, c2, c3, c4] at g0 g1 g2 g3 g4
    obtain ⟨z0, q0, _, w0⟩ := DataW.trod_int u0 g0
    simp at q0
    subst q0
    obtain ⟨z1, q1, _, w1⟩ := DataW.trod_int u1 g1
    simp at q1
    subst q1
    obtain ⟨z2, q2, _, w2⟩ := DataW.trod_int u2 g2
    simp at q2
    subst q2
    rw [u3] at g3
    rw [u4] at g4
    have W3 : ∀ n ∈ y3.1.weights Try.prog 31, n ≤ reachBytes := fun n hn => hwt n (by
      rw [hd, DataW.weights, hu]
      exact DataW.weights_mem_each (j := 3) (t := 31) (by simp [u3]) (by rfl) _ hn)
    have W4 : ∀ n ∈ y4.1.weights Try.prog 32, n ≤ reachBytes := fun n hn => hwt n (by
      rw [hd, DataW.weights, hu]
      exact DataW.weights_mem_each (j := 4) (t := 32) (by simp [u4]) (by rfl) _ hn)
    obtain ⟨z3, z3x, z3c, rfl, D3⟩ := opn_dat2 g3 W3
    obtain ⟨z4x, z4, z4c, rfl, D4⟩ := opn_chs g4 W4
    exact ⟨⟨z0, z1, z2, z3, z4⟩, z3x, z3c, z4x, z4c, rfl, ⟨i64_of_wf w0, i64_of_wf w1, i64_of_wf w2, D3, D4.cs, D4.few, D4.each⟩⟩
theorem open_op5s {H : Type} {enc : TypeId × Value → H} {W : World} {r : Reach} {b0 : Nat} {v : Value} {d : DataW H} {p : List MemPlace} {ts : List TypeId} {ds : List (DataW H)} {j : Nat}
    (hv : Value.okWide Try.prog W r b0 22 v) (h : DataW.Trod enc Try.prog W 0 (fun _ => true) true 22 v d p)
    (hsz : (DataW.weightsEach Try.prog ts ds).all (· ≤ reachBytes) = true) (ht : ts[j]? = some 22) (hd : ds[j]? = some d) :
    ∃ a len cap l, v = .slice a len cap ∧ l.length = len ∧ len ≤ 140737488355328 ∧ OArgs W a l := by
  obtain ⟨a, len, cap, rfl⟩ := okWide_slice Try.underlying22 hv
  obtain ⟨fuel, hf⟩ := h
  refine ⟨a, len, cap, ?_⟩
  rcases open_slice Try.underlying22 hf with ⟨hcs, hx⟩ | ⟨x, len', cap', m, n, D, Pl, hcs, hb, hl, hm, hmm, hx, hel⟩
  · simp [Value.cells] at hcs
    obtain ⟨rfl, rfl, rfl⟩ := hcs
    exact ⟨[], rfl, rfl, by omega, .inl rfl⟩
  · simp [Value.cells] at hcs
    obtain ⟨rfl, rfl, rfl⟩ := hcs
    simp at hmm
    subst hmm
    simp only [Prod.mk.injEq] at hx
    by_cases h0 : len = 0
    · exact ⟨[], rfl, by simp [h0], by omega, .inl rfl⟩
    have hspot : x.spot = none := by
      obtain ⟨cs', h1, _⟩ := hel 0 (by omega)
      rw [cells_op5] at h1
      obtain ⟨_, hlen, hcell⟩ := World.cells?_some h1
      have := World.cell?_spot ((hcell 0 (by omega)).trans (List.getElem?_eq_getElem (by omega)))
      simpa [Addr.add] using this
    obtain ⟨b, off, spot⟩ := x
    simp only at hspot
    subst hspot
    obtain ⟨l, hll, hR⟩ := choose_list len (fun i (o : Op5) => ∃ ab bc al lc, OpAt W b off i o ab bc al lc) (fun i hi => by
      obtain ⟨cs', h1, h2⟩ := hel i (by omega)
      rw [cells_op5] at h1
      obtain ⟨_, hlen, hcell⟩ := World.cells?_some h1
      have hmem : D i ∈ (List.range len).map D := List.mem_map.2 ⟨i, List.mem_range.2 hi, rfl⟩
      obtain ⟨o, ab, bc, al, lc, rfl, hO⟩ := opn_op5_cells hlen h2 (fun m hm => by
        have m3 : m ∈ DataW.weights Try.prog 22 d := by
          rw [hx.1, DataW.weights, Try.underlying22]
          exact List.mem_cons_of_mem _ (List.mem_append_left _ (all_weights_c hmem _ hm))
        have := List.all_eq_true.1 hsz _ (DataW.weights_mem_each ht hd _ m3)
        simpa using this)
      have e0 := hcell 0 (by omega)
      have e1 := hcell 1 (by omega)
      have e2 := hcell 2 (by omega)
      have e3 := hcell 3 (by omega)
      have e4 := hcell 4 (by omega)
      simp only [add_at_c, List.getElem?_cons_zero, List.getElem?_cons_succ, Nat.add_zero] at e0 e1 e2 e3 e4
      exact ⟨o, ab, bc, al, lc, ⟨e0, e1, e2, e3, e4, hO⟩⟩)
    have hbound : len ≤ 140737488355328 := by
      have hd' := hd
      rw [hx.1] at hd'
      have := sized_slice hsz ht hd' Try.underlying22
      rw [bytes_op5, List.length_map, List.length_range] at this
      unfold reachBytes at this
      omega
    exact ⟨l, rfl, hll, hbound, .inr ⟨b, off, rfl, hR⟩⟩
theorem open_chls {H : Type} {enc : TypeId × Value → H} {W : World} {r : Reach} {b0 : Nat} {v : Value} {d : DataW H} {p : List MemPlace} {ts : List TypeId} {ds : List (DataW H)} {j : Nat}
    (hv : Value.okWide Try.prog W r b0 32 v) (h : DataW.Trod enc Try.prog W 0 (fun _ => true) true 32 v d p)
    (hsz : (DataW.weightsEach Try.prog ts ds).all (· ≤ reachBytes) = true) (ht : ts[j]? = some 32) (hd : ds[j]? = some d) :
    ∃ a len cap l, v = .slice a len cap ∧ l.length = len ∧ ChsOk W a l cap := by
  obtain ⟨a, len, cap, rfl⟩ := okWide_slice Try.underlying32 hv
  obtain ⟨fuel, hf⟩ := h
  obtain ⟨a', l, c, e, hO⟩ := opn_chs (v := .slice a len cap) (by simpa [Value.cells] using hf) (fun n hn => by
    have := List.all_eq_true.1 hsz _ (DataW.weights_mem_each ht hd _ hn)
    simpa using this)
  cases e
  exact ⟨_, _, _, l, rfl, rfl, hO⟩
end Go.Proofs.Ytmkacgdbmojomaa

