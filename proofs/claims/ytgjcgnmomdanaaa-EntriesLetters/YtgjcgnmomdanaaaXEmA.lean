/- A message that came in. -/
import Derived.Test.YtgjcgnmomdanaaaXEpA
import Derived.Test.YtgjcgnmomdanaaaXEm1
namespace Go.Proofs.Ytgjcgnmomdanaaa
open Go.ChangeShapes Go.WideShapes Go.ChangeAt Go.RowKit Go.Deep
set_option linter.unusedVariables false
set_option maxRecDepth 100000

theorem open_ents_cells {H : Type} {enc : TypeId × Value → H} {W : World} {v : Value} {d : DataW H} {p : List MemPlace} {fuel : Nat}
    (hf : DataW.trod enc Try.prog W 0 (fun _ => true) true fuel 22 [v] = some (d, p)) (hwt : ∀ n ∈ d.weights Try.prog 22, n ≤ reachBytes) :
    ∃ a cap l, v = .slice a l.length cap ∧ l.length ≤ cap ∧ l.length ≤ 140737488355328 ∧ EArgs W a l := by
  rcases open_slice Try.underlying22 hf with ⟨hcs, hx⟩ | ⟨x, len, cap, m, n, D, Pl, hcs, hb, hl, hm, hmm, hx, hel⟩
  · simp at hcs
    subst hcs
    exact ⟨none, 0, [], rfl, Nat.le_refl _, by simp, .inl rfl⟩
  · simp at hcs
    subst hcs
    simp at hmm
    subst hmm
    simp only [Prod.mk.injEq] at hx
    by_cases h0 : len = 0
    · exact ⟨_, _, [], by rw [h0]; rfl, Nat.zero_le _, by simp, .inl rfl⟩
    have hspot : x.spot = none := by
      obtain ⟨cs', h1, _⟩ := hel 0 (by omega)
      rw [cells_ent] at h1
      obtain ⟨_, hlen, hcell⟩ := World.cells?_some h1
      have := World.cell?_spot ((hcell 0 (by omega)).trans (List.getElem?_eq_getElem (by omega)))
      simpa [Addr.add] using this
    obtain ⟨b, off, spot⟩ := x
    simp only at hspot
    subst hspot
    obtain ⟨l, hll, hR⟩ := choose_list9 len (fun i r => EAt W b off i r) (fun i hi => by
      obtain ⟨cs', h1, h2⟩ := hel i (by omega)
      rw [cells_ent] at h1
      obtain ⟨_, hlen, hcell⟩ := World.cells?_some h1
      have hmem : D i ∈ (List.range len).map D := List.mem_map.2 ⟨i, List.mem_range.2 hi, rfl⟩
      obtain ⟨r, x', c, rfl, hI, hI2, hRow, hle, hnil, hle2⟩ := open_ent_cells hlen h2 (fun m hm => by
        have m3 : m ∈ DataW.weights Try.prog 22 d := by
          rw [hx.1, DataW.weights, Try.underlying22]
          exact List.mem_cons_of_mem _ (List.mem_append_left _ (all_weights_e hmem _ hm))
        exact hwt _ m3)
      have e0 := hcell 0 (by omega)
      have e1 := hcell 1 (by omega)
      have e2 := hcell 2 (by omega)
      simp only [add_at_e, List.getElem?_cons_zero, List.getElem?_cons_succ, Nat.add_zero] at e0 e1 e2
      exact ⟨r, e0, e1, ⟨x', c, e2, hRow, hle, hnil⟩, hI, hI2, hle2⟩)
    have hbound : len ≤ 140737488355328 := by
      have m1 : (len + (m - len)) * 40 ∈ DataW.weights Try.prog 22 d := by
        rw [hx.1, DataW.weights, Try.underlying22]
        simp [bytes_ent]
      have := hwt _ m1
      unfold reachBytes at this
      omega
    exact ⟨_, _, l, by rw [hll], by omega, by omega, .inr ⟨b, off, rfl, hR⟩⟩
theorem cells_msg : Try.prog.cellsOf 25 = 11 := by kernel_rfl
theorem under_msg : ∃ f0 f1 f2 f3 f4 f5 f6 f7 f8 f9 f10, Try.prog.underlying 25 = some (.struct #[f0, f1, f2, f3, f4, f5, f6, f7, f8, f9, f10]) ∧ (f0.offset = 0 ∧ f1.offset = 1 ∧ f2.offset = 2 ∧ f3.offset = 3 ∧ f4.offset = 4 ∧ f5.offset = 5 ∧ f6.offset = 6 ∧ f7.offset = 7 ∧ f8.offset = 8 ∧ f9.offset = 9 ∧ f10.offset = 10) ∧
    (Try.prog.cellsOf f0.type = 1 ∧ Try.prog.cellsOf f1.type = 1 ∧ Try.prog.cellsOf f2.type = 1 ∧ Try.prog.cellsOf f3.type = 1 ∧ Try.prog.cellsOf f4.type = 1 ∧ Try.prog.cellsOf f5.type = 1 ∧ Try.prog.cellsOf f6.type = 1 ∧ Try.prog.cellsOf f7.type = 1 ∧ Try.prog.cellsOf f8.type = 1 ∧ Try.prog.cellsOf f9.type = 1 ∧ Try.prog.cellsOf f10.type = 1) ∧ (Try.prog.underlying f0.type = some (.int .i64) ∧ Try.prog.underlying f1.type = some (.int .i64) ∧ Try.prog.underlying f2.type = some (.int .i64) ∧ Try.prog.underlying f3.type = some (.int .i64) ∧ Try.prog.underlying f4.type = some (.int .i64) ∧ Try.prog.underlying f5.type = some (.int .i64) ∧ Try.prog.underlying f6.type = some (.int .i64) ∧ Try.prog.underlying f7.type = some (.int .i64) ∧ Try.prog.underlying f8.type = some .bool ∧ f9.type = 22 ∧ f10.type = 23) := by
  refine ⟨_, _, _, _, _, _, _, _, _, _, _, Try.underlying25, ⟨rfl, rfl, rfl, rfl, rfl, rfl, rfl, rfl, rfl, rfl, rfl⟩, ⟨by kernel_rfl, by kernel_rfl, by kernel_rfl, by kernel_rfl, by kernel_rfl, by kernel_rfl, by kernel_rfl, by kernel_rfl, by kernel_rfl, by kernel_rfl, by kernel_rfl⟩, ⟨Try.underlying3, Try.underlying3, Try.underlying3, Try.underlying2, Try.underlying2, Try.underlying2, Try.underlying2, Try.underlying2, Try.underlying4, rfl, rfl⟩⟩
theorem open_msg {H : Type} {enc : TypeId × Value → H} {W : World} {r : Reach} {b0 : Nat} {v : Value} {d : DataW H} {p : List MemPlace} {ts : List TypeId} {ds : List (DataW H)} {j : Nat}
    (hv : Value.okWide Try.prog W r b0 25 v) (h : DataW.Trod enc Try.prog W 0 (fun _ => true) true 25 v d p)
    (hsz : (DataW.weightsEach Try.prog ts ds).all (· ≤ reachBytes) = true) (ht : ts[j]? = some 25) (hd : ds[j]? = some d) :
    ∃ (m : Mg) (ea : Option Addr) (ec : Nat) (da : Option Addr) (dc : Nat), v = .agg #[.int .i64 m.kd, .int .i64 m.fr, .int .i64 m.too, .int .i64 m.tm, .int .i64 m.at_, .int .i64 m.att, .int .i64 m.cm, .int .i64 m.rd, .bool m.yes, .slice ea m.es.length ec, .slice da m.dt.length dc] ∧ EArgs W ea m.es ∧ m.es.length ≤ ec ∧ m.es.length ≤ 140737488355328 ∧ Row W da m.dt ∧ m.dt.length ≤ dc ∧ m.dt.length ≤ 140737488351232 ∧ (da = none → dc = 0) := by
  obtain ⟨f0, f1, f2, f3, f4, f5, f6, f7, f8, f9, f10, hu, ⟨o0, o1, o2, o3, o4, o5, o6, o7, o8, o9, o10⟩, ⟨c0, c1, c2, c3, c4, c5, c6, c7, c8, c9, c10⟩, ⟨u0, u1, u2, u3, u4, u5, u6, u7, u8, u9, u10⟩⟩ := under_msg
  obtain ⟨cs, rfl, hcs⟩ := okWide_struct hu hv
  obtain ⟨fuel, hf⟩ := h
  rw [cells_msg] at hcs
  have hwt : ∀ n ∈ d.weights Try.prog 25, n ≤ reachBytes := fun m hm => by
    have := List.all_eq_true.1 hsz _ (DataW.weights_mem_each ht hd _ hm)
    simpa using this
  obtain ⟨xs, k, hk, hxy, _, hxl, hfl⟩ := DataW.trod_struct hu hf
  have hlen : cs.toList.length = 11 := by simpa using hcs
  obtain ⟨csl, hcsl⟩ : ∃ l, l = cs.toList := ⟨_, rfl⟩
  have hfl' := hfl
  rw [← hcsl] at hlen
  match xs, hxl, csl, hlen, hcsl with
  | [y0, y1, y2, y3, y4, y5, y6, y7, y8, y9, y10], _, [v0, v1, v2, v3, v4, v5, v6, v7, v8, v9, v10], _, hcsl =>
    have hcs2 : cs = #[v0, v1, v2, v3, v4, v5, v6, v7, v8, v9, v10] := by cases cs; simp_all
    subst hcs2
    have g0 := hfl' 0 f0 rfl
    have g1 := hfl' 1 f1 rfl
    have g2 := hfl' 2 f2 rfl
    have g3 := hfl' 3 f3 rfl
    have g4 := hfl' 4 f4 rfl
    have g5 := hfl' 5 f5 rfl
    have g6 := hfl' 6 f6 rfl
    have g7 := hfl' 7 f7 rfl
    have g8 := hfl' 8 f8 rfl
    have g9 := hfl' 9 f9 rfl
    have g10 := hfl' 10 f10 rfl
    simp [Value.cells, o0, o1, o2, o3, o4, o5, o6, o7, o8, o9, o10, c0, c1, c2, c3, c4, c5, c6, c7, c8, c9, c10] at g0 g1 g2 g3 g4 g5 g6 g7 g8 g9 g10
    obtain ⟨z0, q0, _, w0⟩ := DataW.trod_int u0 g0
    simp at q0
    subst q0
    obtain ⟨z1, q1, _, w1⟩ := DataW.trod_int u1 g1
    simp at q1
    subst q1
    obtain ⟨z2, q2, _, w2⟩ := DataW.trod_int u2 g2
    simp at q2
    subst q2
    obtain ⟨z3, q3, _, w3⟩ := DataW.trod_int u3 g3
    simp at q3
    subst q3
    obtain ⟨z4, q4, _, w4⟩ := DataW.trod_int u4 g4
    simp at q4
    subst q4
    obtain ⟨z5, q5, _, w5⟩ := DataW.trod_int u5 g5
    simp at q5
    subst q5
    obtain ⟨z6, q6, _, w6⟩ := DataW.trod_int u6 g6
    simp at q6
    subst q6
    obtain ⟨z7, q7, _, w7⟩ := DataW.trod_int u7 g7
    simp at q7
    subst q7
    obtain ⟨z8, q8, _⟩ := DataW.trod_bool u8 g8
    simp at q8
    subst q8
    rw [u9] at g9
    rw [u10] at g10
    obtain ⟨y9d, y9p⟩ := y9
    obtain ⟨y10d, y10p⟩ := y10
    simp only [Prod.mk.injEq] at hxy
    have hd' : d = .agg [y0.1, y1.1, y2.1, y3.1, y4.1, y5.1, y6.1, y7.1, y8.1, y9d, y10d] := hxy.1
    obtain ⟨ea, ec, es, rfl, hes1, hes2, hes3⟩ := open_ents_cells g9 (fun n hn => hwt n (by
      rw [hd', DataW.weights, hu]
      exact DataW.weights_mem_each (j := 9) (t := 22) (by simp [u9]) (by rfl) _ hn))
    obtain ⟨da, dl, dc, dt, rfl, hA1, hP1⟩ := open_bytes_e g10
    have b1 : dc ≤ 140737488351232 := by
      rcases hP1 with ⟨_, rfl⟩ | ⟨es', sp, rfl, rfl⟩
      · omega
      · have m1 : (es'.length + sp.length) * 1 ∈ DataW.weights Try.prog 23 (DataW.slice es' sp) := by simp [DataW.weights, Try.underlying23, bytes_u8]
        have m2 : (es'.length + sp.length) * 1 ∈ DataW.weights Try.prog 25 d := by
          rw [hd', DataW.weights, hu]
          exact DataW.weights_mem_each (j := 10) (t := 23) (by simp [u10]) (by rfl) _ m1
        have := hwt _ m2
        unfold reachBytes at this
        omega
    have A := hA1 _ b1
    have h1 := A.le
    have h2 := A.len_eq
    exact ⟨⟨z0, z1, z2, z3, z4, z5, z6, z7, z8, es, dt⟩, ea, ec, da, dc, by simp only; rw [h2], hes3, hes1, hes2, A.row, by simp only; omega, by simp only; omega, A.isNil⟩
end Go.Proofs.Ytgjcgnmomdanaaa

