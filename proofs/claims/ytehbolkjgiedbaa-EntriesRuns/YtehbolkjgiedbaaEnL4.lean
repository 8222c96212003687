/- The runs of a log, held against its terms: EntriesRuns' walk. -/
import Derived.Test.YtehbolkjgiedbaaEn24
import Derived.Test.YtehbolkjgiedbaaEnA
import Derived.Deep.QuietTactic
import Derived.BigQuiet
namespace Go.Proofs.Ytehbolkjgiedbaa
open Go.RowKit Go.Shelf
set_option linter.unusedVariables false
set_option maxRecDepth 4000

/-- what stands while the law looks -/
structure RW (w W : World) (g : Nat) (m : Lm) (b N : Nat) (At Tm : Nat → Int) (p off : Nat) (l : List Ent) : Prop where
  be : Below w.heap.size w W
  lg : Lg W g m
  runs : ∀ i, i < N → W.cell? ⟨b, i * 2, none⟩ = some (.int .i64 (At i)) ∧ W.cell? ⟨b, i * 2 + 1, none⟩ = some (.int .i64 (Tm i))
  args : ∀ i (hi : i < l.length), W.cell? ⟨p, off + i * 3 + 1, none⟩ = some (.int .i64 l[i].2.1)
theorem RW.later {w W W' : World} {g : Nat} {m : Lm} {b N : Nat} {At Tm : Nat → Int} {p off : Nat} {l : List Ent} (j : RW w W g m b N At Tm p off l) (hb : Below W.heap.size W W') : RW w W' g m b N At Tm p off l :=
  ⟨below_then j.be hb, j.lg.later hb, fun i hi => ⟨cell_later hb (j.runs i hi).1, cell_later hb (j.runs i hi).2⟩, fun i hi => cell_later hb (j.args i hi)⟩
set_option maxHeartbeats 4000000 in
theorem entriesRuns_walk (at_ term : Int) (mem : Int) (a3 : Option Addr) (len3 cap3 : Nat) (l3 : List Ent) (w : World) (hat : -9223372036854775808 ≤ at_ ∧ at_ ≤ 9223372036854775807) (hterm : -9223372036854775808 ≤ term ∧ term ≤ 9223372036854775807) (hmem : -9223372036854775808 ≤ mem ∧ mem ≤ 9223372036854775807) (A3 : l3.length = len3 ∧ len3 ≤ cap3 ∧ len3 ≤ 140737488355328 ∧ EArgs w a3 l3) :
    Calls Try.prog 7 #[.int .i64 at_, .int .i64 term, .int .i64 mem, .slice a3 len3 cap3] w fun e w' => e = .returned (.bool true) ∧ Below w.heap.size w w' := by
  obtain ⟨hl3, hc3, hn3, hA3⟩ := A3
  subst hl3
  have i3 : (l3.length : Int) ≤ 140737488355328 := by omega
  have HA : Hid (EArgs w a3 l3) := hA3
  clear hA3
  have HL := log9_any at_ term mem a3 l3.length cap3 l3 w rfl hc3 hn3 HA.out
  go_enter Try.func7, Try.ntmps7
  go_wp2_with fail
  refine HL.mono ?_
  rintro e w1 ⟨(⟨h1, h2, h3, g, rfl, hg, L1⟩ | ⟨hno, rfl⟩), b1⟩
  rotate_left
  · have F : Hid _ := b1
    clear b1 HL hno
    go_wp2_with fail
    refine (known9_any w1).mono ?_
    rintro e wz ⟨rfl, bz⟩
    have G : Hid _ := below_then F.out bz
    clear bz
    go_wp2
    go_ret
    exact ⟨rfl, G.out⟩
  have hnb := newB_yes h1
  have hwf := logm_wf h1 h2 h3
  obtain ⟨a', ha⟩ : ∃ a' : Nat, at_ = a' := ⟨at_.toNat, by omega⟩
  subst ha
  obtain ⟨M, hM⟩ : ∃ M : Lm, M = ⟨(a' : Int).toNat, term.toNat, mem.toNat, l3⟩ := ⟨_, rfl⟩
  have hMl : M.l = l3 := by rw [hM]
  have hMf : M.fl = a' := by rw [hM]; rfl
  rw [← hM] at hwf L1
  have HM : Hid (M.Wf ∧ M.l = l3 ∧ M.fl = a') := ⟨hwf, hMl, hMf⟩
  have H1 : Hid (Lg w1 g M ∧ Below w.heap.size w w1 ∧ EArgs w1 a3 l3) := ⟨L1, b1, HA.out.later b1⟩
  have ha' : (a' : Int) ≤ 1099511627776 := hnb.2.1
  clear hM hwf hMl hMf L1 b1 HL h1 h2 h3 hg HA hat hterm hmem hnb
  by_cases c0 : 60 < l3.length
  · have q0 : (60 : Int) < (l3.length : Int) := by omega
    have F : Hid _ := H1.out.2.1
    go_wp2_with fail
    refine (known9_any w1).mono ?_
    rintro e wz ⟨rfl, bz⟩
    have G : Hid _ := below_then F.out bz
    clear bz
    go_wp2
    go_ret
    exact ⟨rfl, G.out⟩
  have q0 : ¬ (60 : Int) < (l3.length : Int) := by omega
  go_wp2_with fail
  refine (lawruns9_log g M w1 H1.out.1 HM.out.1).mono ?_
  rintro e w2 ⟨v, rfl, ho, b2⟩
  obtain ⟨ra, rc, rfl, hrc, hrow⟩ := RnOwn.open ho
  have H2 : Hid (Lg w2 g M ∧ Below w.heap.size w w2 ∧ EArgs w2 a3 l3) := ⟨Lg.later H1.out.1 b2, below_then H1.out.2.1 b2, EArgs.later H1.out.2.2 b2⟩
  have hNl := M.runK_len M.l.length
  rw [HM.out.2.1] at hNl
  by_cases c1 : l3.length = 0
  · have F : Hid _ := H2.out.2.1
    have hz : (M.runK M.l.length).length = 0 := by rw [HM.out.2.1]; omega
    rw [hz]
    clear hrow ho b2 hrc H1 hz hNl
    have q1 : ((l3.length : Int) == 0) = true := by rw [beq_iff_eq]; omega
    go_wp2_with fail
    refine (known9_any w2).mono ?_
    rintro e wz ⟨rfl, bz⟩
    have G : Hid _ := below_then F.out bz
    clear bz
    go_wp2
    go_ret
    exact ⟨rfl, G.out⟩
  have hfi := runs_first (m := M) (by rw [HM.out.2.1]; omega)
  have hst := fun i hi => runs_step HM.out.1 (i := i) hi
  rw [HM.out.2.1] at hfi hst
  obtain ⟨R, hR⟩ : ∃ R, R = M.runK M.l.length := ⟨_, rfl⟩
  rw [HM.out.2.1] at hR
  rw [HM.out.2.1] at hrow hrc ⊢
  rw [← hR] at hfi hst hrow hrc hNl ⊢
  obtain ⟨rb, hra, -⟩ := hrow 0 hfi.1
  subst hra
  obtain ⟨p, off, hap, -⟩ := EArgs.at H2.out.2.2 0 (by omega)
  subst hap
  have hRW : RW w w2 g M rb R.length (rAt R) (rTm R) p off l3 := ⟨H2.out.2.1, H2.out.1, fun i hi => by
      obtain ⟨b', e, h1, h2⟩ := hrow i hi
      have e' : rb = b' := by injection e with e; injection e
      subst e'
      rw [(rAt_in hi).1, (rAt_in hi).2]; exact ⟨h1, h2⟩, fun i hi => by
      obtain ⟨p', off', e, h1⟩ := EArgs.at H2.out.2.2 i hi
      have e' : p = p' ∧ off = off' := by injection e with e; injection e with e1 e2 e3; exact ⟨e1, e2⟩
      obtain ⟨rfl, rfl⟩ := e'
      exact h1.term⟩
  obtain ⟨K, hK⟩ : ∃ K : Nat → Nat, K = fun i => (M.runK i).length - 1 := ⟨_, rfl⟩
  have HK : Hid (K 0 = 0 ∧ K l3.length = R.length - 1) := by rw [hK, hR]; exact ⟨rfl, rfl⟩
  have HS : Hid (∀ i, i < l3.length → K (i + 1) < R.length ∧ rTm R (K (i + 1)) = M.term ((M.fl : Int) + (i + 1 : Nat)) ∧ ((K (i + 1) = K i + 1 ∧ rAt R (K i + 1) = (M.fl : Int) + (i + 1 : Nat) ∧ rTm R (K i) < rTm R (K i + 1)) ∨ (K (i + 1) = K i ∧ (K i + 1 < R.length → rAt R (K i + 1) ≠ (M.fl : Int) + (i + 1 : Nat))))) := by rw [hK]; exact hst
  have hRW0 : Hid _ := hRW
  have Hfi : Hid (1 ≤ R.length ∧ rAt R 0 = (M.fl : Int) + 1) := hfi
  have hN60 : R.length ≤ 60 := by omega
  have hN1 : 1 ≤ R.length := hfi.1
  clear hrow ho b2 H1 H2 hst hK hR hRW hfi hNl
  generalize rAt R = At at *
  generalize rTm R = Tm at *
  obtain ⟨N, hN⟩ : ∃ N : Nat, N = R.length := ⟨_, rfl⟩
  rw [← hN] at hRW0 HK HS Hfi hN60 hN1 hrc ⊢
  clear hN R
  have r0 : w2.cell? ⟨rb, 0, none⟩ = some (.int .i64 ((a' : Int) + 1)) := by
    have := (hRW0.out.runs 0 hN1).1
    rw [Hfi.out.2, HM.out.2.2] at this; exact this
  have q1 : ((l3.length : Int) == 0) = false := by rw [beq_eq_false_iff_ne]; omega
  have q2 : ((N : Int) == 0) = false := by rw [beq_eq_false_iff_ne]; omega
  have q3 : (0 : Int) < (N : Int) := by omega
  have hrc' : (N : Int) ≤ rc := by omega
  go_wp2_with fail
  clear r0
  go_loopw [11, 12] (fun kv iv wr => ∃ i : Nat, iv = .int .i64 i ∧ kv = .int .i64 (K i) ∧ i ≤ l3.length ∧ RW w wr g M rb N At Tm p off l3) (fun _ iv _ => l3.length - (intOf iv).toNat)
  case atStart => exact ⟨0, rfl, by rw [HK.out.1]; rfl, by omega, hRW0.out⟩
  case round =>
    obtain ⟨i, rfl, rfl, hi, hJ⟩ := hrel
    by_cases hlt : i < l3.length
    · obtain ⟨s1, s2, s3⟩ := HS.out i hlt
      have hti : M.term ((M.fl : Int) + (i + 1 : Nat)) = l3[i].2.1 := by
        have := (Lm.part_in (m := M) (n := (M.fl : Int) + (i + 1 : Nat)) (i := i) (by rw [HM.out.2.1]; exact hlt) (by omega)).2
        rw [this]; simp only [HM.out.2.1]
      obtain ⟨T, hT⟩ : ∃ T, T = l3[i].2.1 := ⟨_, rfl⟩
      have HT : Hid (∀ W, RW w W g M rb N At Tm p off l3 → Calls Try.prog 13 #[.pointer (some ⟨g, 0, none⟩), .int .i64 ((a' : Int) + i + 1)] W fun e w' => e = .returned (.int .i64 T) ∧ Below W.heap.size W w') := fun W hW => by
        have h := enTerm_any g M ((a' : Int) + i + 1) W hW.lg HM.out.1 (by unfold I64; omega)
        rw [show (a' : Int) + i + 1 = (M.fl : Int) + (i + 1 : Nat) by rw [HM.out.2.2]; omega, hti, ← hT] at h
        rw [show (a' : Int) + i + 1 = (M.fl : Int) + (i + 1 : Nat) by rw [HM.out.2.2]; omega]
        exact h
      have HTA : Hid (∀ W, RW w W g M rb N At Tm p off l3 → W.cell? ⟨p, off + i * 3 + 1, none⟩ = some (.int .i64 T)) := fun W hW => by rw [hT]; exact hW.args i hlt
      have HTR : Hid (∀ W, RW w W g M rb N At Tm p off l3 → W.cell? ⟨rb, K (i + 1) * 2 + 1, none⟩ = some (.int .i64 T)) := fun W hW => by
        rw [hT, ← hti, ← s2]; exact (hW.runs _ s1).2
      have hKi : Hid (.int .i64 (K (i + 1)) = Value.int .i64 (K (i + 1))) := rfl
      rw [HM.out.2.2] at s3
      have HB : Hid _ := hJ
      clear hti s2 hT hJ
      have s4 : K (i + 1) < N := s1
      clear s1
      obtain ⟨k', hk'⟩ : ∃ k', k' = K (i + 1) := ⟨_, rfl⟩
      obtain ⟨k, hk⟩ : ∃ k, k = K i := ⟨_, rfl⟩
      have HK' : Hid (k' = K (i + 1)) := hk'
      rw [← hk', ← hk] at s3
      rw [← hk'] at s4 HTR
      rw [← hk]
      clear hk' hk hKi
      have hlt' : (i : Int) < (l3.length : Int) := by omega
      have hx : (k : Int) + 1 ≤ 100 := by omega
      rcases s3 with ⟨hkk, hAt, hTm⟩ | ⟨hkk, hno⟩
      · subst hkk
        have x0 : wr.cell? ⟨rb, (k + 1) * 2, none⟩ = some (.int .i64 ((a' : Int) + i + 1)) := by
          rw [(HB.out.runs (k + 1) s4).1, hAt]; congr 2
        have x1 : wr.cell? ⟨rb, (k + 1) * 2 + 1, none⟩ = some (.int .i64 (Tm (k + 1))) := (HB.out.runs (k + 1) s4).2
        have x2 : wr.cell? ⟨rb, k * 2 + 1, none⟩ = some (.int .i64 (Tm k)) := (HB.out.runs k (by omega)).2
        have v3 : ((k : Int) + 1).toNat = k + 1 := by omega
        have v4 : (k : Int) + 1 < (N : Int) := by omega
        clear hAt
        have v0 : (0 : Int) ≤ (k : Int) + 1 := by omega
        have v5 : (k : Int) < (N : Int) := by omega
        have v7 : (k : Int) + 1 - 1 = (k : Int) := by omega
        have v6 : ¬ Tm (k + 1) ≤ Tm k := by omega
        have v8 : decide (Tm (k + 1) ≤ Tm k) = false := decide_eq_false v6
        clear hTm
        go_upto_region 16 with fail
        go_quiet (fail)
        rename_i nq
        go_upto_region 18 with fail
        clear x0 x1 x2 v7 v8 v6
        have HB1 : Hid (RW w (wr.drewN nq) g M rb N At Tm p off l3) := HB.out.later (below_drewN _ _ _)
        clear HB
        generalize wr.drewN nq = wq at *
        have d1 : ∀ W, Below wq.heap.size wq W → W.cell? ⟨rb, (k + 1) * 2 + 1, none⟩ = some (.int .i64 T) := fun W hW => HTR.out W (RW.later HB1.out hW)
        have d2 : ∀ W, Below wq.heap.size wq W → W.cell? ⟨p, off + i * 3 + 1, none⟩ = some (.int .i64 T) := fun W hW => HTA.out W (RW.later HB1.out hW)
        have Sd : Below wq.heap.size wq wq.drew := (Below.refl _ _).drew
        refine wp_region_held_drew (S := fun W => Below wq.heap.size wq W) (by kernel_rfl) Sd (fun hS => ?_)
        have B0 : Below wq.heap.size wq wq.drew := Sd
        refine any_take (i := 0) (v := ?_) rfl (by kernel_rfl) (by kernel_rfl) (by kernel_rfl) (by exact fun _ _ _ h => h) (by rfl) ?_ hS ?_
        rotate_left
        · ((intro w hSw; (try dsimp only at hSw); go_simp) <;> with_reducible rfl)
        (try simp only [Act.put, List.setIfInBounds_toArray, List.set_cons_zero, List.set_cons_succ])
        refine any_take (i := 1) (v := ?_) rfl (by kernel_rfl) (by kernel_rfl) (by kernel_rfl) (by exact fun _ _ _ h => h) (by rfl) ?_ hS ?_
        rotate_left
        · ((intro w hSw; (try dsimp only at hSw); go_simp) <;> with_reducible rfl)
        (try simp only [Act.put, List.setIfInBounds_toArray, List.set_cons_zero, List.set_cons_succ])
        refine any_take (i := 3) (v := ?_) rfl (by kernel_rfl) (by kernel_rfl) (by kernel_rfl) (by exact fun _ _ _ h => h) (by rfl) ?_ hS ?_
        rotate_left
        · ((intro w hSw; (try dsimp only at hSw); go_simp) <;> with_reducible rfl)
        (try simp only [Act.put, List.setIfInBounds_toArray, List.set_cons_zero, List.set_cons_succ])
        refine any_take (i := 4) (v := ?_) rfl (by kernel_rfl) (by kernel_rfl) (by kernel_rfl) (by exact fun _ _ _ h => h) (by rfl) ?_ hS ?_
        rotate_left
        · ((intro w hSw; (try dsimp only at hSw); go_simp) <;> with_reducible rfl)
        (try simp only [Act.put, List.setIfInBounds_toArray, List.set_cons_zero, List.set_cons_succ])
        refine any_take (i := 5) (v := ?_) rfl (by kernel_rfl) (by kernel_rfl) (by kernel_rfl) (by exact fun _ _ _ h => h) (by rfl) ?_ hS ?_
        rotate_left
        · ((intro w hSw; (try dsimp only at hSw); go_simp) <;> with_reducible rfl)
        (try simp only [Act.put, List.setIfInBounds_toArray, List.set_cons_zero, List.set_cons_succ])
        refine any_take (i := 6) (v := ?_) rfl (by kernel_rfl) (by kernel_rfl) (by kernel_rfl) (by exact fun _ _ _ h => h) (by rfl) ?_ hS ?_
        rotate_left
        · ((intro w hSw; (try dsimp only at hSw); go_simp) <;> with_reducible rfl)
        (try simp only [Act.put, List.setIfInBounds_toArray, List.set_cons_zero, List.set_cons_succ])
        refine any_take (i := 7) (v := ?_) rfl (by kernel_rfl) (by kernel_rfl) (by kernel_rfl) (by exact fun _ _ _ h => h) (by rfl) ?_ hS ?_
        rotate_left
        · ((intro w hSw; (try dsimp only at hSw); go_simp) <;> with_reducible rfl)
        (try simp only [Act.put, List.setIfInBounds_toArray, List.set_cons_zero, List.set_cons_succ])
        clear d1 d2
        have K1 : Hid _ := HT.out _ (RW.later HB1.out B0)
        refine any_one (i := 2) rfl (by kernel_rfl) (fun K hK => ?_)
        go_simp
        refine (Calls.mono (K1.out)) ?_
        rintro e x1 ⟨rfl, hbR⟩
        have B1 : Below wq.heap.size wq x1 := below_then B0 hbR
        clear K1
        go_wp2_with fail
        refine hK.out _ _ (by first | exact B1 | exact hbR | exact below_then hS hbR) (any_weaken (S' := fun W => Below x1.heap.size x1 W) (fun W hW => by first | exact below_then B1 hW | exact below_then hbR hW | exact below_then (below_then hS hbR) hW) _ _ _ _ ?_)
        clear hK K hS hbR
        have hS : Below x1.heap.size x1 x1 := Below.refl _ _
        have d1 : ∀ W, Below x1.heap.size x1 W → W.cell? ⟨rb, (k + 1) * 2 + 1, none⟩ = some (.int .i64 T) := fun W hW => HTR.out W (RW.later HB1.out (below_then B1 hW))
        have d2 : ∀ W, Below x1.heap.size x1 W → W.cell? ⟨p, off + i * 3 + 1, none⟩ = some (.int .i64 T) := fun W hW => HTA.out W (RW.later HB1.out (below_then B1 hW))
        refine any_take (i := 8) (v := ?_) rfl (by kernel_rfl) (by kernel_rfl) (by kernel_rfl) (by exact fun _ _ _ h => h) (by rfl) ?_ hS ?_
        rotate_left
        · ((intro w hSw; (try dsimp only at hSw); go_simp) <;> with_reducible rfl)
        (try simp only [Act.put, List.setIfInBounds_toArray, List.set_cons_zero, List.set_cons_succ])
        refine any_take (i := 9) (v := ?_) rfl (by kernel_rfl) (by kernel_rfl) (by kernel_rfl) (by exact fun _ _ _ h => h) (by rfl) ?_ hS ?_
        rotate_left
        · ((intro w hSw; (try dsimp only at hSw); go_simp) <;> with_reducible rfl)
        (try simp only [Act.put, List.setIfInBounds_toArray, List.set_cons_zero, List.set_cons_succ])
        refine any_take (i := 10) (v := ?_) rfl (by kernel_rfl) (by kernel_rfl) (by kernel_rfl) (by exact fun _ _ _ h => h) (by rfl) ?_ hS ?_
        rotate_left
        · ((intro w hSw; (try dsimp only at hSw); go_simp) <;> with_reducible rfl)
        (try simp only [Act.put, List.setIfInBounds_toArray, List.set_cons_zero, List.set_cons_succ])
        refine any_take (i := 11) (v := ?_) rfl (by kernel_rfl) (by kernel_rfl) (by kernel_rfl) (by exact fun _ _ _ h => h) (by rfl) ?_ hS ?_
        rotate_left
        · ((intro w hSw; (try dsimp only at hSw); go_simp) <;> with_reducible rfl)
        (try simp only [Act.put, List.setIfInBounds_toArray, List.set_cons_zero, List.set_cons_succ])
        refine any_take (i := 12) (v := ?_) rfl (by kernel_rfl) (by kernel_rfl) (by kernel_rfl) (by exact fun _ _ _ h => h) (by rfl) ?_ hS ?_
        rotate_left
        · ((intro w hSw; (try dsimp only at hSw); go_simp) <;> with_reducible rfl)
        (try simp only [Act.put, List.setIfInBounds_toArray, List.set_cons_zero, List.set_cons_succ])
        refine any_take (i := 13) (v := ?_) rfl (by kernel_rfl) (by kernel_rfl) (by kernel_rfl) (by exact fun _ _ _ h => h) (by rfl) ?_ hS ?_
        rotate_left
        · ((intro w hSw; (try dsimp only at hSw); go_simp) <;> with_reducible rfl)
        (try simp only [Act.put, List.setIfInBounds_toArray, List.set_cons_zero, List.set_cons_succ])
        refine any_take (i := 14) (v := ?_) rfl (by kernel_rfl) (by kernel_rfl) (by kernel_rfl) (by exact fun _ _ _ h => h) (by rfl) ?_ hS ?_
        rotate_left
        · ((intro w hSw; (try dsimp only at hSw); go_simp) <;> with_reducible rfl)
        (try simp only [Act.put, List.setIfInBounds_toArray, List.set_cons_zero, List.set_cons_succ])
        refine any_take (i := 15) (v := ?_) rfl (by kernel_rfl) (by kernel_rfl) (by kernel_rfl) (by exact fun _ _ _ h => h) (by rfl) ?_ hS ?_
        rotate_left
        · ((intro w hSw; (try dsimp only at hSw); go_simp) <;> with_reducible rfl)
        (try simp only [Act.put, List.setIfInBounds_toArray, List.set_cons_zero, List.set_cons_succ])
        refine any_take (i := 16) (v := ?_) rfl (by kernel_rfl) (by kernel_rfl) (by kernel_rfl) (by exact fun _ _ _ h => h) (by rfl) ?_ hS ?_
        rotate_left
        · ((intro w hSw; (try dsimp only at hSw); go_simp) <;> with_reducible rfl)
        (try simp only [Act.put, List.setIfInBounds_toArray, List.set_cons_zero, List.set_cons_succ])
        refine any_take (i := 17) (v := ?_) rfl (by kernel_rfl) (by kernel_rfl) (by kernel_rfl) (by exact fun _ _ _ h => h) (by rfl) ?_ hS ?_
        rotate_left
        · ((intro w hSw; (try dsimp only at hSw); go_simp) <;> with_reducible rfl)
        (try simp only [Act.put, List.setIfInBounds_toArray, List.set_cons_zero, List.set_cons_succ])
        refine any_take (i := 18) (v := ?_) rfl (by kernel_rfl) (by kernel_rfl) (by kernel_rfl) (by exact fun _ _ _ h => h) (by rfl) ?_ hS ?_
        rotate_left
        · ((intro w hSw; (try dsimp only at hSw); go_simp) <;> with_reducible rfl)
        (try simp only [Act.put, List.setIfInBounds_toArray, List.set_cons_zero, List.set_cons_succ])
        refine any_take (i := 19) (v := ?_) rfl (by kernel_rfl) (by kernel_rfl) (by kernel_rfl) (by exact fun _ _ _ h => h) (by rfl) ?_ hS ?_
        rotate_left
        · ((intro w hSw; (try dsimp only at hSw); go_simp) <;> with_reducible rfl)
        (try simp only [Act.put, List.setIfInBounds_toArray, List.set_cons_zero, List.set_cons_succ])
        refine any_take (i := 20) (v := ?_) rfl (by kernel_rfl) (by kernel_rfl) (by kernel_rfl) (by exact fun _ _ _ h => h) (by rfl) ?_ hS ?_
        rotate_left
        · ((intro w hSw; (try dsimp only at hSw); go_simp) <;> with_reducible rfl)
        (try simp only [Act.put, List.setIfInBounds_toArray, List.set_cons_zero, List.set_cons_succ])
        refine any_take (i := 21) (v := ?_) rfl (by kernel_rfl) (by kernel_rfl) (by kernel_rfl) (by exact fun _ _ _ h => h) (by rfl) ?_ hS ?_
        rotate_left
        · ((intro w hSw; (try dsimp only at hSw); go_simp) <;> with_reducible rfl)
        (try simp only [Act.put, List.setIfInBounds_toArray, List.set_cons_zero, List.set_cons_succ])
        refine wpAnyH_done (by kernel_rfl) ?_ _
        have F : Hid _ := RW.later HB1.out B1
        clear hS d1 d2 HB1
        go_wp2_with fail
        go_roundw
        case rel => exact ⟨i + 1, by go_num, by rw [← HK'.out]; go_num, by omega, F.out⟩
        case measure => simp [intOf]; omega
      · obtain rfl : k = k' := hkk.symm
        clear hkk
        have HB1 : Hid _ := HB.out
        obtain ⟨wq, hwq⟩ : ∃ x, x = wr := ⟨_, rfl⟩
        subst hwq
        clear HB
        by_cases hkN : k + 1 < N
        · have x0 : wq.cell? ⟨rb, (k + 1) * 2, none⟩ = some (.int .i64 (At (k + 1))) := (HB1.out.runs (k + 1) hkN).1
          have v3 : ((k : Int) + 1).toNat = k + 1 := by omega
          have v4 : (k : Int) + 1 < (N : Int) := by omega
          have v5 : (k : Int) < (N : Int) := by omega
          have v9 : (At (k + 1) == (a' : Int) + i + 1) = false := by
            rw [beq_eq_false_iff_ne]
            have := hno hkN
            omega
          clear hno
          go_upto_region 18 with fail
          clear x0 v9 v4 v3
          have d1 : ∀ W, Below wq.heap.size wq W → W.cell? ⟨rb, k * 2 + 1, none⟩ = some (.int .i64 T) := fun W hW => HTR.out W (RW.later HB1.out hW)
          have d2 : ∀ W, Below wq.heap.size wq W → W.cell? ⟨p, off + i * 3 + 1, none⟩ = some (.int .i64 T) := fun W hW => HTA.out W (RW.later HB1.out hW)
          have Sd : Below wq.heap.size wq wq.drew := (Below.refl _ _).drew
          refine wp_region_held_drew (S := fun W => Below wq.heap.size wq W) (by kernel_rfl) Sd (fun hS => ?_)
          have B0 : Below wq.heap.size wq wq.drew := Sd
          refine any_take (i := 0) (v := ?_) rfl (by kernel_rfl) (by kernel_rfl) (by kernel_rfl) (by exact fun _ _ _ h => h) (by rfl) ?_ hS ?_
          rotate_left
          · ((intro w hSw; (try dsimp only at hSw); go_simp) <;> with_reducible rfl)
          (try simp only [Act.put, List.setIfInBounds_toArray, List.set_cons_zero, List.set_cons_succ])
          refine any_take (i := 1) (v := ?_) rfl (by kernel_rfl) (by kernel_rfl) (by kernel_rfl) (by exact fun _ _ _ h => h) (by rfl) ?_ hS ?_
          rotate_left
          · ((intro w hSw; (try dsimp only at hSw); go_simp) <;> with_reducible rfl)
          (try simp only [Act.put, List.setIfInBounds_toArray, List.set_cons_zero, List.set_cons_succ])
          refine any_take (i := 3) (v := ?_) rfl (by kernel_rfl) (by kernel_rfl) (by kernel_rfl) (by exact fun _ _ _ h => h) (by rfl) ?_ hS ?_
          rotate_left
          · ((intro w hSw; (try dsimp only at hSw); go_simp) <;> with_reducible rfl)
          (try simp only [Act.put, List.setIfInBounds_toArray, List.set_cons_zero, List.set_cons_succ])
          refine any_take (i := 4) (v := ?_) rfl (by kernel_rfl) (by kernel_rfl) (by kernel_rfl) (by exact fun _ _ _ h => h) (by rfl) ?_ hS ?_
          rotate_left
          · ((intro w hSw; (try dsimp only at hSw); go_simp) <;> with_reducible rfl)
          (try simp only [Act.put, List.setIfInBounds_toArray, List.set_cons_zero, List.set_cons_succ])
          refine any_take (i := 5) (v := ?_) rfl (by kernel_rfl) (by kernel_rfl) (by kernel_rfl) (by exact fun _ _ _ h => h) (by rfl) ?_ hS ?_
          rotate_left
          · ((intro w hSw; (try dsimp only at hSw); go_simp) <;> with_reducible rfl)
          (try simp only [Act.put, List.setIfInBounds_toArray, List.set_cons_zero, List.set_cons_succ])
          refine any_take (i := 6) (v := ?_) rfl (by kernel_rfl) (by kernel_rfl) (by kernel_rfl) (by exact fun _ _ _ h => h) (by rfl) ?_ hS ?_
          rotate_left
          · ((intro w hSw; (try dsimp only at hSw); go_simp) <;> with_reducible rfl)
          (try simp only [Act.put, List.setIfInBounds_toArray, List.set_cons_zero, List.set_cons_succ])
          refine any_take (i := 7) (v := ?_) rfl (by kernel_rfl) (by kernel_rfl) (by kernel_rfl) (by exact fun _ _ _ h => h) (by rfl) ?_ hS ?_
          rotate_left
          · ((intro w hSw; (try dsimp only at hSw); go_simp) <;> with_reducible rfl)
          (try simp only [Act.put, List.setIfInBounds_toArray, List.set_cons_zero, List.set_cons_succ])
          clear d1 d2
          have K1 : Hid _ := HT.out _ (RW.later HB1.out B0)
          refine any_one (i := 2) rfl (by kernel_rfl) (fun K hK => ?_)
          go_simp
          refine (Calls.mono (K1.out)) ?_
          rintro e x1 ⟨rfl, hbR⟩
          have B1 : Below wq.heap.size wq x1 := below_then B0 hbR
          clear K1
          go_wp2_with fail
          refine hK.out _ _ (by first | exact B1 | exact hbR | exact below_then hS hbR) (any_weaken (S' := fun W => Below x1.heap.size x1 W) (fun W hW => by first | exact below_then B1 hW | exact below_then hbR hW | exact below_then (below_then hS hbR) hW) _ _ _ _ ?_)
          clear hK K hS hbR
          have hS : Below x1.heap.size x1 x1 := Below.refl _ _
          have d1 : ∀ W, Below x1.heap.size x1 W → W.cell? ⟨rb, k * 2 + 1, none⟩ = some (.int .i64 T) := fun W hW => HTR.out W (RW.later HB1.out (below_then B1 hW))
          have d2 : ∀ W, Below x1.heap.size x1 W → W.cell? ⟨p, off + i * 3 + 1, none⟩ = some (.int .i64 T) := fun W hW => HTA.out W (RW.later HB1.out (below_then B1 hW))
          refine any_take (i := 8) (v := ?_) rfl (by kernel_rfl) (by kernel_rfl) (by kernel_rfl) (by exact fun _ _ _ h => h) (by rfl) ?_ hS ?_
          rotate_left
          · ((intro w hSw; (try dsimp only at hSw); go_simp) <;> with_reducible rfl)
          (try simp only [Act.put, List.setIfInBounds_toArray, List.set_cons_zero, List.set_cons_succ])
          refine any_take (i := 9) (v := ?_) rfl (by kernel_rfl) (by kernel_rfl) (by kernel_rfl) (by exact fun _ _ _ h => h) (by rfl) ?_ hS ?_
          rotate_left
          · ((intro w hSw; (try dsimp only at hSw); go_simp) <;> with_reducible rfl)
          (try simp only [Act.put, List.setIfInBounds_toArray, List.set_cons_zero, List.set_cons_succ])
          refine any_take (i := 10) (v := ?_) rfl (by kernel_rfl) (by kernel_rfl) (by kernel_rfl) (by exact fun _ _ _ h => h) (by rfl) ?_ hS ?_
          rotate_left
          · ((intro w hSw; (try dsimp only at hSw); go_simp) <;> with_reducible rfl)
          (try simp only [Act.put, List.setIfInBounds_toArray, List.set_cons_zero, List.set_cons_succ])
          refine any_take (i := 11) (v := ?_) rfl (by kernel_rfl) (by kernel_rfl) (by kernel_rfl) (by exact fun _ _ _ h => h) (by rfl) ?_ hS ?_
          rotate_left
          · ((intro w hSw; (try dsimp only at hSw); go_simp) <;> with_reducible rfl)
          (try simp only [Act.put, List.setIfInBounds_toArray, List.set_cons_zero, List.set_cons_succ])
          refine any_take (i := 12) (v := ?_) rfl (by kernel_rfl) (by kernel_rfl) (by kernel_rfl) (by exact fun _ _ _ h => h) (by rfl) ?_ hS ?_
          rotate_left
          · ((intro w hSw; (try dsimp only at hSw); go_simp) <;> with_reducible rfl)
          (try simp only [Act.put, List.setIfInBounds_toArray, List.set_cons_zero, List.set_cons_succ])
          refine any_take (i := 13) (v := ?_) rfl (by kernel_rfl) (by kernel_rfl) (by kernel_rfl) (by exact fun _ _ _ h => h) (by rfl) ?_ hS ?_
          rotate_left
          · ((intro w hSw; (try dsimp only at hSw); go_simp) <;> with_reducible rfl)
          (try simp only [Act.put, List.setIfInBounds_toArray, List.set_cons_zero, List.set_cons_succ])
          refine any_take (i := 14) (v := ?_) rfl (by kernel_rfl) (by kernel_rfl) (by kernel_rfl) (by exact fun _ _ _ h => h) (by rfl) ?_ hS ?_
          rotate_left
          · ((intro w hSw; (try dsimp only at hSw); go_simp) <;> with_reducible rfl)
          (try simp only [Act.put, List.setIfInBounds_toArray, List.set_cons_zero, List.set_cons_succ])
          refine any_take (i := 15) (v := ?_) rfl (by kernel_rfl) (by kernel_rfl) (by kernel_rfl) (by exact fun _ _ _ h => h) (by rfl) ?_ hS ?_
          rotate_left
          · ((intro w hSw; (try dsimp only at hSw); go_simp) <;> with_reducible rfl)
          (try simp only [Act.put, List.setIfInBounds_toArray, List.set_cons_zero, List.set_cons_succ])
          refine any_take (i := 16) (v := ?_) rfl (by kernel_rfl) (by kernel_rfl) (by kernel_rfl) (by exact fun _ _ _ h => h) (by rfl) ?_ hS ?_
          rotate_left
          · ((intro w hSw; (try dsimp only at hSw); go_simp) <;> with_reducible rfl)
          (try simp only [Act.put, List.setIfInBounds_toArray, List.set_cons_zero, List.set_cons_succ])
          refine any_take (i := 17) (v := ?_) rfl (by kernel_rfl) (by kernel_rfl) (by kernel_rfl) (by exact fun _ _ _ h => h) (by rfl) ?_ hS ?_
          rotate_left
          · ((intro w hSw; (try dsimp only at hSw); go_simp) <;> with_reducible rfl)
          (try simp only [Act.put, List.setIfInBounds_toArray, List.set_cons_zero, List.set_cons_succ])
          refine any_take (i := 18) (v := ?_) rfl (by kernel_rfl) (by kernel_rfl) (by kernel_rfl) (by exact fun _ _ _ h => h) (by rfl) ?_ hS ?_
          rotate_left
          · ((intro w hSw; (try dsimp only at hSw); go_simp) <;> with_reducible rfl)
          (try simp only [Act.put, List.setIfInBounds_toArray, List.set_cons_zero, List.set_cons_succ])
          refine any_take (i := 19) (v := ?_) rfl (by kernel_rfl) (by kernel_rfl) (by kernel_rfl) (by exact fun _ _ _ h => h) (by rfl) ?_ hS ?_
          rotate_left
          · ((intro w hSw; (try dsimp only at hSw); go_simp) <;> with_reducible rfl)
          (try simp only [Act.put, List.setIfInBounds_toArray, List.set_cons_zero, List.set_cons_succ])
          refine any_take (i := 20) (v := ?_) rfl (by kernel_rfl) (by kernel_rfl) (by kernel_rfl) (by exact fun _ _ _ h => h) (by rfl) ?_ hS ?_
          rotate_left
          · ((intro w hSw; (try dsimp only at hSw); go_simp) <;> with_reducible rfl)
          (try simp only [Act.put, List.setIfInBounds_toArray, List.set_cons_zero, List.set_cons_succ])
          refine any_take (i := 21) (v := ?_) rfl (by kernel_rfl) (by kernel_rfl) (by kernel_rfl) (by exact fun _ _ _ h => h) (by rfl) ?_ hS ?_
          rotate_left
          · ((intro w hSw; (try dsimp only at hSw); go_simp) <;> with_reducible rfl)
          (try simp only [Act.put, List.setIfInBounds_toArray, List.set_cons_zero, List.set_cons_succ])
          refine wpAnyH_done (by kernel_rfl) ?_ _
          have F : Hid _ := RW.later HB1.out B1
          clear hS d1 d2 HB1
          go_wp2_with fail
          go_roundw
          case rel => exact ⟨i + 1, by go_num, by rw [← HK'.out], by omega, F.out⟩
          case measure => simp [intOf]; omega
        · have v4 : ¬ (k : Int) + 1 < (N : Int) := by omega
          have v5 : (k : Int) < (N : Int) := by omega
          clear hno
          go_upto_region 18 with fail
          clear v4
          have d1 : ∀ W, Below wq.heap.size wq W → W.cell? ⟨rb, k * 2 + 1, none⟩ = some (.int .i64 T) := fun W hW => HTR.out W (RW.later HB1.out hW)
          have d2 : ∀ W, Below wq.heap.size wq W → W.cell? ⟨p, off + i * 3 + 1, none⟩ = some (.int .i64 T) := fun W hW => HTA.out W (RW.later HB1.out hW)
          have Sd : Below wq.heap.size wq wq.drew := (Below.refl _ _).drew
          refine wp_region_held_drew (S := fun W => Below wq.heap.size wq W) (by kernel_rfl) Sd (fun hS => ?_)
          have B0 : Below wq.heap.size wq wq.drew := Sd
          refine any_take (i := 0) (v := ?_) rfl (by kernel_rfl) (by kernel_rfl) (by kernel_rfl) (by exact fun _ _ _ h => h) (by rfl) ?_ hS ?_
          rotate_left
          · ((intro w hSw; (try dsimp only at hSw); go_simp) <;> with_reducible rfl)
          (try simp only [Act.put, List.setIfInBounds_toArray, List.set_cons_zero, List.set_cons_succ])
          refine any_take (i := 1) (v := ?_) rfl (by kernel_rfl) (by kernel_rfl) (by kernel_rfl) (by exact fun _ _ _ h => h) (by rfl) ?_ hS ?_
          rotate_left
          · ((intro w hSw; (try dsimp only at hSw); go_simp) <;> with_reducible rfl)
          (try simp only [Act.put, List.setIfInBounds_toArray, List.set_cons_zero, List.set_cons_succ])
          refine any_take (i := 3) (v := ?_) rfl (by kernel_rfl) (by kernel_rfl) (by kernel_rfl) (by exact fun _ _ _ h => h) (by rfl) ?_ hS ?_
          rotate_left
          · ((intro w hSw; (try dsimp only at hSw); go_simp) <;> with_reducible rfl)
          (try simp only [Act.put, List.setIfInBounds_toArray, List.set_cons_zero, List.set_cons_succ])
          refine any_take (i := 4) (v := ?_) rfl (by kernel_rfl) (by kernel_rfl) (by kernel_rfl) (by exact fun _ _ _ h => h) (by rfl) ?_ hS ?_
          rotate_left
          · ((intro w hSw; (try dsimp only at hSw); go_simp) <;> with_reducible rfl)
          (try simp only [Act.put, List.setIfInBounds_toArray, List.set_cons_zero, List.set_cons_succ])
          refine any_take (i := 5) (v := ?_) rfl (by kernel_rfl) (by kernel_rfl) (by kernel_rfl) (by exact fun _ _ _ h => h) (by rfl) ?_ hS ?_
          rotate_left
          · ((intro w hSw; (try dsimp only at hSw); go_simp) <;> with_reducible rfl)
          (try simp only [Act.put, List.setIfInBounds_toArray, List.set_cons_zero, List.set_cons_succ])
          refine any_take (i := 6) (v := ?_) rfl (by kernel_rfl) (by kernel_rfl) (by kernel_rfl) (by exact fun _ _ _ h => h) (by rfl) ?_ hS ?_
          rotate_left
          · ((intro w hSw; (try dsimp only at hSw); go_simp) <;> with_reducible rfl)
          (try simp only [Act.put, List.setIfInBounds_toArray, List.set_cons_zero, List.set_cons_succ])
          refine any_take (i := 7) (v := ?_) rfl (by kernel_rfl) (by kernel_rfl) (by kernel_rfl) (by exact fun _ _ _ h => h) (by rfl) ?_ hS ?_
          rotate_left
          · ((intro w hSw; (try dsimp only at hSw); go_simp) <;> with_reducible rfl)
          (try simp only [Act.put, List.setIfInBounds_toArray, List.set_cons_zero, List.set_cons_succ])
          clear d1 d2
          have K1 : Hid _ := HT.out _ (RW.later HB1.out B0)
          refine any_one (i := 2) rfl (by kernel_rfl) (fun K hK => ?_)
          go_simp
          refine (Calls.mono (K1.out)) ?_
          rintro e x1 ⟨rfl, hbR⟩
          have B1 : Below wq.heap.size wq x1 := below_then B0 hbR
          clear K1
          go_wp2_with fail
          refine hK.out _ _ (by first | exact B1 | exact hbR | exact below_then hS hbR) (any_weaken (S' := fun W => Below x1.heap.size x1 W) (fun W hW => by first | exact below_then B1 hW | exact below_then hbR hW | exact below_then (below_then hS hbR) hW) _ _ _ _ ?_)
          clear hK K hS hbR
          have hS : Below x1.heap.size x1 x1 := Below.refl _ _
          have d1 : ∀ W, Below x1.heap.size x1 W → W.cell? ⟨rb, k * 2 + 1, none⟩ = some (.int .i64 T) := fun W hW => HTR.out W (RW.later HB1.out (below_then B1 hW))
          have d2 : ∀ W, Below x1.heap.size x1 W → W.cell? ⟨p, off + i * 3 + 1, none⟩ = some (.int .i64 T) := fun W hW => HTA.out W (RW.later HB1.out (below_then B1 hW))
          refine any_take (i := 8) (v := ?_) rfl (by kernel_rfl) (by kernel_rfl) (by kernel_rfl) (by exact fun _ _ _ h => h) (by rfl) ?_ hS ?_
          rotate_left
          · ((intro w hSw; (try dsimp only at hSw); go_simp) <;> with_reducible rfl)
          (try simp only [Act.put, List.setIfInBounds_toArray, List.set_cons_zero, List.set_cons_succ])
          refine any_take (i := 9) (v := ?_) rfl (by kernel_rfl) (by kernel_rfl) (by kernel_rfl) (by exact fun _ _ _ h => h) (by rfl) ?_ hS ?_
          rotate_left
          · ((intro w hSw; (try dsimp only at hSw); go_simp) <;> with_reducible rfl)
          (try simp only [Act.put, List.setIfInBounds_toArray, List.set_cons_zero, List.set_cons_succ])
          refine any_take (i := 10) (v := ?_) rfl (by kernel_rfl) (by kernel_rfl) (by kernel_rfl) (by exact fun _ _ _ h => h) (by rfl) ?_ hS ?_
          rotate_left
          · ((intro w hSw; (try dsimp only at hSw); go_simp) <;> with_reducible rfl)
          (try simp only [Act.put, List.setIfInBounds_toArray, List.set_cons_zero, List.set_cons_succ])
          refine any_take (i := 11) (v := ?_) rfl (by kernel_rfl) (by kernel_rfl) (by kernel_rfl) (by exact fun _ _ _ h => h) (by rfl) ?_ hS ?_
          rotate_left
          · ((intro w hSw; (try dsimp only at hSw); go_simp) <;> with_reducible rfl)
          (try simp only [Act.put, List.setIfInBounds_toArray, List.set_cons_zero, List.set_cons_succ])
          refine any_take (i := 12) (v := ?_) rfl (by kernel_rfl) (by kernel_rfl) (by kernel_rfl) (by exact fun _ _ _ h => h) (by rfl) ?_ hS ?_
          rotate_left
          · ((intro w hSw; (try dsimp only at hSw); go_simp) <;> with_reducible rfl)
          (try simp only [Act.put, List.setIfInBounds_toArray, List.set_cons_zero, List.set_cons_succ])
          refine any_take (i := 13) (v := ?_) rfl (by kernel_rfl) (by kernel_rfl) (by kernel_rfl) (by exact fun _ _ _ h => h) (by rfl) ?_ hS ?_
          rotate_left
          · ((intro w hSw; (try dsimp only at hSw); go_simp) <;> with_reducible rfl)
          (try simp only [Act.put, List.setIfInBounds_toArray, List.set_cons_zero, List.set_cons_succ])
          refine any_take (i := 14) (v := ?_) rfl (by kernel_rfl) (by kernel_rfl) (by kernel_rfl) (by exact fun _ _ _ h => h) (by rfl) ?_ hS ?_
          rotate_left
          · ((intro w hSw; (try dsimp only at hSw); go_simp) <;> with_reducible rfl)
          (try simp only [Act.put, List.setIfInBounds_toArray, List.set_cons_zero, List.set_cons_succ])
          refine any_take (i := 15) (v := ?_) rfl (by kernel_rfl) (by kernel_rfl) (by kernel_rfl) (by exact fun _ _ _ h => h) (by rfl) ?_ hS ?_
          rotate_left
          · ((intro w hSw; (try dsimp only at hSw); go_simp) <;> with_reducible rfl)
          (try simp only [Act.put, List.setIfInBounds_toArray, List.set_cons_zero, List.set_cons_succ])
          refine any_take (i := 16) (v := ?_) rfl (by kernel_rfl) (by kernel_rfl) (by kernel_rfl) (by exact fun _ _ _ h => h) (by rfl) ?_ hS ?_
          rotate_left
          · ((intro w hSw; (try dsimp only at hSw); go_simp) <;> with_reducible rfl)
          (try simp only [Act.put, List.setIfInBounds_toArray, List.set_cons_zero, List.set_cons_succ])
          refine any_take (i := 17) (v := ?_) rfl (by kernel_rfl) (by kernel_rfl) (by kernel_rfl) (by exact fun _ _ _ h => h) (by rfl) ?_ hS ?_
          rotate_left
          · ((intro w hSw; (try dsimp only at hSw); go_simp) <;> with_reducible rfl)
          (try simp only [Act.put, List.setIfInBounds_toArray, List.set_cons_zero, List.set_cons_succ])
          refine any_take (i := 18) (v := ?_) rfl (by kernel_rfl) (by kernel_rfl) (by kernel_rfl) (by exact fun _ _ _ h => h) (by rfl) ?_ hS ?_
          rotate_left
          · ((intro w hSw; (try dsimp only at hSw); go_simp) <;> with_reducible rfl)
          (try simp only [Act.put, List.setIfInBounds_toArray, List.set_cons_zero, List.set_cons_succ])
          refine any_take (i := 19) (v := ?_) rfl (by kernel_rfl) (by kernel_rfl) (by kernel_rfl) (by exact fun _ _ _ h => h) (by rfl) ?_ hS ?_
          rotate_left
          · ((intro w hSw; (try dsimp only at hSw); go_simp) <;> with_reducible rfl)
          (try simp only [Act.put, List.setIfInBounds_toArray, List.set_cons_zero, List.set_cons_succ])
          refine any_take (i := 20) (v := ?_) rfl (by kernel_rfl) (by kernel_rfl) (by kernel_rfl) (by exact fun _ _ _ h => h) (by rfl) ?_ hS ?_
          rotate_left
          · ((intro w hSw; (try dsimp only at hSw); go_simp) <;> with_reducible rfl)
          (try simp only [Act.put, List.setIfInBounds_toArray, List.set_cons_zero, List.set_cons_succ])
          refine any_take (i := 21) (v := ?_) rfl (by kernel_rfl) (by kernel_rfl) (by kernel_rfl) (by exact fun _ _ _ h => h) (by rfl) ?_ hS ?_
          rotate_left
          · ((intro w hSw; (try dsimp only at hSw); go_simp) <;> with_reducible rfl)
          (try simp only [Act.put, List.setIfInBounds_toArray, List.set_cons_zero, List.set_cons_succ])
          refine wpAnyH_done (by kernel_rfl) ?_ _
          have F : Hid _ := RW.later HB1.out B1
          clear hS d1 d2 HB1
          go_wp2_with fail
          go_roundw
          case rel => exact ⟨i + 1, by go_num, by rw [← HK'.out], by omega, F.out⟩
          case measure => simp [intOf]; omega
    · have he : i = l3.length := by omega
      subst he
      rw [HK.out.2]
      have F : Hid _ := hJ.be
      have v1 : ((N - 1 : Nat) : Int) = (N : Int) - 1 := by omega
      rw [v1]
      clear hJ v1
      go_wp2_with fail
      refine (known9_any wr).mono ?_
      rintro e wz ⟨rfl, bz⟩
      have G : Hid _ := below_then F.out bz
      clear bz
      go_wp2
      go_ret
      exact ⟨rfl, G.out⟩
end Go.Proofs.Ytehbolkjgiedbaa
