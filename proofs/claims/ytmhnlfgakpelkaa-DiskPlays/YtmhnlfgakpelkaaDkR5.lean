/- What the document's disk reads. -/
import Derived.Test.YtmhnlfgakpelkaaDkR4
namespace Go.Proofs.Ytmhnlfgakpelkaa
open Go.RowKit
set_option linter.unusedVariables false

theorem SsAt.set {V : List Nat} {w : World} {ls : List (List (BitVec 8))} {vs : List Value} (h : SsAt V w ls vs) (j : Nat) (l : List (BitVec 8)) (a : Option Addr) (cap : Nat) (h1 : l.length ≤ cap) (h2 : Row w a l) (h3 : ∀ y, a = some y → y.block ∈ V ∧ y.spot = none) :
    SsAt V w (ls.set j l) (vs.set j (.slice a l.length cap)) := by
  induction ls generalizing vs j with
  | nil => match vs, h with | [], _ => simp [SsAt]
  | cons l' ls ih =>
    match vs, h with
    | u :: vs, ⟨k1, k3⟩ =>
      cases j with
      | zero => exact ⟨⟨a, cap, rfl, h1, h2, h3⟩, k3⟩
      | succ j => exact ⟨k1, ih k3 j⟩
theorem SsAt.getV {V : List Nat} {w : World} {ls : List (List (BitVec 8))} {vs : List Value} (h : SsAt V w ls vs) (i : Nat) (hi : i < ls.length) :
    ∃ a cap, vs[i]? = some (.slice a ls[i].length cap) ∧ ls[i].length ≤ cap ∧ Row w a ls[i] ∧ ∀ y, a = some y → y.block ∈ V ∧ y.spot = none := by
  induction ls generalizing vs i with
  | nil => simp at hi
  | cons l ls ih =>
    match vs, h with
    | u :: vs, ⟨⟨a, cap, h2, h3, h4, h5⟩, h6⟩ =>
      cases i with
      | zero => subst h2; exact ⟨a, cap, rfl, h3, h4, h5⟩
      | succ i =>
        obtain ⟨a, cap, k1, k2, k3, k4⟩ := ih h6 i (by simpa using hi)
        exact ⟨a, cap, by simpa using k1, k2, k3, k4⟩
theorem ss_one {V : List Nat} {w : World} {ls : List (List (BitVec 8))} {vs : List Value} (h : SsAt V w ls vs) : ∀ u ∈ vs, u.oneCell' = true := by
  induction ls generalizing vs with
  | nil => match vs, h with | [], _ => intro u hu; cases hu
  | cons l ls ih =>
    match vs, h with
    | u :: vs, ⟨⟨a, cap, h2, _⟩, k3⟩ =>
      intro y hy
      rcases List.mem_cons.1 hy with rfl | hy
      · subst h2; rfl
      · exact ih k3 y hy

set_option maxRecDepth 8000 in
set_option maxHeartbeats 2000000 in
theorem rNow_any (g : Nat) (q r : Option Nat) (V : List Nat) (d : Dm) (w : World) (h : (rdk g q r V d).Ok w) (hw : d.Wf) (hgs : d.gs.length ≤ 1000000) :
    Calls Try.prog 38 #[.pointer (some ⟨g, 0, none⟩)] w fun e w' => ∃ v, e = .returned v ∧ Own w' w.heap.size v (nowOf d.safe d.gs) ∧ Below w.heap.size w w' := by
  obtain ⟨i0, hi, hz0, hz1, hz2⟩ := info_parts info_bytes
  obtain ⟨hn, sv, lv, S, vs, ls, hq, hr, hD⟩ := h.holds
  have c0 := hD.blk.cell (by simp [maxLen]) 0 (by simp)
  have c1 := hD.blk.cell (by simp [maxLen]) 1 (by simp)
  simp only [List.getElem?_cons_succ, List.getElem?_cons_zero] at c0 c1
  have hc := hD.count hw
  obtain ⟨-, e2, e3⟩ := hw.len
  obtain ⟨qb, qc, cur, rfl, hcap⟩ : ∃ qb qc cur, sv = .slice (some ⟨qb, 0, none⟩) S.length qc ∧ S.length ≤ qc ∧ w.heap[qb]? = some (.cells cur 22 (0, 0)) := by
    obtain ⟨_, ⟨h1, h2⟩ | ⟨gq, capq, cur, h1, _, h3, h2, _⟩⟩ := hD.safe
    · omega
    · exact ⟨gq, capq, cur, h1, h2, h3⟩
  obtain ⟨la, lc, rfl⟩ := own_form hD.groups
  have hvl : vs.length = S.length * 1 := hD.safe.1
  have hcell : ∀ j u, vs[j]? = some u → w.cell? ((⟨qb, 0, none⟩ : Addr).add j) = some u := by
    intro j u hj
    have hjl : j < vs.length := by
      rcases Nat.lt_or_ge j vs.length with h | h
      · exact h
      · rw [List.getElem?_eq_none h] at hj; cases hj
    have e : (⟨qb, 0, none⟩ : Addr).add j = ⟨qb, 0 + j, none⟩ := by unfold Addr.add; split <;> simp_all
    rw [e, Nat.zero_add, World.ownsRow.cellAt hD.safe j (by omega)]; exact hj
  have hS1 : 1 ≤ S.length := by omega
  have hS2 : S.length ≤ 4096 := by omega
  have H0 : Hid _ := And.intro h (And.intro hw (And.intro hD (And.intro hcell (And.intro hvl (ss_one hD.secs)))))
  have HC : Hid _ := hc
  clear h hw hD hcell hn hq hr hvl hc e2 e3
  go_enter Try.func38, Try.ntmps38
  go_wp2_with (at_builtin; refine wpList_append_own w rfl _ _ 36 rfl w.heap.size 22 i0 (.slice none 0 0) 1 24 Try.underlying36 hi hz0 hz1 hz2 rfl (by decide) (.slice none 0 0) 0 [] rfl (World.ownsRow_nil _ _ _ _) ⟨qb, 0, none⟩ S.length qc vs rfl H0.out.2.2.2.2.1 H0.out.2.2.2.1 H0.out.2.2.2.2.2 (by unfold maxLen; omega) (by omega) (Nat.le_refl _) ?_)
  intro v1 w1 ho1 hg1 _
  have hb1 : Below w.heap.size w w1 := (Below.refl _ _).grown hg1 (Nat.le_refl _) (by simp [Value.ownBlock])
  obtain ⟨kv, cv, rfl, hkv⟩ : ∃ kv cv, v1 = .slice (some ⟨kv, 0, none⟩) S.length cv ∧ w.heap.size ≤ kv ∧ S.length ≤ cv := by
    obtain ⟨_, ⟨h1, h2⟩ | ⟨gq, capq, cur, h1, h3, _, h2, _⟩⟩ := id ho1
    · omega
    · exact ⟨gq, capq, h1, h3, h2⟩
  have H1 : Hid _ := And.intro ho1 hb1
  clear ho1 hg1 hb1
  go_wp2_with fail
  go_loopw [4] (fun i wr => ∃ (i' : Nat) (S' : List (List (BitVec 8))) (us : List Value), i' ≤ d.gs.length ∧ i = .int .i64 i' ∧ wr.ownsRow w.heap.size 22 1 (.slice (some ⟨kv, 0, none⟩) S.length cv) S.length us ∧ SsAt V wr S' us ∧ S'.length = S.length ∧ (∀ s ∈ S', s.length = 256) ∧ S'.flatten = nowOf d.safe (d.gs.take i') ∧ Below w.heap.size w wr) (fun i _ => d.gs.length - (intOf i).toNat)
  case atStart =>
    obtain ⟨h, hw, hD, -⟩ := H0.out
    obtain ⟨ho1, hb1⟩ := H1.out
    exact ⟨0, S, vs, by omega, rfl, ho1, hD.secs.same (fun k hk => hb1.block k (h.lt k (.inr hk))) (fun k hk => hk), rfl, hD.each, hD.join, hb1⟩
  case round =>
    obtain ⟨i, S', us, hi1, rfl, ho, hss, hsl, hse, hsf, hb⟩ := hrel
    by_cases hlt : i < d.gs.length
    · obtain ⟨h, hw, hD, -⟩ := H0.out
      obtain ⟨u, ws, g1, g2, g3, g4, g5⟩ := hD.held.get i hlt
      have hf : Fits d.safe.length d.gs[i] := hw.fits _ (List.getElem_mem _)
      have hts : nowOf d.safe (d.gs.take (i + 1)) = layG (nowOf d.safe (d.gs.take i)) d.gs[i] := by rw [List.take_succ_eq_append_getElem hlt, nowOf_snoc]
      have htl : (nowOf d.safe (d.gs.take i)).length = d.safe.length := nowOf_length (fun y hy => hw.fits y (List.mem_of_mem_take hy))
      obtain ⟨lb, rfl, hlc⟩ : ∃ lb, la = some ⟨lb, 0, none⟩ ∧ d.gs.length ≤ lc := by
        obtain ⟨_, ⟨h1, h2⟩ | ⟨gq, capq, cur, h1, _, _, h2, _⟩⟩ := hD.groups
        · omega
        · simp only [Value.slice.injEq] at h1; exact ⟨gq, h1.1, by omega⟩
      have y0 := (World.ownsRow.cellAt hD.groups (i * 2) (by omega)).trans g1
      have y1 := (World.ownsRow.cellAt hD.groups (i * 2 + 1) (by omega)).trans g2
      have x0 := cell_later hb y0
      have x1 := cell_later hb y1
      have x2 := cell_later hb c1
      have hs1 := secs_pos d.gs[i].2.length hf.1
      have hfn : (d.gs[i].1 + secs d.gs[i].2.length) * 256 ≤ S.length * 256 := by have := hf.2; have := hw.len; rw [HC.out]; omega
      have hfn' : d.gs[i].1 + secs d.gs[i].2.length ≤ S.length := Nat.le_of_mul_le_mul_right hfn (by omega)
      obtain ⟨ub, uc, rfl, huc⟩ : ∃ ub uc, u = .slice (some ⟨ub, 0, none⟩) (secs d.gs[i].2.length) uc ∧ secs d.gs[i].2.length ≤ uc := by
        obtain ⟨_, ⟨h1, h2⟩ | ⟨gq, capq, cur, h1, _, _, h2, _⟩⟩ := g3
        · omega
        · exact ⟨gq, capq, h1, h2⟩
      have hub : ub < w.heap.size := h.lt ub (.inr (g5 ub rfl))
      have hlbl : lb < w.heap.size := (World.ownsRow.lt hD.groups lb rfl).2
      have hgl : g < w.heap.size := hD.blk.lt
      have hVl : ∀ k ∈ V, k < w.heap.size := fun k hk => h.lt k (.inr hk)
      rw [← htl] at hf
      have G : Hid _ := And.intro g3 (And.intro g4 (And.intro hVl (And.intro hts hf)))
      have R0 : Hid _ := And.intro ho (And.intro hss (And.intro hsl (And.intro hse (And.intro hsf hb))))
      have Y : Hid _ := And.intro y0 (And.intro y1 c1)
      clear g3 g4 g5 hVl hts htl hf h hw hD ho hss hsl hse hsf hb g1 g2 hfn H0 H1 HC y0 y1
      generalize hgk : d.gs[i] = gk at *
      clear hgk
      obtain ⟨at', lbs⟩ := gk
      simp only at hfn' hs1 huc x0 x1
      have q1 : (i : Int) < (d.gs.length : Int) := by omega
      have hlc' : (d.gs.length : Int) ≤ (lc : Int) := by omega
      have hS3 : S.length ≤ 4096 := hS2
      generalize hsk : secs lbs.length = sk at *
      go_wp2_with fail
      go_loopw [5] (fun k wq => ∃ (k' : Nat) (S2 : List (List (BitVec 8))) (us2 : List Value), k' ≤ sk ∧ k = .int .i64 k' ∧ wq.ownsRow w.heap.size 22 1 (.slice (some ⟨kv, 0, none⟩) S.length cv) S.length us2 ∧ SsAt V wq S2 us2 ∧ S2.length = S.length ∧ (∀ s ∈ S2, s.length = 256) ∧ S2.flatten = laid (nowOf d.safe (d.gs.take i)) (at', lbs) k' ∧ Below w.heap.size w wq) (fun k _ => sk - (intOf k).toNat)
      case atStart =>
        obtain ⟨ho, hss, hsl, hse, hsf, hb⟩ := R0.out
        exact ⟨0, S', us, by omega, rfl, ho, hss, hsl, hse, by rw [hsf, laid_zero], hb⟩
      case round =>
        clear x0 x1 x2 R0
        obtain ⟨k, S2, us2, hk1, rfl, ho, hss, hsl, hse, hsf, hb⟩ := hrel
        obtain ⟨y0, y1, y2⟩ := Y.out
        have x0 := cell_later hb y0
        have x1 := cell_later hb y1
        have x2 := cell_later hb y2
        obtain ⟨g3, g4, hVl, hts, hf⟩ := G.out
        by_cases hkl : k < sk
        · have q2 : (k : Int) < (sk : Int) := by omega
          have q3 : (sk : Int) ≤ (uc : Int) := by omega
          obtain ⟨sa, sc, z1, z2, z3, z4⟩ := SsAt.getV g4 k (by rw [chs_length]; exact hkl)
          have hsl' : (chs lbs sk)[k]'(by rw [chs_length]; exact hkl) = secAt lbs k := by unfold chs; simp
          rw [hsl', secAt_length lbs k (by omega)] at z1
          rw [hsl'] at z2 z3
          have hsl'' := secAt_length lbs k (by omega)
          have x3 := cell_later hb ((World.ownsRow.cellAt g3 k (by omega)).trans z1)
          have hix : at' + k < S.length := by omega
          have hus : us2.length = S.length * 1 := ho.1
          obtain ⟨old, hold⟩ : ∃ old, wr.cell? ⟨kv, at' + k, none⟩ = some old := ⟨_, (World.ownsRow.cellAt ho (at' + k) (by omega)).trans (List.getElem?_eq_getElem (by omega))⟩
          have hfz := World.ownsRow.frozenAt ho (at' + k)
          obtain ⟨st1, st2⟩ := World.ownsRow.stored ho (at' + k) (.slice sa 256 sc)
          have hVk : ∀ j ∈ V, (wr.setCell ⟨kv, at' + k, none⟩ (.slice sa 256 sc)).heap[j]? = wr.heap[j]? := fun j hj => st2.block j (Nat.lt_of_lt_of_le (hVl j hj) hb.size) (fun e => by cases e; have := hVl kv hj; omega)
          have hb' : Below w.heap.size w (wr.setCell ⟨kv, at' + k, none⟩ (.slice sa 256 sc)) := hb.trans (grown_below st2 _ hkv.1 hb.size)
          have hss' : SsAt V (wr.setCell ⟨kv, at' + k, none⟩ (.slice sa 256 sc)) (S2.set (at' + k) (secAt lbs k)) (us2.set (at' + k) (.slice sa 256 sc)) := by
            have z3' : Row (wr.setCell ⟨kv, at' + k, none⟩ (.slice sa 256 sc)) sa (secAt lbs k) := z3.same (fun y hy => (hVk y.block (z4 y hy).1).trans (hb.block y.block (hVl _ (z4 y hy).1)))
            have := (hss.same hVk (fun k hk => hk)).set (at' + k) (secAt lbs k) sa sc z2 z3' z4
            rwa [hsl''] at this
          have hsf' : (S2.set (at' + k) (secAt lbs k)).flatten = laid (nowOf d.safe (d.gs.take i)) (at', lbs) (k + 1) := by
            rw [laid_succ hf k (by show k < secs lbs.length; omega), flat_set hse (at' + k) (by omega) _ hsl'', hsf]
          have hse' := set_each hse (at' + k) (secAt lbs k) hsl''
          have F : Hid _ := And.intro st1 (And.intro hss' (And.intro (by rw [List.length_set]; exact hsl : (S2.set (at' + k) (secAt lbs k)).length = S.length) (And.intro hse' (And.intro hsf' hb'))))
          have n1 : some g ≠ some kv := by have := hkv.1; simp; omega
          have n2 : some lb ≠ some kv := by have := hkv.1; simp; omega
          have n3 : some ub ≠ some kv := by have := hkv.1; simp; omega
          have S9 : (wr.setCell ⟨kv, at' + k, none⟩ (.slice sa 256 sc)).cell? ⟨g, 1, none⟩ = some (.slice (some ⟨lb, 0, none⟩) d.gs.length lc) ∧ (wr.setCell ⟨kv, at' + k, none⟩ (.slice sa 256 sc)).cell? ⟨lb, i * 2, none⟩ = some (.int .i64 at') ∧ (wr.setCell ⟨kv, at' + k, none⟩ (.slice sa 256 sc)).cell? ⟨lb, i * 2 + 1, none⟩ = some (.slice (some ⟨ub, 0, none⟩) sk uc) ∧ (wr.setCell ⟨kv, at' + k, none⟩ (.slice sa 256 sc)).cell? ⟨ub, k, none⟩ = some (.slice sa 256 sc) := ⟨cell_keep x2 st2 n1, cell_keep x0 st2 n2, cell_keep x1 st2 n2, cell_keep x3 st2 n3⟩
          have HS9 : Hid _ := S9
          clear S9
          have hixc : ((at' : Int) + (k : Int)) < (S.length : Int) := by omega
          have hwr : IntKind.i64.wrap ((at' : Int) + (k : Int)) = ((at' + k : Nat) : Int) := by rw [wrap_i64_small _ (by omega) (by omega)]; omega
          have hixn : ((at' + k : Nat) : Int) < (S.length : Int) := by omega
          have hcvn : S.length ≤ cv := hkv.2
          clear st1 st2 hss' hse' hsf' hb' hVk hss hse hsf hb ho g3 g4 hVl hts hf z1 z2 z3 z4 hsl' hsl'' hsl hus G Y y0 y1 y2 hfn' hs1
          go_wp2_with fail
          go_region_held_law (fun W => W.cell? ⟨g, 1, none⟩ = some (.slice (some ⟨lb, 0, none⟩) d.gs.length lc) ∧ W.cell? ⟨lb, i * 2, none⟩ = some (.int .i64 at') ∧ W.cell? ⟨lb, i * 2 + 1, none⟩ = some (.slice (some ⟨ub, 0, none⟩) sk uc) ∧ W.cell? ⟨ub, k, none⟩ = some (.slice sa 256 sc)) (first | exact ⟨x2, x0, x1, x3⟩ | exact HS9.out) (fail)
          go_wp2
          obtain ⟨f1, f2, f3, f4, f5, f6⟩ := F.out
          exact ⟨⟨k + 1, _, _, by omega, by go_num, f1.drew, f2.same (fun _ _ => rfl) (fun _ h => h), f3, f4, f5, f6.drew⟩, by simp [intOf]; omega⟩
        · obtain rfl : k = sk := by omega
          rw [← hsk, laid_all, ← hts] at hsf
          have F : Hid _ := And.intro ho (And.intro hss (And.intro hsl (And.intro hse (And.intro hsf hb))))
          have q2 : ¬ (k : Int) < (k : Int) := by omega
          clear ho hss hsl hse hsf hb g3 g4 hVl hts hf G Y y0 y1 y2
          go_wp2_with fail
          obtain ⟨f1, f2, f3, f4, f5, f6⟩ := F.out
          exact ⟨⟨i + 1, _, _, by omega, by go_num, f1, f2, f3, f4, f5, f6⟩, by simp [intOf]; omega⟩
    · obtain rfl : i = d.gs.length := by omega
      rw [List.take_length] at hsf
      obtain ⟨h, hw, hD, -⟩ := H0.out
      have hVl : ∀ k ∈ V, k < wr.heap.size := fun k hk => Nat.lt_of_lt_of_le (h.lt k (.inr hk)) hb.size
      have hnl : S'.flatten.length ≤ 140737488351232 := by rw [flat_len hse]; omega
      have c1' := cell_later hb c1
      have HJ := rjoined_any (.slice (some ⟨kv, 0, none⟩) S.length cv) V S' us wr (by rw [hsl]; exact ownsRow_low ho (Nat.zero_le _)) hss hVl (by omega) hnl hse
      rw [hsf] at HJ
      have HJ' : Hid _ := And.intro HJ hb
      clear HJ h hw hD hVl hnl hss hsf ho hb hse H0 H1
      go_wp2_with (go_at_call 46; refine (Calls.mono HJ'.out.1) ?_; rintro e w' ⟨v, rfl, ho, hb2⟩)
      go_ret
      exact ⟨v, rfl, ho.low HJ'.out.2.size, below_then HJ'.out.2 hb2⟩
end Go.Proofs.Ytmhnlfgakpelkaa
