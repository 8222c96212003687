/- The document's disk: a crash. -/
import Derived.Test.YtmhnlfgakpelkaaDkR7
namespace Go.Proofs.Ytmhnlfgakpelkaa
open Go.RowKit
set_option linter.unusedVariables false

/-- what a crash of the document's has done to memory -/
theorem rcrash_step {g qb : Nat} {r : Option Nat} {V : List Nat} {d : Dm} {w wr : World} {sv0 lv : Value} {S S' : List (List (BitVec 8))} {vs ls us : List Value} {L : List (BitVec 8)} (h : (rdk g (some qb) r V d).Ok w) (hD : RdkAt w g V sv0 lv S vs ls d) (nd : (g :: ((some qb).toList ++ r.toList)).Nodup) (hq : sv0.ownBlock = some qb)
    (hg : w.grownBy wr (some qb)) (ho : wr.ownsRow 0 22 1 sv0 S'.length us) (hss : SsAt V wr S' us) (hse : ∀ s ∈ S', s.length = 256) (hsf : S'.flatten = L) :
    wr.heap[g]? = w.heap[g]? ∧ Step w (((wr.setCell ⟨g, 1, none⟩ (.slice none 0 0)).setCell ⟨g, 2, none⟩ (.bool false)).setCell ⟨g, 3, none⟩ (.bool false)) (rdk g (some qb) r V d) (rdk g (some qb) none V ⟨L, [], false, false⟩) := by
  have nd' := nd
  simp only [Option.toList_some, List.nodup_cons, List.mem_cons, List.cons_append, List.nil_append, not_or] at nd'
  have lg : g < w.heap.size := h.lt g (.inl (by simp [rdk]))
  have lq : qb < w.heap.size := h.lt qb (.inl (by simp [rdk]))
  have hgg : wr.heap[g]? = w.heap[g]? := hg.block g lg (by intro e; cases e; exact nd'.1.1 rfl)
  refine ⟨hgg, ?_⟩
  have hB0 : Blk wr g 39 [sv0, lv, .bool d.bad, .bool d.gone] := by have := hD.blk; unfold Blk at *; rw [hgg]; exact this
  have hB := ((hB0.set 1 (.slice none 0 0)).set 2 (.bool false)).set 3 (.bool false)
  generalize hW : ((wr.setCell ⟨g, 1, none⟩ (.slice none 0 0)).setCell ⟨g, 2, none⟩ (.bool false)).setCell ⟨g, 3, none⟩ (.bool false) = wf at *
  have hset : ∀ k, k ≠ g → wf.heap[k]? = wr.heap[k]? := fun k hk => by rw [← hW, Below.heap_setCell _ _ _ _ hk, Below.heap_setCell _ _ _ _ hk, Below.heap_setCell _ _ _ _ hk]
  have hsz : wf.heap.size = wr.heap.size := by rw [← hW]; simp [World.setCell]
  have z := hg.size
  refine ⟨⟨by rw [← hW]; exact hg.os, by rw [← hW]; exact hg.tape, by rw [← hW]; exact hg.output, by omega, fun k hk hn => ?_⟩, rdk_ok ⟨?_, sv0, .slice none 0 0, S', us, [], hq, rfl, by simpa using hB, ownsRow_same ho (fun k hk => hset k ?_), hss.same (fun k hk => hset k ?_) (fun k hk => hk), hsf, hse, World.ownsRow_nil _ _ _ _, trivial⟩ ?_ ?_, ?_, ?_⟩
  · simp only [rdk, Option.toList_some, List.mem_cons, List.cons_append, List.nil_append, not_or] at hn
    rw [hset k hn.1, hg.block k hk (by intro e; cases e; exact hn.2.1 rfl)]
  · simp only [Option.toList_some, Option.toList_none, List.append_nil, List.nodup_cons, List.mem_cons, List.not_mem_nil, or_false, not_false_eq_true, List.nodup_nil, and_true]
    exact nd'.1.1
  · intro e; rw [hq] at hk; cases hk; exact nd'.1.1 e.symm
  · intro e; subst e; exact h.apart k (by simp [rdk]) hk
  · intro k hk
    rw [hsz]
    simp only [Option.toList_some, Option.toList_none, List.append_nil, List.mem_cons, List.not_mem_nil, or_false] at hk
    rcases hk with (rfl | rfl) | hk
    · omega
    · omega
    · have := h.lt k (.inr hk); omega
  · intro k hk hv
    simp only [Option.toList_some, Option.toList_none, List.append_nil, List.mem_cons, List.not_mem_nil, or_false] at hk
    rcases hk with rfl | rfl
    · exact h.apart k (by simp [rdk]) hv
    · exact h.apart k (by simp [rdk]) hv
  · intro k hk
    simp only [rdk, Option.toList_some, Option.toList_none, List.append_nil, List.mem_cons, List.not_mem_nil, or_false] at hk
    rcases hk with rfl | rfl
    · exact .inl (by simp [rdk])
    · exact .inl (by simp [rdk])
  · intro k hk; exact .inr (.inl hk)

set_option maxRecDepth 8000 in
set_option maxHeartbeats 4000000 in
theorem rCrash_some (g qb : Nat) (r : Option Nat) (V : List Nat) (d : Dm) (ka : Option Addr) (kcap : Nat) (kl : List Int) (w : World) (h : (rdk g (some qb) r V d).Ok w) (hw : d.Wf) (hgs : d.gs.length ≤ 1000000) (hkl : kl.length ≤ 140737488355328) (hkc : kl.length ≤ kcap) (hI : IRow w ka kl) (hkn : kl ≠ [] → ∀ y, ka = some y → y.block ≠ qb) :
    Calls Try.prog 35 #[.pointer (some ⟨g, 0, none⟩), .slice ka kl.length kcap] w fun e w' => e = .returned (.tuple #[]) ∧ Step w w' (rdk g (some qb) r V d) (rdk g (some qb) none V ⟨crashed d.safe d.gs kl, [], false, false⟩) := by
  obtain ⟨hn, sv, lv, S, vs, ls, hq, hr, hD⟩ := h.holds
  have c0 := hD.blk.cell (by simp [maxLen]) 0 (by simp)
  have c1 := hD.blk.cell (by simp [maxLen]) 1 (by simp)
  simp only [List.getElem?_cons_succ, List.getElem?_cons_zero] at c0 c1
  have hc := hD.count hw
  obtain ⟨-, e2, e3⟩ := hw.len
  obtain ⟨qc, cur, rfl, hcap⟩ : ∃ qc cur, sv = .slice (some ⟨qb, 0, none⟩) S.length qc ∧ S.length ≤ qc ∧ w.heap[qb]? = some (.cells cur 22 (0, 0)) := by
    obtain ⟨_, ⟨h1, h2⟩ | ⟨gq, capq, cur, h1, _, h3, h2, _⟩⟩ := hD.safe
    · omega
    · rw [h1] at hq; simp [Value.ownBlock] at hq; subst hq; exact ⟨capq, cur, h1, h2, h3⟩
  obtain ⟨la, lc, rfl⟩ := own_form hD.groups
  have hS1 : 1 ≤ S.length := by omega
  have hS2 : S.length ≤ 4096 := by omega
  have hqc : S.length ≤ qc := hcap.1
  have hgl : g < w.heap.size := hD.blk.lt
  have hqb : qb < w.heap.size := h.lt qb (.inl (by simp [rdk]))
  have ngq : g ≠ qb := by intro e; subst e; simp at hn
  have H0 : Hid _ := And.intro h (And.intro hw (And.intro hD (And.intro hn (And.intro hq (And.intro hr (And.intro hI (And.intro hkn hc)))))))
  clear h hw hD hn hq hr hc e2 e3 hI hkn hcap
  go_enter Try.func35, Try.ntmps35
  go_wp2_with fail
  go_loopw [4] (fun i wr => ∃ (i' : Nat) (S' : List (List (BitVec 8))) (us : List Value), i' ≤ d.gs.length ∧ i = .int .i64 i' ∧ wr.ownsRow 0 22 1 (.slice (some ⟨qb, 0, none⟩) S.length qc) S.length us ∧ SsAt V wr S' us ∧ S'.length = S.length ∧ (∀ s ∈ S', s.length = 256) ∧ S'.flatten = crashTo d.safe d.gs kl i' ∧ w.grownBy wr (some qb)) (fun i _ => d.gs.length - (intOf i).toNat)
  case atStart =>
    obtain ⟨h, hw, hD, -⟩ := H0.out
    exact ⟨0, S, vs, by omega, rfl, hD.safe, hD.secs, rfl, hD.each, hD.join, ⟨rfl, rfl, rfl, Nat.le_refl _, fun _ _ _ => rfl⟩⟩
  case round =>
    obtain ⟨i, S', us, hi1, rfl, ho, hss, hsl, hse, hsf, hgr⟩ := hrel
    by_cases hlt : i < d.gs.length
    · obtain ⟨h, hw, hD, hn, hq, hr, hI, hkn, hc⟩ := H0.out
      obtain ⟨u, ws, g1, g2, g3, g4, g5⟩ := hD.held.get i hlt
      have hf : Fits d.safe.length d.gs[i] := hw.fits _ (List.getElem_mem _)
      have htl : (crashTo d.safe d.gs kl i).length = d.safe.length := crashTo_length hw.fits kl i hi1
      have hts : crashTo d.safe d.gs kl (i + 1) = keepG (crashTo d.safe d.gs kl i) d.gs[i] (kl.getD i 0) := by
        rw [crashTo, List.getD, List.getElem?_eq_getElem hlt]; rfl
      obtain ⟨lb, rfl, hlc⟩ : ∃ lb, la = some ⟨lb, 0, none⟩ ∧ d.gs.length ≤ lc := by
        obtain ⟨_, ⟨h1, h2⟩ | ⟨gq, capq, cur, h1, _, _, h2, _⟩⟩ := hD.groups
        · omega
        · simp only [Value.slice.injEq] at h1; exact ⟨gq, h1.1, by omega⟩
      have nlq : lb ≠ qb := by intro e; subst e; rw [← hr] at hn; simp [Value.ownBlock] at hn
      have y0 := (World.ownsRow.cellAt hD.groups (i * 2) (by omega)).trans g1
      have y1 := (World.ownsRow.cellAt hD.groups (i * 2 + 1) (by omega)).trans g2
      have hs1 := secs_pos d.gs[i].2.length hf.1
      have hfn : (d.gs[i].1 + secs d.gs[i].2.length) * 256 ≤ S.length * 256 := by have := hf.2; have := hw.len; rw [hc]; omega
      have hfn' : d.gs[i].1 + secs d.gs[i].2.length ≤ S.length := Nat.le_of_mul_le_mul_right hfn (by omega)
      obtain ⟨ub, uc, rfl, huc⟩ : ∃ ub uc, u = .slice (some ⟨ub, 0, none⟩) (secs d.gs[i].2.length) uc ∧ secs d.gs[i].2.length ≤ uc := by
        obtain ⟨_, ⟨h1, h2⟩ | ⟨gq, capq, cur, h1, _, _, h2, _⟩⟩ := g3
        · omega
        · exact ⟨gq, capq, h1, h2⟩
      have nuq : ub ≠ qb := by intro e; subst e; exact h.apart ub (by simp [rdk]) (g5 ub rfl)
      have hVl : ∀ k ∈ V, k < w.heap.size := fun k hk => h.lt k (.inr hk)
      have hVq : ∀ k ∈ V, k ≠ qb := fun k hk e => h.apart qb (by simp [rdk]) (e ▸ hk)
      rw [← htl] at hf
      have x0 := cell_keep y0 hgr (by simpa using nlq)
      have x1 := cell_keep y1 hgr (by simpa using nlq)
      have x2 := cell_keep c1 hgr (by simpa using ngq)
      have G : Hid _ := And.intro g3 (And.intro g4 (And.intro hVl (And.intro hVq (And.intro hts hf))))
      have R0 : Hid _ := And.intro ho (And.intro hss (And.intro hsl (And.intro hse (And.intro hsf hgr))))
      have Y : Hid _ := And.intro y0 (And.intro y1 (And.intro c0 c1))
      have q1 : (i : Int) < (d.gs.length : Int) := by omega
      have hlc' : (d.gs.length : Int) ≤ (lc : Int) := by omega
      by_cases hkk : i < kl.length
      · have q2 : (i : Int) < (kl.length : Int) := by omega
        have q3 : (kl.length : Int) ≤ (kcap : Int) := by omega
        obtain ⟨b, off, rfl, hic⟩ : ∃ b off, ka = some ⟨b, off, none⟩ ∧ ∀ i (h : i < kl.length), w.cell? ⟨b, off + i, none⟩ = some (.int .i64 kl[i]) := by
          rcases hI.2 with h0 | h0
          · rw [h0] at hkk; simp at hkk
          · exact h0
        have n4 : some b ≠ some qb := by have := hkn (by intro e; rw [e] at hkk; simp at hkk) _ rfl; simpa using this
        have r4 := cell_keep (hic i hkk) hgr n4
        have hgd : kl.getD i 0 = kl[i] := by rw [List.getD, List.getElem?_eq_getElem hkk]; rfl
        have hnb := hI.1 kl[i] (List.getElem_mem _)
        rw [hgd] at G
        generalize kl[i] = nn at *
        clear g3 g4 g5 hVl hVq hts htl hf h hw hD ho hss hsl hse hsf hgr g1 g2 hfn y0 y1 hn hq hr hI hkn hc hic hgd H0
        generalize hgk : d.gs[i] = gk at *
        clear hgk
        obtain ⟨at', lbs⟩ := gk
        simp only at hfn' hs1 huc x0 x1
        generalize hsk : secs lbs.length = sk at *
        go_wp2_with fail
        go_loopw [6] (fun k wq => ∃ (k' : Nat) (S2 : List (List (BitVec 8))) (us2 : List Value), k' ≤ sk ∧ k = .int .i64 k' ∧ wq.ownsRow 0 22 1 (.slice (some ⟨qb, 0, none⟩) S.length qc) S.length us2 ∧ SsAt V wq S2 us2 ∧ S2.length = S.length ∧ (∀ s ∈ S2, s.length = 256) ∧ S2.flatten = keepTo (crashTo d.safe d.gs kl i) (at', lbs) nn k' ∧ w.grownBy wq (some qb)) (fun k _ => sk - (intOf k).toNat)
        case atStart =>
          obtain ⟨ho, hss, hsl, hse, hsf, hgr⟩ := R0.out
          exact ⟨0, S', us, by omega, rfl, ho, hss, hsl, hse, hsf, hgr⟩
        case round =>
          clear x0 x1 x2 R0 r4
          obtain ⟨k, S2, us2, hk1, rfl, ho, hss, hsl, hse, hsf, hgr⟩ := hrel
          obtain ⟨y0, y1, y2, y3⟩ := Y.out
          have x0 := cell_keep y0 hgr (by simpa using nlq)
          have x1 := cell_keep y1 hgr (by simpa using nlq)
          have x2 := cell_keep y3 hgr (by simpa using ngq)
          have x4 := cell_keep y2 hgr (by simpa using ngq)
          obtain ⟨g3, g4, hVl, hVq, hts, hf⟩ := G.out
          by_cases hkl' : k < sk
          · have q4 : (k : Int) < (sk : Int) := by omega
            have q5 : (sk : Int) ≤ (uc : Int) := by omega
            have hbit : (bits .and .i64 (nn / 2 ^ (k % 16)) 1 == 1) = bitOf nn k := by rw [and1_i64]; unfold bitOf; exact Bool.beq_eq_decide_eq _ _
            cases hb : bitOf nn k with
            | false =>
              rw [hb] at hbit
              have hk2 : keepTo (crashTo d.safe d.gs kl i) (at', lbs) nn (k + 1) = keepTo (crashTo d.safe d.gs kl i) (at', lbs) nn k := by rw [keepTo, hb]; rfl
              rw [← hk2] at hsf
              have F : Hid _ := And.intro ho (And.intro hss (And.intro hsl (And.intro hse (And.intro hsf hgr))))
              clear ho hss hsl hse hsf hgr g3 g4 hVl hVq hts hf G Y y0 y1 y2 y3 hk2
              go_wp2_with fail
              obtain ⟨f1, f2, f3, f4, f5, f6⟩ := F.out
              exact ⟨⟨k + 1, _, _, by omega, by go_num, f1, f2, f3, f4, f5, f6⟩, by simp [intOf]; omega⟩
            | true =>
              rw [hb] at hbit
              have hk2 : keepTo (crashTo d.safe d.gs kl i) (at', lbs) nn (k + 1) = splice (keepTo (crashTo d.safe d.gs kl i) (at', lbs) nn k) ((at' + k) * 256) (secAt lbs k) := by rw [keepTo, hb]; rfl
              obtain ⟨sa, sc, z1, z2, z3, z4⟩ := SsAt.getV g4 k (by rw [chs_length]; exact hkl')
              have hsl' : (chs lbs sk)[k]'(by rw [chs_length]; exact hkl') = secAt lbs k := by unfold chs; simp
              rw [hsl', secAt_length lbs k (by omega)] at z1
              rw [hsl'] at z2 z3
              have hsl'' := secAt_length lbs k (by omega)
              have x3 := cell_keep ((World.ownsRow.cellAt g3 k (by omega)).trans z1) hgr (by simpa using nuq)
              have hix : at' + k < S.length := by omega
              have hus : us2.length = S.length * 1 := ho.1
              obtain ⟨old, hold⟩ : ∃ old, wr.cell? ⟨qb, at' + k, none⟩ = some old := ⟨_, (World.ownsRow.cellAt ho (at' + k) (by omega)).trans (List.getElem?_eq_getElem (by omega))⟩
              have hfz := World.ownsRow.frozenAt ho (at' + k)
              obtain ⟨st1, st2⟩ := World.ownsRow.stored ho (at' + k) (.slice sa 256 sc)
              have hVk : ∀ j ∈ V, (wr.setCell ⟨qb, at' + k, none⟩ (.slice sa 256 sc)).heap[j]? = wr.heap[j]? := fun j hj => st2.block j (Nat.lt_of_lt_of_le (hVl j hj) hgr.size) (fun e => hVq j hj (by simpa using e))
              have hg' : w.grownBy (wr.setCell ⟨qb, at' + k, none⟩ (.slice sa 256 sc)) (some qb) := grown_trans hgr st2
              have hss' : SsAt V (wr.setCell ⟨qb, at' + k, none⟩ (.slice sa 256 sc)) (S2.set (at' + k) (secAt lbs k)) (us2.set (at' + k) (.slice sa 256 sc)) := by
                have z3' : Row (wr.setCell ⟨qb, at' + k, none⟩ (.slice sa 256 sc)) sa (secAt lbs k) := z3.same (fun y hy => (hVk y.block (z4 y hy).1).trans (hgr.block y.block (hVl _ (z4 y hy).1) (fun e => hVq _ (z4 y hy).1 (by simpa using e))))
                have := (hss.same hVk (fun k hk => hk)).set (at' + k) (secAt lbs k) sa sc z2 z3' z4
                rwa [hsl''] at this
              have hsf' : (S2.set (at' + k) (secAt lbs k)).flatten = keepTo (crashTo d.safe d.gs kl i) (at', lbs) nn (k + 1) := by
                rw [hk2, flat_set hse (at' + k) (by omega) _ hsl'', hsf]
              have hse' := set_each hse (at' + k) (secAt lbs k) hsl''
              have F : Hid _ := And.intro st1 (And.intro hss' (And.intro (by rw [List.length_set]; exact hsl : (S2.set (at' + k) (secAt lbs k)).length = S.length) (And.intro hse' (And.intro hsf' hg'))))
              have n1 : some g ≠ some qb := by simpa using ngq
              have n2 : some lb ≠ some qb := by simpa using nlq
              have n3 : some ub ≠ some qb := by simpa using nuq
              have S9 : (wr.setCell ⟨qb, at' + k, none⟩ (.slice sa 256 sc)).cell? ⟨g, 0, none⟩ = some (.slice (some ⟨qb, 0, none⟩) S.length qc) ∧ (wr.setCell ⟨qb, at' + k, none⟩ (.slice sa 256 sc)).cell? ⟨g, 1, none⟩ = some (.slice (some ⟨lb, 0, none⟩) d.gs.length lc) ∧ (wr.setCell ⟨qb, at' + k, none⟩ (.slice sa 256 sc)).cell? ⟨lb, i * 2, none⟩ = some (.int .i64 at') ∧ (wr.setCell ⟨qb, at' + k, none⟩ (.slice sa 256 sc)).cell? ⟨lb, i * 2 + 1, none⟩ = some (.slice (some ⟨ub, 0, none⟩) sk uc) ∧ (wr.setCell ⟨qb, at' + k, none⟩ (.slice sa 256 sc)).cell? ⟨ub, k, none⟩ = some (.slice sa 256 sc) := ⟨cell_keep x4 st2 n1, cell_keep x2 st2 n1, cell_keep x0 st2 n2, cell_keep x1 st2 n2, cell_keep x3 st2 n3⟩
              have HS9 : Hid _ := S9
              clear S9
              have hixc : ((at' : Int) + (k : Int)) < (S.length : Int) := by omega
              have hwr : IntKind.i64.wrap ((at' : Int) + (k : Int)) = ((at' + k : Nat) : Int) := by rw [wrap_i64_small _ (by omega) (by omega)]; omega
              have hixn : ((at' + k : Nat) : Int) < (S.length : Int) := by omega
              clear st1 st2 hss' hse' hsf' hg' hVk hss hse hsf hgr ho g3 g4 hVl hVq hts hf z1 z2 z3 z4 hsl' hsl'' hsl hus G Y y0 y1 y2 y3 hfn' hs1 hk2
              go_wp2_with fail
              go_region_held_law (fun W => W.cell? ⟨g, 0, none⟩ = some (.slice (some ⟨qb, 0, none⟩) S.length qc) ∧ W.cell? ⟨g, 1, none⟩ = some (.slice (some ⟨lb, 0, none⟩) d.gs.length lc) ∧ W.cell? ⟨lb, i * 2, none⟩ = some (.int .i64 at') ∧ W.cell? ⟨lb, i * 2 + 1, none⟩ = some (.slice (some ⟨ub, 0, none⟩) sk uc) ∧ W.cell? ⟨ub, k, none⟩ = some (.slice sa 256 sc)) (first | exact ⟨x4, x2, x0, x1, x3⟩ | exact HS9.out) (fail)
              go_wp2
              obtain ⟨f1, f2, f3, f4, f5, f6⟩ := F.out
              exact ⟨⟨k + 1, _, _, by omega, by go_num, f1.drew, f2.same (fun _ _ => rfl) (fun _ h => h), f3, f4, f5, ⟨f6.os, f6.tape, f6.output, f6.size, f6.block⟩⟩, by simp [intOf]; omega⟩
          · obtain rfl : k = sk := by omega
            have hsf2 : S2.flatten = crashTo d.safe d.gs kl (i + 1) := by rw [hts, hsf]; unfold keepG; rw [← hsk]
            have F : Hid _ := And.intro ho (And.intro hss (And.intro hsl (And.intro hse (And.intro hsf2 hgr))))
            have q2' : ¬ (k : Int) < (k : Int) := by omega
            clear ho hss hsl hse hsf hsf2 hgr g3 g4 hVl hVq hts hf G Y y0 y1 y2 y3
            go_wp2_with fail
            obtain ⟨f1, f2, f3, f4, f5, f6⟩ := F.out
            exact ⟨⟨i + 1, _, _, by omega, by go_num, f1, f2, f3, f4, f5, f6⟩, by simp [intOf]; omega⟩
      · have q2 : ¬ (i : Int) < (kl.length : Int) := by omega
        have hsk' := crashTo_skip hw.fits kl i hlt (by omega)
        rw [← hsk'] at hsf
        have R1 : Hid _ := And.intro ho (And.intro hss (And.intro hsl (And.intro hse (And.intro hsf hgr))))
        clear g3 g4 g5 hVl hVq hts htl hf h hw hD ho hss hsl hse hsf hgr g1 g2 hfn y0 y1 hn hq hr hI hkn hc hsk' H0 R0
        generalize hgk : d.gs[i] = gk at *
        clear hgk
        obtain ⟨at', lbs⟩ := gk
        simp only at hfn' hs1 huc x0 x1
        generalize hsk : secs lbs.length = sk at *
        obtain ⟨wz, hwz⟩ : ∃ wz, wz = wr := ⟨_, rfl⟩
        subst hwz
        go_wp2_with fail
        go_loopw [6] (fun k wq => ∃ (k' : Nat), k' ≤ sk ∧ k = .int .i64 k' ∧ wq = wz) (fun k _ => sk - (intOf k).toNat)
        case atStart => exact ⟨0, by omega, rfl, rfl⟩
        case round =>
          obtain ⟨k, hk1, rfl, rfl⟩ := hrel
          by_cases hkl' : k < sk
          · have q4 : (k : Int) < (sk : Int) := by omega
            have q5 : (sk : Int) ≤ (uc : Int) := by omega
            have hbit' : (bits .and .i64 0 1 == 1) = false := by rw [and1_i64]; rfl
            have hbit : (bits .and .i64 (0 / 2 ^ (k % 16)) 1 == 1) = false := by rw [Int.zero_ediv]; exact hbit'
            clear G Y
            go_wp2_with fail
            exact ⟨⟨k + 1, by omega, by go_num, by first | rfl | trivial⟩, by simp [intOf]; omega⟩
          · obtain rfl : k = sk := by omega
            have q2' : ¬ (k : Int) < (k : Int) := by omega
            clear G Y
            go_wp2_with fail
            obtain ⟨f1, f2, f3, f4, f5, f6⟩ := R1.out
            exact ⟨⟨i + 1, _, _, by omega, by go_num, f1, f2, f3, f4, f5, f6⟩, by simp [intOf]; omega⟩
    · obtain rfl : i = d.gs.length := by omega
      obtain ⟨h, hw, hD, hn, hq, hr, hI, hkn, hc⟩ := H0.out
      rw [← hsl] at ho
      have hD' := hD
      obtain ⟨hgg, st⟩ := rcrash_step h hD hn hq hgr (by rw [← hsl]; exact ho) hss hse hsf
      have hB : Blk wr g 39 [.slice (some ⟨qb, 0, none⟩) S.length qc, .slice la d.gs.length lc, .bool d.bad, .bool d.gone] := by have := hD.blk; unfold Blk at *; rw [hgg]; exact this
      have t1 := hB.cell (by simp [maxLen]) 1 (by simp)
      have t2 := hB.cell (by simp [maxLen]) 2 (by simp)
      have t3 := hB.cell (by simp [maxLen]) 3 (by simp)
      have u1 := hB.frozen (by simp [maxLen]) 1
      have u2 := hB.frozen (by simp [maxLen]) 2
      have u3 := hB.frozen (by simp [maxLen]) 3
      simp only [List.getElem?_cons_succ, List.getElem?_cons_zero] at t1 t2 t3
      have F : Hid _ := st
      clear h hw hD hD' hn hq hr hI hkn hc H0 ho hss hsl hse hsf hgr hgg st hB c0 c1
      go_wp2
      go_end0
      exact ⟨rfl, F.out⟩
end Go.Proofs.Ytmhnlfgakpelkaa
