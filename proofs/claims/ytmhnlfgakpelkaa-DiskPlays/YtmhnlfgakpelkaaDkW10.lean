/- The walk of a crash. -/
import Derived.Test.YtmhnlfgakpelkaaDkW9
namespace Go.Proofs.Ytmhnlfgakpelkaa
open Go.RowKit
set_option linter.unusedVariables false

theorem turned_s {w wr : World} {a b : Nat} (h : w.grownBy wr (some a)) : Turned (fun k => k = a ∨ k = b) w wr := turned_grown h (fun k hk => by cases hk; exact .inl rfl)
theorem turned_then {w w1 wr : World} {a b : Nat} (h : Turned (fun k => k = a ∨ k = b) w w1) (k : w1.grownBy wr (some b)) : Turned (fun k => k = a ∨ k = b) w wr :=
  h.trans (turned_grown k (fun i hi => by cases hi; exact .inl (.inr rfl)))

theorem own_splice {w' : World} {base g n cap : Nat} {l x : List (BitVec 8)} {cur : List Value} {off : Nat} (hn : l.length = n) (h1 : cur.length = cap) (h2 : cur.take l.length = vals l) (h3 : l.length ≤ cap) (h4 : cap ≤ maxLen) (h5 : base ≤ g)
    (hB : Blk w' g 5 (splice cur off (vals x))) (hf : off + x.length ≤ l.length) : Own w' base (.slice (some ⟨g, 0, none⟩) n cap) (splice l off x) := by
  have hL : (splice l off x).length = n := by rw [splice_length _ _ _ hf]; exact hn
  have h := blk_own (base := base) (cap := cap) (l := splice l off x) hB (by rw [splice_length _ _ _ (by rw [vals_length]; omega)]; exact h1) (by rw [hL, ← hn, take_splice _ _ _ _ (by rw [vals_length]; exact hf) (by omega), h2, ← vals_splice]) (by omega) h4 h5
  rw [hL] at h
  exact h

set_option maxRecDepth 4000 in
set_option maxHeartbeats 2000000 in
theorem Crash_any (g : Nat) (p : Pl) (d : Dm) (ka : Option Addr) (kcap : Nat) (kl : List Int) (w : World) (h : (dk g p d).Ok w) (hw : d.Wf) (hgs : d.gs.length ≤ 1000000) (hkl : kl.length ≤ 140737488355328) (hkc : kl.length ≤ kcap) (hI : IRow w ka kl) (hkn : kl ≠ [] → ∀ y, ka = some y → y.block ≠ p.s) :
    Calls Try.prog 20 #[.pointer (some ⟨g, 0, none⟩), .slice ka kl.length kcap] w fun e w' => e = .returned (.int .i64 0) ∧ Step w w' (dk g p d) (dk g ⟨p.s, p.m, none, []⟩ ⟨crashed d.safe d.gs kl, [], false, false⟩) := by
  obtain ⟨nd, cs, cm, gv, vs, hq, hD⟩ := h.holds
  have c2 := hD.blk.cell (by simp [maxLen]) 2 (by simp)
  simp only [List.getElem?_cons_succ, List.getElem?_cons_zero] at c2
  have hl6 : d.safe.length ≤ 1048576 := by have := hw.len; omega
  obtain ⟨ga, gcap, hgv⟩ := own_form hD.groups
  subst hgv
  have K : Hid _ := And.intro h (And.intro hw (And.intro hD (And.intro nd (And.intro hq (And.intro hI hkn)))))
  clear h hw hD nd hq hI hkn
  go_enter Try.func20, Try.ntmps20
  go_wp2_with fail
  go_loopw [16] (fun i wr => ∃ k : Nat, k ≤ d.gs.length ∧ i = .int .i64 k ∧ Own wr 0 (.slice (some ⟨p.s, 0, none⟩) d.safe.length cs) (crashTo d.safe d.gs kl k) ∧ w.grownBy wr (some p.s)) (fun i _ => d.gs.length - (intOf i).toNat)
  case atStart => exact ⟨0, by omega, rfl, K.out.2.2.1.safe, ⟨rfl, rfl, rfl, Nat.le_refl _, fun _ _ _ => rfl⟩⟩
  case round =>
    obtain ⟨k, hk1, rfl, hOr, hgr⟩ := hrel
    by_cases hlt : k < d.gs.length
    · have q1 : (k : Int) < (d.gs.length : Int) := by omega
      obtain ⟨h, hw, hD, nd, hq, hI, hkn⟩ := K.out
      obtain ⟨kb, gcap', a, bcap, hgv, hgc, e1, e2, e3, e4, e5, r3, -⟩ := dk_group (t := 0) h hD nd hq (turned_s (b := p.m) hgr) k hlt
      simp only [Value.slice.injEq] at hgv
      obtain ⟨rfl, -, rfl⟩ := hgv
      have hf : Fits d.safe.length d.gs[k] := hw.fits _ (List.getElem_mem _)
      have hcl := crashTo_length hw.fits kl k hk1
      have ls := h.lt p.s (.inl (by simp [dk]))
      have n1 : some g ≠ some p.s := by simp only [List.nodup_cons, List.mem_cons, not_or] at nd; simpa using nd.1.1
      have n3 : some wr.heap.size ≠ some p.s := by have := hgr.size; simp; omega
      by_cases hkk : k < kl.length
      · have q2 : (k : Int) < (kl.length : Int) := by omega
        have hts : crashTo d.safe d.gs kl (k + 1) = keepG (crashTo d.safe d.gs kl k) d.gs[k] kl[k] := by
          rw [crashTo, List.getD, List.getElem?_eq_getElem hlt, List.getD, List.getElem?_eq_getElem hkk]; rfl
        have hkb := hI.1 kl[k] (List.getElem_mem _)
        obtain ⟨b, off, rfl, hic⟩ : ∃ b off, ka = some ⟨b, off, none⟩ ∧ ∀ i (h : i < kl.length), w.cell? ⟨b, off + i, none⟩ = some (.int .i64 kl[i]) := by
          rcases hI.2 with h0 | h0
          · rw [h0] at hkk; simp at hkk
          · exact h0
        have n4 : some b ≠ some p.s := by have := hkn (by intro e; rw [e] at hkk; simp at hkk) _ rfl; simpa using this
        have r4 := cell_keep (hic k hkk) hgr n4
        generalize kl[k] = kk at *
        generalize d.gs[k] = gk at *
        obtain ⟨x, lb⟩ := gk
        have S1 := box_cells wr (.int .i64 x) (.slice a lb.length bcap) 68
        have b1 : Below wr.heap.size wr (wr.alloc (.cells #[.int .i64 x, .slice a lb.length bcap] 68)) := (Below.refl _ _).alloc (Nat.le_refl _) _
        have b1d := b1.drew
        have S0 : (wr.alloc (.cells #[.int .i64 x, .slice a lb.length bcap] 68)).drew.cell? ⟨wr.heap.size, 0, none⟩ = some (.int .i64 x) ∧ (wr.alloc (.cells #[.int .i64 x, .slice a lb.length bcap] 68)).drew.cell? ⟨wr.heap.size, 1, none⟩ = some (.slice a lb.length bcap) ∧ (wr.alloc (.cells #[.int .i64 x, .slice a lb.length bcap] 68)).drew.cell? ⟨g, 0, none⟩ = some (.slice (some ⟨p.s, 0, none⟩) d.safe.length cs) ∧ (wr.alloc (.cells #[.int .i64 x, .slice a lb.length bcap] 68)).drew.cell? ⟨b, off + k, none⟩ = some (.int .i64 kk) := ⟨S1.1, S1.2, cell_later b1d r3, cell_later b1d r4⟩
        have HL : Hid _ := layKept_now x a bcap lb 0 p.s cs d.safe.length _ kk (wr.alloc (.cells #[.int .i64 x, .slice a lb.length bcap] 68)).drew hcl (Own.later hOr b1d) (by omega) hf e3 (e4.later b1d) (fun y hy => (e5 y hy).1) hkb
        have HT : Hid _ := And.intro hts (And.intro b1d hgr)
        clear hts hcl hOr hgr S1 b1 b1d nd h hw hD hq hI hkn e4 e5 c2 K ls hf hic
        go_wp2_with fail
        generalize wr.alloc (.cells #[.int .i64 x, .slice a lb.length bcap] 68) = w1 at *
        go_region_held_law (fun W => W.cell? ⟨wr.heap.size, 0, none⟩ = some (.int .i64 x) ∧ W.cell? ⟨wr.heap.size, 1, none⟩ = some (.slice a lb.length bcap) ∧ W.cell? ⟨g, 0, none⟩ = some (.slice (some ⟨p.s, 0, none⟩) d.safe.length cs) ∧ W.cell? ⟨b, off + k, none⟩ = some (.int .i64 kk)) (first | exact S0 | assumption)
          (first
            | (go_at_call 42; refine (Calls.mono HL.out) ?_; rintro e w3 ⟨rfl, hO3, hg3⟩; have S3 : w3.cell? ⟨wr.heap.size, 0, none⟩ = some (.int .i64 x) ∧ w3.cell? ⟨wr.heap.size, 1, none⟩ = some (.slice a lb.length bcap) ∧ w3.cell? ⟨g, 0, none⟩ = some (.slice (some ⟨p.s, 0, none⟩) d.safe.length cs) ∧ w3.cell? ⟨b, off + k, none⟩ = some (.int .i64 kk) := ⟨cell_keep S0.1 hg3 n3, cell_keep S0.2.1 hg3 n3, cell_keep S0.2.2.1 hg3 n1, cell_keep S0.2.2.2 hg3 n4⟩))
        have F : Hid _ := And.intro hO3 (grown_trans (grown_trans HT.out.2.2 ⟨HT.out.2.1.os, HT.out.2.1.tape, HT.out.2.1.output, HT.out.2.1.size, fun k hk _ => HT.out.2.1.block k hk⟩) hg3)
        rw [← HT.out.1] at F
        clear hO3 hg3 HT HL S0 S3
        go_wp2_with fail
        exact ⟨⟨k + 1, by omega, by go_num, F.out.1, F.out.2⟩, by simp [intOf]; omega⟩
      · have q2 : ¬ (k : Int) < (kl.length : Int) := by omega
        have hts := crashTo_skip hw.fits kl k hlt (by omega)
        generalize d.gs[k] = gk at *
        obtain ⟨x, lb⟩ := gk
        have b1 : Below wr.heap.size wr (wr.alloc (.cells #[.int .i64 x, .slice a lb.length bcap] 68)) := (Below.refl _ _).alloc (Nat.le_refl _) _
        have F : Hid _ := And.intro (Own.later hOr b1) (grown_trans hgr (⟨b1.os, b1.tape, b1.output, b1.size, fun k hk _ => b1.block k hk⟩ : wr.grownBy _ (some p.s)))
        rw [← hts] at F
        clear hts hcl hOr hgr b1 nd h hw hD hq hI hkn e4 e5 c2 K ls hf
        go_wp2_with fail
        exact ⟨⟨k + 1, by omega, by go_num, F.out.1, F.out.2⟩, by simp [intOf]; omega⟩
    · obtain rfl : k = d.gs.length := by omega
      obtain ⟨h, hw, hD, nd, hq, hI, hkn⟩ := K.out
      have n1 : some g ≠ some p.s := by simp only [List.nodup_cons, List.mem_cons, not_or] at nd; simpa using nd.1.1
      have r2 := cell_keep c2 hgr n1
      have HO : Hid _ := And.intro hOr hgr
      clear h hw hD nd hq hI hkn hOr hgr c2
      go_wp2_with fail
      obtain ⟨wz, hwz⟩ : ∃ wz, wz = wr := ⟨_, rfl⟩
      subst hwz
      go_loopw [41] (fun i wq => ∃ k : Nat, k ≤ d.gs.length ∧ i = .int .i64 k ∧ Own wq 0 (.slice (some ⟨p.m, 0, none⟩) d.safe.length cm) (backTo (nowOf d.safe d.gs) (crashed d.safe d.gs kl) d.gs k) ∧ wz.grownBy wq (some p.m)) (fun i _ => d.gs.length - (intOf i).toNat)
      case atStart =>
        refine ⟨0, by omega, rfl, ?_, ⟨rfl, rfl, rfl, Nat.le_refl _, fun _ _ _ => rfl⟩⟩
        obtain ⟨h, hw, hD, nd, hq, hI, hkn⟩ := K.out
        simp only [List.nodup_cons, List.mem_cons, not_or] at nd
        exact hD.now.same (fun k hk => by cases hk; exact HO.out.2.block _ (h.lt _ (.inl (by simp [dk]))) (by intro e; exact nd.2.1.1 (by simpa using e.symm)))
      case round =>
        obtain ⟨k, hk1', rfl, hOq, hgq⟩ := hrel
        obtain ⟨hOz, hgz⟩ := HO.out
        obtain ⟨h, hw, hD, nd, hq, hI, hkn⟩ := K.out
        have hT := turned_then (turned_s (b := p.m) hgz) hgq
        have nd' := nd
        simp only [List.nodup_cons, List.mem_cons, not_or] at nd'
        have lz := hgz.size
        have lq := hgq.size
        have ls := h.lt p.s (.inl (by simp [dk]))
        have lm := h.lt p.m (.inl (by simp [dk]))
        have hcl : (crashed d.safe d.gs kl).length = d.safe.length := crashTo_length hw.fits kl _ (Nat.le_refl _)
        have hf' : ∀ y ∈ d.gs, Fits (crashed d.safe d.gs kl).length y := by rw [hcl]; exact hw.fits
        have hbl := backTo_length (now := nowOf d.safe d.gs) (by rw [hw.now, hcl]) hf' k hk1'
        rw [hcl] at hbl
        have hOs : Own wr 0 (.slice (some ⟨p.s, 0, none⟩) d.safe.length cs) (crashed d.safe d.gs kl) := Own.same hOz (fun i hi => by cases hi; exact hgq.block p.s (by omega) (by intro e; exact nd'.2.1.1 (by simpa using e)))
        by_cases hlt' : k < d.gs.length
        · have q1 : (k : Int) < (d.gs.length : Int) := by omega
          obtain ⟨kb, gcap', a, bcap, hgv, hgc, e1, e2, e3, e4, e5, r3, r4⟩ := dk_group (t := 0) h hD nd hq hT k hlt'
          simp only [Value.slice.injEq] at hgv
          obtain ⟨rfl, -, rfl⟩ := hgv
          have hf : Fits d.safe.length d.gs[k] := hw.fits _ (List.getElem_mem _)
          have hts : backTo (nowOf d.safe d.gs) (crashed d.safe d.gs kl) d.gs (k + 1) = splice (backTo (nowOf d.safe d.gs) (crashed d.safe d.gs kl) d.gs k) (d.gs[k].1 * 256) (((crashed d.safe d.gs kl).drop (d.gs[k].1 * 256)).take (secs d.gs[k].2.length * 256)) := by
            rw [backTo, List.getD, List.getElem?_eq_getElem hlt']; rfl
          have hsl := span_len (safe := crashed d.safe d.gs kl) (g := d.gs[k]) (by rw [hcl]; exact hf)
          generalize d.gs[k] = gk at *
          obtain ⟨x, lb⟩ := gk
          have hfx : (x + secs lb.length) * 256 ≤ d.safe.length := hf.2
          have hs1 := secs_pos lb.length hf.1
          obtain ⟨cur, hBm, hcur, hct, hcle, hcm, hcb⟩ := own_blk hOq
          obtain ⟨as1, cs', hvs, hles, hms, hrs, -, -⟩ := hOs.open
          simp only [Value.slice.injEq] at hvs
          obtain ⟨rfl, -, rfl⟩ := hvs
          rw [hcl] at hles
          have hrp := hrs.part (n := 0) (x * 256) (secs lb.length * 256)
          generalize ((crashed d.safe d.gs kl).drop (x * 256)).take (secs lb.length * 256) = X at *
          generalize backTo (nowOf d.safe d.gs) (crashed d.safe d.gs kl) d.gs k = L at *
          have S1 := box_cells wr (.int .i64 x) (.slice a lb.length bcap) 68
          have b1 : Below wr.heap.size wr (wr.alloc (.cells #[.int .i64 x, .slice a lb.length bcap] 68)) := (Below.refl _ _).alloc (Nat.le_refl _) _
          have b1d := b1.drew
          have S0 : (wr.alloc (.cells #[.int .i64 x, .slice a lb.length bcap] 68)).drew.cell? ⟨wr.heap.size, 0, none⟩ = some (.int .i64 x) ∧ (wr.alloc (.cells #[.int .i64 x, .slice a lb.length bcap] 68)).drew.cell? ⟨wr.heap.size, 1, none⟩ = some (.slice a lb.length bcap) ∧ (wr.alloc (.cells #[.int .i64 x, .slice a lb.length bcap] 68)).drew.cell? ⟨g, 0, none⟩ = some (.slice (some ⟨p.s, 0, none⟩) d.safe.length cs) ∧ (wr.alloc (.cells #[.int .i64 x, .slice a lb.length bcap] 68)).drew.cell? ⟨g, 1, none⟩ = some (.slice (some ⟨p.m, 0, none⟩) d.safe.length cm) := ⟨S1.1, S1.2, cell_later b1d r3, cell_later b1d r4⟩
          have n3 : some wr.heap.size ≠ some p.m := by simp; omega
          have n2 : some g ≠ some p.m := by simpa using nd'.1.2.1
          have f0 : (x + secs lb.length) * 256 ≤ cs := Nat.le_trans hfx hles
          have f1 : (x + secs lb.length) * 256 ≤ cm := by rw [← hbl] at hfx; exact Nat.le_trans hfx hcle
          have f2 : (x + secs lb.length) * 256 ≤ 140737488355328 := Nat.le_trans hfx (by omega)
          have f3 : lb.length ≤ 140737488355328 := Nat.le_trans (secs_le _) (Nat.le_trans (by rw [Nat.add_mul]; exact Nat.le_add_left _ _) f2)
          have f4 : x * 256 + X.length ≤ cur.length := by rw [hsl, ← Nat.add_mul, hcur]; exact f1
          have f5 : x * 256 + X.length ≤ L.length := by rw [hsl, ← Nat.add_mul, hbl]; exact hfx
          have f6 : X.length = Nat.min (secs lb.length * 256) (secs lb.length * 256) := by rw [hsl]; exact (Nat.min_self _).symm
          have HB : Hid _ := And.intro (hBm.laterB b1d) (And.intro (hrp.later b1d) (And.intro b1d (And.intro hts (And.intro hgq (And.intro hbl (And.intro hcur (And.intro hct (And.intro hcle (And.intro hcm hcb)))))))))
          clear hts hcl hOq hgq S1 b1 b1d nd nd' h hw hD hq hI hkn e4 e5 r2 K ls lm hf hBm hrp hrs hOs hOz hgz hT HO hbl hcur hct hcle hcm hcb hf' hsl lz lq
          go_wp2_with fail
          generalize wr.alloc (.cells #[.int .i64 x, .slice a lb.length bcap] 68) = w1 at *
          go_region_held_law (fun W => W.cell? ⟨wr.heap.size, 0, none⟩ = some (.int .i64 x) ∧ W.cell? ⟨wr.heap.size, 1, none⟩ = some (.slice a lb.length bcap) ∧ W.cell? ⟨g, 0, none⟩ = some (.slice (some ⟨p.s, 0, none⟩) d.safe.length cs) ∧ W.cell? ⟨g, 1, none⟩ = some (.slice (some ⟨p.m, 0, none⟩) d.safe.length cm)) (first | exact S0 | assumption)
            (first
              | (go_at_call 44; refine (gsectors_any x a lb.length bcap _ f3).mono ?_; rintro e wa ⟨rfl, hwa⟩; have ba : Below w1.drew.heap.size w1.drew wa := box_any hwa; have Sa : wa.cell? ⟨wr.heap.size, 0, none⟩ = some (.int .i64 x) ∧ wa.cell? ⟨wr.heap.size, 1, none⟩ = some (.slice a lb.length bcap) ∧ wa.cell? ⟨g, 0, none⟩ = some (.slice (some ⟨p.s, 0, none⟩) d.safe.length cs) ∧ wa.cell? ⟨g, 1, none⟩ = some (.slice (some ⟨p.m, 0, none⟩) d.safe.length cm) := ⟨cell_later ba S0.1, cell_later ba S0.2.1, cell_later ba S0.2.2.1, cell_later ba S0.2.2.2⟩)
              | (go_at_call 44; refine (gsectors_any x a lb.length bcap _ f3).mono ?_; rintro e wb ⟨rfl, hwb⟩; have bb : Below wa.heap.size wa wb := box_any hwb; have Sb : wb.cell? ⟨wr.heap.size, 0, none⟩ = some (.int .i64 x) ∧ wb.cell? ⟨wr.heap.size, 1, none⟩ = some (.slice a lb.length bcap) ∧ wb.cell? ⟨g, 0, none⟩ = some (.slice (some ⟨p.s, 0, none⟩) d.safe.length cs) ∧ wb.cell? ⟨g, 1, none⟩ = some (.slice (some ⟨p.m, 0, none⟩) d.safe.length cm) := ⟨cell_later bb Sa.1, cell_later bb Sa.2.1, cell_later bb Sa.2.2.1, cell_later bb Sa.2.2.2⟩)
              | (go_at_call 43; refine (span_any _ _ _ x (secs lb.length) _ hs1 (by first | exact f0 | exact f1) f2).mono ?_; rintro e ws ⟨rfl, rfl⟩)
              | (refine step_copy_bytes rfl (.tmp 53) (.tmp 62) rfl (some ⟨p.m, x * 256, none⟩) (some ⟨p.s, x * 256, none⟩) (secs lb.length * 256) (secs lb.length * 256) (secs lb.length * 256) (secs lb.length * 256) (by simp [Act.eval]) (by simp [Act.eval]) p.m (x * 256) cur 5 (Blk.laterB (Blk.laterB HB.out.1 ba) bb) X f6 (fun _ => rfl) (Row.later (Row.later HB.out.2.1 ba) bb) f4 ?_; intro w4 hB4 hg4; have S4 : w4.cell? ⟨wr.heap.size, 0, none⟩ = some (.int .i64 x) ∧ w4.cell? ⟨wr.heap.size, 1, none⟩ = some (.slice a lb.length bcap) ∧ w4.cell? ⟨g, 0, none⟩ = some (.slice (some ⟨p.s, 0, none⟩) d.safe.length cs) ∧ w4.cell? ⟨g, 1, none⟩ = some (.slice (some ⟨p.m, 0, none⟩) d.safe.length cm) := ⟨cell_keep Sb.1 hg4 n3, cell_keep Sb.2.1 hg4 n3, cell_keep Sb.2.2.1 hg4 n2, cell_keep Sb.2.2.2 hg4 n2⟩))
          obtain ⟨_, _, b1d, hts, hgq, hbl, hcur, hct, hcle, hcm, hcb⟩ := HB.out
          have hO4 : Own w4 0 (.slice (some ⟨p.m, 0, none⟩) d.safe.length cm) (splice L (x * 256) X) := own_splice hbl hcur hct hcle hcm hcb hB4 f5
          rw [← hts] at hO4
          have bA := below_then b1d (below_then ba bb)
          have F : Hid _ := And.intro hO4 (grown_trans (grown_trans hgq ⟨bA.os, bA.tape, bA.output, bA.size, fun k hk _ => bA.block k hk⟩) hg4)
          clear hO4 hg4 hB4 S4 Sb Sa S0 ba bb bA HB b1d hts hgq hct hwa hwb
          go_wp2_with fail
          exact ⟨⟨k + 1, by omega, by go_num, F.out.1, F.out.2⟩, by simp [intOf]; omega⟩
        · obtain rfl : k = d.gs.length := by omega
          rw [back_all hw.fits kl] at hOq
          have HS : Hid _ := crash_step h hD nd hcl hOs hOq hT
          have hBg := dk_head hD nd hT
          have t2 := hBg.cell (by simp [maxLen]) 2 (by simp)
          have t3 := hBg.cell (by simp [maxLen]) 3 (by simp)
          have t4 := hBg.cell (by simp [maxLen]) 4 (by simp)
          have u2 := hBg.frozen (by simp [maxLen]) 2
          have u3 := hBg.frozen (by simp [maxLen]) 3
          have u4 := hBg.frozen (by simp [maxLen]) 4
          simp only [List.getElem?_cons_succ, List.getElem?_cons_zero] at t2 t3 t4
          clear h hw hD nd nd' hq hI hkn K HO hOq hgq hOz hgz hT hOs hBg hf' hbl hcl r2
          go_wp2
          go_ret
          exact ⟨rfl, HS.out⟩
end Go.Proofs.Ytmhnlfgakpelkaa
