/- A flush. -/
import Derived.Test.YtmhnlfgakpelkaaDkW7
namespace Go.Proofs.Ytmhnlfgakpelkaa
open Go.RowKit
set_option linter.unusedVariables false

set_option maxHeartbeats 400000 in
theorem Flush_dead (g : Nat) (p : Pl) (d : Dm) (w : World) (h : (dk g p d).Ok w) (hd : d.gone = true) :
    Calls Try.prog 25 #[.pointer (some ⟨g, 0, none⟩)] w fun e w' => e = .returned (.int .i64 21) ∧ w = w' := by
  obtain ⟨c3, c4, -, -, -⟩ := dk_cells h.holds
  rw [hd] at c4
  clear h hd
  go_enter Try.func25, Try.ntmps25
  go_wp2
  go_ret
  exact ⟨rfl, rfl⟩
set_option maxHeartbeats 400000 in
theorem Flush_bad (g : Nat) (p : Pl) (d : Dm) (w : World) (h : (dk g p d).Ok w) (hd : d.gone = false) (hb : d.bad = true) :
    Calls Try.prog 25 #[.pointer (some ⟨g, 0, none⟩)] w fun e w' => e = .returned (.int .i64 20) ∧ Step w w' (dk g p d) (dk g p { d with gone := true }) := by
  obtain ⟨c3, c4, f2, f3, f4⟩ := dk_cells h.holds
  rw [hd] at c4
  rw [hb] at c3
  have S := dk_turn (d' := { d with gone := true }) (w' := w.setCell ⟨g, 4, none⟩ (.bool true)) h rfl rfl (fun x y z hB => by simpa using hB.set 4 (.bool true)) (grown_set _ _ _ _)
  have HS : Hid _ := S
  clear h S hd hb
  go_enter Try.func25, Try.ntmps25
  go_wp2
  go_ret
  exact ⟨rfl, HS.out⟩

/-- the cells of one group -/
theorem group_cells {w : World} {V : List Nat} {gs : List (Nat × List (BitVec 8))} {vs : List Value} {gv : Value} (hO : w.ownsRow 0 68 2 gv gs.length vs) (hE : GsAt V w gs vs) (i : Nat) (hi : i < gs.length) :
    ∃ k cap a bcap, gv = .slice (some ⟨k, 0, none⟩) gs.length cap ∧ gv.ownBlock = some k ∧ gs.length ≤ cap ∧ w.cell? ⟨k, i * 2, none⟩ = some (.int .i64 gs[i].1) ∧ w.cell? ⟨k, i * 2 + 1, none⟩ = some (.slice a gs[i].2.length bcap) ∧ gs[i].2.length ≤ bcap ∧ Row w a gs[i].2 ∧ ∀ y, a = some y → y.block ∈ V := by
  obtain ⟨a, bcap, k1, k2, k3, k4, k5⟩ := hE.get i hi
  have hO' := hO
  obtain ⟨_, h2 | ⟨k, cap, cur, rfl, hb, hh, hc, r⟩⟩ := hO
  · omega
  · refine ⟨k, cap, a, bcap, rfl, rfl, hc, ?_, ?_, k3, k4, k5⟩
    · rw [World.ownsRow.cellAt hO' (i * 2) (by omega), k1]
    · rw [World.ownsRow.cellAt hO' (i * 2 + 1) (by omega), k2]

/-- what a flush has done to memory, and its last store -/
theorem flush_step {g : Nat} {p : Pl} {d : Dm} {w wr : World} {cs cm : Nat} {gv : Value} {vs : List Value} (h : (dk g p d).Ok w) (hw : d.Wf) (hD : DkAt w g p.s p.m p.V cs cm gv vs d) (nd : (g :: p.s :: p.m :: p.q.toList).Nodup) (hq : gv.ownBlock = p.q) (hd : d.gone = false) (hb : d.bad = false)
    (hO : Own wr 0 (.slice (some ⟨p.s, 0, none⟩) d.safe.length cs) (nowOf d.safe d.gs)) (hg : w.grownBy wr (some p.s)) :
    Step w (wr.setCell ⟨g, 2, none⟩ (.slice none 0 0)) (dk g p d) (dk g ⟨p.s, p.m, none, []⟩ ⟨nowOf d.safe d.gs, [], false, false⟩) := by
  have nd' := nd
  simp only [List.nodup_cons, List.mem_cons, Option.mem_toList, not_or] at nd'
  have lg : g < w.heap.size := h.lt g (.inl (by simp [dk]))
  have ls : p.s < w.heap.size := h.lt p.s (.inl (by simp [dk]))
  have lm : p.m < w.heap.size := h.lt p.m (.inl (by simp [dk]))
  have hset : ∀ k, k ≠ g → (wr.setCell ⟨g, 2, none⟩ (.slice none 0 0)).heap[k]? = wr.heap[k]? := fun k hk => Below.heap_setCell _ _ _ _ hk
  have hsz : (wr.setCell ⟨g, 2, none⟩ (.slice none 0 0)).heap.size = wr.heap.size := by simp [World.setCell]
  have s1 := hg.size
  have hn := hw.now
  have hB : Blk wr g 65 [.slice (some ⟨p.s, 0, none⟩) d.safe.length cs, .slice (some ⟨p.m, 0, none⟩) d.safe.length cm, gv, .bool d.bad, .bool d.gone] := hD.blk.grown hg (by simpa using nd'.1.1)
  refine ⟨⟨hg.os, hg.tape, hg.output, by omega, fun k hk hn => ?_⟩, dk_ok ⟨?_, cs, cm, .slice none 0 0, [], rfl, ?_, ?_, ?_, World.ownsRow_nil _ _ _ _, trivial⟩ ?_ ?_, ?_, ?_⟩
  · simp only [dk, List.mem_cons, Option.mem_toList, not_or] at hn
    rw [hset k hn.1, hg.block k hk (by simpa using hn.2.1)]
  · simp only [Option.toList_none, List.nodup_cons, List.mem_cons, List.not_mem_nil, or_false, not_or, List.nodup_nil, and_true, not_false_eq_true]
    exact ⟨⟨nd'.1.1, nd'.1.2.1⟩, nd'.2.1.1⟩
  · have := hB.set 2 (.slice none 0 0)
    show Blk _ g _ [.slice _ (nowOf d.safe d.gs).length _, .slice _ (nowOf d.safe d.gs).length _, _, _, _]
    rw [hn]
    simpa [hd, hb] using this
  · show Own _ 0 (.slice _ (nowOf d.safe d.gs).length _) _
    rw [hn]
    exact hO.same (fun k hk => by cases hk; exact hset _ (fun e => nd'.1.1 e.symm))
  · show Own _ 0 (.slice _ (nowOf d.safe d.gs).length _) (nowOf d.safe d.gs)
    rw [hn]
    exact hD.now.same (fun k hk => by cases hk; rw [hset _ (fun e => nd'.1.2.1 e.symm), hg.block _ lm (by intro e; exact nd'.2.1.1 (by simpa using e.symm))])
  · intro k hk
    rw [hsz]
    simp at hk
    rcases hk with rfl | rfl | rfl <;> omega
  · intro k _ hv; cases hv
  · intro k hk
    simp [dk] at hk ⊢
    rcases hk with rfl | rfl | rfl <;> simp
  · intro k hk; cases hk

set_option maxRecDepth 4000 in
set_option maxHeartbeats 1000000 in
theorem Flush_ok (g : Nat) (p : Pl) (d : Dm) (w : World) (h : (dk g p d).Ok w) (hw : d.Wf) (hd : d.gone = false) (hb : d.bad = false) (hgs : d.gs.length ≤ 1000000) :
    Calls Try.prog 25 #[.pointer (some ⟨g, 0, none⟩)] w fun e w' => e = .returned (.int .i64 0) ∧ Step w w' (dk g p d) (dk g ⟨p.s, p.m, none, []⟩ ⟨nowOf d.safe d.gs, [], false, false⟩) := by
  obtain ⟨c3, c4, f2, f3, f4⟩ := dk_cells h.holds
  rw [hd] at c4
  rw [hb] at c3
  obtain ⟨nd, cs, cm, gv, vs, hq, hD⟩ := h.holds
  have c0 := hD.blk.cell (by simp [maxLen]) 0 (by simp)
  have c2 := hD.blk.cell (by simp [maxLen]) 2 (by simp)
  simp only [List.getElem?_cons_succ, List.getElem?_cons_zero] at c0 c2
  have hl6 : d.safe.length ≤ 1048576 := by have := hw.len; omega
  obtain ⟨ga, gcap, hgv⟩ := own_form hD.groups
  subst hgv
  have K : Hid _ := And.intro h (And.intro hw (And.intro hD (And.intro nd hq)))
  have HB : Hid _ := And.intro hd hb
  clear h hw hD nd hq hd hb
  go_enter Try.func25, Try.ntmps25
  go_wp2_with fail
  go_loopw [23] (fun i wr => ∃ k : Nat, k ≤ d.gs.length ∧ i = .int .i64 k ∧ Own wr 0 (.slice (some ⟨p.s, 0, none⟩) d.safe.length cs) (nowOf d.safe (d.gs.take k)) ∧ w.grownBy wr (some p.s)) (fun i _ => d.gs.length - (intOf i).toNat)
  case atStart => exact ⟨0, by omega, rfl, K.out.2.2.1.safe, ⟨rfl, rfl, rfl, Nat.le_refl _, fun _ _ _ => rfl⟩⟩
  case round =>
    obtain ⟨k, hk1, rfl, hOr, hgr⟩ := hrel
    by_cases hlt : k < d.gs.length
    · have q1 : (k : Int) < (d.gs.length : Int) := by omega
      obtain ⟨h, hw, hD, nd, hq⟩ := K.out
      obtain ⟨kb, gcap', a, bcap, hgv, hob, hgc, e1, e2, e3, e4, e5⟩ := group_cells hD.groups hD.each k hlt
      simp only [Value.slice.injEq] at hgv
      obtain ⟨rfl, -, rfl⟩ := hgv
      have hf : Fits d.safe.length d.gs[k] := hw.fits _ (List.getElem_mem _)
      have hts : nowOf d.safe (d.gs.take (k + 1)) = layG (nowOf d.safe (d.gs.take k)) d.gs[k] := by rw [List.take_succ_eq_append_getElem hlt, nowOf_snoc]
      have htl : (nowOf d.safe (d.gs.take k)).length = d.safe.length := nowOf_length (fun y hy => hw.fits y (List.mem_of_mem_take hy))
      generalize d.gs[k] = gk at *
      obtain ⟨x, lb⟩ := gk
      have lg := hD.blk.lt
      simp only [List.nodup_cons, List.mem_cons, Option.mem_toList, not_or] at nd
      have n1 : some g ≠ some p.s := by simpa using nd.1.1
      have n2 : some kb ≠ some p.s := by intro e; cases e; exact nd.2.1.2 (by rw [← hq, hob])
      have ls := h.lt p.s (.inl (by simp [dk]))
      have r1 := cell_keep e1 hgr n2
      have r2 := cell_keep e2 hgr n2
      have r3 := cell_keep c0 hgr n1
      have hrr : Row wr a lb := e4.same (fun y hy => hgr.block _ (h.lt _ (.inr (e5 y hy))) (by
        intro e; have hm := e5 y hy; have e' : y.block = p.s := (by simpa using e); rw [e'] at hm; exact h.apart p.s (by simp [dk]) hm))
      have S1 := box_cells wr (.int .i64 x) (.slice a lb.length bcap) 68
      have b1 : Below wr.heap.size wr (wr.alloc (.cells #[.int .i64 x, .slice a lb.length bcap] 68)) := (Below.refl _ _).alloc (Nat.le_refl _) _
      have b1d := b1.drew
      have S0 : (wr.alloc (.cells #[.int .i64 x, .slice a lb.length bcap] 68)).drew.cell? ⟨wr.heap.size, 0, none⟩ = some (.int .i64 x) ∧ (wr.alloc (.cells #[.int .i64 x, .slice a lb.length bcap] 68)).drew.cell? ⟨wr.heap.size, 1, none⟩ = some (.slice a lb.length bcap) ∧ (wr.alloc (.cells #[.int .i64 x, .slice a lb.length bcap] 68)).drew.cell? ⟨g, 0, none⟩ = some (.slice (some ⟨p.s, 0, none⟩) d.safe.length cs) := ⟨S1.1, S1.2, cell_later b1d r3⟩
      have n3 : some wr.heap.size ≠ some p.s := by have := hgr.size; simp; omega
      have HL : Hid _ := layOver_now x a bcap lb 0 p.s cs d.safe.length _ (wr.alloc (.cells #[.int .i64 x, .slice a lb.length bcap] 68)).drew htl (Own.later hOr b1d) (by omega) hf (hrr.later b1d)
      have HT : Hid _ := And.intro hts (And.intro b1d hgr)
      clear hts htl hOr hgr hrr S1 b1 b1d nd h hw hD hq hob e1 e2 e4 e5 c0 c2 K lg ls hf
      go_wp2_with fail
      generalize wr.alloc (.cells #[.int .i64 x, .slice a lb.length bcap] 68) = w1 at *
      go_region_held_law (fun W => W.cell? ⟨wr.heap.size, 0, none⟩ = some (.int .i64 x) ∧ W.cell? ⟨wr.heap.size, 1, none⟩ = some (.slice a lb.length bcap) ∧ W.cell? ⟨g, 0, none⟩ = some (.slice (some ⟨p.s, 0, none⟩) d.safe.length cs)) (first | exact S0 | assumption)
        (first
          | (go_at_call 41; refine (Calls.mono HL.out) ?_; rintro e w3 ⟨rfl, hO3, hg3⟩; have S3 : w3.cell? ⟨wr.heap.size, 0, none⟩ = some (.int .i64 x) ∧ w3.cell? ⟨wr.heap.size, 1, none⟩ = some (.slice a lb.length bcap) ∧ w3.cell? ⟨g, 0, none⟩ = some (.slice (some ⟨p.s, 0, none⟩) d.safe.length cs) := ⟨cell_keep S0.1 hg3 n3, cell_keep S0.2.1 hg3 n3, cell_keep S0.2.2 hg3 n1⟩))
      have F : Hid _ := And.intro hO3 (grown_trans (grown_trans HT.out.2.2 ⟨HT.out.2.1.os, HT.out.2.1.tape, HT.out.2.1.output, HT.out.2.1.size, fun k hk _ => HT.out.2.1.block k hk⟩) hg3)
      rw [← HT.out.1] at F
      clear hO3 hg3 HT HL S0 S3
      go_wp2_with fail
      exact ⟨⟨k + 1, by omega, by go_num, F.out.1, F.out.2⟩, by simp [intOf]; omega⟩
    · obtain rfl : k = d.gs.length := by omega
      rw [List.take_length] at hOr
      obtain ⟨h, hw, hD, nd, hq⟩ := K.out
      have HS : Hid _ := flush_step h hw hD nd hq HB.out.1 HB.out.2 hOr hgr
      have n1 : some g ≠ some p.s := by simp only [List.nodup_cons, List.mem_cons, not_or] at nd; simpa using nd.1.1
      have r2 := cell_keep c2 hgr n1
      have rf : wr.frozen? ⟨g, 2, none⟩ = false := by rw [World.frozen?_of_block (w := w) (hgr.block g hD.blk.lt n1)]; exact f2
      clear h hw hD nd hq K hOr hgr c0 c2 c3 c4 f2 f3 f4
      go_wp2
      go_ret
      exact ⟨rfl, HS.out⟩
end Go.Proofs.Ytmhnlfgakpelkaa
