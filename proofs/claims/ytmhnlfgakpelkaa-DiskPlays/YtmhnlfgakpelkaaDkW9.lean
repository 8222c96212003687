/- A crash. -/
import Derived.Test.YtmhnlfgakpelkaaDkW8
import Derived.Test.YtmhnlfgakpelkaaDkN
namespace Go.Proofs.Ytmhnlfgakpelkaa
open Go.RowKit
set_option linter.unusedVariables false

/-- numbers in memory -/
def IRow (w : World) (a : Option Addr) (l : List Int) : Prop :=
  (∀ x ∈ l, -9223372036854775808 ≤ x ∧ x ≤ 9223372036854775807) ∧ (l = [] ∨ ∃ b off, a = some ⟨b, off, none⟩ ∧ ∀ i (h : i < l.length), w.cell? ⟨b, off + i, none⟩ = some (.int .i64 l[i]))
theorem IRow.same {w w' : World} {a : Option Addr} {l : List Int} (h : IRow w a l) (hb : ∀ y, a = some y → w'.heap[y.block]? = w.heap[y.block]?) : IRow w' a l := by
  obtain ⟨h0, h | ⟨b, off, rfl, hc⟩⟩ := h
  · exact ⟨h0, .inl h⟩
  · exact ⟨h0, .inr ⟨b, off, rfl, fun i hi => (World.cell?_of_block (w := w) (a := ⟨b, off + i, none⟩) (hb ⟨b, off, none⟩ rfl)).trans (hc i hi)⟩⟩

theorem layKept_now (at' : Nat) (ab : Option Addr) (bcap : Nat) (lb : List (BitVec 8)) (base g cap n : Nat) (im : List (BitVec 8)) (kept : Int) (w : World) (hn : im.length = n) (hO : Own w base (.slice (some ⟨g, 0, none⟩) n cap) im) (hm : n ≤ 140737488355328)
    (hf : Fits n (at', lb)) (hcap : lb.length ≤ bcap) (hr : Row w ab lb) (hne : ∀ x, ab = some x → x.block ≠ g) (hk : -9223372036854775808 ≤ kept ∧ kept ≤ 9223372036854775807) :
    Calls Try.prog 42 #[.agg #[.int .i64 at', .slice ab lb.length bcap], .slice (some ⟨g, 0, none⟩) n cap, .int .i64 kept] w fun e w' => e = .returned (.tuple #[]) ∧ Own w' base (.slice (some ⟨g, 0, none⟩) n cap) (keepG im (at', lb) kept) ∧ w.grownBy w' (some g) := by
  subst hn; exact layKept_any at' ab bcap lb base g cap im kept w hO hm hf hcap hr hne hk

/-- copy of bytes as a step of a statement whose order is drawn -/
theorem step_copy_bytes {ops : Array Oper} {o : Oper} {a : Act} {w : World} {K : Act → World → Prop} {Q : Exit → Act → World → Prop} {E : Prop} (hgd : o.guard = none) (d s : Operand)
    (ho : o.op = .call { callee := .builtin .copy, args := #[d, s], argTypes := #[22, 22] }) (dp sp : Option Addr) (dLen dCap sLen sCap : Nat) (hd : a.eval d = .slice dp dLen dCap) (hs : a.eval s = .slice sp sLen sCap)
    (g off : Nat) (cur : List Value) (t : TypeId) (hg : Blk w g t cur) (lb : List (BitVec 8)) (hn : lb.length = Nat.min sLen dLen) (hpos : 0 < lb.length → dp = some ⟨g, off, none⟩) (hr : Row w sp lb) (hfit : off + lb.length ≤ cur.length)
    (next : ∀ w', Blk w' g t (splice cur off (vals lb)) → w.grownBy w' (some g) → K (a.put o.dst (.int .i64 lb.length)) w') :
    if Region.wanted o (yielded ops a.tmps) = true then Oper.wp Try.prog o a w K Q else E := by
  have hw : Region.wanted o (yielded ops a.tmps) = true := by simp [Region.wanted, hgd]
  rw [if_pos hw]
  obtain ⟨w', hr, hB, hG⟩ := run_copy_bytes w o.type dp sp dLen dCap sLen sCap g off cur t hg lb hn hpos hr hfit
  unfold Oper.wp
  simp only [execOp, ho, resolve, invoke, builtin, Sem.run_bind, Sem.run_pure, Result.andThen_ok, List.map_toArray, List.map_cons, List.map_nil, hd, hs, hr]
  exact next w' hB hG

/-- the groups of a disk, while its own bytes turn -/
theorem dk_group {g : Nat} {p : Pl} {d : Dm} {w wr : World} {cs cm : Nat} {gv : Value} {vs : List Value} {t : Nat} (h : (dk g p d).Ok w) (hD : DkAt w g p.s p.m p.V cs cm gv vs d) (nd : (g :: p.s :: p.m :: p.q.toList).Nodup) (hq : gv.ownBlock = p.q) (hg : Turned (fun k => k = p.s ∨ k = p.m) w wr) (i : Nat) (hi : i < d.gs.length) :
    ∃ k cap a bcap, gv = .slice (some ⟨k, 0, none⟩) d.gs.length cap ∧ d.gs.length ≤ cap ∧ wr.cell? ⟨k, i * 2, none⟩ = some (.int .i64 d.gs[i].1) ∧ wr.cell? ⟨k, i * 2 + 1, none⟩ = some (.slice a d.gs[i].2.length bcap) ∧ d.gs[i].2.length ≤ bcap ∧ Row wr a d.gs[i].2 ∧ (∀ y, a = some y → y.block ≠ p.s ∧ y.block ≠ p.m) ∧ wr.cell? ⟨g, 0, none⟩ = some (.slice (some ⟨p.s, 0, none⟩) d.safe.length cs) ∧ wr.cell? ⟨g, 1, none⟩ = some (.slice (some ⟨p.m, 0, none⟩) d.safe.length cm) := by
  obtain ⟨kb, gcap', a, bcap, hgv, hob, hgc, e1, e2, e3, e4, e5⟩ := group_cells hD.groups hD.each i hi
  have nd' := nd
  simp only [List.nodup_cons, List.mem_cons, Option.mem_toList, not_or] at nd'
  have hqk : p.q = some kb := by rw [← hq, hob]
  have hkl := h.lt kb (.inl (by simp [dk, hqk]))
  have c0 := hD.blk.cell (by simp [maxLen]) 0 (by simp)
  have c1 := hD.blk.cell (by simp [maxLen]) 1 (by simp)
  simp only [List.getElem?_cons_succ, List.getElem?_cons_zero] at c0 c1
  have k1 : wr.heap[kb]? = w.heap[kb]? := hg.block kb hkl (by
    rintro (e | e)
    · exact nd'.2.1.2 (by rw [← e]; exact hqk)
    · exact nd'.2.2.1 (by rw [← e]; exact hqk))
  have k2 : wr.heap[g]? = w.heap[g]? := hg.block g hD.blk.lt (by
    rintro (e | e)
    · exact nd'.1.1 e
    · exact nd'.1.2.1 e)
  have hv : ∀ y, a = some y → y.block ≠ p.s ∧ y.block ≠ p.m := fun y hy =>
    ⟨fun e => h.apart p.s (by simp [dk]) (e ▸ e5 y hy), fun e => h.apart p.m (by simp [dk]) (e ▸ e5 y hy)⟩
  refine ⟨kb, gcap', a, bcap, hgv, hgc, (World.cell?_of_block (w := w) k1).trans e1, (World.cell?_of_block (w := w) k1).trans e2, e3, e4.same (fun y hy => hg.block _ (h.lt _ (.inr (e5 y hy))) (fun e => ?_)), hv, (World.cell?_of_block (w := w) k2).trans c0, (World.cell?_of_block (w := w) k2).trans c1⟩
  rcases e with e | e
  · exact (hv y hy).1 e
  · exact (hv y hy).2 e
theorem dk_head {g : Nat} {p : Pl} {d : Dm} {w wr : World} {cs cm : Nat} {gv : Value} {vs : List Value} (hD : DkAt w g p.s p.m p.V cs cm gv vs d) (nd : (g :: p.s :: p.m :: p.q.toList).Nodup) (hg : Turned (fun k => k = p.s ∨ k = p.m) w wr) :
    Blk wr g 65 [.slice (some ⟨p.s, 0, none⟩) d.safe.length cs, .slice (some ⟨p.m, 0, none⟩) d.safe.length cm, gv, .bool d.bad, .bool d.gone] := by
  have nd' := nd
  simp only [List.nodup_cons, List.mem_cons, Option.mem_toList, not_or] at nd'
  exact hD.blk.turned hg (by
    rintro (e | e)
    · exact nd'.1.1 e
    · exact nd'.1.2.1 e)

/-- what a crash has done to memory, and its last stores -/
theorem crash_step {g : Nat} {p : Pl} {d : Dm} {w wr : World} {cs cm : Nat} {gv : Value} {vs : List Value} {L : List (BitVec 8)} (h : (dk g p d).Ok w) (hD : DkAt w g p.s p.m p.V cs cm gv vs d) (nd : (g :: p.s :: p.m :: p.q.toList).Nodup) (hL : L.length = d.safe.length)
    (hO : Own wr 0 (.slice (some ⟨p.s, 0, none⟩) d.safe.length cs) L) (hN : Own wr 0 (.slice (some ⟨p.m, 0, none⟩) d.safe.length cm) L) (hg : Turned (fun k => k = p.s ∨ k = p.m) w wr) :
    Step w (((wr.setCell ⟨g, 2, none⟩ (.slice none 0 0)).setCell ⟨g, 3, none⟩ (.bool false)).setCell ⟨g, 4, none⟩ (.bool false)) (dk g p d) (dk g ⟨p.s, p.m, none, []⟩ ⟨L, [], false, false⟩) := by
  have nd' := nd
  simp only [List.nodup_cons, List.mem_cons, Option.mem_toList, not_or] at nd'
  have lg : g < w.heap.size := h.lt g (.inl (by simp [dk]))
  have ls : p.s < w.heap.size := h.lt p.s (.inl (by simp [dk]))
  have lm : p.m < w.heap.size := h.lt p.m (.inl (by simp [dk]))
  have hB := ((dk_head hD nd hg).set 2 (.slice none 0 0)).set 3 (.bool false) |>.set 4 (.bool false)
  generalize hW : ((wr.setCell ⟨g, 2, none⟩ (.slice none 0 0)).setCell ⟨g, 3, none⟩ (.bool false)).setCell ⟨g, 4, none⟩ (.bool false) = wf at *
  have hset : ∀ k, k ≠ g → wf.heap[k]? = wr.heap[k]? := fun k hk => by
    rw [← hW, Below.heap_setCell _ _ _ _ hk, Below.heap_setCell _ _ _ _ hk, Below.heap_setCell _ _ _ _ hk]
  have hsz : wf.heap.size = wr.heap.size := by rw [← hW]; simp [World.setCell]
  have s1 := hg.size
  refine ⟨⟨?_, ?_, ?_, by omega, fun k hk hn => ?_⟩, dk_ok ⟨?_, cs, cm, .slice none 0 0, [], rfl, ?_, ?_, ?_, World.ownsRow_nil _ _ _ _, trivial⟩ ?_ ?_, ?_, ?_⟩
  · rw [← hW]; exact hg.os
  · rw [← hW]; exact hg.tape
  · rw [← hW]; exact hg.output
  · simp only [dk, List.mem_cons, Option.mem_toList, not_or] at hn
    rw [hset k hn.1, hg.block k hk (by rintro (e | e); exact hn.2.1 e; exact hn.2.2.1 e)]
  · simp only [Option.toList_none, List.nodup_cons, List.mem_cons, List.not_mem_nil, or_false, not_or, List.nodup_nil, and_true, not_false_eq_true]
    exact ⟨⟨nd'.1.1, nd'.1.2.1⟩, nd'.2.1.1⟩
  · show Blk _ g _ [.slice _ L.length _, .slice _ L.length _, _, _, _]
    rw [hL]
    simpa using hB
  · show Own _ 0 (.slice _ L.length _) _
    rw [hL]
    exact hO.same (fun k hk => by cases hk; exact hset _ (fun e => nd'.1.1 e.symm))
  · show Own _ 0 (.slice _ L.length _) L
    rw [hL]
    exact hN.same (fun k hk => by cases hk; exact hset _ (fun e => nd'.1.2.1 e.symm))
  · intro k hk
    rw [hsz]
    simp at hk
    rcases hk with rfl | rfl | rfl <;> omega
  · intro k _ hv; cases hv
  · intro k hk
    simp [dk] at hk ⊢
    rcases hk with rfl | rfl | rfl <;> simp
  · intro k hk; cases hk
end Go.Proofs.Ytmhnlfgakpelkaa
