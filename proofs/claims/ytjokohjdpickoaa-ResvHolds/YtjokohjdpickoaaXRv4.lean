/- The registrants as a function that is ranged over. -/
import Derived.Test.YtjokohjdpickoaaXRv3
namespace Go.Proofs.Ytjokohjdpickoaa
open Go.RowKit Go.Shelf
set_option linter.unusedVariables false
set_option linter.unusedSimpArgs false
set_option maxRecDepth 4000
attribute [local go_sem] Oper.semAt_some

theorem wpListIn_value {F : Fence} {n : Nat} {P : Program} {w w' : World} {ops : Array Oper} {rest : List Oper} {o : Oper} {a : Act} {Q : Exit → Act → World → Prop} {v : Value} (hg : o.guard = none) (hab : o.about P w a.eval = none) (hd : ∀ c, o.op ≠ .defer c) (h : (execOp a.eval o).run P w = .ok (.value v) w') (k : wpListIn F n P ops Q rest (a.put o.dst v) w') : wpListIn F n P ops Q (o :: rest) a w := by
  refine wpListIn_plain hg fun K hK => ?_
  unfold Oper.wpIn
  refine ⟨fun f hf => (by rw [hab] at hf; cases hf), ?_⟩
  rw [Oper.semAt_plain F _ _ hd, h]
  exact hK _ _ k
theorem exec_index {P : Program} {w : World} {o : Oper} {a : Act} {t : TypeId} {x y : Operand} (ho : o.op = .index t x y) {p q u : Value} (hx : a.eval x = p) (hy : a.eval y = q) (h : (Instr.index t p q).run P w = .ok u w) : (execOp a.eval o).run P w = .ok (.value u) w := by
  simp [execOp, ho, hx, hy, h, Result.andThen]
theorem index_ks (l : List Int) (hl : l.length = 16) (j : Nat) (hj : j < l.length) (w : World) : (Instr.index 61 (av .u64 l) (.int .i64 j)).run Try.prog w = .ok (.int .u64 l[j]) w := by
  have hb : (0 : Int) ≤ (j : Int) ∧ (j : Int) < 16 := by omega
  have ha := ivs_at .u64 l j hj
  simp [Instr.index, av, run_underlying und_ks, asIntOf, hb, go_sem]
  rw [if_pos (by omega), ha]
  rfl
/-- the registrants below k, and their keys -/
def regsL (ks : List Int) (k : Nat) : List (Nat × Int) := ((List.range k).filter (fun i => ks.getD i 0 != 0)).map (fun i => (i, ks.getD i 0))
theorem regsL_succ (ks : List Int) (k : Nat) : regsL ks (k + 1) = regsL ks k ++ (if ks.getD k 0 = 0 then [] else [(k, ks.getD k 0)]) := by
  unfold regsL
  rw [List.range_succ, List.filter_append, List.map_append]
  congr 1
  by_cases h : ks.getD k 0 = 0
  · rw [if_pos h]; simp only [List.filter_cons, List.filter_nil, h]; rfl
  · have : (ks.getD k 0 != 0) = true := by rw [bne_iff_ne]; exact h
    rw [if_neg h]; simp only [List.filter_cons, List.filter_nil, this]; rfl
theorem regsL_len (ks : List Int) (k : Nat) : (regsL ks k).length ≤ k := by
  unfold regsL
  rw [List.length_map]
  have := List.length_filter_le (fun i => ks.getD i 0 != 0) (List.range k)
  rw [List.length_range] at this
  exact this
/-- a registrant that can be, and its key -/
abbrev Rg := { r : Nat × Int // r.1 < 16 }
def encP (r : Rg) : Array Value := #[.int .i64 (r.1.1 : Int), .int .u64 r.1.2]
set_option maxHeartbeats 4000000 in
theorem regs_stops (n : Nat) (hn : 1 ≤ n) (c : Nat) (ks : List Int) (w : World) (hl : ks.length = 16) (hB : Blk w c 61 (ivs .u64 ks)) :
    SeqStopsK Fence.wide n Try.prog 34 #[.pointer (some ⟨c, 0, none⟩)] encP (KeepL [c]) (fun ys => ys.map (·.1) = regsL ks 16) (fun _ => True) 16 w := fun y J Jx W hW hJ _ hY h0 => by
  have hB' : Blk W c 61 (ivs .u64 ks) := hB.laterB hW
  have hld := load_arr (k := .u64) size_ks und_ks hl (w := W) (c := c) (off := 0) (fun j hj => by rw [Nat.zero_add, blk_at hB' j]; exact ivs_at .u64 ks j hj)
  clear hB hB' hW
  refine callsIn_of_wp Try.func34 rfl trivial ?_ rfl
  simp only [Try.ntmps34, List.size_toArray, List.length_cons, List.length_nil, Nat.reduceAdd, Nat.reduceSub, Array.replicate_succ, Array.replicate_zero, List.push_toArray, List.append_toArray, List.nil_append, List.cons_append]
  gi_wp2_with (refine wpListIn_value rfl rfl (by intro c h; cases h) (exec_load rfl rfl hld) ?_)
  clear hld
  gi_loopw [6] (fun iv wr => ∃ (k : Nat) (pre : List Rg), k ≤ 16 ∧ iv = .int .i64 k ∧ pre.map (·.1) = regsL ks k ∧ J pre wr ∧ KeepL [c] W wr) (fun iv _ => 16 - (intOf iv).toNat)
  case atStart => exact ⟨0, [], by omega, rfl, rfl, h0, fun _ _ => rfl⟩
  case round =>
    obtain ⟨k, pre, hk, rfl, hpre, hJk, hKk⟩ := hrel
    by_cases hlt : k < 16
    · have hix := index_ks ks hl k (by omega) wr
      have hg : ks[k]'(by omega) = ks.getD k 0 := by rw [List.getD, List.getElem?_eq_getElem (by omega)]; rfl
      rw [hg] at hix
      have hs := regsL_succ ks k
      have hln := regsL_len ks k
      have q1 : (k : Int) < 16 := by omega
      have hpl := congrArg List.length hpre
      rw [List.length_map] at hpl
      have HY := hY pre ⟨(k, ks.getD k 0), hlt⟩ wr hJk (by omega)
      unfold encP at HY
      clear hg
      generalize ks.getD k 0 = x at *
      by_cases hx : x = 0
      · rw [if_pos hx, List.append_nil, ← hpre] at hs
        have R : Hid _ := And.intro hs (And.intro hJk hKk)
        clear hJk hKk hs HY hln hpre hpl
        subst hx
        gi_wp2_with (refine wpListIn_value rfl rfl (by intro c h; cases h) (exec_index rfl rfl rfl hix) ?_)
        refine ⟨(by intro f hf; cases hf), ?_⟩
        gi_wp2
        go_roundw
        case rel => exact ⟨k + 1, pre, by omega, by go_num, R.out.1.symm, R.out.2.1, R.out.2.2⟩
        case measure => simp [intOf]; omega
      · rw [if_neg hx, ← hpre] at hs
        obtain ⟨fn, tmps, assign, body, hy, hRd⟩ := HY
        have G : Hid _ := And.intro hKk hs
        clear hKk hs hJk hln hpre hpl
        gi_wp2_with (refine wpListIn_value rfl rfl (by intro c h; cases h) (exec_index rfl rfl rfl hix) ?_)
        refine hRd.mono ?_
        rintro e W5 (⟨rfl, hJ5, hk5⟩ | ⟨rfl, hJx5⟩)
        · have R : Hid _ := And.intro (show (pre ++ [(⟨(k, x), hlt⟩ : Rg)]).map (·.1) = regsL ks (k + 1) by rw [G.out.2, List.map_append]; rfl) (And.intro hJ5 (KeepL.t G.out.1 hk5))
          clear hJ5 hk5 G
          gi_wp2
          go_roundw
          case rel => exact ⟨k + 1, _, by omega, by go_num, R.out.1, R.out.2.1, R.out.2.2⟩
          case measure => simp [intOf]; omega
        · gi_wp2
          refine bodyPost_ret (results_none rfl _ _ _) rfl ?_
          exact ⟨⟨_, rfl⟩, .inr ⟨_, trivial, hJx5⟩⟩
    · obtain rfl : k = 16 := by omega
      gi_wp2
      go_end0
      exact ⟨⟨_, rfl⟩, .inl ⟨pre, hpre, hJk⟩⟩
end Go.Proofs.Ytjokohjdpickoaa

