/- extent, the document's: Bytes. -/
import Derived.Test.YtmkacgdbmojomaaXLd3
import Derived.Test.YtmkacgdbmojomaaXErF
import Derived.Test.YtmkacgdbmojomaaXFieldX1
namespace Go.Proofs.Ytmkacgdbmojomaa
open Go.RowKit
set_option linter.unusedVariables false
set_option linter.unusedSimpArgs false
set_option maxRecDepth 8000

theorem be2_small (i : Nat) (h : i < 256) : be 2 (BitVec.ofInt 64 (i : Int)) = [0#8, BitVec.ofNat 8 i] := by
  have e : BitVec.ofInt 64 (i : Int) = BitVec.ofNat 64 i := BitVec.ofInt_natCast ..
  rw [e]
  unfold be be8
  simp only [Nat.reduceSub, List.drop_succ_cons, List.drop_zero]
  congr 1
  · apply BitVec.eq_of_toNat_eq
    simp [BitVec.toNat_setWidth, BitVec.toNat_ushiftRight, Nat.shiftRight_eq_div_pow]
    omega
  · congr 1
    apply BitVec.eq_of_toNat_eq
    simp [BitVec.toNat_setWidth]
theorem vals2_small (i : Nat) (h : i < 256) : (vals [0#8, BitVec.ofNat 8 i]).toArray = #[.int .u8 ((i : Int) / 256), .int .u8 (i : Int)] := by
  have e : (i : Int) / 256 = 0 := by omega
  rw [e]
  unfold vals
  simp
  omega
theorem hs_step (m : Im) (k : Nat) : hs m (k + 1) = if m.has (k : Int) = true then hs m k ++ [k] else hs m k := by
  unfold hs
  rw [List.range_succ, List.filter_append]
  by_cases h : m.has (k : Int) = true
  · rw [if_pos h, List.filter_cons_of_pos (by simpa using h)]; simp
  · rw [if_neg h, List.filter_cons_of_neg (by simpa using h)]; simp
theorem bytesM_hs (m : Im) : bytesM m = headE m ++ encAll m (hs m m.n) := by unfold bytesM; rw [expand_rn]; rfl
theorem hs_len (m : Im) (k : Nat) : (hs m k).length ≤ k := by unfold hs; exact Nat.le_trans (List.length_filter_le _ _) (by simp)
def ByR (l : List (BitVec 8)) (w : World) (e : Ending) (w' : World) : Prop := ∃ v, e = .returned v ∧ Own w' w.heap.size v l ∧ Below w.heap.size w w'
set_option maxHeartbeats 8000000 in
theorem riBytes_any (r lb : Nat) (V : List Nat) (m : Im) (w : World) (h : (ri r lb V m).Ok w) (hw : m.Wf) : Calls Try.prog 49 #[.pointer (some ⟨r, 0, none⟩)] w fun e w' => ByR (bytesM m) w e w' := by
  have hm := hw.most
  have hu := m.used_le
  have b1 : Below w.heap.size w (w.alloc (.cells #[.slice none 0 0, .int .i64 0] 121)) := (Below.refl _ _).alloc (Nat.le_refl _) _
  have B1 : Blk (w.alloc (.cells #[.slice none 0 0, .int .i64 0] 121)) w.heap.size 121 [.slice none 0 0, .int .i64 0] := Blk.new' w _ _
  have W1 : WrAt (w.alloc (.cells #[.slice none 0 0, .int .i64 0] 121)) w.heap.size w.heap.size 121 (.slice none 0 0) [] 0 := ⟨B1, ⟨[], Own.nil _ _, fun _ => rfl⟩, Nat.le_refl _, b1.size, by decide⟩
  have c1 := ri_head (h.later b1)
  have HP : Hid _ := And.intro h hw
  have H1 : Hid _ := And.intro W1 b1
  clear B1 W1 b1 h hw
  go_enter Try.func49, Try.ntmps49
  go_wp2_with fail
  generalize (w.alloc (.cells #[.slice none 0 0, .int .i64 0] 121)) = w1 at *
  have N := rwNum_any w.heap.size w.heap.size _ [] 0 2 (m.n : Int) w1 H1.out.1 (by simp)
  rw [wr2 _ _ (by omega)] at N
  simp only at N
  have HN : Hid _ := N
  clear N c1
  refine (Calls.mono HN.out) ?_
  rintro e w2 ⟨rfl, v2, W2, -, t2⟩
  clear HN
  have H2 : Hid _ := And.intro W2 (H1.out.2.trans (WrAt.below' H1.out.1 t2))
  clear W2 t2 H1
  go_wp2_with fail
  refine (Calls.mono (riUsed_any r lb V m w2 (HP.out.1.later H2.out.2) HP.out.2)) ?_
  rintro e _ ⟨rfl, rfl⟩
  have N := rwNum_any w.heap.size w.heap.size _ _ 0 2 (m.used : Int) w2 H2.out.1 (by simp [be_length])
  rw [wr2 _ _ (by omega)] at N
  simp only at N
  have HN : Hid _ := N
  clear N
  go_wp2_with fail
  refine (Calls.mono HN.out) ?_
  rintro e w3 ⟨rfl, v3, W3, -, t3⟩
  clear HN
  have H3 : Hid _ := And.intro W3 (H2.out.2.trans (WrAt.below' H2.out.1 t3))
  clear W3 t3 H2
  have HE : Hid _ := rwEnd_any w.heap.size w.heap.size v3 _ 0 w3 H3.out.1 (by simp [be_length])
  go_wp2_with fail
  refine (Calls.mono HE.out) ?_
  rintro e w4 ⟨c, rfl, ho, b4⟩
  clear HE
  have ho4 : Own w4 w.heap.size c (headE m ++ encAll m (hs m 0)) := by
    have e1 : wrEnd ([] ++ be 2 (BitVec.ofInt 64 (m.n : Int)) ++ be 2 (BitVec.ofInt 64 (m.used : Int))) 0 = headE m ++ encAll m (hs m 0) := by unfold wrEnd headE; rw [if_pos rfl]; show _ = _ ++ []; simp
    rw [← e1]; exact own_base ho H3.out.2.size
  have H4 : Hid _ := And.intro ho4 (below_then H3.out.2 b4)
  clear ho ho4 b4 H3
  go_wp2_with fail
  go_loopw [4, 6] (fun bv iv wr => ∃ (k : Nat) (v : Value), v = bv ∧ k ≤ m.n ∧ iv = .int .i64 k ∧ Own wr w.heap.size v (headE m ++ encAll m (hs m k)) ∧ Below w.heap.size w wr) (fun _ iv _ => m.n - (intOf iv).toNat)
  case atStart => exact ⟨0, _, rfl, Nat.zero_le _, rfl, H4.out.1, H4.out.2⟩
  case round =>
    obtain ⟨k, v, rfl, hk, rfl, ho, hb⟩ := hrel
    have c1' := ri_head (HP.out.1.later hb)
    by_cases hlt : k < m.n
    · have q1 : (k : Int) < (m.n : Int) := by omega
      have HX : Hid _ := And.intro ho hb
      clear ho hb
      go_wp2_with fail
      refine (Calls.mono (riHas_any r lb V m (k : Int) wr (HP.out.1.later HX.out.2) HP.out.2 (by unfold I64; omega))) ?_
      rintro e _ ⟨rfl, rfl⟩
      cases hh : m.has (k : Int)
      · have HS : Hid _ := (show hs m (k + 1) = hs m k by rw [hs_step, hh]; rfl)
        clear hh
        go_wp2
        go_roundw
        case rel => exact ⟨k + 1, v, rfl, by omega, by go_num, by rw [HS.out]; exact HX.out.1, HX.out.2⟩
        case measure => simp [intOf]; omega
      · have HS : Hid _ := (show hs m (k + 1) = hs m k ++ [k] by rw [hs_step, hh]; rfl)
        obtain ⟨x, cap, c2, hle, hnl, hrow⟩ := ri_cell HP.out.1 hm (i := k) (by omega)
        obtain ⟨hb1, hb2⟩ := (has_by m k HP.out.2).2 hh
        clear hh
        have z2 := cell_later HX.out.2 c2
        have c2' := c2
        rw [hb1] at z2 hle c2'
        have hkI : (k : Int) < 256 := by omega
        have bA : Below wr.heap.size wr (wr.alloc (.cells #[.int .u8 ((k : Int) / 256), .int .u8 (k : Int)] 5)) := (Below.refl _ _).alloc (Nat.le_refl _) _
        have rA : Row (wr.alloc (.cells #[.int .u8 ((k : Int) / 256), .int .u8 (k : Int)] 5)) (some ⟨wr.heap.size, 0, none⟩) [0#8, BitVec.ofNat 8 k] := by have := row_new wr [0#8, BitVec.ofNat 8 k] 5; rw [vals2_small k (by omega)] at this; exact this
        have hlen : (headE m ++ encAll m (hs m k)).length ≤ 20000 := by rw [List.length_append, encAll_len HP.out.2]; have := hs_len m k; unfold headE; rw [List.length_append, be_length _ _ (by omega), be_length _ _ (by omega)]; omega
        have HA : Hid _ := And.intro rA (And.intro (HX.out.1.later bA) (And.intro (below_then HX.out.2 bA) (And.intro hlen (And.intro hle (And.intro hnl (And.intro (hrow.later (below_then HX.out.2 bA)) (And.intro hb1 (And.intro hb2 c2'))))))))
        have z3 := cell_later bA z2
        have z4 := cell_later bA c1'
        clear rA bA hlen hle hnl hb1 hb2 c2 c2'
        go_wp2_with (at_builtin; refine wpList_append_bytes _ rfl _ _ rfl w.heap.size v (headE m ++ encAll m (hs m k)) rfl HA.out.2.1 (some ⟨wr.heap.size, 0, none⟩) 2 2 [0#8, BitVec.ofNat 8 k] rfl rfl HA.out.1 (fun h => by cases h) (Nat.le_refl _) (by have := HA.out.2.2.2.1; omega) HA.out.2.2.1.size ?_)
        intro v5 w5 ho5 hg5
        have hb5 : Below w.heap.size w w5 := HA.out.2.2.1.grown hg5 HA.out.2.2.1.size (fun q hq => (World.ownsRow.lt HX.out.1 q hq).1)
        have z5 := ri_head (HP.out.1.later hb5)
        have z6 := cell_later hb5 HA.out.2.2.2.2.2.2.2.2.2
        obtain ⟨va, vc, rfl, -⟩ := ho5.open
        have HB : Hid _ := And.intro ho5 (And.intro hb5 (hrow.later hb5))
        clear z2 z3 z4 hg5 ho5 hb5 hrow c1'
        go_wp2_with (at_builtin; refine wpList_append_bytes _ rfl _ _ rfl w.heap.size _ _ rfl HB.out.1 x 64 cap (m.by k) rfl HA.out.2.2.2.2.2.2.2.1 HB.out.2.2 HA.out.2.2.2.2.2.1 HA.out.2.2.2.2.1 (by simp only [List.length_append, List.length_cons, List.length_nil]; have := HA.out.2.2.2.1; rw [List.length_append] at this; omega) HB.out.2.1.size ?_)
        intro v7 w7 ho7 hg7
        have F : Hid _ := And.intro (show Own w7 w.heap.size v7 (headE m ++ encAll m (hs m (k + 1))) from (by
          have e : encAll m [k] = [0#8, BitVec.ofNat 8 k] ++ m.by k := by unfold encAll; rw [List.flatMap_cons, List.flatMap_nil, List.append_nil, be2_small k (by omega), HA.out.2.2.2.2.2.2.2.2.1]
          rw [HS.out, encAll_append, e]; simpa [List.append_assoc] using ho7)) (HB.out.2.1.grown hg7 HB.out.2.1.size (fun q hq => (World.ownsRow.lt HB.out.1 q (by simpa [Value.ownBlock] using hq)).1))
        obtain ⟨vb, vd, rfl, -⟩ := ho7.open
        clear ho7 hg7 HB HA
        go_wp2
        go_roundw
        case rel => exact ⟨k + 1, _, rfl, by omega, by go_num, F.out.1, F.out.2⟩
        case measure => simp [intOf]; omega
    · obtain rfl : k = m.n := by omega
      have q1 : ¬ ((m.n : Int) < (m.n : Int)) := by omega
      have F : Hid _ := And.intro ho hb
      clear ho hb hk hlt
      go_wp2
      go_ret
      exact ⟨v, rfl, by rw [bytesM_hs]; exact F.out.1, F.out.2⟩
end Go.Proofs.Ytmkacgdbmojomaa

/- extent, the document's: Runs; whether two lists of runs are alike. -/
namespace Go.Proofs.Ytmkacgdbmojomaa
open Go.RowKit
set_option linter.unusedVariables false
set_option linter.unusedSimpArgs false
set_option maxRecDepth 8000

theorem wpList_append_ns (w : World) {ops : Array Oper} {rest : List Oper} {o : Oper} {a : Act} {Q : Exit → Act → World → Prop} (hg : o.guard = none) (s x : Operand)
    (ho : o.op = .call { callee := .builtin .append, args := #[s, x], argTypes := #[88, 88] }) (base : Nat) (v : Value) (T : List Tn) (hv : a.eval s = v) (hown : NsOwn w base v T)
    (k : Nat) (p : Tn) (hx : a.eval x = .slice (some ⟨k, 0, none⟩) 1 1) (hc : Blk w k 123 [.slice (some ⟨p.2, 0, none⟩) 2 2]) (hP : base ≤ p.2 ∧ Blk w p.2 3 [.int .i64 (p.1.1 : Int), .int .i64 (p.1.2 : Int)])
    (hfar : v.ownBlock ≠ some p.2) (hmax : (T.length + 1) * 24 ≤ 140737488355328) (hbase : base ≤ w.heap.size)
    (next : ∀ (v' : Value) (w' : World), NsOwn w' base v' (T ++ [p]) → w.grownBy w' v.ownBlock → (v'.ownBlock = v.ownBlock ∨ v'.ownBlock = some w.heap.size) → wpList Try.prog ops Q rest (a.put o.dst v') w') : wpList Try.prog ops Q (o :: rest) a w := by
  obtain ⟨i0, hi, hz0, hz1, hz2⟩ := info_parts info_ns
  refine wpList_append_own_at (w := w) hg s x 88 ho base 123 i0 (.slice none 0 0) 1 24 Try.underlying88 hi hz0 hz1 hz2 rfl (by decide) v T.length (nsV T) hv hown.own ⟨k, 0, none⟩ 1 1 [.slice (some ⟨p.2, 0, none⟩) 2 2] hx rfl ?_ ?_ (by unfold maxLen; omega) (by omega) hbase ?_
  · intro j u hj
    have hjl : j < 1 := by
      rcases Nat.lt_or_ge j 1 with h | h
      · exact h
      · rw [List.getElem?_eq_none (by simpa using h)] at hj; cases hj
    have e1 : (⟨k, 0, none⟩ : Addr).add j = ⟨k, j, none⟩ := by unfold Addr.add; split <;> simp_all
    rw [e1, hc.cell (by simp [maxLen]) j (by simpa using hjl)]; exact hj
  · intro u hu
    simp only [List.mem_cons, List.not_mem_nil, or_false] at hu
    subst hu
    rfl
  · intro v' w' k2 k3 _ k5
    have hap : ∀ p' ∈ T ++ [p], v.ownBlock ≠ some p'.2 := fun p' hp' => by
      rcases List.mem_append.1 hp' with h | h
      · exact hown.apart p' h
      · rw [List.mem_singleton.1 h]; exact hfar
    have heach : ∀ p' ∈ T ++ [p], base ≤ p'.2 ∧ Blk w p'.2 3 [.int .i64 (p'.1.1 : Int), .int .i64 (p'.1.2 : Int)] := fun p' hp' => by
      rcases List.mem_append.1 hp' with h | h
      · exact hown.each p' h
      · rw [List.mem_singleton.1 h]; exact hP
    refine next v' w' ⟨?_, fun p' hp' => ⟨(heach p' hp').1, blk_grown (heach p' hp').2 k3 (hap p' hp')⟩, fun p' hp' => ?_⟩ k3 k5
    · rw [List.length_append, nsV_snoc]; exact k2
    · rcases k5 with e | e
      · rw [e]; exact hap p' hp'
      · rw [e]; intro e2; have := (heach p' hp').2.lt; have := Option.some.inj e2; omega
theorem NsOwn.bump {w : World} {base : Nat} {a : Option Addr} {n cap : Nat} {TA : List Tn} {f c kb : Nat} (h : NsOwn w base (.slice a n cap) (TA ++ [((f, c), kb)])) (hp : ∀ p ∈ TA, p.2 ≠ kb) :
    n = TA.length + 1 ∧ n ≤ cap ∧ ∃ q, a = some ⟨q, 0, none⟩ ∧ w.cell? ⟨q, TA.length, none⟩ = some (.slice (some ⟨kb, 0, none⟩) 2 2) ∧ w.cell? ⟨kb, 1, none⟩ = some (.int .i64 (c : Int)) ∧ w.frozen? ⟨kb, 1, none⟩ = false ∧ base ≤ kb ∧ NsOwn (w.setCell ⟨kb, 1, none⟩ (.int .i64 ((c + 1 : Nat) : Int))) base (.slice a n cap) (TA ++ [((f, c + 1), kb)]) := by
  have hlast := h.each ((f, c), kb) (by simp)
  have hap := h.apart ((f, c), kb) (by simp)
  have hc1 := hlast.2.cell (by simp [maxLen]) 1 (by simp)
  have hf1 := hlast.2.frozen (by simp [maxLen]) 1
  simp only [List.getElem?_cons_zero, List.getElem?_cons_succ] at hc1
  have hnv : nsV (TA ++ [((f, c), kb)]) = nsV (TA ++ [((f, c + 1), kb)]) := by rw [nsV_snoc, nsV_snoc]
  have hll : (TA ++ [((f, c), kb)]).length = (TA ++ [((f, c + 1), kb)]).length := by simp
  have hk := h.kept (grown_set w kb 1 (.int .i64 ((c + 1 : Nat) : Int)))
  have hown := h.own
  have hset := hlast.2.set 1 (.int .i64 ((c + 1 : Nat) : Int))
  simp only [List.set_cons_zero, List.set_cons_succ] at hset
  have hB : ∀ p ∈ TA, Blk (w.setCell ⟨kb, 1, none⟩ (.int .i64 ((c + 1 : Nat) : Int))) p.2 3 [.int .i64 (p.1.1 : Int), .int .i64 (p.1.2 : Int)] := fun p hpT => blk_grown (h.each p (List.mem_append_left _ hpT)).2 (grown_set w kb 1 _) (fun e => hp p hpT (Option.some.inj e).symm)
  have hrow : (w.setCell ⟨kb, 1, none⟩ (.int .i64 ((c + 1 : Nat) : Int))).ownsRow base 123 1 (.slice a n cap) (TA ++ [((f, c + 1), kb)]).length (nsV (TA ++ [((f, c + 1), kb)])) := by
    rw [← hnv, ← hll]
    exact World.ownsRow.kept h.own (grown_set w kb 1 _) (.inr hap)
  obtain ⟨h1, ⟨h2, h3⟩ | ⟨g, cap', cur, hv, hb, hh, hc, hm, hs, ht⟩⟩ := hown
  · simp at h3
  · simp only [Value.slice.injEq] at hv
    obtain ⟨rfl, rfl, rfl⟩ := hv
    refine ⟨by simp, by simpa using hc, g, rfl, ?_, hc1, hf1, hlast.1, hrow, fun p hpT => ?_, fun p hpT => ?_⟩
    · rw [World.ownsRow.cellAt h.own TA.length (by simp)]; unfold nsV; simp
    · rcases List.mem_append.1 hpT with e | e
      · exact ⟨(h.each p (List.mem_append_left _ e)).1, hB p e⟩
      · rw [List.mem_singleton.1 e]; exact ⟨hlast.1, hset⟩
    · rcases List.mem_append.1 hpT with e | e
      · exact h.apart p (List.mem_append_left _ e)
      · rw [List.mem_singleton.1 e]; exact hap
def NsP (T : List Tn) : Prop := T.Pairwise (fun a b => a.2 ≠ b.2)
set_option maxHeartbeats 8000000 in
theorem riRuns_any (r lb : Nat) (V : List Nat) (m : Im) (w : World) (h : (ri r lb V m).Ok w) (hw : m.Wf) : Calls Try.prog 52 #[.pointer (some ⟨r, 0, none⟩)] w fun e w' => ∃ v, e = .returned v ∧ NsR w (rnN m m.n) v w' := by
  have hm := hw.most
  have HP : Hid _ := And.intro h hw
  clear h hw
  have c1 := ri_head HP.out.1
  go_enter Try.func52, Try.ntmps52
  go_wp2_with fail
  go_loopw [3, 4] (fun ov iv wr => ∃ (k : Nat) (T : List Tn) (v : Value), v = ov ∧ k ≤ m.n ∧ iv = .int .i64 k ∧ T.map (·.1) = rnN m k ∧ NsOwn wr w.heap.size v T ∧ NsP T ∧ Below w.heap.size w wr) (fun _ iv _ => m.n - (intOf iv).toNat)
  case atStart => exact ⟨0, [], _, rfl, Nat.zero_le _, rfl, rfl, NsOwn.nil _ _, .nil, Below.refl _ _⟩
  case round =>
    obtain ⟨k, T, v, rfl, hk, rfl, hT, hO, hPw, hb⟩ := hrel
    have c1' := ri_head (HP.out.1.later hb)
    by_cases hlt : k < m.n
    · have q1 : (k : Int) < (m.n : Int) := by omega
      have HTl : Hid (T.length ≤ k) := by have h1 := congrArg List.length hT; rw [List.length_map] at h1; have := rn_len m k; unfold Hid; omega
      have HX : Hid _ := And.intro hT (And.intro hO (And.intro hPw hb))
      clear hT hO hPw hb c1
      go_wp2_with fail
      refine (Calls.mono (riHas_any r lb V m (k : Int) wr (HP.out.1.later HX.out.2.2.2) HP.out.2 (by unfold I64; omega))) ?_
      rintro e _ ⟨rfl, rfl⟩
      cases hh1 : m.has (k : Int)
      · have HS : Hid _ := (show rnN m (k + 1) = rnN m k by rw [rnN_succ, hh1]; rfl)
        go_wp2
        go_roundw
        case rel => exact ⟨k + 1, T, v, rfl, by omega, by go_num, by rw [HS.out]; exact HX.out.1, HX.out.2.1, HX.out.2.2.1, HX.out.2.2.2⟩
        case measure => simp [intOf]; omega
      · by_cases hk0 : k = 0
        · have hh2 : m.has ((k : Int) - 1) = false := by rw [hk0]; rfl
          have HS : Hid _ := (show rnN m (k + 1) = rnN m k ++ [(k, 1)] by rw [rnN_succ, hh1, hh2, if_pos rfl, if_neg (by decide)])
          clear hh1 hh2
          have q2 : ¬ ((0 : Int) < (k : Int)) := by omega
          clear hk0
          have b1 : Below wr.heap.size wr (wr.alloc (.cells #[.int .i64 (k : Int), .int .i64 1] 3)) := (Below.refl _ _).alloc (Nat.le_refl _) _
          have P1 : Blk (wr.alloc (.cells #[.int .i64 (k : Int), .int .i64 1] 3)) wr.heap.size 3 [.int .i64 (k : Int), .int .i64 ((1 : Nat) : Int)] := Blk.new' wr _ _
          have z2 : (wr.alloc (.cells #[.int .i64 (k : Int), .int .i64 1] 3)).heap.size = wr.heap.size + 1 := by simp
          have b2 : Below (wr.alloc (.cells #[.int .i64 (k : Int), .int .i64 1] 3)).heap.size (wr.alloc (.cells #[.int .i64 (k : Int), .int .i64 1] 3)) ((wr.alloc (.cells #[.int .i64 (k : Int), .int .i64 1] 3)).alloc (.cells #[.slice (some ⟨wr.heap.size, 0, none⟩) 2 2] 123)) := (Below.refl _ _).alloc (Nat.le_refl _) _
          have P2 : Blk ((wr.alloc (.cells #[.int .i64 (k : Int), .int .i64 1] 3)).alloc (.cells #[.slice (some ⟨wr.heap.size, 0, none⟩) 2 2] 123)) (wr.heap.size + 1) 123 [.slice (some ⟨wr.heap.size, 0, none⟩) 2 2] := by have := Blk.new' (wr.alloc (.cells #[.int .i64 (k : Int), .int .i64 1] 3)) 123 [Value.slice (some ⟨wr.heap.size, 0, none⟩) 2 2]; rw [z2] at this; exact this
          have H0 : Hid _ := And.intro P2 (And.intro (P1.laterB b2) (below_then b1 b2))
          clear b1 P1 z2 b2 P2
          go_wp2_with (at_builtin; refine wpList_append_ns _ rfl _ _ rfl w.heap.size v T rfl (HX.out.2.1.later H0.out.2.2) (wr.heap.size + 1) ((k, 1), wr.heap.size) (by first | rfl | simp) H0.out.1 ⟨HX.out.2.2.2.size, H0.out.2.1⟩ (fun e => by have := (World.ownsRow.lt HX.out.2.1.own _ e).2; omega) (by have := HTl.out; omega) (Nat.le_trans HX.out.2.2.2.size H0.out.2.2.size) ?_)
          rintro v' w7 ho7 hg7 -
          have hnew : ∀ p ∈ T, p.2 ≠ wr.heap.size := fun p hp e => by have := (HX.out.2.1.each p hp).2.lt; omega
          have F : Hid _ := And.intro (show (T ++ [((k, 1), wr.heap.size)] : List Tn).map (·.1) = rnN m (k + 1) by rw [HS.out, List.map_append, HX.out.1]; rfl) (And.intro ho7 (And.intro (show NsP (T ++ [((k, 1), wr.heap.size)]) from List.pairwise_append.2 ⟨HX.out.2.2.1, List.pairwise_singleton _ _, fun a ha b hb => by rw [List.mem_singleton.1 hb]; exact hnew a ha⟩) ((below_then HX.out.2.2.2 H0.out.2.2).grown hg7 (Nat.le_trans HX.out.2.2.2.size H0.out.2.2.size) (fun q hq => (World.ownsRow.lt HX.out.2.1.own q hq).1))))
          clear ho7 hg7 hnew H0
          go_wp2
          go_roundw
          case rel => exact ⟨k + 1, _, v', rfl, by omega, by go_num, F.out.1, F.out.2.1, F.out.2.2.1, F.out.2.2.2⟩
          case measure => simp [intOf]; omega
        · have q2 : (0 : Int) < (k : Int) := by omega
          go_wp2_with fail
          refine (Calls.mono (riHas_any r lb V m ((k : Int) - 1) wr (HP.out.1.later HX.out.2.2.2) HP.out.2 (by unfold I64; omega))) ?_
          rintro e _ ⟨rfl, rfl⟩
          cases hh2 : m.has ((k : Int) - 1)
          · have HS : Hid _ := (show rnN m (k + 1) = rnN m k ++ [(k, 1)] by rw [rnN_succ, hh1, hh2, if_pos rfl, if_neg (by decide)])
            clear hh1 hh2
            have b1 : Below wr.heap.size wr (wr.alloc (.cells #[.int .i64 (k : Int), .int .i64 1] 3)) := (Below.refl _ _).alloc (Nat.le_refl _) _
            have P1 : Blk (wr.alloc (.cells #[.int .i64 (k : Int), .int .i64 1] 3)) wr.heap.size 3 [.int .i64 (k : Int), .int .i64 ((1 : Nat) : Int)] := Blk.new' wr _ _
            have z2 : (wr.alloc (.cells #[.int .i64 (k : Int), .int .i64 1] 3)).heap.size = wr.heap.size + 1 := by simp
            have b2 : Below (wr.alloc (.cells #[.int .i64 (k : Int), .int .i64 1] 3)).heap.size (wr.alloc (.cells #[.int .i64 (k : Int), .int .i64 1] 3)) ((wr.alloc (.cells #[.int .i64 (k : Int), .int .i64 1] 3)).alloc (.cells #[.slice (some ⟨wr.heap.size, 0, none⟩) 2 2] 123)) := (Below.refl _ _).alloc (Nat.le_refl _) _
            have P2 : Blk ((wr.alloc (.cells #[.int .i64 (k : Int), .int .i64 1] 3)).alloc (.cells #[.slice (some ⟨wr.heap.size, 0, none⟩) 2 2] 123)) (wr.heap.size + 1) 123 [.slice (some ⟨wr.heap.size, 0, none⟩) 2 2] := by have := Blk.new' (wr.alloc (.cells #[.int .i64 (k : Int), .int .i64 1] 3)) 123 [Value.slice (some ⟨wr.heap.size, 0, none⟩) 2 2]; rw [z2] at this; exact this
            have H0 : Hid _ := And.intro P2 (And.intro (P1.laterB b2) (below_then b1 b2))
            clear b1 P1 z2 b2 P2
            go_wp2_with (at_builtin; refine wpList_append_ns _ rfl _ _ rfl w.heap.size v T rfl (HX.out.2.1.later H0.out.2.2) (wr.heap.size + 1) ((k, 1), wr.heap.size) (by first | rfl | simp) H0.out.1 ⟨HX.out.2.2.2.size, H0.out.2.1⟩ (fun e => by have := (World.ownsRow.lt HX.out.2.1.own _ e).2; omega) (by have := HTl.out; omega) (Nat.le_trans HX.out.2.2.2.size H0.out.2.2.size) ?_)
            rintro v' w7 ho7 hg7 -
            have hnew : ∀ p ∈ T, p.2 ≠ wr.heap.size := fun p hp e => by have := (HX.out.2.1.each p hp).2.lt; omega
            have F : Hid _ := And.intro (show (T ++ [((k, 1), wr.heap.size)] : List Tn).map (·.1) = rnN m (k + 1) by rw [HS.out, List.map_append, HX.out.1]; rfl) (And.intro ho7 (And.intro (show NsP (T ++ [((k, 1), wr.heap.size)]) from List.pairwise_append.2 ⟨HX.out.2.2.1, List.pairwise_singleton _ _, fun a ha b hb => by rw [List.mem_singleton.1 hb]; exact hnew a ha⟩) ((below_then HX.out.2.2.2 H0.out.2.2).grown hg7 (Nat.le_trans HX.out.2.2.2.size H0.out.2.2.size) (fun q hq => (World.ownsRow.lt HX.out.2.1.own q hq).1))))
            clear ho7 hg7 hnew H0
            go_wp2
            go_roundw
            case rel => exact ⟨k + 1, _, v', rfl, by omega, by go_num, F.out.1, F.out.2.1, F.out.2.2.1, F.out.2.2.2⟩
            case measure => simp [intOf]; omega
          · obtain ⟨A, f, c, eA, hfc, hc1⟩ := rn_last m k hh2
            have hS : rnN m (k + 1) = A ++ [(f, c + 1)] := by rw [rnN_succ, hh1, hh2, if_pos rfl, if_pos rfl, eA, bump_snoc]
            obtain ⟨TA, TB, rfl, eTA, eTB⟩ := List.map_eq_append_iff.1 (HX.out.1.trans eA)
            obtain ⟨⟨fc, kb⟩, rfl, efc⟩ := List.map_eq_singleton_iff.1 eTB
            simp only at efc
            subst efc
            have hpw : ∀ p ∈ TA, p.2 ≠ kb := fun p hp => (List.pairwise_append.1 HX.out.2.2.1).2.2 p hp ((f, c), kb) (by simp)
            obtain ⟨va, vn, vc, rfl⟩ : ∃ va vn vc, v = .slice va vn vc := by
              obtain ⟨_, ⟨e, _⟩ | ⟨g', cap, cur, e, _⟩⟩ := HX.out.2.1.own
              · exact ⟨_, _, _, e⟩
              · exact ⟨_, _, _, e⟩
            obtain ⟨rfl, hcap, q, rfl, y1, y2, y3, hbk, hnew⟩ := HX.out.2.1.bump hpw
            have hlt256 : ((TA.length + 1 : Nat) : Int) ≤ 257 := by have := HTl.out; rw [List.length_append] at this; simp at this; omega
            have F : Hid _ := And.intro (show (TA ++ [((f, c + 1), kb)]).map (·.1) = rnN m (k + 1) by rw [hS, List.map_append, eTA]; rfl) (And.intro hnew (And.intro (show NsP (TA ++ [((f, c + 1), kb)]) from List.pairwise_append.2 ⟨(List.pairwise_append.1 HX.out.2.2.1).1, List.pairwise_singleton _ _, fun a ha b hb => by rw [List.mem_singleton.1 hb]; exact hpw a ha⟩) (HX.out.2.2.2.grown (grown_set wr kb 1 (.int .i64 ((c + 1 : Nat) : Int))) HX.out.2.2.2.size (fun q hq => by rw [← Option.some.inj hq]; exact hbk))))
            have hcI : (c : Int) ≤ 256 := by omega
            clear hnew hpw eTA eTB hS eA hbk
            go_wp2
            go_roundw
            case rel => exact ⟨k + 1, _, _, rfl, by omega, by go_num, F.out.1, F.out.2.1, F.out.2.2.1, F.out.2.2.2⟩
            case measure => simp [intOf]; omega
    · obtain rfl : k = m.n := by omega
      have q1 : ¬ ((m.n : Int) < (m.n : Int)) := by omega
      have F : Hid _ := And.intro hT (And.intro hO hb)
      clear hT hO hb hk hlt hPw
      go_wp2
      go_ret
      exact ⟨v, rfl, T, F.out.1, F.out.2.1, F.out.2.2⟩
set_option maxHeartbeats 8000000 in
theorem sameRuns_yes (v1 v2 : Value) (b1 b2 : Nat) (T1 T2 : List Tn) (l : List (Nat × Nat)) (w : World) (hl : l.length ≤ 1000) (hT1 : T1.map (·.1) = l) (hT2 : T2.map (·.1) = l) (h1 : NsOwn w b1 v1 T1) (h2 : NsOwn w b2 v2 T2) : Calls Try.prog 50 #[v1, v2] w fun e w' => e = .returned (.bool true) ∧ Below w.heap.size w w' := by
  obtain ⟨a1, d1, rfl, hc1, hA1⟩ := ns_at h1 hT1
  obtain ⟨a2, d2, rfl, hc2, hA2⟩ := ns_at h2 hT2
  have HA : Hid _ := And.intro hA1 hA2
  clear hA1 hA2 h1 h2 hT1 hT2
  have hll : (l.length : Int) ≤ 1000 := by omega
  go_enter Try.func50, Try.ntmps50
  go_wp2_with fail
  go_loopw [5] (fun iv wr => ∃ k : Nat, k ≤ l.length ∧ iv = .int .i64 k ∧ Below w.heap.size w wr) (fun iv _ => l.length - (intOf iv).toNat)
  case atStart => exact ⟨0, Nat.zero_le _, rfl, Below.refl _ _⟩
  case round =>
    obtain ⟨k, hk, rfl, hb⟩ := hrel
    by_cases hlt : k < l.length
    · have q1 : (k : Int) < (l.length : Int) := by omega
      obtain ⟨q, k0, rfl, x1, x2, x3⟩ := HA.out.1 k hlt
      obtain ⟨q', k0', rfl, y1, y2, y3⟩ := HA.out.2 k hlt
      have x1 := cell_later hb x1
      have x2 := cell_later hb x2
      have x3 := cell_later hb x3
      have y1 := cell_later hb y1
      have y2 := cell_later hb y2
      have y3 := cell_later hb y3
      generalize l[k].1 = rf at *
      generalize l[k].2 = rc at *
      have F : Hid _ := hb
      clear hb
      go_wp2_with fail
      go_quiet (fail)
      go_wp2
      go_roundw
      case rel => exact ⟨k + 1, by omega, by go_num, below_then F.out (below_drewN _ _ _)⟩
      case measure => simp [intOf]; omega
    · obtain rfl : k = l.length := by omega
      have q1 : ¬ ((l.length : Int) < (l.length : Int)) := by omega
      have F : Hid _ := hb
      clear hb hk hlt
      go_wp2
      go_ret
      exact ⟨rfl, F.out⟩
end Go.Proofs.Ytmkacgdbmojomaa
