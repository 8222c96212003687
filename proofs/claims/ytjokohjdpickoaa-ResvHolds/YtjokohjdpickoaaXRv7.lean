/- The notes of a command. -/
import Derived.Test.YtjokohjdpickoaaXRv6
import Derived.Maps.AppendAt
namespace Go.Proofs.Ytjokohjdpickoaa
open Go.RowKit Go.Shelf
set_option linter.unusedVariables false
set_option linter.unusedSimpArgs false
set_option maxRecDepth 4000

theorem wpList_append_nt (LT E : TypeId) (hU : Try.prog.underlying LT = some (.slice E)) (hI : (Try.prog.info? E).map (fun i => (i.zero, i.size, i.bytes)) = some (some (.agg #[.int .i64 0, .int .i64 0]), 2, 16)) (w : World)
    {ops : Array Oper} {rest : List Oper} {o : Oper} {a : Act} {Q : Exit → Act → World → Prop} (hg : o.guard = none) (s x : Operand)
    (ho : o.op = .call { callee := .builtin .append, args := #[s, x], argTypes := #[LT, LT] }) (v : Value) (l : List (Int × Int)) (hs : a.eval s = v) (hown : PrOwn E w v l)
    (k : Nat) (u0 u1 : Int) (hx : a.eval x = .slice (some ⟨k, 0, none⟩) 1 1) (hB : Blk w k E [.int .i64 u0, .int .i64 u1]) (hmax : l.length ≤ 1000000)
    (next : ∀ (v' : Value) (w' : World), PrOwn E w' v' (l ++ [(u0, u1)]) → w.grownBy w' v.ownBlock → (v'.ownBlock = v.ownBlock ∨ v'.ownBlock = some w.heap.size) → wpList Try.prog ops Q rest (a.put o.dst v') w') : wpList Try.prog ops Q (o :: rest) a w := by
  obtain ⟨i0, hi, hz0, hz1, hz2⟩ := info_parts hI
  have c0 := blk_at hB 0
  have c1 := blk_at hB 1
  simp at c0 c1
  refine wpList_append_own_at (w := w) hg s x LT ho 0 E i0 (.agg #[.int .i64 0, .int .i64 0]) 2 16 hU hi hz0 hz1 hz2 rfl (by decide) v l.length (pcells l) hs hown ⟨k, 0, none⟩ 1 1 [.int .i64 u0, .int .i64 u1] hx rfl
    (fun j u hj => by
      match j, hj with
      | 0, hj => simp at hj; subst hj; simpa [Addr.add] using c0
      | 1, hj => simp at hj; subst hj; simpa [Addr.add] using c1)
    (fun u hu => by simp at hu; rcases hu with rfl | rfl <;> rfl) (by unfold maxLen; omega) (by omega) (Nat.zero_le _) ?_
  intro v' w' h2 h3 _ h5
  refine next v' w' ?_ h3 h5
  unfold PrOwn
  rw [List.length_append, pcells_append]
  exact h2
theorem und_nts : Try.prog.underlying 29 = some (.slice 48) := by kernel_rfl
theorem info_nt : (Try.prog.info? 48).map (fun i => (i.zero, i.size, i.bytes)) = some (some (.agg #[.int .i64 0, .int .i64 0]), 2, 16) := by kernel_rfl
/-- notes of the codes below k -/
def ntL (l : List Int) (k : Nat) : List (Int × Int) := ((List.range k).filter (fun i => l.getD i 0 != 0)).map (fun i : Nat => ((i : Int), l.getD i 0))
theorem ntL_succ (l : List Int) (k : Nat) : ntL l (k + 1) = ntL l k ++ (if l.getD k 0 = 0 then [] else [((k : Int), l.getD k 0)]) := by
  unfold ntL
  rw [List.range_succ, List.filter_append, List.map_append]
  congr 1
  by_cases h : l.getD k 0 = 0
  · rw [if_pos h]; simp only [List.filter_cons, List.filter_nil, h]; rfl
  · have : (l.getD k 0 != 0) = true := by rw [bne_iff_ne]; exact h
    rw [if_neg h]; simp only [List.filter_cons, List.filter_nil, this]; rfl
theorem ntL_len (l : List Int) (k : Nat) : (ntL l k).length ≤ k := by
  unfold ntL
  rw [List.length_map]
  have := List.length_filter_le (fun i => l.getD i 0 != 0) (List.range k)
  rw [List.length_range] at this
  exact this
abbrev NtOwn := PrOwn 48
structure NtI (w wr : World) (v : Value) (l : List (Int × Int)) : Prop where
  own : NtOwn wr v l
  new : ∀ b, v.ownBlock = some b → w.heap.size ≤ b
  below : Below w.heap.size w wr
theorem NtI.later {w wr w' : World} {v : Value} {l : List (Int × Int)} (h : NtI w wr v l) (hb : Below wr.heap.size wr w') : NtI w w' v l := ⟨h.own.later hb, h.new, below_then h.below hb⟩
theorem NtI.put {w wr w' : World} {v v' : Value} {l l' : List (Int × Int)} (h : NtI w wr v l) (ho : NtOwn w' v' l') (hg : wr.grownBy w' v.ownBlock) (hor : v'.ownBlock = v.ownBlock ∨ v'.ownBlock = some wr.heap.size) : NtI w w' v' l' :=
  ⟨ho, fun b hb => by
    rcases hor with e | e
    · exact h.new b (by rw [← e]; exact hb)
    · rw [e] at hb; cases hb; exact h.below.size, h.below.grown hg h.below.size (fun k e => h.new k e)⟩
theorem index_cd (l : List Int) (hl : l.length = 16) (j : Nat) (hj : j < l.length) (w : World) : (Instr.index 84 (av .i64 l) (.int .i64 j)).run Try.prog w = .ok (.int .i64 l[j]) w := by
  have hb : (0 : Int) ≤ (j : Int) ∧ (j : Int) < 16 := by omega
  have ha := ivs_at .i64 l j hj
  simp [Instr.index, av, run_underlying und_cd, asIntOf, hb, go_sem]
  rw [if_pos (by omega), ha]
  rfl
set_option maxHeartbeats 4000000 in
theorem notes_any (l : List Int) (hl : l.length = 16) (w : World) :
    Calls Try.prog 51 #[av .i64 l] w fun e w' => ∃ v, e = .returned v ∧ NtI w w' v (ntL l 16) := by
  have b1 : Below w.heap.size w (w.alloc (.cells (ivs .i64 l).toArray 84)) := (Below.refl _ _).alloc (Nat.le_refl _) _
  have B1 := Blk.new' w 84 (ivs .i64 l)
  have hld := load_arr (k := .i64) size_cd und_cd hl (w := w.alloc (.cells (ivs .i64 l).toArray 84)) (c := w.heap.size) (off := 0) (fun j hj => by rw [Nat.zero_add, blk_at B1 j]; exact ivs_at .i64 l j hj)
  have HB : Hid _ := And.intro b1 trivial
  clear b1 B1
  have hav : av .i64 l = .agg (ivs .i64 l).toArray := rfl
  rw [hav] at hld ⊢
  go_enter Try.func51, Try.ntmps51
  go_wp2_with (refine wpList_value rfl (exec_load rfl rfl hld) ?_)
  clear hld
  generalize w.alloc (.cells (ivs .i64 l).toArray 84) = w1 at *
  go_loopw [3, 7] (fun lv iv wr => ∃ k : Nat, k ≤ 16 ∧ iv = .int .i64 k ∧ NtI w wr lv (ntL l k)) (fun _ iv _ => 16 - (intOf iv).toNat)
  case atStart => exact ⟨0, by omega, rfl, PrOwn.nil _ _, (fun b hb => by cases hb), HB.out.1⟩
  case round =>
    obtain ⟨k, hk, rfl, hI⟩ := hrel
    obtain ⟨ta, tc, htv, -, -⟩ := hI.own.open
    by_cases hlt : k < 16
    · have hix := index_cd l hl k (by omega) wr
      rw [hav] at hix
      have hg : l[k]'(by omega) = l.getD k 0 := by rw [List.getD, List.getElem?_eq_getElem (by omega)]; rfl
      rw [hg] at hix
      have hs := ntL_succ l k
      have hln := ntL_len l k
      have q1 : (k : Int) < 16 := by omega
      clear hg
      generalize l.getD k 0 = x at *
      by_cases hx : x = 0
      · rw [if_pos hx, List.append_nil] at hs
        have R : Hid _ := And.intro hI hs
        subst hx
        clear hI hs hln
        rw [htv]
        go_wp2_with (refine wpList_value rfl (exec_index rfl rfl rfl hix) ?_)
        go_roundw
        case rel => exact ⟨k + 1, by omega, by go_num, by rw [R.out.2, ← htv]; exact R.out.1⟩
        case measure => simp [intOf]; omega
      · rw [if_neg hx] at hs
        have bn : Below wr.heap.size wr (wr.alloc (.cells #[.int .i64 k, .int .i64 x] 48)) := (Below.refl _ _).alloc (Nat.le_refl _) _
        have HN : Hid _ := And.intro (hI.later bn) (And.intro (Blk.new' wr 48 [.int .i64 k, .int .i64 x]) hs)
        have hul : (ntL l k).length ≤ 1000000 := by omega
        clear hI bn hs
        generalize ntL l k = Kt at *
        rw [htv]
        go_wp2_with (first | (refine wpList_value rfl (exec_index rfl rfl rfl hix) ?_) | (at_builtin; refine wpList_append_nt 29 48 und_nts info_nt _ rfl _ _ rfl _ Kt rfl (by rw [← htv]; exact HN.out.1.own) wr.heap.size k x rfl HN.out.2.1 hul ?_))
        intro v' w5 ho5 hg5 hor5
        have R := HN.out.1.put ho5 (by rw [htv]; exact hg5) (by rw [htv, World.size_alloc]; exact hor5)
        obtain ⟨a', c', hv', -, -⟩ := ho5.open
        have HR : Hid _ := And.intro R HN.out.2.2
        clear R ho5 hg5 hor5 HN hix
        rw [hv']
        go_wp2
        go_roundw
        case rel => exact ⟨k + 1, by omega, by go_num, by rw [HR.out.2, ← hv']; exact HR.out.1⟩
        case measure => simp [intOf]; omega
    · obtain rfl : k = 16 := by omega
      have F : Hid _ := And.intro hI trivial
      clear hI
      rw [htv]
      go_wp2
      go_ret
      exact ⟨_, rfl, by rw [← htv]; exact F.out.1⟩
end Go.Proofs.Ytjokohjdpickoaa

