/- Arrays of sixteen numbers as values; the registrants as a function that is ranged over. -/
import Derived.Test.YtlopkfenbeahgaaXRv1
import Derived.Test.YtlopkfenbeahgaaXEx1
import Derived.ChangeKeysEq
import Derived.RangeFuncNested
import Derived.RangeFuncBound
import Derived.RangeFuncCalls
import Derived.RangeFuncLeaves
import Derived.Shelf.Abstract
import Derived.Shelf.RegionOpen
import Derived.OwnWalkIn
import Derived.TacticsInMore
import Derived.LoopNIn
import Derived.LoopIn
import Derived.Maps.AppendAt
namespace Go.Proofs.Ytlopkfenbeahgaa
open Go.RowKit Go.Shelf
set_option linter.unusedVariables false
set_option linter.unusedSimpArgs false
set_option maxRecDepth 4000
attribute [local go_sem] Oper.semAt_some

def ivs (k : IntKind) (l : List Int) : List Value := l.map (Value.int k)
def av (k : IntKind) (l : List Int) : Value := .agg (ivs k l).toArray
def z16 : List Int := [0, 0, 0, 0, 0, 0, 0, 0, 0, 0, 0, 0, 0, 0, 0, 0]
theorem ivs_len (k : IntKind) (l : List Int) : (ivs k l).length = l.length := by unfold ivs; rw [List.length_map]
theorem ivs_at (k : IntKind) (l : List Int) (i : Nat) (h : i < l.length) : (ivs k l)[i]? = some (.int k l[i]) := by unfold ivs; rw [List.getElem?_map, List.getElem?_eq_getElem h]; rfl
theorem load_arr {T E : TypeId} {k : IntKind} (hs : (Try.prog.info? T).map (·.size) = some 16) (hu : Try.prog.underlying T = some (.array 16 E)) {w : World} {c off : Nat} {l : List Int} (hl : l.length = 16) (hc : ∀ j (h : j < l.length), w.cell? ⟨c, off + j, none⟩ = some (.int k l[j])) :
    (Instr.loadAt T (.pointer (some ⟨c, off, none⟩))).run Try.prog w = .ok (av k l) w := by
  have h2 : (loadCells ⟨c, off, none⟩ (ivs k l).length).run Try.prog w = .ok (ivs k l).toArray w := run_loadCells_list (P := Try.prog) w ⟨c, off, none⟩ (ivs k l) (fun j v hj => by
    have hadd : (⟨c, off, none⟩ : Addr).add j = ⟨c, off + j, none⟩ := by unfold Addr.add; split <;> simp_all
    have hjl : j < l.length := by
      rcases Nat.lt_or_ge j l.length with h | h
      · exact h
      · rw [List.getElem?_eq_none (by rw [ivs_len]; exact h)] at hj; cases hj
    rw [hadd, hc j hjl, ← ivs_at k l j hjl, hj])
  rw [ivs_len, hl] at h2
  obtain ⟨i, hi, hz⟩ := Option.map_eq_some_iff.1 hs
  have hagg : (isAgg T).run Try.prog w = .ok true w := by
    unfold isAgg
    rw [Sem.run_bind, run_underlying hu w]
    rfl
  simp [Instr.loadAt, Instr.sureAddr, loadVar, Sem.run_bind, hagg, sizeOf, typeInfo, hi, hz, h2, av]
theorem size_ks : (Try.prog.info? 52).map (·.size) = some 16 := by kernel_rfl
theorem und_ks : Try.prog.underlying 52 = some (.array 16 32) := by kernel_rfl
theorem size_cd : (Try.prog.info? 83).map (·.size) = some 16 := by kernel_rfl
theorem und_cd : Try.prog.underlying 83 = some (.array 16 3) := by kernel_rfl
/-- a new variable whose cells are stored anew -/
theorem setRow_new16 (w : World) (old cs : Array Value) (t : TypeId) : (w.alloc (.cells old t)).setRow w.heap.size cs = w.alloc (.cells cs t) := by
  unfold World.setRow World.alloc
  simp only [World.mk.injEq, and_true]
  apply Array.ext
  · simp
  · intro i h1 h2
    simp only [Array.getElem_modify, Array.getElem_push]
    split
    · rename_i hi; subst hi; simp
    · rename_i hi
      have : i < w.heap.size := by simp at h2; omega
      simp [this]
theorem store_arr {T : TypeId} {k : IntKind} (hs : (Try.prog.info? T).map (·.size) = some 16) (w : World) (old : List Value) (ho : old.length = 16) (l : List Int) (hl : l.length = 16) :
    (Instr.storeAt T (.pointer (some ⟨w.heap.size, 0, none⟩)) (av k l)).run Try.prog (w.alloc (.cells old.toArray T)) = .ok () (w.alloc (.cells (ivs k l).toArray T)) := by
  have h := run_storeVar_row (P := Try.prog) (w.alloc (.cells old.toArray T)) w.heap.size T T old.toArray (ivs k l).toArray (MapKept.heap_alloc w _).1 (by rw [hs]; simp [ivs_len, hl]) (by simp [ivs_len, hl, ho]) (by
    rw [Array.all_eq_true_iff_forall_mem]
    intro x hx
    have hx' : x ∈ ivs k l := by simpa using hx
    unfold ivs at hx'
    obtain ⟨y, _, rfl⟩ := List.mem_map.1 hx'
    rfl)
  simp only [Instr.storeAt, Instr.sureAddr, Sem.run_bind, Sem.run_pure, Result.andThen_ok, av, h, setRow_new16]
theorem ks_cells {m : Rs} (h : m.Wf) {w : World} {g : Nat} (hB : Blk w g 54 (rsC m)) : ∀ j (hj : j < m.ks.length), w.cell? ⟨g, 19 + j, none⟩ = some (.int .u64 m.ks[j]) := fun j hj => by
  rw [h.key hB j (by rw [← h.kl]; exact hj), List.getD, List.getElem?_eq_getElem hj]; rfl
set_option maxHeartbeats 2000000 in
theorem Regs_any (g : Nat) (m : Rs) (w : World) (h : (rv g m).Ok w) :
    Calls Try.prog 19 #[.pointer (some ⟨g, 0, none⟩)] w fun e w' => e = .returned (.func (.func 32) #[] #[.pointer (some ⟨w.heap.size, 0, none⟩)]) ∧ Blk w' w.heap.size 52 (ivs .u64 m.ks) ∧ Below w.heap.size w w' := by
  obtain ⟨hB, hW⟩ := h.holds
  have b1 : Below w.heap.size w (w.alloc (.cells (ivs .u64 z16).toArray 52)) := (Below.refl _ _).alloc (Nat.le_refl _) _
  have hld := load_arr size_ks und_ks hW.kl (ks_cells hW (hB.laterB b1))
  have hst := store_arr (k := .u64) size_ks w (ivs .u64 z16) rfl m.ks hW.kl
  have F : Hid _ := And.intro (Blk.new' w 52 (ivs .u64 m.ks)) ((Below.refl w.heap.size w).alloc (Nat.le_refl _) (.cells (ivs .u64 m.ks).toArray 52))
  clear b1 h hB hW
  simp only [ivs, z16, List.map_cons, List.map_nil] at hld hst
  go_enter Try.func19, Try.ntmps19
  go_wp2_with (first | (refine wpList_value rfl (exec_load rfl rfl hld) ?_) | (refine wpList_skip rfl (exec_store rfl rfl rfl hst) ?_))
  go_ret
  exact ⟨rfl, F.out.1, F.out.2⟩
end Go.Proofs.Ytlopkfenbeahgaa

/- The registrants as a function that is ranged over. -/
namespace Go.Proofs.Ytlopkfenbeahgaa
open Go.RowKit Go.Shelf
set_option linter.unusedVariables false
set_option linter.unusedSimpArgs false
set_option maxRecDepth 4000
attribute [local go_sem] Oper.semAt_some

theorem wpListIn_value {F : Fence} {n : Nat} {P : Program} {w w' : World} {ops : Array Oper} {rest : List Oper} {o : Oper} {a : Act} {Q : Exit → Act → World → Prop} {v : Value} (hg : o.guard = none) (hab : o.about P w a.eval = none) (hd : ∀ c, o.op ≠ .defer c) (h : (execOp a.eval o).run P w = .ok (.value v) w') (k : wpListIn F n P ops Q rest (a.put o.dst v) w') : wpListIn F n P ops Q (o :: rest) a w := by
  refine wpListIn_plain hg fun K hK => ?_
  unfold Oper.wpIn
  refine ⟨fun f hf => (by rw [hab] at hf; cases hf), ?_⟩
  rw [Oper.semAt_plain F _ _ hd, h]
  exact hK _ _ k
theorem exec_index {P : Program} {w : World} {o : Oper} {a : Act} {t : TypeId} {x y : Operand} (ho : o.op = .index t x y) {p q u : Value} (hx : a.eval x = p) (hy : a.eval y = q) (h : (Instr.index t p q).run P w = .ok u w) : (execOp a.eval o).run P w = .ok (.value u) w := by
  simp [execOp, ho, hx, hy, h, Result.andThen]
theorem index_ks (l : List Int) (hl : l.length = 16) (j : Nat) (hj : j < l.length) (w : World) : (Instr.index 52 (av .u64 l) (.int .i64 j)).run Try.prog w = .ok (.int .u64 l[j]) w := by
  have hb : (0 : Int) ≤ (j : Int) ∧ (j : Int) < 16 := by omega
  have ha := ivs_at .u64 l j hj
  simp [Instr.index, av, run_underlying und_ks, asIntOf, hb, go_sem]
  rw [if_pos (by omega), ha]
  rfl
/-- the registrants below k, and their keys -/
def regsL (ks : List Int) (k : Nat) : List (Nat × Int) := ((List.range k).filter (fun i => ks.getD i 0 != 0)).map (fun i => (i, ks.getD i 0))
theorem regsL_succ (ks : List Int) (k : Nat) : regsL ks (k + 1) = regsL ks k ++ (if ks.getD k 0 = 0 then [] else [(k, ks.getD k 0)]) := by
  unfold regsL
  rw [List.range_succ, List.filter_append, List.map_append]
  congr 1
  by_cases h : ks.getD k 0 = 0
  · rw [if_pos h]; simp only [List.filter_cons, List.filter_nil, h]; rfl
  · have : (ks.getD k 0 != 0) = true := by rw [bne_iff_ne]; exact h
    rw [if_neg h]; simp only [List.filter_cons, List.filter_nil, this]; rfl
theorem regsL_len (ks : List Int) (k : Nat) : (regsL ks k).length ≤ k := by
  unfold regsL
  rw [List.length_map]
  have := List.length_filter_le (fun i => ks.getD i 0 != 0) (List.range k)
  rw [List.length_range] at this
  exact this
/-- a registrant that can be, and its key -/
abbrev Rg := { r : Nat × Int // r.1 < 16 }
def encP (r : Rg) : Array Value := #[.int .i64 (r.1.1 : Int), .int .u64 r.1.2]
set_option maxHeartbeats 4000000 in
theorem regs_stops (n : Nat) (hn : 1 ≤ n) (c : Nat) (ks : List Int) (w : World) (hl : ks.length = 16) (hB : Blk w c 52 (ivs .u64 ks)) :
    SeqStopsK Fence.wide n Try.prog 32 #[.pointer (some ⟨c, 0, none⟩)] encP (KeepL [c]) (fun ys => ys.map (·.1) = regsL ks 16) (fun _ => True) 16 w := fun y J Jx W hW hJ _ hY h0 => by
  have hB' : Blk W c 52 (ivs .u64 ks) := hB.laterB hW
  have hld := load_arr (k := .u64) size_ks und_ks hl (w := W) (c := c) (off := 0) (fun j hj => by rw [Nat.zero_add, blk_at hB' j]; exact ivs_at .u64 ks j hj)
  clear hB hB' hW
  refine callsIn_of_wp Try.func32 rfl trivial ?_ rfl
  simp only [Try.ntmps32, List.size_toArray, List.length_cons, List.length_nil, Nat.reduceAdd, Nat.reduceSub, Array.replicate_succ, Array.replicate_zero, List.push_toArray, List.append_toArray, List.nil_append, List.cons_append]
  gi_wp2_with (refine wpListIn_value rfl rfl (by intro c h; cases h) (exec_load rfl rfl hld) ?_)
  clear hld
  gi_loopw [6] (fun iv wr => ∃ (k : Nat) (pre : List Rg), k ≤ 16 ∧ iv = .int .i64 k ∧ pre.map (·.1) = regsL ks k ∧ J pre wr ∧ KeepL [c] W wr) (fun iv _ => 16 - (intOf iv).toNat)
  case atStart => exact ⟨0, [], by omega, rfl, rfl, h0, fun _ _ => rfl⟩
  case round =>
    obtain ⟨k, pre, hk, rfl, hpre, hJk, hKk⟩ := hrel
    by_cases hlt : k < 16
    · have hix := index_ks ks hl k (by omega) wr
      have hg : ks[k]'(by omega) = ks.getD k 0 := by rw [List.getD, List.getElem?_eq_getElem (by omega)]; rfl
      rw [hg] at hix
      have hs := regsL_succ ks k
      have hln := regsL_len ks k
      have q1 : (k : Int) < 16 := by omega
      have hpl := congrArg List.length hpre
      rw [List.length_map] at hpl
      have HY := hY pre ⟨(k, ks.getD k 0), hlt⟩ wr hJk (by omega)
      unfold encP at HY
      clear hg
      generalize ks.getD k 0 = x at *
      by_cases hx : x = 0
      · rw [if_pos hx, List.append_nil, ← hpre] at hs
        have R : Hid _ := And.intro hs (And.intro hJk hKk)
        clear hJk hKk hs HY hln hpre hpl
        subst hx
        gi_wp2_with (refine wpListIn_value rfl rfl (by intro c h; cases h) (exec_index rfl rfl rfl hix) ?_)
        refine ⟨(by intro f hf; cases hf), ?_⟩
        gi_wp2
        go_roundw
        case rel => exact ⟨k + 1, pre, by omega, by go_num, R.out.1.symm, R.out.2.1, R.out.2.2⟩
        case measure => simp [intOf]; omega
      · rw [if_neg hx, ← hpre] at hs
        obtain ⟨fn, tmps, assign, body, hy, hRd⟩ := HY
        have G : Hid _ := And.intro hKk hs
        clear hKk hs hJk hln hpre hpl
        gi_wp2_with (refine wpListIn_value rfl rfl (by intro c h; cases h) (exec_index rfl rfl rfl hix) ?_)
        refine hRd.mono ?_
        rintro e W5 (⟨rfl, hJ5, hk5⟩ | ⟨rfl, hJx5⟩)
        · have R : Hid _ := And.intro (show (pre ++ [(⟨(k, x), hlt⟩ : Rg)]).map (·.1) = regsL ks (k + 1) by rw [G.out.2, List.map_append]; rfl) (And.intro hJ5 (KeepL.t G.out.1 hk5))
          clear hJ5 hk5 G
          gi_wp2
          go_roundw
          case rel => exact ⟨k + 1, _, by omega, by go_num, R.out.1, R.out.2.1, R.out.2.2⟩
          case measure => simp [intOf]; omega
        · gi_wp2
          refine bodyPost_ret (results_none rfl _ _ _) rfl ?_
          exact ⟨⟨_, rfl⟩, .inr ⟨_, trivial, hJx5⟩⟩
    · obtain rfl : k = 16 := by omega
      gi_wp2
      go_end0
      exact ⟨⟨_, rfl⟩, .inl ⟨pre, hpre, hJk⟩⟩
end Go.Proofs.Ytlopkfenbeahgaa

/- What is told to the others. -/
namespace Go.Proofs.Ytlopkfenbeahgaa
open Go.RowKit Go.Shelf
set_option linter.unusedVariables false
set_option linter.unusedSimpArgs false
set_option maxRecDepth 4000
attribute [local go_sem] Oper.semAt_some

def calmR (Q : Exit → Act → World → Prop) : Exit → Act → World → Prop
  | .panic _, _, _ => False
  | .normal, a, w => Q .normal a w
  | .ret, a, w => Q .ret a w
  | .exit i, a, w => Q (.exit i) a w
  | .goto i, a, w => Q (.goto i) a w
  | .outgrown, a, w => Q .outgrown a w
theorem calmR_out {Q : Exit → Act → World → Prop} {e : Exit} {a : Act} {w : World} (h : calmR Q e a w) : Q e a w := by
  cases e <;> first | exact h | exact h.elim
theorem blk_nonR {A : World} {k T' : Nat} {xs : List Value} {o : Obj} (hB : Blk A k T' xs) (ho : A.heap[k]? = some o) (hc : o.isCells = false) : False := by
  unfold Blk at hB
  rw [hB] at ho
  cases ho
  simp [Obj.isCells] at hc
/-- a round that goes on -/
def roundR (R : World → Prop) : Exit → Act → World → Prop
  | .normal, _, W' => R W'
  | _, _, _ => False
/-- between two rounds: these blocks say so, and only blocks of R have turned -/
structure RB (R : Nat → Prop) (x6 : World) (Bs : List (Nat × TypeId × List Value)) (W : World) : Prop where
  blk : ∀ b ∈ Bs, Blk W b.1 b.2.1 b.2.2
  turned : Turned R x6 W
theorem rb_own {α : Type} {R : Nat → Prop} {x6 : World} {F : List α → List (Nat × TypeId × List Value)} : OwnFrom x6.heap.size (fun pre W => RB R x6 (F pre) W) := by
  rintro s A B row ⟨hB, ht⟩ hg hr
  have ht' : Turned (fun k => row = some k) A B := turned_grown hg (fun k e => e)
  refine ⟨fun b hb => (hB b hb).turned ht' (fun e => ?_), ht.trans (ht'.mono (fun k e => .inr (hr k e).1))⟩
  obtain ⟨_, o, ho', hc⟩ := hr _ e
  exact blk_nonR (hB b hb) ho' hc
theorem keepsR {B : Nat} {W W' : World} {R : Nat → Prop} (ht : Turned R W W') (hR : ∀ k, R k → k < B) : KeepsFrom B W W' := by
  refine ⟨ht.size, fun k o hk hko hc => ?_⟩
  rw [ht.block k (Array.getElem?_eq_some_iff.1 hko).1 (fun e => by have := hR k e; omega)]
  exact hko
theorem keepR {bs : List Nat} {W W' : World} {R : Nat → Prop} (ht : Turned R W W') (hl : ∀ k ∈ bs, k < W.heap.size ∧ ¬ R k) : KeepL bs W W' := fun k hk => ht.block k (hl k hk).1 (hl k hk).2
/-- a code for each of these but one -/
def tellF (nx cd : Int) (l : List Int) (rs : List (Nat × Int)) : List Int := rs.foldl (fun l r => if (r.1 : Int) = nx then l else l.set r.1 cd) l
theorem tellF_len (nx cd : Int) (l : List Int) (rs : List (Nat × Int)) : (tellF nx cd l rs).length = l.length := by
  unfold tellF
  induction rs generalizing l with
  | nil => rfl
  | cons r rs ih => rw [List.foldl_cons, ih]; split <;> simp
theorem tellF_snoc (nx cd : Int) (l : List Int) (rs : List (Nat × Int)) (r : Nat × Int) : tellF nx cd l (rs ++ [r]) = if (r.1 : Int) = nx then tellF nx cd l rs else (tellF nx cd l rs).set r.1 cd := by
  unfold tellF; rw [List.foldl_append]; rfl
theorem regsL_lt {ks : List Int} {k : Nat} {r : Nat × Int} (h : r ∈ regsL ks k) : r.1 < k := by
  unfold regsL at h
  obtain ⟨i, hi, rfl⟩ := List.mem_map.1 h
  exact List.mem_range.1 (List.mem_filter.1 hi).1
set_option maxHeartbeats 4000000 in
theorem tellOthers_any (g : Nat) (m : Rs) (nx cd : Int) (d : Nat) (l : List Int) (w : World) (h : (rv g m).Ok w) (hd : Blk w d 83 (ivs .i64 l)) (hl : l.length = 16) :
    Calls Try.prog 46 #[.pointer (some ⟨g, 0, none⟩), .int .i64 nx, .int .i64 cd, .pointer (some ⟨d, 0, none⟩)] w fun e w' => e = .returned (.tuple #[]) ∧ Blk w' d 83 (ivs .i64 (tellF nx cd l (regsL m.ks 16))) ∧ Turned (fun k => k = d) w w' := by
  have b1 : Below w.heap.size w (w.alloc (.cells #[.int .i64 nx] 3)) := (Below.refl _ _).alloc (Nat.le_refl _) _
  have B1 := Blk.new' w 3 [.int .i64 nx]
  obtain ⟨w1, hw1⟩ : ∃ w1, w1 = w.alloc (.cells #[.int .i64 nx] 3) := ⟨_, rfl⟩
  have b2 : Below w1.heap.size w1 (w1.alloc (.cells #[.int .i64 cd] 3)) := (Below.refl _ _).alloc (Nat.le_refl _) _
  have B2 := Blk.new' w1 3 [.int .i64 cd]
  obtain ⟨w2, hw2⟩ : ∃ w2, w2 = w1.alloc (.cells #[.int .i64 cd] 3) := ⟨_, rfl⟩
  have b3 : Below w2.heap.size w2 (w2.alloc (.cells #[.pointer (some ⟨d, 0, none⟩)] 85)) := (Below.refl _ _).alloc (Nat.le_refl _) _
  have B3 := Blk.new' w2 85 [.pointer (some ⟨d, 0, none⟩)]
  obtain ⟨w3, hw3⟩ : ∃ w3, w3 = w2.alloc (.cells #[.pointer (some ⟨d, 0, none⟩)] 85) := ⟨_, rfl⟩
  have z1 : w1.heap.size = w.heap.size + 1 := by rw [hw1]; simp
  have z2 : w2.heap.size = w.heap.size + 2 := by rw [hw2]; simp [z1]
  rw [← hw1] at b1 B1
  rw [← hw2] at b2 B2
  rw [← hw3] at b3 B3
  rw [z1] at B2
  rw [z2] at B3
  have b12 := below_then b1 b2
  have b13 := below_then b12 b3
  have z3 : w3.heap.size = w.heap.size + 3 := by rw [hw3]; simp [z2]
  have HR : Hid _ := Regs_any g m w3 (h.later b13)
  have F0 : Hid _ := And.intro ((B1.laterB b2).laterB b3) (And.intro (B2.laterB b3) (And.intro B3 (And.intro b13 (And.intro (hd.laterB b13) (And.intro z3 h.holds.2)))))
  have hdl := hd.lt
  clear b1 B1 b2 B2 b3 B3 b12 b13 h hd
  refine (callsIn_wide (n := 9)).1 ?_
  refine callsIn_of_wp_marks Try.func46 rfl trivial ?_ rfl
  simp only [Try.ntmps46, List.size_toArray, List.length_cons, List.length_nil, Nat.reduceAdd, Nat.reduceSub, Array.replicate_succ, Array.replicate_zero, List.push_toArray, List.append_toArray, List.nil_append, List.cons_append]
  refine wpIn_wide.2 (wp_mono (Q := calmR (bodyPostM Fence.wide 9 Try.prog Try.f46 fun e w' => e = .returned (.tuple #[]) ∧ Blk w' d 83 (ivs .i64 (tellF nx cd l (regsL m.ks 16))) ∧ Turned (fun k => k = d) w w')) ?_ (fun e a w h => calmR_out h))
  go_wp2_with fail
  rw [← hw1, ← hw2, ← hw3]
  clear hw1 hw2 hw3
  refine (Calls.mono HR.out) ?_
  rintro e x6 ⟨rfl, Bc, b6⟩
  obtain ⟨F1, F2, F3, b13, Fd, z3', hW⟩ := F0.out
  have bb6 := below_then b13 b6
  have hz6 := b6.size
  have hcl := Bc.lt
  have H6 : Hid _ := And.intro (F1.laterB b6) (And.intro (F2.laterB b6) (And.intro (F3.laterB b6) (And.intro (Fd.laterB b6) bb6)))
  have hsq := regs_stops 8 (by omega) w3.heap.size m.ks x6 hW.kl Bc
  have HZ : Hid (d < w.heap.size ∧ w3.heap.size = w.heap.size + 3 ∧ w3.heap.size < x6.heap.size) := ⟨hdl, z3, hcl⟩
  clear HR F1 F2 F3 Fd b13 b6 F0 z1 z2 bb6 hW hdl z3 z3' hcl hz6 Bc
  generalize w3.heap.size = c3 at *
  go_wp2_with fail
  refine (wpIn_wide (n := 9)).1 ?_
  refine wpIn_rangeFunc_ownG rfl (by omega) (gf := 32) (lb := #[.pointer (some ⟨c3, 0, none⟩)]) rfl trivial (enters_of Try.func32 (by kernel_rfl) rfl) hsq (fun h k => h.t k) (fun W l o o' hl h _ _ k hk => World.putObj_heap_other (by simp only [List.mem_singleton] at hk; have := HZ.out; omega)) (Below.refl _ _) (fun _ => rfl) (fun pre W => RB (fun k => k = d) x6 [(d, 83, ivs .i64 (tellF nx cd l (pre.map (·.1))))] W) (fun _ _ _ => False)
    rb_own (fun _ _ _ _ _ hs _ _ => hs) ⟨fun b hb => by simp only [List.mem_singleton] at hb; subst hb; exact H6.out.2.2.2.1, ⟨rfl, rfl, rfl, Nat.le_refl _, fun _ _ _ => rfl⟩⟩ (fun x => { tmps := #[.pointer (some ⟨g, 0, none⟩), .int .i64 nx, .int .i64 cd, .pointer (some ⟨d, 0, none⟩), undef, .pointer (some ⟨w.heap.size, 0, none⟩), .pointer (some ⟨w.heap.size + 1, 0, none⟩), .pointer (some ⟨w.heap.size + 1 + 1, 0, none⟩), .int .i64 (x.1.1 : Int), .pointer (some ⟨g, 0, none⟩), .func (.func 32) #[] #[.pointer (some ⟨c3, 0, none⟩)], .int .i64 (x.1.1 : Int), .int .u64 x.1.2, undef, undef, undef, undef, undef, undef, undef, undef], defers := [] }) ?assign ?body ?done ?stop
  case assign =>
    intro l x W K hK
    simp only [encP]
    gi_wp2
    exact hK
  case body =>
    rintro l' pre x W ⟨hB, ht⟩ hlt
    obtain ⟨⟨xi, xk⟩, hxi⟩ := x
    have hxi' : xi < 16 := hxi
    have hBd : Blk W d 83 (ivs .i64 (tellF nx cd l (pre.map (·.1)))) := hB (d, 83, ivs .i64 (tellF nx cd l (pre.map (·.1)))) (by simp)
    have htl : (tellF nx cd l (pre.map (·.1))).length = 16 := by rw [tellF_len, hl]
    have hz := HZ.out
    have hsn := tellF_snoc nx cd l (pre.map (·.1)) (xi, xk)
    have hmp : ((pre ++ [(⟨(xi, xk), hxi⟩ : Rg)]).map (·.1)) = pre.map (·.1) ++ [(xi, xk)] := by rw [List.map_append]; rfl
    generalize tellF nx cd l (pre.map (·.1)) = L at *
    have b5 := blk_at (H6.out.1.turned ht (by show ¬ w.heap.size = d; omega)) 0
    have b6 := blk_at (H6.out.2.1.turned ht (by show ¬ w.heap.size + 1 = d; omega)) 0
    have b7 := blk_at (H6.out.2.2.1.turned ht (by show ¬ w.heap.size + 2 = d; omega)) 0
    simp only [List.getElem?_cons_zero] at b5 b6 b7
    refine wpIn_mono (Q := roundR (fun W' => KeepsFrom x6.heap.size W W' ∧ KeepL [c3] W W' ∧ RB (fun k => k = d) x6 [(d, 83, ivs .i64 (tellF nx cd l ((pre ++ [(⟨(xi, xk), hxi⟩ : Rg)]).map (·.1))))] W')) ?_ ?_
    rotate_left
    · rintro e a W' h
      cases e <;> first | exact h.elim | exact h
    rw [hmp]
    have hfin : ∀ W', Turned (fun k => k = d) W W' → Blk W' d 83 (ivs .i64 (tellF nx cd l (pre.map (·.1) ++ [(xi, xk)]))) → KeepsFrom x6.heap.size W W' ∧ KeepL [c3] W W' ∧ RB (fun k => k = d) x6 [(d, 83, ivs .i64 (tellF nx cd l (pre.map (·.1) ++ [(xi, xk)])))] W' := fun W' t b => by
      have hsz := ht.size
      exact ⟨keepsR t (fun k e => by have := H6.out.2.2.2.2.size; subst e; omega), keepR t (fun k hk => by simp only [List.mem_singleton] at hk; omega), fun b' hb' => by simp only [List.mem_singleton] at hb'; subst hb'; exact b, ht.trans (t.mono (fun k e => .inl e))⟩
    by_cases hxn : (xi : Int) = nx
    · rw [if_pos hxn] at hsn
      rw [hsn] at hfin ⊢
      have HF : Hid _ := hfin W ⟨rfl, rfl, rfl, Nat.le_refl _, fun _ _ _ => rfl⟩ hBd
      clear hfin hBd hB ht hsn hmp hsq hz
      gi_wp2
      exact HF.out
    · rw [if_neg hxn] at hsn
      rw [hsn] at hfin ⊢
      have HF : Hid _ := hfin
      have HC : Hid (∀ W', Turned (fun k => k = d) W W' → W'.cell? ⟨w.heap.size + 1 + 1, 0, none⟩ = some (.pointer (some ⟨d, 0, none⟩)) ∧ W'.cell? ⟨w.heap.size + 1, 0, none⟩ = some (.int .i64 cd)) := fun W' t => by
        have e7 := blk_at (H6.out.2.2.1.turned (ht.trans (t.mono (fun k e => .inl e))) (by show ¬ w.heap.size + 2 = d; omega)) 0
        have e6 := blk_at (H6.out.2.1.turned (ht.trans (t.mono (fun k e => .inl e))) (by show ¬ w.heap.size + 1 = d; omega)) 0
        simp only [List.getElem?_cons_zero] at e6 e7
        exact ⟨e7, e6⟩
      have hq : (xi : Int) < 16 := by omega
      clear hfin hB hsn hmp hsq hz b6 b7
      gi_wp2
      refine wpIn_region_held (S := fun W' => Turned (fun k => k = d) W W') (by kernel_rfl) (by kernel_rfl) (by rintro ⟨a, w, h⟩; exact h) (tndr (Below.refl _ _).drew) (fun hS => ?_)
      refine any_take (i := 0) (v := ?_) rfl (by kernel_rfl) (by kernel_rfl) (by kernel_rfl) (by exact fun _ _ _ h => h) (by rfl) ?_ hS ?_
      rotate_left
      · ((intro w hSw; obtain ⟨y7, y6⟩ := HC.out _ hSw; go_simp) <;> with_reducible rfl)
      (try simp only [Act.put, List.setIfInBounds_toArray, List.set_cons_zero, List.set_cons_succ])
      refine any_take (i := 1) (v := ?_) rfl (by kernel_rfl) (by kernel_rfl) (by kernel_rfl) (by exact fun _ _ _ h => h) (by rfl) ?_ hS ?_
      rotate_left
      · ((intro w hSw; obtain ⟨y7, y6⟩ := HC.out _ hSw; go_simp) <;> with_reducible rfl)
      (try simp only [Act.put, List.setIfInBounds_toArray, List.set_cons_zero, List.set_cons_succ])
      refine any_take (i := 2) (v := ?_) rfl (by kernel_rfl) (by kernel_rfl) (by kernel_rfl) (by exact fun _ _ _ h => h) (by rfl) ?_ hS ?_
      rotate_left
      · ((intro w hSw; obtain ⟨y7, y6⟩ := HC.out _ hSw; go_simp) <;> with_reducible rfl)
      (try simp only [Act.put, List.setIfInBounds_toArray, List.set_cons_zero, List.set_cons_succ])
      refine any_take (i := 3) (v := ?_) rfl (by kernel_rfl) (by kernel_rfl) (by kernel_rfl) (by exact fun _ _ _ h => h) (by rfl) ?_ hS ?_
      rotate_left
      · ((intro w hSw; obtain ⟨y7, y6⟩ := HC.out _ hSw; go_simp) <;> with_reducible rfl)
      (try simp only [Act.put, List.setIfInBounds_toArray, List.set_cons_zero, List.set_cons_succ])
      refine any_take (i := 4) (v := ?_) rfl (by kernel_rfl) (by kernel_rfl) (by kernel_rfl) (by exact fun _ _ _ h => h) (by rfl) ?_ hS ?_
      rotate_left
      · ((intro w hSw; obtain ⟨y7, y6⟩ := HC.out _ hSw; go_simp) <;> with_reducible rfl)
      (try simp only [Act.put, List.setIfInBounds_toArray, List.set_cons_zero, List.set_cons_succ])
      have B0 : Blk W.drew d 83 (ivs .i64 L) := hBd.laterB (Below.refl _ _).drew
      generalize W.drew = W0 at *
      have hc := blk_at B0 xi
      rw [ivs_at .i64 L xi (by omega)] at hc
      have hf := blk_frozen B0 xi
      refine any_on (i := 5) rfl (by kernel_rfl) (fun K hK => ?_)
      go_simp
      have B1 := B0.set xi (.int .i64 cd)
      rw [show (ivs .i64 L).set xi (.int .i64 cd) = ivs .i64 (L.set xi cd) by unfold ivs; rw [List.map_set]] at B1
      clear hc hf
      refine hK.out _ _ (hS.trans ((turned_set _ d xi _).mono (fun k e => .inl e))) (fun hS => ?_)
      clear hK K
      refine wpAnyH_done (by kernel_rfl) ?_ _
      exact HF.out _ hS B1
  case done =>
    rintro D ys W hD hys ⟨hB, ht⟩ hdf
    have hBd : Blk W d 83 (ivs .i64 (tellF nx cd l (ys.map (·.1)))) := hB (d, 83, ivs .i64 (tellF nx cd l (ys.map (·.1)))) (by simp)
    rw [hys] at hBd
    have hz := HZ.out
    have bb6 := H6.out.2.2.2.2
    have F : Hid _ := And.intro hBd (And.intro ht (And.intro hdf (And.intro hD (And.intro hz bb6))))
    clear hBd ht hdf hsq hB hD hz bb6
    go_wp2_with fail
    refine ⟨by simp, .inl ⟨_, _, rfl, run_takeDeferred F.out.2.2.1, ?_⟩⟩
    obtain ⟨hBd, ht, hdf, hD, hz, bb6⟩ := F.out
    have hs6 := bb6.size
    refine ⟨_, results_none rfl _ _ _, rfl, ?_, ?_⟩
    · unfold Blk at hBd ⊢
      rw [World.putObj_heap_other (by omega)]
      exact hBd
    · exact ((tndr bb6).trans (ht.mono (fun k e => .inl e))).trans ((turned_grown (grownBy_putObj' W D (.deferred none)) (R := fun k => k = D) (fun k e => by cases e; rfl)).mono (fun k e => .inr (by subst e; omega)))
  case stop =>
    rintro D c pre W _ _ h _
    exact h.elim
end Go.Proofs.Ytlopkfenbeahgaa

/- Keys that are taken away from others. -/
namespace Go.Proofs.Ytlopkfenbeahgaa
open Go.RowKit Go.Shelf
set_option linter.unusedVariables false
set_option linter.unusedSimpArgs false
set_option maxRecDepth 4000
attribute [local go_sem] Oper.semAt_some

/-- whether the key of a registrant is taken away -/
def tkB (nx key : Int) (r : Nat × Int) : Bool := decide ((r.1 : Int) ≠ nx ∧ (key = 0 ∨ r.2 = key))
def tkF (nx key : Int) (s : Rs × List Int) (rs : List (Nat × Int)) : Rs × List Int := rs.foldl (fun s r => if tkB nx key r = true then (away s.1 r.1, s.2.set r.1 5) else s) s
theorem tkF_snoc (nx key : Int) (s : Rs × List Int) (rs : List (Nat × Int)) (r : Nat × Int) : tkF nx key s (rs ++ [r]) = if tkB nx key r = true then (away (tkF nx key s rs).1 r.1, (tkF nx key s rs).2.set r.1 5) else tkF nx key s rs := by
  unfold tkF; rw [List.foldl_append]; rfl
theorem tkF_ok (nx key : Int) (s : Rs × List Int) (rs : List (Nat × Int)) (h : s.1.Wf) (hl : s.2.length = 16) : (tkF nx key s rs).1.Wf ∧ (tkF nx key s rs).2.length = 16 := by
  unfold tkF
  induction rs generalizing s with
  | nil => exact ⟨h, hl⟩
  | cons r rs ih =>
    rw [List.foldl_cons]
    split
    · exact ih _ (away_wf h _) (by simp [hl])
    · exact ih _ h hl
theorem box_two {w : World} {a b : Nat} {T U : TypeId} {xs ys : List Value} (h : Blk w a T xs) (k : Blk w b U ys) (hT : T ≠ U) : a ≠ b := by
  rintro rfl
  unfold Blk at h k
  rw [h] at k
  cases k
  exact hT rfl
set_option maxHeartbeats 4000000 in
theorem takeFrom_any (g : Nat) (m : Rs) (nx key : Int) (d : Nat) (l : List Int) (w : World) (h : (rv g m).Ok w) (hd : Blk w d 83 (ivs .i64 l)) (hl : l.length = 16) :
    Calls Try.prog 53 #[.pointer (some ⟨g, 0, none⟩), .int .i64 nx, .int .u64 key, .pointer (some ⟨d, 0, none⟩)] w fun e w' => e = .returned (.tuple #[]) ∧ Blk w' g 54 (rsC (tkF nx key (m, l) (regsL m.ks 16)).1) ∧ Blk w' d 83 (ivs .i64 (tkF nx key (m, l) (regsL m.ks 16)).2) ∧ Turned (fun k => k = g ∨ k = d) w w' := by
  have b0 : Below w.heap.size w (w.alloc (.cells #[.pointer (some ⟨g, 0, none⟩)] 23)) := (Below.refl _ _).alloc (Nat.le_refl _) _
  have B0 := Blk.new' w 23 [.pointer (some ⟨g, 0, none⟩)]
  obtain ⟨w0, hw0⟩ : ∃ w0, w0 = w.alloc (.cells #[.pointer (some ⟨g, 0, none⟩)] 23) := ⟨_, rfl⟩
  have b1 : Below w0.heap.size w0 (w0.alloc (.cells #[.int .i64 nx] 3)) := (Below.refl _ _).alloc (Nat.le_refl _) _
  have B1 := Blk.new' w0 3 [.int .i64 nx]
  obtain ⟨w1, hw1⟩ : ∃ w1, w1 = w0.alloc (.cells #[.int .i64 nx] 3) := ⟨_, rfl⟩
  have b2 : Below w1.heap.size w1 (w1.alloc (.cells #[.int .u64 key] 32)) := (Below.refl _ _).alloc (Nat.le_refl _) _
  have B2 := Blk.new' w1 32 [.int .u64 key]
  obtain ⟨w2, hw2⟩ : ∃ w2, w2 = w1.alloc (.cells #[.int .u64 key] 32) := ⟨_, rfl⟩
  have b3 : Below w2.heap.size w2 (w2.alloc (.cells #[.pointer (some ⟨d, 0, none⟩)] 85)) := (Below.refl _ _).alloc (Nat.le_refl _) _
  have B3 := Blk.new' w2 85 [.pointer (some ⟨d, 0, none⟩)]
  obtain ⟨w3, hw3⟩ : ∃ w3, w3 = w2.alloc (.cells #[.pointer (some ⟨d, 0, none⟩)] 85) := ⟨_, rfl⟩
  have z0 : w0.heap.size = w.heap.size + 1 := by rw [hw0]; simp
  have z1 : w1.heap.size = w.heap.size + 2 := by rw [hw1]; simp [z0]
  have z2 : w2.heap.size = w.heap.size + 3 := by rw [hw2]; simp [z1]
  rw [← hw0] at b0 B0
  rw [← hw1] at b1 B1
  rw [← hw2] at b2 B2
  rw [← hw3] at b3 B3
  rw [z0] at B1
  rw [z1] at B2
  rw [z2] at B3
  have b13 := below_then (below_then (below_then b0 b1) b2) b3
  have z3 : w3.heap.size = w.heap.size + 4 := by rw [hw3]; simp [z2]
  have HR : Hid _ := Regs_any g m w3 (h.later b13)
  have F0 : Hid _ := And.intro (((B0.laterB b1).laterB b2).laterB b3) (And.intro ((B1.laterB b2).laterB b3) (And.intro (B2.laterB b3) (And.intro B3 (And.intro b13 (And.intro (hd.laterB b13) (And.intro (h.later b13) z3))))))
  have hdl := hd.lt
  have hgl := h.holds.1.lt
  have hgd : g ≠ d := box_two h.holds.1 hd (by decide)
  clear b0 B0 b1 B1 b2 B2 b3 B3 b13 h hd
  have c4 : w3.cell? ⟨w.heap.size, 0, none⟩ = some (.pointer (some ⟨g, 0, none⟩)) := by have := blk_at F0.out.1 0; simpa using this
  refine (callsIn_wide (n := 9)).1 ?_
  refine callsIn_of_wp_marks Try.func53 rfl trivial ?_ rfl
  simp only [Try.ntmps53, List.size_toArray, List.length_cons, List.length_nil, Nat.reduceAdd, Nat.reduceSub, Array.replicate_succ, Array.replicate_zero, List.push_toArray, List.append_toArray, List.nil_append, List.cons_append]
  refine wpIn_wide.2 (wp_mono (Q := calmR (bodyPostM Fence.wide 9 Try.prog Try.f53 fun e w' => e = .returned (.tuple #[]) ∧ Blk w' g 54 (rsC (tkF nx key (m, l) (regsL m.ks 16)).1) ∧ Blk w' d 83 (ivs .i64 (tkF nx key (m, l) (regsL m.ks 16)).2) ∧ Turned (fun k => k = g ∨ k = d) w w')) ?_ (fun e a w h => calmR_out h))
  rw [hw3, hw2, hw1, hw0] at c4
  go_wp2_with fail
  rw [← hw0, ← hw1, ← hw2, ← hw3]
  clear hw0 hw1 hw2 hw3 c4
  refine (Calls.mono HR.out) ?_
  rintro e x6 ⟨rfl, Bc, b6⟩
  obtain ⟨E0, E1, E2, E3, b13, Fd, Fg, z3'⟩ := F0.out
  have bb6 := below_then b13 b6
  have hcl := Bc.lt
  have hW := Fg.holds.2
  have H6 : Hid _ := And.intro (E0.laterB b6) (And.intro (E1.laterB b6) (And.intro (E2.laterB b6) (And.intro (E3.laterB b6) (And.intro (Fd.laterB b6) (And.intro ((Fg.later b6).holds.1) bb6)))))
  have hsq := regs_stops 8 (by omega) w3.heap.size m.ks x6 hW.kl Bc
  have HZ : Hid (d < w.heap.size ∧ g < w.heap.size ∧ g ≠ d ∧ w3.heap.size = w.heap.size + 4 ∧ w3.heap.size < x6.heap.size) := ⟨hdl, hgl, hgd, z3, hcl⟩
  have HW : Hid _ := And.intro hW hl
  clear HR E0 E1 E2 E3 Fd Fg b13 b6 F0 z0 z1 z2 bb6 hW hdl z3 z3' hcl Bc hgl hgd hl
  generalize w3.heap.size = c3 at *
  go_wp2_with fail
  refine (wpIn_wide (n := 9)).1 ?_
  refine wpIn_rangeFunc_ownG rfl (by omega) (gf := 32) (lb := #[.pointer (some ⟨c3, 0, none⟩)]) rfl trivial (enters_of Try.func32 (by kernel_rfl) rfl) hsq (fun h k => h.t k) (fun W l o o' hl h _ _ k hk => World.putObj_heap_other (by simp only [List.mem_singleton] at hk; have := HZ.out; omega)) (Below.refl _ _) (fun _ => rfl) (fun pre W => RB (fun k => k = g ∨ k = d) x6 [(g, 54, rsC (tkF nx key (m, l) (pre.map (·.1))).1), (d, 83, ivs .i64 (tkF nx key (m, l) (pre.map (·.1))).2)] W) (fun _ _ _ => False)
    rb_own (fun _ _ _ _ _ hs _ _ => hs) ⟨fun b hb => by simp only [List.mem_cons, List.not_mem_nil, or_false] at hb; rcases hb with rfl | rfl; exact H6.out.2.2.2.2.2.1; exact H6.out.2.2.2.2.1, ⟨rfl, rfl, rfl, Nat.le_refl _, fun _ _ _ => rfl⟩⟩ (fun x => { tmps := #[.pointer (some ⟨g, 0, none⟩), .int .i64 nx, .int .u64 key, .pointer (some ⟨d, 0, none⟩), .pointer (some ⟨w.heap.size, 0, none⟩), .pointer (some ⟨w.heap.size + 1, 0, none⟩), .pointer (some ⟨w.heap.size + 1 + 1, 0, none⟩), .pointer (some ⟨w.heap.size + 1 + 1 + 1, 0, none⟩), .int .i64 (x.1.1 : Int), .int .u64 x.1.2, .pointer (some ⟨g, 0, none⟩), .func (.func 32) #[] #[.pointer (some ⟨c3, 0, none⟩)], .int .i64 (x.1.1 : Int), .int .u64 x.1.2, undef, undef, undef, undef, undef, undef, undef, undef, undef, undef, undef, undef, undef, undef, undef, undef, undef, undef, undef], defers := [] }) ?assign ?body ?done ?stop
  case assign =>
    intro l x W K hK
    simp only [encP]
    gi_wp2
    exact hK
  case body =>
    rintro l' pre x W ⟨hB, ht⟩ hlt
    obtain ⟨⟨xi, xk⟩, hxi⟩ := x
    have hxi' : xi < 16 := hxi
    have hBg : Blk W g 54 (rsC (tkF nx key (m, l) (pre.map (·.1))).1) := hB (g, 54, rsC (tkF nx key (m, l) (pre.map (·.1))).1) (by simp)
    have hBd : Blk W d 83 (ivs .i64 (tkF nx key (m, l) (pre.map (·.1))).2) := hB (d, 83, ivs .i64 (tkF nx key (m, l) (pre.map (·.1))).2) (by simp)
    obtain ⟨hW', hL⟩ := tkF_ok nx key (m, l) (pre.map (·.1)) HW.out.1 HW.out.2
    have hz := HZ.out
    have hsn := tkF_snoc nx key (m, l) (pre.map (·.1)) (xi, xk)
    have hmp : ((pre ++ [(⟨(xi, xk), hxi⟩ : Rg)]).map (·.1)) = pre.map (·.1) ++ [(xi, xk)] := by rw [List.map_append]; rfl
    generalize tkF nx key (m, l) (pre.map (·.1)) = P at *
    have e4 := blk_at (H6.out.1.turned ht (by show ¬ (w.heap.size = g ∨ w.heap.size = d); omega)) 0
    have e5 := blk_at (H6.out.2.1.turned ht (by show ¬ (w.heap.size + 1 = g ∨ w.heap.size + 1 = d); omega)) 0
    have e6 := blk_at (H6.out.2.2.1.turned ht (by show ¬ (w.heap.size + 2 = g ∨ w.heap.size + 2 = d); omega)) 0
    simp only [List.getElem?_cons_zero] at e4 e5 e6
    have E7 : Hid (∀ W', Turned (fun k => k = g ∨ k = d) W W' → W'.cell? ⟨w.heap.size + 1 + 1 + 1, 0, none⟩ = some (.pointer (some ⟨d, 0, none⟩))) := fun W' t => by
      have := blk_at (H6.out.2.2.2.1.turned (ht.trans (t.mono (fun k e => .inl e))) (by show ¬ (w.heap.size + 3 = g ∨ w.heap.size + 3 = d); omega)) 0
      simpa using this
    refine wpIn_mono (Q := roundR (fun W' => KeepsFrom x6.heap.size W W' ∧ KeepL [c3] W W' ∧ RB (fun k => k = g ∨ k = d) x6 [(g, 54, rsC (tkF nx key (m, l) ((pre ++ [(⟨(xi, xk), hxi⟩ : Rg)]).map (·.1))).1), (d, 83, ivs .i64 (tkF nx key (m, l) ((pre ++ [(⟨(xi, xk), hxi⟩ : Rg)]).map (·.1))).2)] W')) ?_ ?_
    rotate_left
    · rintro e a W' h
      cases e <;> first | exact h.elim | exact h
    rw [hmp]
    have hfin : ∀ W', Turned (fun k => k = g ∨ k = d) W W' → Blk W' g 54 (rsC (tkF nx key (m, l) (pre.map (·.1) ++ [(xi, xk)])).1) → Blk W' d 83 (ivs .i64 (tkF nx key (m, l) (pre.map (·.1) ++ [(xi, xk)])).2) → KeepsFrom x6.heap.size W W' ∧ KeepL [c3] W W' ∧ RB (fun k => k = g ∨ k = d) x6 [(g, 54, rsC (tkF nx key (m, l) (pre.map (·.1) ++ [(xi, xk)])).1), (d, 83, ivs .i64 (tkF nx key (m, l) (pre.map (·.1) ++ [(xi, xk)])).2)] W' := fun W' t b1 b2 => by
      have hsz := ht.size
      exact ⟨keepsR t (fun k e => by have := H6.out.2.2.2.2.2.2.size; omega), keepR t (fun k hk => by simp only [List.mem_singleton] at hk; omega), fun b' hb' => by
        simp only [List.mem_cons, List.not_mem_nil, or_false] at hb'
        rcases hb' with rfl | rfl
        · exact b1
        · exact b2, ht.trans (t.mono (fun k e => .inl e))⟩
    cases htk : tkB nx key (xi, xk) with
    | false =>
      rw [htk, if_neg (by decide)] at hsn
      rw [hsn] at hfin ⊢
      have HF : Hid _ := hfin W ⟨rfl, rfl, rfl, Nat.le_refl _, fun _ _ _ => rfl⟩ hBg hBd
      unfold tkB at htk
      have htk' := of_decide_eq_false htk
      clear hfin hBd hBg hB ht hsn hmp hsq hz E7 htk
      by_cases c1 : (xi : Int) = nx
      · gi_wp2
        exact HF.out
      · have c2 : ¬ key = 0 := fun e => htk' ⟨c1, .inl e⟩
        have c3' : ¬ xk = key := fun e => htk' ⟨c1, .inr e⟩
        have d2 : (key == 0) = false := by rw [beq_eq_false_iff_ne]; exact c2
        have d3 : (xk == key) = false := by rw [beq_eq_false_iff_ne]; exact c3'
        have d1 : ((xi : Int) != nx) = true := by rw [bne_iff_ne]; exact c1
        clear htk'
        gi_wp2
        exact HF.out
    | true =>
      rw [htk, if_pos rfl] at hsn
      rw [hsn] at hfin ⊢
      have HF : Hid _ := hfin
      unfold tkB at htk
      obtain ⟨c1, c2⟩ := of_decide_eq_true htk
      have HT : Hid _ := takeKey_any g P.1 xi W (rv_ok hBg hW') hxi'
      have HD : Hid _ := And.intro hBd (And.intro ht (And.intro hL hW'))
      have c1' : ¬ (xi : Int) = nx := c1
      have hq : (xi : Int) < 16 := by omega
      clear hfin hB hsn hmp hsq hz htk ht hBd hBg c1
      by_cases ck : key = 0
      · clear c2
        gi_wp2
        refine ⟨trivial, ?_⟩
        refine (CallsIn.inRound l' (callsIn_wide.2 HT.out)).mono ?_
        rintro e W1 ⟨rfl, st⟩
        have hz := HZ.out
        have t0 : Turned (fun k => k = g) W W1 := st.turned.mono (fun k e => by simpa [rv] using e)
        have t1 : Turned (fun k => k = g ∨ k = d) W W1 := t0.mono (fun k e => .inl e)
        have hBd1 := HD.out.1.turned t0 (fun e => hz.2.2.1 e.symm)
        have y7 := E7.out W1 t1
        have hc := blk_at hBd1 xi
        have hxl : xi < P.2.length := by have := HD.out.2.2.1; omega
        rw [ivs_at .i64 P.2 xi hxl] at hc
        generalize P.2[xi] = pv at hc
        have hf := blk_frozen hBd1 xi
        have B2 := hBd1.set xi (.int .i64 5)
        rw [show (ivs .i64 P.2).set xi (.int .i64 5) = ivs .i64 (P.2.set xi 5) by unfold ivs; rw [List.map_set]] at B2
        have HR : Hid _ := HF.out _ (t1.trans ((turned_set W1 d xi (.int .i64 5)).mono (fun k e => .inl (.inr e)))) (st.ok.holds.1.turned (turned_set W1 d xi _) hz.2.2.1) B2
        clear hz t0 t1 hBd1 B2 st HF HT HD E7 e4 e5 e6
        gi_wp2
        exact HR.out
      · have c3' : xk = key := c2.resolve_left ck
        clear c2
        gi_wp2
        refine ⟨trivial, ?_⟩
        refine (CallsIn.inRound l' (callsIn_wide.2 HT.out)).mono ?_
        rintro e W1 ⟨rfl, st⟩
        have hz := HZ.out
        have t0 : Turned (fun k => k = g) W W1 := st.turned.mono (fun k e => by simpa [rv] using e)
        have t1 : Turned (fun k => k = g ∨ k = d) W W1 := t0.mono (fun k e => .inl e)
        have hBd1 := HD.out.1.turned t0 (fun e => hz.2.2.1 e.symm)
        have y7 := E7.out W1 t1
        have hc := blk_at hBd1 xi
        have hxl : xi < P.2.length := by have := HD.out.2.2.1; omega
        rw [ivs_at .i64 P.2 xi hxl] at hc
        generalize P.2[xi] = pv at hc
        have hf := blk_frozen hBd1 xi
        have B2 := hBd1.set xi (.int .i64 5)
        rw [show (ivs .i64 P.2).set xi (.int .i64 5) = ivs .i64 (P.2.set xi 5) by unfold ivs; rw [List.map_set]] at B2
        have HR : Hid _ := HF.out _ (t1.trans ((turned_set W1 d xi (.int .i64 5)).mono (fun k e => .inl (.inr e)))) (st.ok.holds.1.turned (turned_set W1 d xi _) hz.2.2.1) B2
        clear hz t0 t1 hBd1 B2 st HF HT HD E7 e4 e5 e6
        gi_wp2
        exact HR.out
  case done =>
    rintro D ys W hD hys ⟨hB, ht⟩ hdf
    have hBg := hB (g, 54, rsC (tkF nx key (m, l) (ys.map (·.1))).1) (by simp)
    have hBd := hB (d, 83, ivs .i64 (tkF nx key (m, l) (ys.map (·.1))).2) (by simp)
    dsimp only at hBg hBd
    rw [hys] at hBd hBg
    have hz := HZ.out
    have bb6 := H6.out.2.2.2.2.2.2
    have F : Hid _ := And.intro hBd (And.intro ht (And.intro hdf (And.intro hD (And.intro hz (And.intro bb6 hBg)))))
    clear hBd ht hdf hsq hB hD hz bb6 hBg
    go_wp2_with fail
    refine ⟨by simp, .inl ⟨_, _, rfl, run_takeDeferred F.out.2.2.1, ?_⟩⟩
    obtain ⟨hBd, ht, hdf, hD, hz, bb6, hBg⟩ := F.out
    have hs6 := bb6.size
    refine ⟨_, results_none rfl _ _ _, rfl, ?_, ?_, ?_⟩
    · unfold Blk at hBg ⊢
      rw [World.putObj_heap_other (by omega)]
      exact hBg
    · unfold Blk at hBd ⊢
      rw [World.putObj_heap_other (by omega)]
      exact hBd
    · exact ((tndr bb6).trans (ht.mono (fun k e => .inl e))).trans ((turned_grown (grownBy_putObj' W D (.deferred none)) (R := fun k => k = D) (fun k e => by cases e; rfl)).mono (fun k e => .inr (by subst e; omega)))
  case stop =>
    rintro D c pre W _ _ h _
    exact h.elim
end Go.Proofs.Ytlopkfenbeahgaa

/- The notes of a command. -/
namespace Go.Proofs.Ytlopkfenbeahgaa
open Go.RowKit Go.Shelf
set_option linter.unusedVariables false
set_option linter.unusedSimpArgs false
set_option maxRecDepth 4000

theorem wpList_append_nt (LT E : TypeId) (hU : Try.prog.underlying LT = some (.slice E)) (hI : (Try.prog.info? E).map (fun i => (i.zero, i.size, i.bytes)) = some (some (.agg #[.int .i64 0, .int .i64 0]), 2, 16)) (w : World)
    {ops : Array Oper} {rest : List Oper} {o : Oper} {a : Act} {Q : Exit → Act → World → Prop} (hg : o.guard = none) (s x : Operand)
    (ho : o.op = .call { callee := .builtin .append, args := #[s, x], argTypes := #[LT, LT] }) (v : Value) (l : List (Int × Int)) (hs : a.eval s = v) (hown : PrOwn E w v l)
    (k : Nat) (u0 u1 : Int) (hx : a.eval x = .slice (some ⟨k, 0, none⟩) 1 1) (hB : Blk w k E [.int .i64 u0, .int .i64 u1]) (hmax : l.length ≤ 1000000)
    (next : ∀ (v' : Value) (w' : World), PrOwn E w' v' (l ++ [(u0, u1)]) → w.grownBy w' v.ownBlock → (v'.ownBlock = v.ownBlock ∨ v'.ownBlock = some w.heap.size) → wpList Try.prog ops Q rest (a.put o.dst v') w') : wpList Try.prog ops Q (o :: rest) a w := by
  obtain ⟨i0, hi, hz0, hz1, hz2⟩ := info_parts hI
  have c0 := blk_at hB 0
  have c1 := blk_at hB 1
  simp at c0 c1
  refine wpList_append_own_at (w := w) hg s x LT ho 0 E i0 (.agg #[.int .i64 0, .int .i64 0]) 2 16 hU hi hz0 hz1 hz2 rfl (by decide) v l.length (pcells l) hs hown ⟨k, 0, none⟩ 1 1 [.int .i64 u0, .int .i64 u1] hx rfl
    (fun j u hj => by
      match j, hj with
      | 0, hj => simp at hj; subst hj; simpa [Addr.add] using c0
      | 1, hj => simp at hj; subst hj; simpa [Addr.add] using c1)
    (fun u hu => by simp at hu; rcases hu with rfl | rfl <;> rfl) (by unfold maxLen; omega) (by omega) (Nat.zero_le _) ?_
  intro v' w' h2 h3 _ h5
  refine next v' w' ?_ h3 h5
  unfold PrOwn
  rw [List.length_append, pcells_append]
  exact h2
theorem und_nts : Try.prog.underlying 29 = some (.slice 40) := by kernel_rfl
theorem info_nt : (Try.prog.info? 40).map (fun i => (i.zero, i.size, i.bytes)) = some (some (.agg #[.int .i64 0, .int .i64 0]), 2, 16) := by kernel_rfl
/-- notes of the codes below k -/
def ntL (l : List Int) (k : Nat) : List (Int × Int) := ((List.range k).filter (fun i => l.getD i 0 != 0)).map (fun i : Nat => ((i : Int), l.getD i 0))
theorem ntL_succ (l : List Int) (k : Nat) : ntL l (k + 1) = ntL l k ++ (if l.getD k 0 = 0 then [] else [((k : Int), l.getD k 0)]) := by
  unfold ntL
  rw [List.range_succ, List.filter_append, List.map_append]
  congr 1
  by_cases h : l.getD k 0 = 0
  · rw [if_pos h]; simp only [List.filter_cons, List.filter_nil, h]; rfl
  · have : (l.getD k 0 != 0) = true := by rw [bne_iff_ne]; exact h
    rw [if_neg h]; simp only [List.filter_cons, List.filter_nil, this]; rfl
theorem ntL_len (l : List Int) (k : Nat) : (ntL l k).length ≤ k := by
  unfold ntL
  rw [List.length_map]
  have := List.length_filter_le (fun i => l.getD i 0 != 0) (List.range k)
  rw [List.length_range] at this
  exact this
abbrev NtOwn := PrOwn 40
structure NtI (w wr : World) (v : Value) (l : List (Int × Int)) : Prop where
  own : NtOwn wr v l
  new : ∀ b, v.ownBlock = some b → w.heap.size ≤ b
  below : Below w.heap.size w wr
theorem NtI.later {w wr w' : World} {v : Value} {l : List (Int × Int)} (h : NtI w wr v l) (hb : Below wr.heap.size wr w') : NtI w w' v l := ⟨h.own.later hb, h.new, below_then h.below hb⟩
theorem NtI.put {w wr w' : World} {v v' : Value} {l l' : List (Int × Int)} (h : NtI w wr v l) (ho : NtOwn w' v' l') (hg : wr.grownBy w' v.ownBlock) (hor : v'.ownBlock = v.ownBlock ∨ v'.ownBlock = some wr.heap.size) : NtI w w' v' l' :=
  ⟨ho, fun b hb => by
    rcases hor with e | e
    · exact h.new b (by rw [← e]; exact hb)
    · rw [e] at hb; cases hb; exact h.below.size, h.below.grown hg h.below.size (fun k e => h.new k e)⟩
theorem index_cd (l : List Int) (hl : l.length = 16) (j : Nat) (hj : j < l.length) (w : World) : (Instr.index 83 (av .i64 l) (.int .i64 j)).run Try.prog w = .ok (.int .i64 l[j]) w := by
  have hb : (0 : Int) ≤ (j : Int) ∧ (j : Int) < 16 := by omega
  have ha := ivs_at .i64 l j hj
  simp [Instr.index, av, run_underlying und_cd, asIntOf, hb, go_sem]
  rw [if_pos (by omega), ha]
  rfl
set_option maxHeartbeats 4000000 in
theorem notes_any (l : List Int) (hl : l.length = 16) (w : World) :
    Calls Try.prog 48 #[av .i64 l] w fun e w' => ∃ v, e = .returned v ∧ NtI w w' v (ntL l 16) := by
  have b1 : Below w.heap.size w (w.alloc (.cells (ivs .i64 l).toArray 83)) := (Below.refl _ _).alloc (Nat.le_refl _) _
  have B1 := Blk.new' w 83 (ivs .i64 l)
  have hld := load_arr (k := .i64) size_cd und_cd hl (w := w.alloc (.cells (ivs .i64 l).toArray 83)) (c := w.heap.size) (off := 0) (fun j hj => by rw [Nat.zero_add, blk_at B1 j]; exact ivs_at .i64 l j hj)
  have HB : Hid _ := And.intro b1 trivial
  clear b1 B1
  have hav : av .i64 l = .agg (ivs .i64 l).toArray := rfl
  rw [hav] at hld ⊢
  go_enter Try.func48, Try.ntmps48
  go_wp2_with (refine wpList_value rfl (exec_load rfl rfl hld) ?_)
  clear hld
  generalize w.alloc (.cells (ivs .i64 l).toArray 83) = w1 at *
  go_loopw [3, 7] (fun lv iv wr => ∃ k : Nat, k ≤ 16 ∧ iv = .int .i64 k ∧ NtI w wr lv (ntL l k)) (fun _ iv _ => 16 - (intOf iv).toNat)
  case atStart => exact ⟨0, by omega, rfl, PrOwn.nil _ _, (fun b hb => by cases hb), HB.out.1⟩
  case round =>
    obtain ⟨k, hk, rfl, hI⟩ := hrel
    obtain ⟨ta, tc, htv, -, -⟩ := hI.own.open
    by_cases hlt : k < 16
    · have hix := index_cd l hl k (by omega) wr
      rw [hav] at hix
      have hg : l[k]'(by omega) = l.getD k 0 := by rw [List.getD, List.getElem?_eq_getElem (by omega)]; rfl
      rw [hg] at hix
      have hs := ntL_succ l k
      have hln := ntL_len l k
      have q1 : (k : Int) < 16 := by omega
      clear hg
      generalize l.getD k 0 = x at *
      by_cases hx : x = 0
      · rw [if_pos hx, List.append_nil] at hs
        have R : Hid _ := And.intro hI hs
        subst hx
        clear hI hs hln
        rw [htv]
        go_wp2_with (refine wpList_value rfl (exec_index rfl rfl rfl hix) ?_)
        go_roundw
        case rel => exact ⟨k + 1, by omega, by go_num, by rw [R.out.2, ← htv]; exact R.out.1⟩
        case measure => simp [intOf]; omega
      · rw [if_neg hx] at hs
        have bn : Below wr.heap.size wr (wr.alloc (.cells #[.int .i64 k, .int .i64 x] 40)) := (Below.refl _ _).alloc (Nat.le_refl _) _
        have HN : Hid _ := And.intro (hI.later bn) (And.intro (Blk.new' wr 40 [.int .i64 k, .int .i64 x]) hs)
        have hul : (ntL l k).length ≤ 1000000 := by omega
        clear hI bn hs
        generalize ntL l k = Kt at *
        rw [htv]
        go_wp2_with (first | (refine wpList_value rfl (exec_index rfl rfl rfl hix) ?_) | (at_builtin; refine wpList_append_nt 29 40 und_nts info_nt _ rfl _ _ rfl _ Kt rfl (by rw [← htv]; exact HN.out.1.own) wr.heap.size k x rfl HN.out.2.1 hul ?_))
        intro v' w5 ho5 hg5 hor5
        have R := HN.out.1.put ho5 (by rw [htv]; exact hg5) (by rw [htv, World.size_alloc]; exact hor5)
        obtain ⟨a', c', hv', -, -⟩ := ho5.open
        have HR : Hid _ := And.intro R HN.out.2.2
        clear R ho5 hg5 hor5 HN hix
        rw [hv']
        go_wp2
        go_roundw
        case rel => exact ⟨k + 1, by omega, by go_num, by rw [HR.out.2, ← hv']; exact HR.out.1⟩
        case measure => simp [intOf]; omega
    · obtain rfl : k = 16 := by omega
      have F : Hid _ := And.intro hI trivial
      clear hI
      rw [htv]
      go_wp2
      go_ret
      exact ⟨_, rfl, by rw [← htv]; exact F.out.1⟩
end Go.Proofs.Ytlopkfenbeahgaa

/- Whether there is a registrant; whether a key is one of them. -/
namespace Go.Proofs.Ytlopkfenbeahgaa
open Go.RowKit Go.Shelf Go.ChangeMaps
set_option linter.unusedVariables false
set_option linter.unusedSimpArgs false
set_option maxRecDepth 4000

theorem plain_u64 : Try.prog.plainKey 32 = true := by kernel_rfl
theorem cells_u64 : Try.prog.cellsOf 32 = 1 := by kernel_rfl
theorem info_u64 : (Try.prog.info? 32).map (fun i => (i.zero, i.size, i.bytes)) = some (some (.int .u64 0), 1, 8) := by kernel_rfl
theorem eqItems_ks (a b : List Int) (w : World) : ∀ (L : List Nat), (∀ i ∈ L, i < a.length ∧ i < b.length) →
    (Op.eqItems 9999 32 1 (ivs .u64 a).toArray (ivs .u64 b).toArray L).run Try.prog w = .ok (L.all (fun i => a.getD i 0 == b.getD i 0)) w
  | [], _ => rfl
  | i :: L, h => by
    obtain ⟨h1, h2⟩ := h i (by simp)
    have g1 : a[i] = a.getD i 0 := by rw [List.getD, List.getElem?_eq_getElem h1]; rfl
    have g2 : b[i] = b.getD i 0 := by rw [List.getD, List.getElem?_eq_getElem h2]; rfl
    have p1 : (part 32 (ivs .u64 a).toArray (i * 1)).run Try.prog w = .ok (.int .u64 (a.getD i 0)) w := run_part_plain w plain_u64 (by rw [Nat.mul_one, ← g1]; simpa using ivs_at .u64 a i h1)
    have p2 : (part 32 (ivs .u64 b).toArray (i * 1)).run Try.prog w = .ok (.int .u64 (b.getD i 0)) w := run_part_plain w plain_u64 (by rw [Nat.mul_one, ← g2]; simpa using ivs_at .u64 b i h2)
    have he := run_equalIn_int (P := Try.prog) w 9998 32 .u64 .u64 (a.getD i 0) (b.getD i 0) Try.underlying32
    have ih := eqItems_ks a b w L (fun j hj => h j (List.mem_cons_of_mem _ hj))
    simp only [Op.eqItems, Sem.run_bind, p1, p2, he, Result.andThen_ok, List.all_cons]
    cases e : (a.getD i 0 == b.getD i 0)
    · simp
    · simp [ih]
/-- there is a registrant -/
def anyB (m : Rs) : Bool := !((List.range 16).all (fun i => m.ks.getD i 0 == z16.getD i 0))
theorem eq_ks (a : List Int) (ha : a.length = 16) (w : World) : Sem.run Try.prog (Op.equalIn 10000 52 (.agg (ivs .u64 a).toArray) (.agg (ivs .u64 z16).toArray)) w = .ok ((List.range 16).all (fun i => a.getD i 0 == z16.getD i 0)) w := by
  obtain ⟨i, hi, -, -, -⟩ := info_parts info_u64
  rw [run_equalIn_array w 9999 (e := 32) (n := 16) (i := i) _ _ und_ks hi, cells_u64, eqItems_ks a z16 w (List.range 16) (fun i hi => by have := List.mem_range.1 hi; rw [ha]; exact ⟨this, this⟩)]
theorem anyReg_any (g : Nat) (m : Rs) (w : World) (h : (rv g m).Ok w) : Calls Try.prog 56 #[.pointer (some ⟨g, 0, none⟩)] w fun e w' => e = .returned (.bool (anyB m)) ∧ w = w' := by
  obtain ⟨hB, hW⟩ := h.holds
  have hld := load_arr size_ks und_ks hW.kl (ks_cells hW hB)
  have heq := eq_ks m.ks hW.kl w
  have H : Hid (anyB m = !((List.range 16).all (fun i => m.ks.getD i 0 == z16.getD i 0))) := rfl
  generalize ((List.range 16).all (fun i => m.ks.getD i 0 == z16.getD i 0)) = b at *
  simp only [ivs, z16, List.map_cons, List.map_nil] at heq
  have hav : av .u64 m.ks = .agg (List.map (Value.int .u64) m.ks).toArray := rfl
  rw [hav] at hld
  clear h hB hW
  go_enter Try.func56, Try.ntmps56
  go_wp2_with (refine wpList_value rfl (exec_load rfl rfl hld) ?_)
  go_ret
  exact ⟨by rw [H.out]; rfl, rfl⟩
/-- a key is one of them, from k on -/
def inB (ks : List Int) (x : Int) : Bool := ks.any (fun y => x == y)
set_option maxHeartbeats 2000000 in
theorem indexU_any (g off : Nat) (ks : List Int) (cap : Nat) (x : Int) (w : World) (hl : ks.length ≤ 1000) (hc : ∀ j (h : j < ks.length), w.cell? ⟨g, off + j, none⟩ = some (.int .u64 ks[j])) :
    Calls Try.prog 55 #[.slice (some ⟨g, off, none⟩) ks.length cap, .int .u64 x] w fun e w' => ∃ r : Int, e = .returned (.int .i64 r) ∧ (decide (r ≥ 0) = inB ks x) ∧ w = w' := by
  have HC : Hid _ := hc
  clear hc
  go_enter Try.func55, Try.ntmps55
  go_wp2_with fail
  go_loopw [8] (fun iv wr => ∃ k : Nat, k ≤ ks.length ∧ iv = .int .i64 k ∧ inB (ks.take k) x = false ∧ wr = w) (fun iv _ => ks.length - (intOf iv).toNat)
  case atStart => exact ⟨0, by omega, rfl, rfl, rfl⟩
  case round =>
    obtain ⟨k, hk, rfl, hin, hwr⟩ := hrel
    obtain rfl := hwr.symm
    by_cases hlt : k < ks.length
    · have c := HC.out k hlt
      have q : (k : Int) < (ks.length : Int) := by omega
      have ht : ks.take (k + 1) = ks.take k ++ [ks[k]] := List.take_succ_eq_append_getElem hlt
      have hmem : x = ks[k] → inB ks x = true := fun e => by
        unfold inB; rw [List.any_eq_true]; exact ⟨ks[k], List.getElem_mem hlt, by rw [e]; exact beq_self_eq_true _⟩
      have hst : ¬ x = ks[k] → inB (ks.take (k + 1)) x = false := fun e => by
        rw [ht]; unfold inB at *; rw [List.any_append, hin]; simp [e]
      generalize ks[k] = y at *
      by_cases hxy : x = y
      · have R : Hid _ := hmem hxy
        subst hxy
        clear hmem hst hin ht
        go_wp2
        go_ret
        exact ⟨(k : Int), rfl, by rw [R.out]; exact decide_eq_true (by omega), rfl⟩
      · have R : Hid _ := hst hxy
        clear hmem hst hin ht
        go_wp2
        go_roundw
        case rel => exact ⟨k + 1, by omega, by go_num, R.out, by trivial⟩
        case measure => simp [intOf]; omega
    · obtain rfl : k = ks.length := by omega
      rw [List.take_length] at hin
      have R : Hid _ := hin
      clear hin
      go_wp2
      go_ret
      exact ⟨-1, rfl, by rw [R.out]; rfl, rfl⟩
theorem containsU_any (g off : Nat) (ks : List Int) (cap : Nat) (x : Int) (w : World) (hl : ks.length ≤ 1000) (hc : ∀ j (h : j < ks.length), w.cell? ⟨g, off + j, none⟩ = some (.int .u64 ks[j])) :
    Calls Try.prog 52 #[.slice (some ⟨g, off, none⟩) ks.length cap, .int .u64 x] w fun e w' => e = .returned (.bool (inB ks x)) ∧ w = w' := by
  have HI : Hid _ := indexU_any g off ks cap x w hl hc
  clear hc
  go_enter Try.func52, Try.ntmps52
  go_wp2_with fail
  refine (Calls.mono HI.out) ?_
  rintro e _ ⟨r, rfl, hr, rfl⟩
  have R : Hid _ := hr
  clear HI hr
  go_wp2
  go_ret
  exact ⟨by rw [← R.out]; rfl, rfl⟩
end Go.Proofs.Ytlopkfenbeahgaa

/- A nexus that leaves. -/
namespace Go.Proofs.Ytlopkfenbeahgaa
open Go.RowKit Go.Shelf
set_option linter.unusedVariables false
set_option linter.unusedSimpArgs false
set_option maxRecDepth 4000

/-- a state on its way: all else that was there lies as it lay -/
structure RT (w W : World) (g : Nat) (m : Rs) : Prop where
  ok : (rv g m).Ok W
  tn : Turned (fun k => k = g) w W
theorem RT.start {w : World} {g : Nat} {m : Rs} (h : (rv g m).Ok w) : RT w w g m := ⟨h, ⟨rfl, rfl, rfl, Nat.le_refl _, fun _ _ _ => rfl⟩⟩
theorem RT.later {w W W' : World} {g : Nat} {m : Rs} (h : RT w W g m) (hb : Below W.heap.size W W') : RT w W' g m := ⟨h.ok.later hb, h.tn.trans (tndr hb)⟩
theorem RT.step {w W W' : World} {g : Nat} {m m' : Rs} (h : RT w W g m) (s : Step W W' (rv g m) (rv g m')) : RT w W' g m' := ⟨s.ok, h.tn.trans (s.turned.mono (fun k e => .inl (by simpa [rv] using e)))⟩
theorem RT.gen {w W : World} {g : Nat} {m : Rs} (h : RT w W g m) (x : Int) (hx : x = (m.gen + 1) % 4294967296) : RT w (W.setCell ⟨g, 0, none⟩ (.int .u32 x)) g (bump m) := by
  have B := h.ok.holds.1.set 0 (.int .u32 x)
  subst hx
  exact ⟨rv_ok B (bump_wf h.ok.holds.2), h.tn.trans ((turned_set W g 0 _).mono (fun k e => .inl e))⟩
theorem RT.codes {w W W' : World} {g d : Nat} {m : Rs} (h : RT w W g m) (t : Turned (fun k => k = d) W W') (hd : w.heap.size ≤ d) (hg : g < w.heap.size) : RT w W' g m := by
  refine ⟨?_, h.tn.trans (t.mono (fun k e => .inr (by subst e; exact hd)))⟩
  exact rv_ok (h.ok.holds.1.turned t (by show ¬ g = d; omega)) h.ok.holds.2
theorem RT.fin {w W : World} {g : Nat} {m m' : Rs} (h : RT w W g m') : Step w W (rv g m) (rv g m') := rv_step h.tn h.ok.holds.1 h.ok.holds.2
/-- notes that a call has made -/
structure Nts (w W : World) (v : Value) (l : List (Int × Int)) : Prop where
  own : NtOwn W v l
  new : ∀ b, v.ownBlock = some b → w.heap.size ≤ b
theorem Nts.nil (w W : World) : Nts w W (.slice none 0 0) [] := ⟨PrOwn.nil _ _, fun b hb => by cases hb⟩
theorem Nts.later {w W W' : World} {v : Value} {l : List (Int × Int)} (h : Nts w W v l) (hb : Below W.heap.size W W') : Nts w W' v l := ⟨h.own.later hb, h.new⟩
def lvN (m : Rs) (i : Nat) : List Int := if m.k = 5 ∨ m.k = 6 then tellF (i : Int) 4 z16 (regsL (away m i).ks 16) else z16
/-- a nexus that leaves: the state, the notes -/
def leaveM (m : Rs) (i : Nat) : Rs × List (Int × Int) :=
  if rg m i = true then (if (hoB m i && !eaB m.k || !anyB (bump (away m i))) = true then (hold (bump (away m i)) 0 0, ntL (lvN m i) 16) else (bump (away m i), [])) else (m, [])
theorem ntL_z : ntL z16 16 = [] := by decide
set_option maxHeartbeats 8000000 in
theorem leave_any (g : Nat) (m : Rs) (i : Nat) (w : World) (h : (rv g m).Ok w) (hi : i < 16) :
    Calls Try.prog 54 #[.pointer (some ⟨g, 0, none⟩), .int .i64 i] w fun e w' => ∃ v, e = .returned v ∧ Nts w w' v (leaveM m i).2 ∧ RT w w' g (leaveM m i).1 := by
  have HR : Hid _ := isReg_any g m i w h hi
  have HH : Hid _ := holds_any g m i w h hi
  have HE : Hid _ := isEach_any m.k w
  have HT : Hid _ := takeKey_any g m i w h hi
  have H0 : Hid _ := And.intro h hi
  have y2 := blk_at h.holds.1 2
  simp only [rsC, List.getElem?_cons_zero, List.getElem?_cons_succ] at y2
  clear h
  cases hr : rg m i with
  | false =>
    have HM : Hid (leaveM m i = (m, [])) := by unfold leaveM; rw [hr]; rfl
    rw [hr] at HR
    clear hr
    go_enter Try.func54, Try.ntmps54
    go_wp2_with fail
    refine (Calls.mono HR.out) ?_
    rintro e _ ⟨rfl, rfl⟩
    go_wp2
    go_ret
    exact ⟨_, rfl, by rw [HM.out]; exact Nts.nil _ _, by rw [HM.out]; exact RT.start H0.out.1⟩
  | true =>
    have HM : Hid (leaveM m i = if (hoB m i && !eaB m.k || !anyB (bump (away m i))) = true then (hold (bump (away m i)) 0 0, ntL (lvN m i) 16) else (bump (away m i), [])) := by unfold leaveM; rw [hr]; rfl
    rw [hr] at HR
    clear hr
    go_enter Try.func54, Try.ntmps54
    go_wp2_with fail
    refine (Calls.mono HR.out) ?_
    rintro e _ ⟨rfl, rfl⟩
    clear HR
    go_upto_region 3 with fail
    go_cut [5] from 11 to 56 (fun hv wx => hv = .bool (hoB m i && !eaB m.k) ∧ wx = w)
    case first =>
      cases hb : hoB m i with
      | false =>
        rw [hb] at HH
        go_wp2_with fail
        refine (Calls.mono HH.out) ?_
        rintro e _ ⟨rfl, rfl⟩
        go_wp2
        go_meet
        exact ⟨by rw [hb]; rfl, rfl⟩
      | true =>
        rw [hb] at HH
        go_wp2_with fail
        refine (Calls.mono HH.out) ?_
        rintro e _ ⟨rfl, rfl⟩
        go_wp2_with fail
        refine (Calls.mono HE.out) ?_
        rintro e _ ⟨rfl, rfl⟩
        go_wp2
        go_meet
        exact ⟨by rw [hb]; rfl, rfl⟩
    case rest =>
    obtain ⟨rfl, hwc⟩ := hcut
    obtain rfl := hwc.symm
    clear hwc HH HE y2
    generalize hheld : (hoB m i && !eaB m.k) = held at *
    have Hheld : Hid _ := hheld
    clear hheld
    go_wp2_with fail
    refine (Calls.mono HT.out) ?_
    rintro e w1 ⟨rfl, st⟩
    have r1 := (RT.start H0.out.1).step st
    have hgl := H0.out.1.holds.1.lt
    have y0 := blk_at r1.ok.holds.1 0
    have f0 := blk_frozen r1.ok.holds.1 0
    simp only [rsC, List.getElem?_cons_zero, List.getElem?_cons_succ] at y0
    have hgg := r1.ok.holds.2.gg
    have r2 := r1.gen (((away m i).gen + 1) % 4294967296) rfl
    have H2 : Hid _ := And.intro r2 (And.intro hgl H0.out.2)
    have hz1 : (w1.setCell ⟨g, 0, none⟩ (.int .u32 (((away m i).gen + 1) % 4294967296))).heap.size = w1.heap.size := by simp [World.setCell]
    have b3 := (Below.refl (w1.setCell ⟨g, 0, none⟩ (.int .u32 (((away m i).gen + 1) % 4294967296))).heap.size (w1.setCell ⟨g, 0, none⟩ (.int .u32 (((away m i).gen + 1) % 4294967296)))).alloc (Nat.le_refl _) (.cells (ivs .i64 z16).toArray 83)
    have Bd := Blk.new' (w1.setCell ⟨g, 0, none⟩ (.int .u32 (((away m i).gen + 1) % 4294967296))) 83 (ivs .i64 z16)
    rw [hz1] at Bd
    have r3 := r2.later b3
    have hd : w.heap.size ≤ w1.heap.size := (show Turned (fun k => k = g) w w1 from r1.tn).size
    have H3 : Hid _ := And.intro r3 (And.intro Bd (And.intro hd (And.intro hgl H0.out.2)))
    clear HT st r1 r2 H0 hz1 b3 Bd r3 H2
    simp only [ivs, z16, List.map_cons, List.map_nil] at H3
    have hk2 : (away m i).k = m.k := rfl
    generalize (away m i).gen = gn at *
    go_upto_region 7 with fail
    clear y0 f0
    generalize (w1.setCell ⟨g, 0, none⟩ (.int .u32 ((gn + 1) % 4294967296))).alloc (.cells #[.int .i64 0, .int .i64 0, .int .i64 0, .int .i64 0, .int .i64 0, .int .i64 0, .int .i64 0, .int .i64 0, .int .i64 0, .int .i64 0, .int .i64 0, .int .i64 0, .int .i64 0, .int .i64 0, .int .i64 0, .int .i64 0] 83) = w3 at *
    have hd3 : Hid _ := H3.out.2.2.1
    generalize w1.heap.size = d at *
    have hk3 : (bump (away m i)).k = m.k := rfl
    have HA : Hid _ := anyReg_any g (bump (away m i)) w3 H3.out.1.ok
    go_cut [37] from 32 to 56 (fun cv wx => cv = .bool (held || !anyB (bump (away m i))) ∧ wx = w3)
    case first =>
      cases held with
      | true =>
        go_wp2
        go_meet
        exact ⟨rfl, rfl⟩
      | false =>
        go_wp2_with fail
        refine (Calls.mono HA.out) ?_
        rintro e _ ⟨rfl, rfl⟩
        go_wp2
        go_meet
        exact ⟨rfl, rfl⟩
    case rest =>
    obtain ⟨rfl, hwc⟩ := hcut
    obtain rfl := hwc.symm
    clear hwc HA
    generalize hc : (held || !anyB (bump (away m i))) = cnd at *
    have hlz : ∀ l : List Int, l = tellF (i : Int) 4 z16 (regsL (away m i).ks 16) → l.length = 16 := fun l e => by rw [e, tellF_len]; rfl
    go_upto_if 37 with fail
    go_cut [6] from 38 to 56 (fun pv wx => pv = .pointer (some ⟨d, 0, none⟩) ∧ RT w wx g (if cnd = true then hold (bump (away m i)) 0 0 else bump (away m i)) ∧ Blk wx d 83 (ivs .i64 (if cnd = true then lvN m i else z16)))
    case first =>
      cases cnd with
      | false =>
        go_wp2
        go_meet
        exact ⟨rfl, H3.out.1, H3.out.2.1⟩
      | true =>
        have y2 := blk_at H3.out.1.ok.holds.1 2
        simp only [rsC, List.getElem?_cons_zero, List.getElem?_cons_succ] at y2
        rw [hk3] at y2
        have HO : Hid _ := tellOthers_any g (bump (away m i)) (i : Int) 4 d z16 w3 H3.out.1.ok H3.out.2.1 rfl
        have HD0 : Hid _ := end_any g (bump (away m i)) w3 H3.out.1.ok
        by_cases h5 : m.k = 5
        · have HL0 : lvN m i = tellF (i : Int) 4 z16 (regsL (bump (away m i)).ks 16) := by unfold lvN; rw [if_pos (by omega)]; rfl
          have HL : Hid _ := HL0
          clear HL0
          rw [h5] at y2
          clear HD0
          go_wp2_with fail
          refine (Calls.mono HO.out) ?_
          rintro e w4 ⟨rfl, Bd4, t4⟩
          have r4 := H3.out.1.codes t4 hd3.out H3.out.2.2.2.1
          have HEn : Hid _ := end_any g (bump (away m i)) w4 r4.ok
          have H4 : Hid _ := And.intro r4 Bd4
          clear HO t4 r4 Bd4 y2
          go_wp2_with fail
          refine (Calls.mono HEn.out) ?_
          rintro e w5 ⟨rfl, st⟩
          have r5 := H4.out.1.step st
          have Bd5 := H4.out.2.turned st.turned (by have := hd3.out; have := H3.out.2.2.2.1; simp [rv]; omega)
          rw [← HL.out] at Bd5
          have H5 : Hid _ := And.intro r5 Bd5
          clear HEn H4 st r5 Bd5 H3
          go_wp2
          go_meet
          exact ⟨rfl, H5.out.1, H5.out.2⟩
        · by_cases h6 : m.k = 6
          · have HL0 : lvN m i = tellF (i : Int) 4 z16 (regsL (bump (away m i)).ks 16) := by unfold lvN; rw [if_pos (by omega)]; rfl
            have HL : Hid _ := HL0
            clear HL0
            rw [h6] at y2
            clear HD0
            go_wp2_with fail
            refine (Calls.mono HO.out) ?_
            rintro e w4 ⟨rfl, Bd4, t4⟩
            have r4 := H3.out.1.codes t4 hd3.out H3.out.2.2.2.1
            have HEn : Hid _ := end_any g (bump (away m i)) w4 r4.ok
            have H4 : Hid _ := And.intro r4 Bd4
            clear HO t4 r4 Bd4 y2
            go_wp2_with fail
            refine (Calls.mono HEn.out) ?_
            rintro e w5 ⟨rfl, st⟩
            have r5 := H4.out.1.step st
            have Bd5 := H4.out.2.turned st.turned (by have := hd3.out; have := H3.out.2.2.2.1; simp [rv]; omega)
            rw [← HL.out] at Bd5
            have H5 : Hid _ := And.intro r5 Bd5
            clear HEn H4 st r5 Bd5 H3
            go_wp2
            go_meet
            exact ⟨rfl, H5.out.1, H5.out.2⟩
          · have HL0 : lvN m i = z16 := by unfold lvN; rw [if_neg (by omega)]
            have HL : Hid _ := HL0
            have d5 : (m.k == 5) = false := by rw [beq_eq_false_iff_ne]; exact h5
            have d6 : (m.k == 6) = false := by rw [beq_eq_false_iff_ne]; exact h6
            clear HL0 HO
            go_wp2_with fail
            refine (Calls.mono HD0.out) ?_
            rintro e w5 ⟨rfl, st⟩
            have r5 := H3.out.1.step st
            have Bd5 := H3.out.2.1.turned st.turned (by have := hd3.out; have := H3.out.2.2.2.1; simp [rv]; omega)
            have H5 : Hid _ := And.intro r5 Bd5
            clear HD0 st r5 Bd5 H3 y2
            go_wp2
            go_meet
            exact ⟨rfl, H5.out.1, by rw [if_pos trivial, HL.out]; exact H5.out.2⟩
    case rest =>
    obtain ⟨rfl, r5, Bd5⟩ := hcut
    have hll : (if cnd = true then lvN m i else z16).length = 16 := by
      split
      · unfold lvN; split
        · rw [tellF_len]; rfl
        · rfl
      · rfl
    have hld := load_arr (k := .i64) size_cd und_cd hll (w := wc) (c := d) (off := 0) (fun j hj => by rw [Nat.zero_add, blk_at Bd5 j]; exact ivs_at .i64 _ j hj)
    have HN : Hid _ := notes_any _ hll wc
    have H5 : Hid _ := And.intro r5 (And.intro H3.out.2.2.2.1 hd3.out)
    have HM2 : Hid (leaveM m i = ((if cnd = true then hold (bump (away m i)) 0 0 else bump (away m i)), ntL (if cnd = true then lvN m i else z16) 16)) := by
      rw [HM.out]; cases cnd
      · show (bump (away m i), []) = (_, ntL z16 16); rw [ntL_z]; rfl
      · rfl
    clear r5 Bd5 H3 hd3 HM hll
    generalize (if cnd = true then lvN m i else z16) = ll at *
    have hav : av .i64 ll = .agg (ivs .i64 ll).toArray := rfl
    rw [hav] at hld HN
    go_wp2_with (refine wpList_value rfl (exec_load rfl rfl hld) ?_)
    refine (Calls.mono HN.out) ?_
    rintro e w6 ⟨v, rfl, hN⟩
    obtain ⟨va, vc, hv, -, -⟩ := hN.own.open
    have F : Hid _ := And.intro (H5.out.1.later hN.below) (Nts.mk (w := w) hN.own (fun b hb => Nat.le_trans (show Turned (fun k => k = g) w wc from H5.out.1.tn).size (hN.new b hb)))
    clear HN hN H5 hld
    rw [hv]
    go_wp2
    go_ret
    exact ⟨_, rfl, by rw [HM2.out, ← hv]; exact F.out.2, by rw [HM2.out]; exact F.out.1⟩
end Go.Proofs.Ytlopkfenbeahgaa

/- What registering does. -/
namespace Go.Proofs.Ytlopkfenbeahgaa
open Go.RowKit Go.Shelf
set_option linter.unusedVariables false
set_option linter.unusedSimpArgs false
set_option maxRecDepth 4000

/-- a command -/
structure Cm where
  a : Int
  key : Int
  nw : Int
  t : Int
def rp5 (W : World) (r : Nat) (a b c d : Int) : World := ((((W.setCell ⟨r, 0, none⟩ (.int .i64 a)).setCell ⟨r, 1, none⟩ (.int .i64 b)).setCell ⟨r, 2, none⟩ (.int .i64 c)).setCell ⟨r, 3, none⟩ (.int .i64 d)).setCell ⟨r, 4, none⟩ (.slice none 0 0)
theorem rp5_blk {W : World} {r T : Nat} {x0 x1 x2 x3 x4 : Value} (h : Blk W r T [x0, x1, x2, x3, x4]) (a b c d : Int) : Blk (rp5 W r a b c d) r T [.int .i64 a, .int .i64 b, .int .i64 c, .int .i64 d, .slice none 0 0] ∧ Turned (fun k => k = r) W (rp5 W r a b c d) := by
  have h0 := h.set 0 (.int .i64 a)
  have h1 := h0.set 1 (.int .i64 b)
  have h2 := h1.set 2 (.int .i64 c)
  have h3 := h2.set 3 (.int .i64 d)
  have h4 := h3.set 4 (.slice none 0 0)
  refine ⟨h4, ?_⟩
  unfold rp5
  exact ((((turned_set _ r 0 _).trans ((turned_set _ r 1 _).mono (fun k e => .inl e))).trans ((turned_set _ r 2 _).mono (fun k e => .inl e))).trans ((turned_set _ r 3 _).mono (fun k e => .inl e))).trans ((turned_set _ r 4 _).mono (fun k e => .inl e))
theorem RT.trans {w W W' : World} {g : Nat} {m m' : Rs} (h : RT w W g m) (k : RT W W' g m') : RT w W' g m' := ⟨k.ok, h.tn.trans (k.tn.mono (fun _ e => .inl e))⟩
theorem RT.size {w W : World} {g : Nat} {m : Rs} (h : RT w W g m) : w.heap.size ≤ W.heap.size := h.tn.size
theorem RT.blk {w W : World} {g : Nat} {m : Rs} (h : RT w W g m) {r T : Nat} {xs : List Value} (hB : Blk w r T xs) (hr : r ≠ g) : Blk W r T xs := hB.turned h.tn hr
theorem Nts.keep {w W W' : World} {v : Value} {l : List (Int × Int)} {r : Nat} (h : Nts w W v l) (t : Turned (fun k => k = r) W W') (hr : ∀ b, v.ownBlock = some b → b ≠ r) : Nts w W' v l :=
  ⟨h.own.same (fun k hk => t.block k (h.own.lt k hk) (hr k hk)), h.new⟩
theorem Nts.lower {w w0 W : World} {v : Value} {l : List (Int × Int)} (h : Nts w W v l) (hs : w0.heap.size ≤ w.heap.size) : Nts w0 W v l := ⟨h.own, fun b hb => Nat.le_trans hs (h.new b hb)⟩
def ignM (m : Rs) (i : Nat) (nw : Int) : Rs × List (Int × Int) := if nw = 0 then leaveM m i else (bump (give m i nw), [])
set_option maxHeartbeats 8000000 in
theorem ignore_any (g : Nat) (m : Rs) (i : Nat) (c : Cm) (w : World) (h : (rv g m).Ok w) (hi : i < 16) (hnw : 0 ≤ c.nw ∧ c.nw < 18446744073709551616) :
    Calls Try.prog 39 #[.pointer (some ⟨g, 0, none⟩), .int .i64 i, .agg #[.int .i64 c.a, .int .u64 c.key, .int .u64 c.nw, .int .i64 c.t]] w fun e w' => ∃ v, e = .returned (.tuple #[.agg #[.int .i64 0, .int .i64 0, .int .i64 0, .int .i64 0, .slice none 0 0], v]) ∧ Nts w w' v (ignM m i c.nw).2 ∧ RT w w' g (ignM m i c.nw).1 := by
  have hgl := h.holds.1.lt
  have b1 : Below w.heap.size w (w.alloc (.cells #[.int .i64 c.a, .int .u64 c.key, .int .u64 c.nw, .int .i64 c.t] 37)) := (Below.refl _ _).alloc (Nat.le_refl _) _
  have B1 := Blk.new' w 37 [.int .i64 c.a, .int .u64 c.key, .int .u64 c.nw, .int .i64 c.t]
  obtain ⟨w0, hw0⟩ : ∃ w0, w0 = w.alloc (.cells #[.int .i64 c.a, .int .u64 c.key, .int .u64 c.nw, .int .i64 c.t] 37) := ⟨_, rfl⟩
  have z0 : w0.heap.size = w.heap.size + 1 := by rw [hw0]; simp
  rw [← hw0] at b1 B1
  have b2 : Below w0.heap.size w0 (w0.alloc (.cells #[.int .i64 0, .int .i64 0, .int .i64 0, .int .i64 0, .slice none 0 0] 28)) := (Below.refl _ _).alloc (Nat.le_refl _) _
  have B2 := Blk.new' w0 28 [.int .i64 0, .int .i64 0, .int .i64 0, .int .i64 0, .slice none 0 0]
  obtain ⟨w1, hw1⟩ : ∃ w1, w1 = w0.alloc (.cells #[.int .i64 0, .int .i64 0, .int .i64 0, .int .i64 0, .slice none 0 0] 28) := ⟨_, rfl⟩
  have z1 : w1.heap.size = w.heap.size + 2 := by rw [hw1]; simp [z0]
  rw [← hw1] at b2 B2
  rw [z0] at B2
  have H1 : Hid (RT w w1 g m ∧ Blk w1 w.heap.size 37 [.int .i64 c.a, .int .u64 c.key, .int .u64 c.nw, .int .i64 c.t] ∧ Blk w1 (w.heap.size + 1) 28 [.int .i64 0, .int .i64 0, .int .i64 0, .int .i64 0, .slice none 0 0] ∧ w1.heap.size = w.heap.size + 2 ∧ g < w.heap.size) := ⟨(RT.start h).later (below_then b1 b2), B1.laterB b2, B2, z1, hgl⟩
  clear b1 B1 b2 B2 z0 z1 hgl h
  go_enter Try.func39, Try.ntmps39
  go_upto_region 1 with fail
  rw [← hw0, ← hw1]
  clear hw0 hw1
  have k0 := blk_at H1.out.2.1 0
  have k1 := blk_at H1.out.2.1 1
  have k2 := blk_at H1.out.2.1 2
  have k3 := blk_at H1.out.2.1 3
  simp only [List.getElem?_cons_zero, List.getElem?_cons_succ] at k0 k1 k2 k3
  by_cases hx : c.nw = 0
  · have HM0 : ignM m i c.nw = leaveM m i := by unfold ignM; rw [if_pos hx]
    have HM : Hid _ := HM0
    have HG : Hid _ := good_any w1
    clear HM0
    rw [hx] at k2
    go_wp2_with fail
    refine (Calls.mono HG.out) ?_
    rintro e w2 ⟨rfl, b2⟩
    have r2 := H1.out.1.later b2
    have HL : Hid _ := leave_any g m i w2 r2.ok hi
    have H2 : Hid _ := And.intro r2 (And.intro (H1.out.2.2.1.laterB b2) b2.size)
    clear HG b2 r2 k0 k1 k2 k3
    go_wp2_with fail
    refine (Calls.mono HL.out) ?_
    rintro e w3 ⟨v, rfl, hN, r3⟩
    obtain ⟨va, vc, hv, -, -⟩ := hN.own.open
    have h1s := H1.out.2.2.2.1
    have h2s := H2.out.2.2
    have r3' := H2.out.1.trans r3
    have B3 := r3.blk H2.out.2.1 (by have := H1.out.2.2.2.2; omega)
    have hN' := hN.lower H2.out.1.size
    have han : ∀ b, v.ownBlock = some b → b ≠ w.heap.size + 1 := fun b hb => by have := hN.new b hb; omega
    clear HL H2 r3 hN
    rw [hv] at hN' han ⊢
    have y0 := blk_at B3 0
    have f0 := blk_frozen B3 0
    have y1 := blk_at B3 1
    have f1 := blk_frozen B3 1
    have y2 := blk_at B3 2
    have f2 := blk_frozen B3 2
    have y3 := blk_at B3 3
    have f3 := blk_frozen B3 3
    have y4 := blk_at B3 4
    have f4 := blk_frozen B3 4
    simp only [List.getElem?_cons_zero, List.getElem?_cons_succ] at y0 y1 y2 y3 y4
    have SP := rp5_blk B3 (0) (0) (0) (0)
    have G : Hid _ := And.intro SP.1 (And.intro (r3'.codes SP.2 (by omega) H1.out.2.2.2.2) (hN'.keep SP.2 han))
    unfold rp5 at G
    clear SP B3
    go_wp2
    clear y0 y1 y2 y3 y4 f0 f1 f2 f3 f4
    generalize (((((w3).setCell ⟨w.heap.size + 1, 0, none⟩ (.int .i64 0)).setCell ⟨w.heap.size + 1, 1, none⟩ (.int .i64 0)).setCell ⟨w.heap.size + 1, 2, none⟩ (.int .i64 0)).setCell ⟨w.heap.size + 1, 3, none⟩ (.int .i64 0)).setCell ⟨w.heap.size + 1, 4, none⟩ (.slice none 0 0) = wf at *
    have y0 := blk_at G.out.1 0
    have y1 := blk_at G.out.1 1
    have y2 := blk_at G.out.1 2
    have y3 := blk_at G.out.1 3
    have y4 := blk_at G.out.1 4
    simp only [List.getElem?_cons_zero, List.getElem?_cons_succ] at y0 y1 y2 y3 y4
    refine bodyPost_ret (v := .tuple #[.agg #[.int .i64 0, .int .i64 0, .int .i64 0, .int .i64 0, .slice none 0 0], .slice va (leaveM m i).2.length vc]) (by simp [results, Try.results39, go_sem, y0, y1, y2, y3, y4]) rfl ?_
    exact ⟨_, rfl, by rw [HM.out]; exact G.out.2.2, by rw [HM.out]; exact G.out.2.1⟩
  · have HM0 : ignM m i c.nw = (bump (give m i c.nw), []) := by unfold ignM; rw [if_neg hx]
    have HM : Hid _ := HM0
    have HC : Hid (∀ W, Turned (fun k => k = g) w1 W → W.cell? ⟨w.heap.size, 2, none⟩ = some (.int .u64 c.nw)) := fun W t => by
      have := blk_at (H1.out.2.1.turned t (by have := H1.out.2.2.2.2; show ¬ w.heap.size = g; omega)) 2
      simpa using this
    have q : (i : Int) < 16 := by omega
    clear HM0
    go_upto_region 3 with fail
    clear k0 k1 k2 k3
    refine wp_region_held_drew (S := fun W => Turned (fun k => k = g) w1 W) (by kernel_rfl) (tndr (Below.refl _ _).drew) (fun hS => ?_)
    refine any_take (i := 0) (v := ?_) rfl (by kernel_rfl) (by kernel_rfl) (by kernel_rfl) (by exact fun _ _ _ h => h) (by rfl) ?_ hS ?_
    rotate_left
    · ((intro w hSw; have k2 := HC.out _ hSw; go_simp) <;> with_reducible rfl)
    (try simp only [Act.put, List.setIfInBounds_toArray, List.set_cons_zero, List.set_cons_succ])
    refine any_take (i := 1) (v := ?_) rfl (by kernel_rfl) (by kernel_rfl) (by kernel_rfl) (by exact fun _ _ _ h => h) (by rfl) ?_ hS ?_
    rotate_left
    · ((intro w hSw; have k2 := HC.out _ hSw; go_simp) <;> with_reducible rfl)
    (try simp only [Act.put, List.setIfInBounds_toArray, List.set_cons_zero, List.set_cons_succ])
    refine any_take (i := 2) (v := ?_) rfl (by kernel_rfl) (by kernel_rfl) (by kernel_rfl) (by exact fun _ _ _ h => h) (by rfl) ?_ hS ?_
    rotate_left
    · ((intro w hSw; have k2 := HC.out _ hSw; go_simp) <;> with_reducible rfl)
    (try simp only [Act.put, List.setIfInBounds_toArray, List.set_cons_zero, List.set_cons_succ])
    refine any_take (i := 3) (v := ?_) rfl (by kernel_rfl) (by kernel_rfl) (by kernel_rfl) (by exact fun _ _ _ h => h) (by rfl) ?_ hS ?_
    rotate_left
    · ((intro w hSw; have k2 := HC.out _ hSw; go_simp) <;> with_reducible rfl)
    (try simp only [Act.put, List.setIfInBounds_toArray, List.set_cons_zero, List.set_cons_succ])
    refine any_take (i := 4) (v := ?_) rfl (by kernel_rfl) (by kernel_rfl) (by kernel_rfl) (by exact fun _ _ _ h => h) (by rfl) ?_ hS ?_
    rotate_left
    · ((intro w hSw; have k2 := HC.out _ hSw; go_simp) <;> with_reducible rfl)
    (try simp only [Act.put, List.setIfInBounds_toArray, List.set_cons_zero, List.set_cons_succ])
    refine any_take (i := 5) (v := ?_) rfl (by kernel_rfl) (by kernel_rfl) (by kernel_rfl) (by exact fun _ _ _ h => h) (by rfl) ?_ hS ?_
    rotate_left
    · ((intro w hSw; have k2 := HC.out _ hSw; go_simp) <;> with_reducible rfl)
    (try simp only [Act.put, List.setIfInBounds_toArray, List.set_cons_zero, List.set_cons_succ])
    refine any_take (i := 6) (v := ?_) rfl (by kernel_rfl) (by kernel_rfl) (by kernel_rfl) (by exact fun _ _ _ h => h) (by rfl) ?_ hS ?_
    rotate_left
    · ((intro w hSw; have k2 := HC.out _ hSw; go_simp) <;> with_reducible rfl)
    (try simp only [Act.put, List.setIfInBounds_toArray, List.set_cons_zero, List.set_cons_succ])
    refine any_take (i := 7) (v := ?_) rfl (by kernel_rfl) (by kernel_rfl) (by kernel_rfl) (by exact fun _ _ _ h => h) (by rfl) ?_ hS ?_
    rotate_left
    · ((intro w hSw; have k2 := HC.out _ hSw; go_simp) <;> with_reducible rfl)
    (try simp only [Act.put, List.setIfInBounds_toArray, List.set_cons_zero, List.set_cons_succ])
    refine any_take (i := 8) (v := ?_) rfl (by kernel_rfl) (by kernel_rfl) (by kernel_rfl) (by exact fun _ _ _ h => h) (by rfl) ?_ hS ?_
    rotate_left
    · ((intro w hSw; have k2 := HC.out _ hSw; go_simp) <;> with_reducible rfl)
    (try simp only [Act.put, List.setIfInBounds_toArray, List.set_cons_zero, List.set_cons_succ])
    refine any_take (i := 10) (v := ?_) rfl (by kernel_rfl) (by kernel_rfl) (by kernel_rfl) (by exact fun _ _ _ h => h) (by rfl) ?_ hS ?_
    rotate_left
    · ((intro w hSw; have k2 := HC.out _ hSw; go_simp) <;> with_reducible rfl)
    (try simp only [Act.put, List.setIfInBounds_toArray, List.set_cons_zero, List.set_cons_succ])
    refine any_take (i := 11) (v := ?_) rfl (by kernel_rfl) (by kernel_rfl) (by kernel_rfl) (by exact fun _ _ _ h => h) (by rfl) ?_ hS ?_
    rotate_left
    · ((intro w hSw; have k2 := HC.out _ hSw; go_simp) <;> with_reducible rfl)
    (try simp only [Act.put, List.setIfInBounds_toArray, List.set_cons_zero, List.set_cons_succ])
    have B0 : Blk w1.drew g 54 (rsC m) := H1.out.1.ok.holds.1.laterB (Below.refl _ _).drew
    have hW := H1.out.1.ok.holds.2
    generalize w1.drew = W0 at *
    have hc := hW.key B0 i hi
    have hz := blk_frozen B0 (19 + i)
    refine any_on (i := 9) rfl (by kernel_rfl) (fun K hK => ?_)
    go_simp
    have B1 := B0.set (19 + i) (.int .u64 c.nw)
    rw [rsC_key m hW.fl] at B1
    clear hc hz
    refine hK.out _ _ (hS.trans ((turned_set _ g (19 + i) _).mono (fun k e => .inl e))) (fun hS => ?_)
    clear hK K
    refine any_take (i := 12) (v := ?_) rfl (by kernel_rfl) (by kernel_rfl) (by kernel_rfl) (by exact fun _ _ _ h => h) (by rfl) ?_ hS ?_
    rotate_left
    · ((intro w hSw; have k2 := HC.out _ hSw; go_simp) <;> with_reducible rfl)
    (try simp only [Act.put, List.setIfInBounds_toArray, List.set_cons_zero, List.set_cons_succ])
    have hc := Rs.Wf.flag (m := { m with ks := m.ks.set i c.nw }) ⟨hW.fl, by rw [List.length_set]; exact hW.kl, hW.hh, hW.kk, hW.gg, (give_wf hW i c.nw hnw).each⟩ B1 i hi
    have hz := blk_frozen B1 (3 + i)
    refine any_on (i := 13) rfl (by kernel_rfl) (fun K hK => ?_)
    go_simp
    have B2 := B1.set (3 + i) (.bool false)
    rw [rsC_flag { m with ks := m.ks.set i c.nw } hW.fl i hi] at B2
    clear hc hz
    refine hK.out _ _ (hS.trans ((turned_set _ g (3 + i) _).mono (fun k e => .inl e))) (fun hS => ?_)
    clear hK K
    refine wpAnyH_done (by kernel_rfl) ?_ _
    have r2 : RT w _ g (give m i c.nw) := ⟨rv_ok B2 (give_wf hW i c.nw hnw), H1.out.1.tn.trans (hS.mono (fun k e => .inl e))⟩
    have B2r := H1.out.2.2.1.turned hS (by have := H1.out.2.2.2.2; show ¬ w.heap.size + 1 = g; omega)
    have y0 := blk_at r2.ok.holds.1 0
    have f0 := blk_frozen r2.ok.holds.1 0
    simp only [rsC, List.getElem?_cons_zero, List.getElem?_cons_succ] at y0
    have hs2 := hS.size
    clear hS B0 B1 B2 HC hW
    generalize (W0.setCell ⟨g, 19 + i, none⟩ (.int .u64 c.nw)).setCell ⟨g, 3 + i, none⟩ (.bool false) = w2 at *
    have hgg := r2.ok.holds.2.gg
    have r3 := r2.gen (((give m i c.nw).gen + 1) % 4294967296) rfl
    have B3r := B2r.turned (turned_set w2 g 0 (.int .u32 (((give m i c.nw).gen + 1) % 4294967296))) (by have := H1.out.2.2.2.2; show ¬ w.heap.size + 1 = g; omega)
    have HG : Hid _ := good_any (w2.setCell ⟨g, 0, none⟩ (.int .u32 (((give m i c.nw).gen + 1) % 4294967296)))
    have H2 : Hid _ := And.intro r3 (And.intro B3r hs2)
    clear r2 r3 B3r B2r hs2
    generalize (give m i c.nw).gen = gn at *
    go_wp2_with fail
    clear y0 f0
    generalize w2.setCell ⟨g, 0, none⟩ (.int .u32 ((gn + 1) % 4294967296)) = w3 at *
    refine (Calls.mono HG.out) ?_
    rintro e w4 ⟨rfl, b4⟩
    have r3' := H2.out.1.later b4
    have B3 := H2.out.2.1.laterB b4
    have hN' : Nts w w4 (.slice none 0 0) [] := Nts.nil _ _
    have han : ∀ b, (Value.slice none 0 0).ownBlock = some b → b ≠ w.heap.size + 1 := fun b hb => by cases hb
    clear HG H2 b4
    have y0 := blk_at B3 0
    have f0 := blk_frozen B3 0
    have y1 := blk_at B3 1
    have f1 := blk_frozen B3 1
    have y2 := blk_at B3 2
    have f2 := blk_frozen B3 2
    have y3 := blk_at B3 3
    have f3 := blk_frozen B3 3
    have y4 := blk_at B3 4
    have f4 := blk_frozen B3 4
    simp only [List.getElem?_cons_zero, List.getElem?_cons_succ] at y0 y1 y2 y3 y4
    have SP := rp5_blk B3 (0) (0) (0) (0)
    have G : Hid _ := And.intro SP.1 (And.intro (r3'.codes SP.2 (by omega) H1.out.2.2.2.2) (hN'.keep SP.2 han))
    unfold rp5 at G
    clear SP B3
    go_wp2
    clear y0 y1 y2 y3 y4 f0 f1 f2 f3 f4
    generalize (((((w4).setCell ⟨w.heap.size + 1, 0, none⟩ (.int .i64 0)).setCell ⟨w.heap.size + 1, 1, none⟩ (.int .i64 0)).setCell ⟨w.heap.size + 1, 2, none⟩ (.int .i64 0)).setCell ⟨w.heap.size + 1, 3, none⟩ (.int .i64 0)).setCell ⟨w.heap.size + 1, 4, none⟩ (.slice none 0 0) = wf at *
    have y0 := blk_at G.out.1 0
    have y1 := blk_at G.out.1 1
    have y2 := blk_at G.out.1 2
    have y3 := blk_at G.out.1 3
    have y4 := blk_at G.out.1 4
    simp only [List.getElem?_cons_zero, List.getElem?_cons_succ] at y0 y1 y2 y3 y4
    refine bodyPost_ret (v := .tuple #[.agg #[.int .i64 0, .int .i64 0, .int .i64 0, .int .i64 0, .slice none 0 0], .slice none 0 0]) (by simp [results, Try.results39, go_sem, y0, y1, y2, y3, y4]) rfl ?_
    exact ⟨_, rfl, by rw [HM.out]; exact G.out.2.2, by rw [HM.out]; exact G.out.2.1⟩
end Go.Proofs.Ytlopkfenbeahgaa

/- register, reserve. -/
namespace Go.Proofs.Ytlopkfenbeahgaa
open Go.RowKit Go.Shelf
set_option linter.unusedVariables false
set_option linter.unusedSimpArgs false
set_option maxRecDepth 4000

def rpV (r : Int × Int × Int × Int) : Value := .agg #[.int .i64 r.1, .int .i64 r.2.1, .int .i64 r.2.2.1, .int .i64 r.2.2.2, .slice none 0 0]
abbrev Ans := (Int × Int × Int × Int) × Rs × List (Int × Int)
/-- what a command's call answers, tells, and leaves -/
def Does (w : World) (g : Nat) (r : Ans) (e : Ending) (w' : World) : Prop := ∃ v, e = .returned (.tuple #[rpV r.1, v]) ∧ Nts w w' v r.2.2 ∧ RT w w' g r.2.1
def regM (m : Rs) (i : Nat) (c : Cm) : Ans := if c.key = m.ks.getD i 0 then ((0, 0, 0, 0), ignM m i c.nw) else ((24, 0, 0, 0), m, [])
def rsvM (m : Rs) (i : Nat) (c : Cm) : Ans := if tyB c.t = false then ((2, 5, 36, 0), m, []) else if m.k = 0 then ((0, 0, 0, 0), hold m i c.t, []) else if hoB m i = true ∧ m.k = c.t then ((0, 0, 0, 0), m, []) else ((24, 0, 0, 0), m, [])
theorem tyB_bd {t : Int} (h : tyB t = true) : 0 ≤ t ∧ t ≤ 8 := by
  unfold tyB at h
  simp only [Bool.or_eq_true, beq_iff_eq] at h
  omega
set_option maxHeartbeats 8000000 in
theorem register_any (g : Nat) (m : Rs) (i : Nat) (c : Cm) (w : World) (h : (rv g m).Ok w) (hi : i < 16) (hnw : 0 ≤ c.nw ∧ c.nw < 18446744073709551616) : Calls Try.prog 34 #[.pointer (some ⟨g, 0, none⟩), .int .i64 i, .agg #[.int .i64 c.a, .int .u64 c.key, .int .u64 c.nw, .int .i64 c.t]] w (Does w g (regM m i c)) := by
  have hgl := h.holds.1.lt
  have b1 : Below w.heap.size w (w.alloc (.cells #[.int .i64 c.a, .int .u64 c.key, .int .u64 c.nw, .int .i64 c.t] 37)) := (Below.refl _ _).alloc (Nat.le_refl _) _
  have B1 := Blk.new' w 37 [.int .i64 c.a, .int .u64 c.key, .int .u64 c.nw, .int .i64 c.t]
  obtain ⟨w0, hw0⟩ : ∃ w0, w0 = w.alloc (.cells #[.int .i64 c.a, .int .u64 c.key, .int .u64 c.nw, .int .i64 c.t] 37) := ⟨_, rfl⟩
  have z0 : w0.heap.size = w.heap.size + 1 := by rw [hw0]; simp
  rw [← hw0] at b1 B1
  have b2 : Below w0.heap.size w0 (w0.alloc (.cells #[.int .i64 0, .int .i64 0, .int .i64 0, .int .i64 0, .slice none 0 0] 28)) := (Below.refl _ _).alloc (Nat.le_refl _) _
  have B2 := Blk.new' w0 28 [.int .i64 0, .int .i64 0, .int .i64 0, .int .i64 0, .slice none 0 0]
  obtain ⟨w1, hw1⟩ : ∃ w1, w1 = w0.alloc (.cells #[.int .i64 0, .int .i64 0, .int .i64 0, .int .i64 0, .slice none 0 0] 28) := ⟨_, rfl⟩
  have z1 : w1.heap.size = w.heap.size + 2 := by rw [hw1]; simp [z0]
  rw [← hw1] at b2 B2
  rw [z0] at B2
  have H1 : Hid (RT w w1 g m ∧ Blk w1 w.heap.size 37 [.int .i64 c.a, .int .u64 c.key, .int .u64 c.nw, .int .i64 c.t] ∧ Blk w1 (w.heap.size + 1) 28 [.int .i64 0, .int .i64 0, .int .i64 0, .int .i64 0, .slice none 0 0] ∧ w1.heap.size = w.heap.size + 2 ∧ g < w.heap.size) := ⟨(RT.start h).later (below_then b1 b2), B1.laterB b2, B2, z1, hgl⟩
  clear b1 B1 b2 B2 z0 z1 hgl h
  go_enter Try.func34, Try.ntmps34
  go_upto_region 1 with fail
  rw [← hw0, ← hw1]
  clear hw0 hw1
  have HC : Hid (∀ W, Below w1.heap.size w1 W → W.cell? ⟨w.heap.size, 1, none⟩ = some (.int .u64 c.key) ∧ W.cell? ⟨w.heap.size, 3, none⟩ = some (.int .i64 c.t)) := fun W b => ⟨by have := blk_at (H1.out.2.1.laterB b) 1; simpa using this, by have := blk_at (H1.out.2.1.laterB b) 3; simpa using this⟩
  have q : (i : Int) < 16 := by omega
  obtain ⟨x, hx0⟩ : ∃ x, m.ks.getD i 0 = x := ⟨_, rfl⟩
  have HX0 : Hid _ := hx0
  clear hx0
  have bd : Below w1.heap.size w1 w1.drew := (Below.refl _ _).drew
  have H2 : Hid (RT w w1.drew g m ∧ Blk w1.drew w.heap.size 37 [.int .i64 c.a, .int .u64 c.key, .int .u64 c.nw, .int .i64 c.t] ∧ Blk w1.drew (w.heap.size + 1) 28 [.int .i64 0, .int .i64 0, .int .i64 0, .int .i64 0, .slice none 0 0] ∧ w1.drew.heap.size = w.heap.size + 2) := ⟨H1.out.1.later bd, H1.out.2.1.laterB bd, H1.out.2.2.1.laterB bd, H1.out.2.2.2.1⟩
  refine wp_region_held_drew (S := fun W => Below w1.heap.size w1 W) (by kernel_rfl) ((Below.refl _ _).drew) (fun hS => ?_)
  refine any_take (i := 0) (v := ?_) rfl (by kernel_rfl) (by kernel_rfl) (by kernel_rfl) (by exact fun _ _ _ h => h) (by rfl) ?_ hS ?_
  rotate_left
  · ((intro w hSw; have ky := (H1.out.1.ok.later hSw).holds.2.key (H1.out.1.ok.later hSw).holds.1 i hi; rw [HX0.out] at ky; obtain ⟨k1, k3⟩ := HC.out _ hSw; go_simp) <;> with_reducible rfl)
  (try simp only [Act.put, List.setIfInBounds_toArray, List.set_cons_zero, List.set_cons_succ])
  refine any_take (i := 1) (v := ?_) rfl (by kernel_rfl) (by kernel_rfl) (by kernel_rfl) (by exact fun _ _ _ h => h) (by rfl) ?_ hS ?_
  rotate_left
  · ((intro w hSw; have ky := (H1.out.1.ok.later hSw).holds.2.key (H1.out.1.ok.later hSw).holds.1 i hi; rw [HX0.out] at ky; obtain ⟨k1, k3⟩ := HC.out _ hSw; go_simp) <;> with_reducible rfl)
  (try simp only [Act.put, List.setIfInBounds_toArray, List.set_cons_zero, List.set_cons_succ])
  refine any_take (i := 2) (v := ?_) rfl (by kernel_rfl) (by kernel_rfl) (by kernel_rfl) (by exact fun _ _ _ h => h) (by rfl) ?_ hS ?_
  rotate_left
  · ((intro w hSw; have ky := (H1.out.1.ok.later hSw).holds.2.key (H1.out.1.ok.later hSw).holds.1 i hi; rw [HX0.out] at ky; obtain ⟨k1, k3⟩ := HC.out _ hSw; go_simp) <;> with_reducible rfl)
  (try simp only [Act.put, List.setIfInBounds_toArray, List.set_cons_zero, List.set_cons_succ])
  refine any_take (i := 3) (v := ?_) rfl (by kernel_rfl) (by kernel_rfl) (by kernel_rfl) (by exact fun _ _ _ h => h) (by rfl) ?_ hS ?_
  rotate_left
  · ((intro w hSw; have ky := (H1.out.1.ok.later hSw).holds.2.key (H1.out.1.ok.later hSw).holds.1 i hi; rw [HX0.out] at ky; obtain ⟨k1, k3⟩ := HC.out _ hSw; go_simp) <;> with_reducible rfl)
  (try simp only [Act.put, List.setIfInBounds_toArray, List.set_cons_zero, List.set_cons_succ])
  refine any_take (i := 4) (v := ?_) rfl (by kernel_rfl) (by kernel_rfl) (by kernel_rfl) (by exact fun _ _ _ h => h) (by rfl) ?_ hS ?_
  rotate_left
  · ((intro w hSw; have ky := (H1.out.1.ok.later hSw).holds.2.key (H1.out.1.ok.later hSw).holds.1 i hi; rw [HX0.out] at ky; obtain ⟨k1, k3⟩ := HC.out _ hSw; go_simp) <;> with_reducible rfl)
  (try simp only [Act.put, List.setIfInBounds_toArray, List.set_cons_zero, List.set_cons_succ])
  refine any_take (i := 5) (v := ?_) rfl (by kernel_rfl) (by kernel_rfl) (by kernel_rfl) (by exact fun _ _ _ h => h) (by rfl) ?_ hS ?_
  rotate_left
  · ((intro w hSw; have ky := (H1.out.1.ok.later hSw).holds.2.key (H1.out.1.ok.later hSw).holds.1 i hi; rw [HX0.out] at ky; obtain ⟨k1, k3⟩ := HC.out _ hSw; go_simp) <;> with_reducible rfl)
  (try simp only [Act.put, List.setIfInBounds_toArray, List.set_cons_zero, List.set_cons_succ])
  refine any_take (i := 6) (v := ?_) rfl (by kernel_rfl) (by kernel_rfl) (by kernel_rfl) (by exact fun _ _ _ h => h) (by rfl) ?_ hS ?_
  rotate_left
  · ((intro w hSw; have ky := (H1.out.1.ok.later hSw).holds.2.key (H1.out.1.ok.later hSw).holds.1 i hi; rw [HX0.out] at ky; obtain ⟨k1, k3⟩ := HC.out _ hSw; go_simp) <;> with_reducible rfl)
  (try simp only [Act.put, List.setIfInBounds_toArray, List.set_cons_zero, List.set_cons_succ])
  refine any_take (i := 7) (v := ?_) rfl (by kernel_rfl) (by kernel_rfl) (by kernel_rfl) (by exact fun _ _ _ h => h) (by rfl) ?_ hS ?_
  rotate_left
  · ((intro w hSw; have ky := (H1.out.1.ok.later hSw).holds.2.key (H1.out.1.ok.later hSw).holds.1 i hi; rw [HX0.out] at ky; obtain ⟨k1, k3⟩ := HC.out _ hSw; go_simp) <;> with_reducible rfl)
  (try simp only [Act.put, List.setIfInBounds_toArray, List.set_cons_zero, List.set_cons_succ])
  refine any_take (i := 8) (v := ?_) rfl (by kernel_rfl) (by kernel_rfl) (by kernel_rfl) (by exact fun _ _ _ h => h) (by rfl) ?_ hS ?_
  rotate_left
  · ((intro w hSw; have ky := (H1.out.1.ok.later hSw).holds.2.key (H1.out.1.ok.later hSw).holds.1 i hi; rw [HX0.out] at ky; obtain ⟨k1, k3⟩ := HC.out _ hSw; go_simp) <;> with_reducible rfl)
  (try simp only [Act.put, List.setIfInBounds_toArray, List.set_cons_zero, List.set_cons_succ])
  refine wpAnyH_done (by kernel_rfl) ?_ _
  clear hS
  clear bd HC
  generalize w1.drew = w2 at *
  by_cases hx : c.key = x
  · have HM0 : regM m i c = ((0, 0, 0, 0), ignM m i c.nw) := by unfold regM; rw [HX0.out, if_pos hx]
    have HM : Hid _ := HM0
    have HI : Hid _ := ignore_any g m i c w2 H2.out.1.ok hi hnw
    have k0 := blk_at H2.out.2.1 0
    have k1 := blk_at H2.out.2.1 1
    have k2 := blk_at H2.out.2.1 2
    have k3 := blk_at H2.out.2.1 3
    simp only [List.getElem?_cons_zero, List.getElem?_cons_succ] at k0 k1 k2 k3
    have hx2 : (c.key != x) = false := by rw [bne_eq_false_iff_eq]; exact hx
    (try rw [hx2])
    clear HM0 hx hx2
    go_wp2_with fail
    refine (Calls.mono HI.out) ?_
    rintro e w3 ⟨v, rfl, hN, r3⟩
    have h2s := H2.out.2.2.2
    have r3' := H2.out.1.trans r3
    have B3 := r3.blk H2.out.2.2.1 (by have := H1.out.2.2.2.2; omega)
    have hN' := hN.lower H2.out.1.size
    have han : ∀ b, v.ownBlock = some b → b ≠ w.heap.size + 1 := fun b hb => by have := hN.new b hb; omega
    clear HI r3 hN k0 k1 k2 k3
    obtain ⟨va, vc, hv, -, -⟩ := hN'.own.open
    rw [hv] at hN' han ⊢
    have y0 := blk_at B3 0
    have f0 := blk_frozen B3 0
    have y1 := blk_at B3 1
    have f1 := blk_frozen B3 1
    have y2 := blk_at B3 2
    have f2 := blk_frozen B3 2
    have y3 := blk_at B3 3
    have f3 := blk_frozen B3 3
    have y4 := blk_at B3 4
    have f4 := blk_frozen B3 4
    simp only [List.getElem?_cons_zero, List.getElem?_cons_succ] at y0 y1 y2 y3 y4
    have SP := rp5_blk B3 (0) (0) (0) (0)
    have G : Hid _ := And.intro SP.1 (And.intro (r3'.codes SP.2 (by omega) H1.out.2.2.2.2) (hN'.keep SP.2 han))
    unfold rp5 at G
    clear SP B3
    go_wp2
    clear y0 y1 y2 y3 y4 f0 f1 f2 f3 f4
    generalize (((((w3).setCell ⟨w.heap.size + 1, 0, none⟩ (.int .i64 0)).setCell ⟨w.heap.size + 1, 1, none⟩ (.int .i64 0)).setCell ⟨w.heap.size + 1, 2, none⟩ (.int .i64 0)).setCell ⟨w.heap.size + 1, 3, none⟩ (.int .i64 0)).setCell ⟨w.heap.size + 1, 4, none⟩ (.slice none 0 0) = wf at *
    have y0 := blk_at G.out.1 0
    have y1 := blk_at G.out.1 1
    have y2 := blk_at G.out.1 2
    have y3 := blk_at G.out.1 3
    have y4 := blk_at G.out.1 4
    simp only [List.getElem?_cons_zero, List.getElem?_cons_succ] at y0 y1 y2 y3 y4
    refine bodyPost_ret (v := .tuple #[.agg #[.int .i64 0, .int .i64 0, .int .i64 0, .int .i64 0, .slice none 0 0], .slice va (ignM m i c.nw).2.length vc]) (by simp [results, Try.results34, go_sem, y0, y1, y2, y3, y4]) rfl ?_
    exact ⟨_, by rw [HM.out]; rfl, by rw [HM.out]; exact G.out.2.2, by rw [HM.out]; exact G.out.2.1⟩
  · have HM0 : regM m i c = ((24, 0, 0, 0), m, []) := by unfold regM; rw [HX0.out, if_neg hx]
    have HM : Hid _ := HM0
    have hx' : (c.key != x) = true := by rw [bne_iff_ne]; exact hx
    (try rw [hx'])
    have RTW := H2.out.1
    have BW := H2.out.2.2.1
    clear HM0 H2
    have HG : Hid _ := conflict_any w2
    go_wp2_with fail
    refine (Calls.mono HG.out) ?_
    rintro e w9 ⟨rfl, b9⟩
    have r3' := RTW.later b9
    have B3 := BW.laterB b9
    have hN' : Nts w w9 (.slice none 0 0) [] := Nts.nil _ _
    have han : ∀ b, (Value.slice none 0 0).ownBlock = some b → b ≠ w.heap.size + 1 := fun b hb => by cases hb
    clear HG b9 RTW BW
    have y0 := blk_at B3 0
    have f0 := blk_frozen B3 0
    have y1 := blk_at B3 1
    have f1 := blk_frozen B3 1
    have y2 := blk_at B3 2
    have f2 := blk_frozen B3 2
    have y3 := blk_at B3 3
    have f3 := blk_frozen B3 3
    have y4 := blk_at B3 4
    have f4 := blk_frozen B3 4
    simp only [List.getElem?_cons_zero, List.getElem?_cons_succ] at y0 y1 y2 y3 y4
    have SP := rp5_blk B3 (24) (0) (0) (0)
    have G : Hid _ := And.intro SP.1 (And.intro (r3'.codes SP.2 (by omega) H1.out.2.2.2.2) (hN'.keep SP.2 han))
    unfold rp5 at G
    clear SP B3
    go_wp2
    clear y0 y1 y2 y3 y4 f0 f1 f2 f3 f4
    generalize (((((w9).setCell ⟨w.heap.size + 1, 0, none⟩ (.int .i64 24)).setCell ⟨w.heap.size + 1, 1, none⟩ (.int .i64 0)).setCell ⟨w.heap.size + 1, 2, none⟩ (.int .i64 0)).setCell ⟨w.heap.size + 1, 3, none⟩ (.int .i64 0)).setCell ⟨w.heap.size + 1, 4, none⟩ (.slice none 0 0) = wf at *
    have y0 := blk_at G.out.1 0
    have y1 := blk_at G.out.1 1
    have y2 := blk_at G.out.1 2
    have y3 := blk_at G.out.1 3
    have y4 := blk_at G.out.1 4
    simp only [List.getElem?_cons_zero, List.getElem?_cons_succ] at y0 y1 y2 y3 y4
    refine bodyPost_ret (v := .tuple #[.agg #[.int .i64 24, .int .i64 0, .int .i64 0, .int .i64 0, .slice none 0 0], .slice none 0 0]) (by simp [results, Try.results34, go_sem, y0, y1, y2, y3, y4]) rfl ?_
    exact ⟨_, by rw [HM.out]; rfl, by rw [HM.out]; exact G.out.2.2, by rw [HM.out]; exact G.out.2.1⟩
set_option maxHeartbeats 8000000 in
theorem reserve_any (g : Nat) (m : Rs) (i : Nat) (c : Cm) (w : World) (h : (rv g m).Ok w) (hi : i < 16) : Calls Try.prog 35 #[.pointer (some ⟨g, 0, none⟩), .int .i64 i, .agg #[.int .i64 c.a, .int .u64 c.key, .int .u64 c.nw, .int .i64 c.t]] w (Does w g (rsvM m i c)) := by
  have hgl := h.holds.1.lt
  have b1 : Below w.heap.size w (w.alloc (.cells #[.int .i64 c.a, .int .u64 c.key, .int .u64 c.nw, .int .i64 c.t] 37)) := (Below.refl _ _).alloc (Nat.le_refl _) _
  have B1 := Blk.new' w 37 [.int .i64 c.a, .int .u64 c.key, .int .u64 c.nw, .int .i64 c.t]
  obtain ⟨w0, hw0⟩ : ∃ w0, w0 = w.alloc (.cells #[.int .i64 c.a, .int .u64 c.key, .int .u64 c.nw, .int .i64 c.t] 37) := ⟨_, rfl⟩
  have z0 : w0.heap.size = w.heap.size + 1 := by rw [hw0]; simp
  rw [← hw0] at b1 B1
  have b2 : Below w0.heap.size w0 (w0.alloc (.cells #[.int .i64 0, .int .i64 0, .int .i64 0, .int .i64 0, .slice none 0 0] 28)) := (Below.refl _ _).alloc (Nat.le_refl _) _
  have B2 := Blk.new' w0 28 [.int .i64 0, .int .i64 0, .int .i64 0, .int .i64 0, .slice none 0 0]
  obtain ⟨w1, hw1⟩ : ∃ w1, w1 = w0.alloc (.cells #[.int .i64 0, .int .i64 0, .int .i64 0, .int .i64 0, .slice none 0 0] 28) := ⟨_, rfl⟩
  have z1 : w1.heap.size = w.heap.size + 2 := by rw [hw1]; simp [z0]
  rw [← hw1] at b2 B2
  rw [z0] at B2
  have H1 : Hid (RT w w1 g m ∧ Blk w1 w.heap.size 37 [.int .i64 c.a, .int .u64 c.key, .int .u64 c.nw, .int .i64 c.t] ∧ Blk w1 (w.heap.size + 1) 28 [.int .i64 0, .int .i64 0, .int .i64 0, .int .i64 0, .slice none 0 0] ∧ w1.heap.size = w.heap.size + 2 ∧ g < w.heap.size) := ⟨(RT.start h).later (below_then b1 b2), B1.laterB b2, B2, z1, hgl⟩
  clear b1 B1 b2 B2 z0 z1 hgl h
  go_enter Try.func35, Try.ntmps35
  go_upto_region 1 with fail
  rw [← hw0, ← hw1]
  clear hw0 hw1
  have HTy : Hid _ := isType_any c.t w1
  have k0 := blk_at H1.out.2.1 0
  have k1 := blk_at H1.out.2.1 1
  have k2 := blk_at H1.out.2.1 2
  have k3 := blk_at H1.out.2.1 3
  simp only [List.getElem?_cons_zero, List.getElem?_cons_succ] at k0 k1 k2 k3
  have hW := H1.out.1.ok.holds.2
  cases hty : tyB c.t with
  | false =>
    rw [hty] at HTy
    have HM0 : rsvM m i c = ((2, 5, 36, 0), m, []) := by unfold rsvM; rw [if_pos hty]
    have HM : Hid _ := HM0
    have RTW := H1.out.1
    have BW := H1.out.2.2.1
    clear HM0 hW
    go_wp2_with fail
    refine (Calls.mono HTy.out) ?_
    rintro e _ ⟨rfl, rfl⟩
    have HG : Hid _ := wrong_any w1
    go_wp2_with fail
    refine (Calls.mono HG.out) ?_
    rintro e w9 ⟨rfl, b9⟩
    have r3' := RTW.later b9
    have B3 := BW.laterB b9
    have hN' : Nts w w9 (.slice none 0 0) [] := Nts.nil _ _
    have han : ∀ b, (Value.slice none 0 0).ownBlock = some b → b ≠ w.heap.size + 1 := fun b hb => by cases hb
    clear HG b9 RTW BW
    have y0 := blk_at B3 0
    have f0 := blk_frozen B3 0
    have y1 := blk_at B3 1
    have f1 := blk_frozen B3 1
    have y2 := blk_at B3 2
    have f2 := blk_frozen B3 2
    have y3 := blk_at B3 3
    have f3 := blk_frozen B3 3
    have y4 := blk_at B3 4
    have f4 := blk_frozen B3 4
    simp only [List.getElem?_cons_zero, List.getElem?_cons_succ] at y0 y1 y2 y3 y4
    have SP := rp5_blk B3 (2) (5) (36) (0)
    have G : Hid _ := And.intro SP.1 (And.intro (r3'.codes SP.2 (by omega) H1.out.2.2.2.2) (hN'.keep SP.2 han))
    unfold rp5 at G
    clear SP B3
    go_wp2
    clear y0 y1 y2 y3 y4 f0 f1 f2 f3 f4
    generalize (((((w9).setCell ⟨w.heap.size + 1, 0, none⟩ (.int .i64 2)).setCell ⟨w.heap.size + 1, 1, none⟩ (.int .i64 5)).setCell ⟨w.heap.size + 1, 2, none⟩ (.int .i64 36)).setCell ⟨w.heap.size + 1, 3, none⟩ (.int .i64 0)).setCell ⟨w.heap.size + 1, 4, none⟩ (.slice none 0 0) = wf at *
    have y0 := blk_at G.out.1 0
    have y1 := blk_at G.out.1 1
    have y2 := blk_at G.out.1 2
    have y3 := blk_at G.out.1 3
    have y4 := blk_at G.out.1 4
    simp only [List.getElem?_cons_zero, List.getElem?_cons_succ] at y0 y1 y2 y3 y4
    refine bodyPost_ret (v := .tuple #[.agg #[.int .i64 2, .int .i64 5, .int .i64 36, .int .i64 0, .slice none 0 0], .slice none 0 0]) (by simp [results, Try.results35, go_sem, y0, y1, y2, y3, y4]) rfl ?_
    exact ⟨_, by rw [HM.out]; rfl, by rw [HM.out]; exact G.out.2.2, by rw [HM.out]; exact G.out.2.1⟩
  | true =>
    rw [hty] at HTy
    have y2 := blk_at H1.out.1.ok.holds.1 2
    simp only [rsC, List.getElem?_cons_zero, List.getElem?_cons_succ] at y2
    by_cases hk : m.k = 0
    · have HM0 : rsvM m i c = ((0, 0, 0, 0), hold m i c.t, []) := by unfold rsvM; rw [hty, if_neg (by decide), if_pos hk]
      have HM : Hid _ := HM0
      rw [hk] at y2
      have HT : Hid (∀ W, Turned (fun k => k = g) w1 W → W.cell? ⟨w.heap.size, 3, none⟩ = some (.int .i64 c.t)) := fun W t => by have := blk_at (H1.out.2.1.turned t (by have := H1.out.2.2.2.2; show ¬ w.heap.size = g; omega)) 3; simpa using this
      have hct : 0 ≤ c.t ∧ c.t ≤ 8 := tyB_bd hty
      clear HM0
      go_wp2_with fail
      refine (Calls.mono HTy.out) ?_
      rintro e _ ⟨rfl, rfl⟩
      go_upto_region 4 with fail
      clear y2 k0 k1 k2 k3
      refine wp_region_held_drew (S := fun W => Turned (fun k => k = g) w1 W) (by kernel_rfl) (tndr (Below.refl _ _).drew) (fun hS => ?_)
      refine any_take (i := 0) (v := ?_) rfl (by kernel_rfl) (by kernel_rfl) (by kernel_rfl) (by exact fun _ _ _ h => h) (by rfl) ?_ hS ?_
      rotate_left
      · ((intro w hSw; have k3 := HT.out _ hSw; go_simp) <;> with_reducible rfl)
      (try simp only [Act.put, List.setIfInBounds_toArray, List.set_cons_zero, List.set_cons_succ])
      refine any_take (i := 1) (v := ?_) rfl (by kernel_rfl) (by kernel_rfl) (by kernel_rfl) (by exact fun _ _ _ h => h) (by rfl) ?_ hS ?_
      rotate_left
      · ((intro w hSw; have k3 := HT.out _ hSw; go_simp) <;> with_reducible rfl)
      (try simp only [Act.put, List.setIfInBounds_toArray, List.set_cons_zero, List.set_cons_succ])
      refine any_take (i := 2) (v := ?_) rfl (by kernel_rfl) (by kernel_rfl) (by kernel_rfl) (by exact fun _ _ _ h => h) (by rfl) ?_ hS ?_
      rotate_left
      · ((intro w hSw; have k3 := HT.out _ hSw; go_simp) <;> with_reducible rfl)
      (try simp only [Act.put, List.setIfInBounds_toArray, List.set_cons_zero, List.set_cons_succ])
      refine any_take (i := 3) (v := ?_) rfl (by kernel_rfl) (by kernel_rfl) (by kernel_rfl) (by exact fun _ _ _ h => h) (by rfl) ?_ hS ?_
      rotate_left
      · ((intro w hSw; have k3 := HT.out _ hSw; go_simp) <;> with_reducible rfl)
      (try simp only [Act.put, List.setIfInBounds_toArray, List.set_cons_zero, List.set_cons_succ])
      refine any_take (i := 4) (v := ?_) rfl (by kernel_rfl) (by kernel_rfl) (by kernel_rfl) (by exact fun _ _ _ h => h) (by rfl) ?_ hS ?_
      rotate_left
      · ((intro w hSw; have k3 := HT.out _ hSw; go_simp) <;> with_reducible rfl)
      (try simp only [Act.put, List.setIfInBounds_toArray, List.set_cons_zero, List.set_cons_succ])
      refine any_take (i := 5) (v := ?_) rfl (by kernel_rfl) (by kernel_rfl) (by kernel_rfl) (by exact fun _ _ _ h => h) (by rfl) ?_ hS ?_
      rotate_left
      · ((intro w hSw; have k3 := HT.out _ hSw; go_simp) <;> with_reducible rfl)
      (try simp only [Act.put, List.setIfInBounds_toArray, List.set_cons_zero, List.set_cons_succ])
      refine any_take (i := 6) (v := ?_) rfl (by kernel_rfl) (by kernel_rfl) (by kernel_rfl) (by exact fun _ _ _ h => h) (by rfl) ?_ hS ?_
      rotate_left
      · ((intro w hSw; have k3 := HT.out _ hSw; go_simp) <;> with_reducible rfl)
      (try simp only [Act.put, List.setIfInBounds_toArray, List.set_cons_zero, List.set_cons_succ])
      have B0 : Blk w1.drew g 54 (rsC m) := H1.out.1.ok.holds.1.laterB (Below.refl _ _).drew
      generalize w1.drew = W0 at *
      have hc := blk_at B0 1
      simp only [rsC, List.getElem?_cons_zero, List.getElem?_cons_succ] at hc
      have hz := blk_frozen B0 1
      refine any_on (i := 7) rfl (by kernel_rfl) (fun K hK => ?_)
      go_simp
      have B1 := B0.set 1 (.int .i64 i)
      simp only [rsC, List.set_cons_zero, List.set_cons_succ] at B1
      clear hc hz
      refine hK.out _ _ (hS.trans ((turned_set _ g 1 _).mono (fun k e => .inl e))) (fun hS => ?_)
      clear hK K
      refine any_take (i := 8) (v := ?_) rfl (by kernel_rfl) (by kernel_rfl) (by kernel_rfl) (by exact fun _ _ _ h => h) (by rfl) ?_ hS ?_
      rotate_left
      · ((intro w hSw; skip; go_simp) <;> with_reducible rfl)
      (try simp only [Act.put, List.setIfInBounds_toArray, List.set_cons_zero, List.set_cons_succ])
      refine any_take (i := 9) (v := ?_) rfl (by kernel_rfl) (by kernel_rfl) (by kernel_rfl) (by exact fun _ _ _ h => h) (by rfl) ?_ hS ?_
      rotate_left
      · ((intro w hSw; skip; go_simp) <;> with_reducible rfl)
      (try simp only [Act.put, List.setIfInBounds_toArray, List.set_cons_zero, List.set_cons_succ])
      have hc := blk_at B1 2
      simp only [rsC, List.getElem?_cons_zero, List.getElem?_cons_succ] at hc
      have hz := blk_frozen B1 2
      refine any_on (i := 10) rfl (by kernel_rfl) (fun K hK => ?_)
      go_simp
      have B2 := B1.set 2 (.int .i64 c.t)
      simp only [rsC, List.set_cons_zero, List.set_cons_succ] at B2
      clear hc hz
      refine hK.out _ _ (hS.trans ((turned_set _ g 2 _).mono (fun k e => .inl e))) (fun hS => ?_)
      clear hK K
      refine wpAnyH_done (by kernel_rfl) ?_ _
      have RTW : RT w _ g (hold m i c.t) := ⟨rv_ok B2 (hold_wf hW i c.t (by omega) hct), H1.out.1.tn.trans (hS.mono (fun k e => .inl e))⟩
      have BW := H1.out.2.2.1.turned hS (by have := H1.out.2.2.2.2; show ¬ w.heap.size + 1 = g; omega)
      clear hS B0 B1 B2 HT HTy
      generalize (W0.setCell ⟨g, 1, none⟩ (.int .i64 i)).setCell ⟨g, 2, none⟩ (.int .i64 c.t) = w2 at *
      have HG : Hid _ := good_any w2
      go_wp2_with fail
      refine (Calls.mono HG.out) ?_
      rintro e w9 ⟨rfl, b9⟩
      have r3' := RTW.later b9
      have B3 := BW.laterB b9
      have hN' : Nts w w9 (.slice none 0 0) [] := Nts.nil _ _
      have han : ∀ b, (Value.slice none 0 0).ownBlock = some b → b ≠ w.heap.size + 1 := fun b hb => by cases hb
      clear HG b9 RTW BW
      have y0 := blk_at B3 0
      have f0 := blk_frozen B3 0
      have y1 := blk_at B3 1
      have f1 := blk_frozen B3 1
      have y2 := blk_at B3 2
      have f2 := blk_frozen B3 2
      have y3 := blk_at B3 3
      have f3 := blk_frozen B3 3
      have y4 := blk_at B3 4
      have f4 := blk_frozen B3 4
      simp only [List.getElem?_cons_zero, List.getElem?_cons_succ] at y0 y1 y2 y3 y4
      have SP := rp5_blk B3 (0) (0) (0) (0)
      have G : Hid _ := And.intro SP.1 (And.intro (r3'.codes SP.2 (by omega) H1.out.2.2.2.2) (hN'.keep SP.2 han))
      unfold rp5 at G
      clear SP B3
      go_wp2
      clear y0 y1 y2 y3 y4 f0 f1 f2 f3 f4
      generalize (((((w9).setCell ⟨w.heap.size + 1, 0, none⟩ (.int .i64 0)).setCell ⟨w.heap.size + 1, 1, none⟩ (.int .i64 0)).setCell ⟨w.heap.size + 1, 2, none⟩ (.int .i64 0)).setCell ⟨w.heap.size + 1, 3, none⟩ (.int .i64 0)).setCell ⟨w.heap.size + 1, 4, none⟩ (.slice none 0 0) = wf at *
      have y0 := blk_at G.out.1 0
      have y1 := blk_at G.out.1 1
      have y2 := blk_at G.out.1 2
      have y3 := blk_at G.out.1 3
      have y4 := blk_at G.out.1 4
      simp only [List.getElem?_cons_zero, List.getElem?_cons_succ] at y0 y1 y2 y3 y4
      refine bodyPost_ret (v := .tuple #[.agg #[.int .i64 0, .int .i64 0, .int .i64 0, .int .i64 0, .slice none 0 0], .slice none 0 0]) (by simp [results, Try.results35, go_sem, y0, y1, y2, y3, y4]) rfl ?_
      exact ⟨_, by rw [HM.out]; rfl, by rw [HM.out]; exact G.out.2.2, by rw [HM.out]; exact G.out.2.1⟩
    · have hk' : (m.k == 0) = false := by rw [beq_eq_false_iff_ne]; exact hk
      cases hho : hoB m i with
      | false =>
        have HM0 : rsvM m i c = ((24, 0, 0, 0), m, []) := by unfold rsvM; rw [hty, if_neg (by decide), if_neg hk, if_neg (by rw [hho]; simp)]
        have HM : Hid _ := HM0
        have bd : Below w1.heap.size w1 w1.drew := (Below.refl _ _).drew
        have RTW := H1.out.1.later bd
        have BW := H1.out.2.2.1.laterB bd
        have HC : Hid (∀ W, Below w1.heap.size w1 W → W.cell? ⟨w.heap.size, 1, none⟩ = some (.int .u64 c.key) ∧ W.cell? ⟨w.heap.size, 3, none⟩ = some (.int .i64 c.t)) := fun W b => ⟨by have := blk_at (H1.out.2.1.laterB b) 1; simpa using this, by have := blk_at (H1.out.2.1.laterB b) 3; simpa using this⟩
        have HY : Hid (∀ W, Below w1.heap.size w1 W → W.cell? ⟨g, 2, none⟩ = some (.int .i64 m.k)) := fun W b => by have := blk_at (H1.out.1.ok.later b).holds.1 2; simpa [rsC] using this
        have HH : Hid (∀ W, Below w1.heap.size w1 W → _) := fun W b => holds_any g m i W (H1.out.1.ok.later b) hi
        clear HM0 bd
        go_wp2_with fail
        refine (Calls.mono HTy.out) ?_
        rintro e _ ⟨rfl, rfl⟩
        clear HTy
        go_upto_region 5 with fail
        clear y2 k0 k1 k2 k3
        rw [hho] at HH
        refine wp_region_held_drew (S := fun W => Below w1.heap.size w1 W) (by kernel_rfl) ((Below.refl _ _).drew) (fun hS => ?_)
        refine any_take (i := 0) (v := ?_) rfl (by kernel_rfl) (by kernel_rfl) (by kernel_rfl) (by exact fun _ _ _ h => h) (by rfl) ?_ hS ?_
        rotate_left
        · ((intro w hSw; skip; go_simp) <;> with_reducible rfl)
        (try simp only [Act.put, List.setIfInBounds_toArray, List.set_cons_zero, List.set_cons_succ])
        refine any_take (i := 1) (v := ?_) rfl (by kernel_rfl) (by kernel_rfl) (by kernel_rfl) (by exact fun _ _ _ h => h) (by rfl) ?_ hS ?_
        rotate_left
        · ((intro w hSw; skip; go_simp) <;> with_reducible rfl)
        (try simp only [Act.put, List.setIfInBounds_toArray, List.set_cons_zero, List.set_cons_succ])
        refine any_one (i := 2) rfl (by kernel_rfl) (fun K hK => ?_)
        go_simp
        refine (Calls.mono (HH.out _ hS)) ?_
        rintro e _ ⟨rfl, rfl⟩
        go_wp2_with fail
        refine hK.out _ _ hS ?_
        clear hK K
        refine any_take (i := 3) (v := ?_) rfl (by kernel_rfl) (by kernel_rfl) (by kernel_rfl) (by exact fun _ _ _ h => h) (by rfl) ?_ hS ?_
        rotate_left
        · ((intro w hSw; skip; go_simp) <;> with_reducible rfl)
        (try simp only [Act.put, List.setIfInBounds_toArray, List.set_cons_zero, List.set_cons_succ])
        refine any_take (i := 4) (v := ?_) rfl (by kernel_rfl) (by kernel_rfl) (by kernel_rfl) (by exact fun _ _ _ h => h) (by rfl) ?_ hS ?_
        rotate_left
        · ((intro w hSw; skip; go_simp) <;> with_reducible rfl)
        (try simp only [Act.put, List.setIfInBounds_toArray, List.set_cons_zero, List.set_cons_succ])
        refine any_skip (i := 5) rfl (by kernel_rfl) (by kernel_rfl) (by kernel_rfl) (by exact fun _ _ _ h => h) (by rfl) hS ?_
        (try simp only [Act.put, List.setIfInBounds_toArray, List.set_cons_zero, List.set_cons_succ])
        refine any_skip (i := 6) rfl (by kernel_rfl) (by kernel_rfl) (by kernel_rfl) (by exact fun _ _ _ h => h) (by rfl) hS ?_
        (try simp only [Act.put, List.setIfInBounds_toArray, List.set_cons_zero, List.set_cons_succ])
        refine any_skip (i := 7) rfl (by kernel_rfl) (by kernel_rfl) (by kernel_rfl) (by exact fun _ _ _ h => h) (by rfl) hS ?_
        (try simp only [Act.put, List.setIfInBounds_toArray, List.set_cons_zero, List.set_cons_succ])
        refine any_skip (i := 8) rfl (by kernel_rfl) (by kernel_rfl) (by kernel_rfl) (by exact fun _ _ _ h => h) (by rfl) hS ?_
        (try simp only [Act.put, List.setIfInBounds_toArray, List.set_cons_zero, List.set_cons_succ])
        refine any_skip (i := 9) rfl (by kernel_rfl) (by kernel_rfl) (by kernel_rfl) (by exact fun _ _ _ h => h) (by rfl) hS ?_
        (try simp only [Act.put, List.setIfInBounds_toArray, List.set_cons_zero, List.set_cons_succ])
        refine any_skip (i := 10) rfl (by kernel_rfl) (by kernel_rfl) (by kernel_rfl) (by exact fun _ _ _ h => h) (by rfl) hS ?_
        (try simp only [Act.put, List.setIfInBounds_toArray, List.set_cons_zero, List.set_cons_succ])
        refine any_skip (i := 11) rfl (by kernel_rfl) (by kernel_rfl) (by kernel_rfl) (by exact fun _ _ _ h => h) (by rfl) hS ?_
        (try simp only [Act.put, List.setIfInBounds_toArray, List.set_cons_zero, List.set_cons_succ])
        refine any_take (i := 12) (v := ?_) rfl (by kernel_rfl) (by kernel_rfl) (by kernel_rfl) (by exact fun _ _ _ h => h) (by rfl) ?_ hS ?_
        rotate_left
        · ((intro w hSw; skip; go_simp) <;> with_reducible rfl)
        (try simp only [Act.put, List.setIfInBounds_toArray, List.set_cons_zero, List.set_cons_succ])
        refine any_take (i := 13) (v := ?_) rfl (by kernel_rfl) (by kernel_rfl) (by kernel_rfl) (by exact fun _ _ _ h => h) (by rfl) ?_ hS ?_
        rotate_left
        · ((intro w hSw; skip; go_simp) <;> with_reducible rfl)
        (try simp only [Act.put, List.setIfInBounds_toArray, List.set_cons_zero, List.set_cons_succ])
        refine wpAnyH_done (by kernel_rfl) ?_ _
        clear hS
        generalize w1.drew = w2 at *
        have HG : Hid _ := conflict_any w2
        go_wp2_with fail
        refine (Calls.mono HG.out) ?_
        rintro e w9 ⟨rfl, b9⟩
        have r3' := RTW.later b9
        have B3 := BW.laterB b9
        have hN' : Nts w w9 (.slice none 0 0) [] := Nts.nil _ _
        have han : ∀ b, (Value.slice none 0 0).ownBlock = some b → b ≠ w.heap.size + 1 := fun b hb => by cases hb
        clear HG b9 RTW BW
        have y0 := blk_at B3 0
        have f0 := blk_frozen B3 0
        have y1 := blk_at B3 1
        have f1 := blk_frozen B3 1
        have y2 := blk_at B3 2
        have f2 := blk_frozen B3 2
        have y3 := blk_at B3 3
        have f3 := blk_frozen B3 3
        have y4 := blk_at B3 4
        have f4 := blk_frozen B3 4
        simp only [List.getElem?_cons_zero, List.getElem?_cons_succ] at y0 y1 y2 y3 y4
        have SP := rp5_blk B3 (24) (0) (0) (0)
        have G : Hid _ := And.intro SP.1 (And.intro (r3'.codes SP.2 (by omega) H1.out.2.2.2.2) (hN'.keep SP.2 han))
        unfold rp5 at G
        clear SP B3
        go_wp2
        clear y0 y1 y2 y3 y4 f0 f1 f2 f3 f4
        generalize (((((w9).setCell ⟨w.heap.size + 1, 0, none⟩ (.int .i64 24)).setCell ⟨w.heap.size + 1, 1, none⟩ (.int .i64 0)).setCell ⟨w.heap.size + 1, 2, none⟩ (.int .i64 0)).setCell ⟨w.heap.size + 1, 3, none⟩ (.int .i64 0)).setCell ⟨w.heap.size + 1, 4, none⟩ (.slice none 0 0) = wf at *
        have y0 := blk_at G.out.1 0
        have y1 := blk_at G.out.1 1
        have y2 := blk_at G.out.1 2
        have y3 := blk_at G.out.1 3
        have y4 := blk_at G.out.1 4
        simp only [List.getElem?_cons_zero, List.getElem?_cons_succ] at y0 y1 y2 y3 y4
        refine bodyPost_ret (v := .tuple #[.agg #[.int .i64 24, .int .i64 0, .int .i64 0, .int .i64 0, .slice none 0 0], .slice none 0 0]) (by simp [results, Try.results35, go_sem, y0, y1, y2, y3, y4]) rfl ?_
        exact ⟨_, by rw [HM.out]; rfl, by rw [HM.out]; exact G.out.2.2, by rw [HM.out]; exact G.out.2.1⟩
      | true =>
        by_cases hkt : m.k = c.t
        · have HM0 : rsvM m i c = ((0, 0, 0, 0), m, []) := by unfold rsvM; rw [hty, if_neg (by decide), if_neg hk, if_pos ⟨hho, hkt⟩]
          have hne : (m.k != c.t) = false := by rw [bne_eq_false_iff_eq]; exact hkt
          have HM : Hid _ := HM0
          have bd : Below w1.heap.size w1 w1.drew := (Below.refl _ _).drew
          have RTW := H1.out.1.later bd
          have BW := H1.out.2.2.1.laterB bd
          have HC : Hid (∀ W, Below w1.heap.size w1 W → W.cell? ⟨w.heap.size, 1, none⟩ = some (.int .u64 c.key) ∧ W.cell? ⟨w.heap.size, 3, none⟩ = some (.int .i64 c.t)) := fun W b => ⟨by have := blk_at (H1.out.2.1.laterB b) 1; simpa using this, by have := blk_at (H1.out.2.1.laterB b) 3; simpa using this⟩
          have HY : Hid (∀ W, Below w1.heap.size w1 W → W.cell? ⟨g, 2, none⟩ = some (.int .i64 m.k)) := fun W b => by have := blk_at (H1.out.1.ok.later b).holds.1 2; simpa [rsC] using this
          have HH : Hid (∀ W, Below w1.heap.size w1 W → _) := fun W b => holds_any g m i W (H1.out.1.ok.later b) hi
          clear HM0 bd
          go_wp2_with fail
          refine (Calls.mono HTy.out) ?_
          rintro e _ ⟨rfl, rfl⟩
          clear HTy
          go_upto_region 5 with fail
          clear y2 k0 k1 k2 k3
          rw [hho] at HH
          refine wp_region_held_drew (S := fun W => Below w1.heap.size w1 W) (by kernel_rfl) ((Below.refl _ _).drew) (fun hS => ?_)
          refine any_take (i := 0) (v := ?_) rfl (by kernel_rfl) (by kernel_rfl) (by kernel_rfl) (by exact fun _ _ _ h => h) (by rfl) ?_ hS ?_
          rotate_left
          · ((intro w hSw; skip; go_simp) <;> with_reducible rfl)
          (try simp only [Act.put, List.setIfInBounds_toArray, List.set_cons_zero, List.set_cons_succ])
          refine any_take (i := 1) (v := ?_) rfl (by kernel_rfl) (by kernel_rfl) (by kernel_rfl) (by exact fun _ _ _ h => h) (by rfl) ?_ hS ?_
          rotate_left
          · ((intro w hSw; skip; go_simp) <;> with_reducible rfl)
          (try simp only [Act.put, List.setIfInBounds_toArray, List.set_cons_zero, List.set_cons_succ])
          refine any_one (i := 2) rfl (by kernel_rfl) (fun K hK => ?_)
          go_simp
          refine (Calls.mono (HH.out _ hS)) ?_
          rintro e _ ⟨rfl, rfl⟩
          go_wp2_with fail
          refine hK.out _ _ hS ?_
          clear hK K
          refine any_take (i := 3) (v := ?_) rfl (by kernel_rfl) (by kernel_rfl) (by kernel_rfl) (by exact fun _ _ _ h => h) (by rfl) ?_ hS ?_
          rotate_left
          · ((intro w hSw; skip; go_simp) <;> with_reducible rfl)
          (try simp only [Act.put, List.setIfInBounds_toArray, List.set_cons_zero, List.set_cons_succ])
          refine any_take (i := 4) (v := ?_) rfl (by kernel_rfl) (by kernel_rfl) (by kernel_rfl) (by exact fun _ _ _ h => h) (by rfl) ?_ hS ?_
          rotate_left
          · ((intro w hSw; skip; go_simp) <;> with_reducible rfl)
          (try simp only [Act.put, List.setIfInBounds_toArray, List.set_cons_zero, List.set_cons_succ])
          refine any_take (i := 5) (v := ?_) rfl (by kernel_rfl) (by kernel_rfl) (by kernel_rfl) (by exact fun _ _ _ h => h) (by rfl) ?_ hS ?_
          rotate_left
          · ((intro w hSw; have y2 := HY.out _ hSw; obtain ⟨k1, k3⟩ := HC.out _ hSw; go_simp) <;> with_reducible rfl)
          (try simp only [Act.put, List.setIfInBounds_toArray, List.set_cons_zero, List.set_cons_succ])
          refine any_take (i := 6) (v := ?_) rfl (by kernel_rfl) (by kernel_rfl) (by kernel_rfl) (by exact fun _ _ _ h => h) (by rfl) ?_ hS ?_
          rotate_left
          · ((intro w hSw; have y2 := HY.out _ hSw; obtain ⟨k1, k3⟩ := HC.out _ hSw; go_simp) <;> with_reducible rfl)
          (try simp only [Act.put, List.setIfInBounds_toArray, List.set_cons_zero, List.set_cons_succ])
          refine any_take (i := 7) (v := ?_) rfl (by kernel_rfl) (by kernel_rfl) (by kernel_rfl) (by exact fun _ _ _ h => h) (by rfl) ?_ hS ?_
          rotate_left
          · ((intro w hSw; have y2 := HY.out _ hSw; obtain ⟨k1, k3⟩ := HC.out _ hSw; go_simp) <;> with_reducible rfl)
          (try simp only [Act.put, List.setIfInBounds_toArray, List.set_cons_zero, List.set_cons_succ])
          refine any_take (i := 8) (v := ?_) rfl (by kernel_rfl) (by kernel_rfl) (by kernel_rfl) (by exact fun _ _ _ h => h) (by rfl) ?_ hS ?_
          rotate_left
          · ((intro w hSw; have y2 := HY.out _ hSw; obtain ⟨k1, k3⟩ := HC.out _ hSw; go_simp) <;> with_reducible rfl)
          (try simp only [Act.put, List.setIfInBounds_toArray, List.set_cons_zero, List.set_cons_succ])
          refine any_take (i := 9) (v := ?_) rfl (by kernel_rfl) (by kernel_rfl) (by kernel_rfl) (by exact fun _ _ _ h => h) (by rfl) ?_ hS ?_
          rotate_left
          · ((intro w hSw; have y2 := HY.out _ hSw; obtain ⟨k1, k3⟩ := HC.out _ hSw; go_simp) <;> with_reducible rfl)
          (try simp only [Act.put, List.setIfInBounds_toArray, List.set_cons_zero, List.set_cons_succ])
          refine any_take (i := 10) (v := ?_) rfl (by kernel_rfl) (by kernel_rfl) (by kernel_rfl) (by exact fun _ _ _ h => h) (by rfl) ?_ hS ?_
          rotate_left
          · ((intro w hSw; have y2 := HY.out _ hSw; obtain ⟨k1, k3⟩ := HC.out _ hSw; go_simp) <;> with_reducible rfl)
          (try simp only [Act.put, List.setIfInBounds_toArray, List.set_cons_zero, List.set_cons_succ])
          refine any_take (i := 11) (v := ?_) rfl (by kernel_rfl) (by kernel_rfl) (by kernel_rfl) (by exact fun _ _ _ h => h) (by rfl) ?_ hS ?_
          rotate_left
          · ((intro w hSw; have y2 := HY.out _ hSw; obtain ⟨k1, k3⟩ := HC.out _ hSw; go_simp) <;> with_reducible rfl)
          (try simp only [Act.put, List.setIfInBounds_toArray, List.set_cons_zero, List.set_cons_succ])
          refine any_take (i := 12) (v := ?_) rfl (by kernel_rfl) (by kernel_rfl) (by kernel_rfl) (by exact fun _ _ _ h => h) (by rfl) ?_ hS ?_
          rotate_left
          · ((intro w hSw; skip; go_simp) <;> with_reducible rfl)
          (try simp only [Act.put, List.setIfInBounds_toArray, List.set_cons_zero, List.set_cons_succ])
          refine any_take (i := 13) (v := ?_) rfl (by kernel_rfl) (by kernel_rfl) (by kernel_rfl) (by exact fun _ _ _ h => h) (by rfl) ?_ hS ?_
          rotate_left
          · ((intro w hSw; skip; go_simp) <;> with_reducible rfl)
          (try simp only [Act.put, List.setIfInBounds_toArray, List.set_cons_zero, List.set_cons_succ])
          refine wpAnyH_done (by kernel_rfl) ?_ _
          clear hS
          generalize w1.drew = w2 at *
          (try rw [hne])
          have HG : Hid _ := good_any w2
          go_wp2_with fail
          refine (Calls.mono HG.out) ?_
          rintro e w9 ⟨rfl, b9⟩
          have r3' := RTW.later b9
          have B3 := BW.laterB b9
          have hN' : Nts w w9 (.slice none 0 0) [] := Nts.nil _ _
          have han : ∀ b, (Value.slice none 0 0).ownBlock = some b → b ≠ w.heap.size + 1 := fun b hb => by cases hb
          clear HG b9 RTW BW
          have y0 := blk_at B3 0
          have f0 := blk_frozen B3 0
          have y1 := blk_at B3 1
          have f1 := blk_frozen B3 1
          have y2 := blk_at B3 2
          have f2 := blk_frozen B3 2
          have y3 := blk_at B3 3
          have f3 := blk_frozen B3 3
          have y4 := blk_at B3 4
          have f4 := blk_frozen B3 4
          simp only [List.getElem?_cons_zero, List.getElem?_cons_succ] at y0 y1 y2 y3 y4
          have SP := rp5_blk B3 (0) (0) (0) (0)
          have G : Hid _ := And.intro SP.1 (And.intro (r3'.codes SP.2 (by omega) H1.out.2.2.2.2) (hN'.keep SP.2 han))
          unfold rp5 at G
          clear SP B3
          go_wp2
          clear y0 y1 y2 y3 y4 f0 f1 f2 f3 f4
          generalize (((((w9).setCell ⟨w.heap.size + 1, 0, none⟩ (.int .i64 0)).setCell ⟨w.heap.size + 1, 1, none⟩ (.int .i64 0)).setCell ⟨w.heap.size + 1, 2, none⟩ (.int .i64 0)).setCell ⟨w.heap.size + 1, 3, none⟩ (.int .i64 0)).setCell ⟨w.heap.size + 1, 4, none⟩ (.slice none 0 0) = wf at *
          have y0 := blk_at G.out.1 0
          have y1 := blk_at G.out.1 1
          have y2 := blk_at G.out.1 2
          have y3 := blk_at G.out.1 3
          have y4 := blk_at G.out.1 4
          simp only [List.getElem?_cons_zero, List.getElem?_cons_succ] at y0 y1 y2 y3 y4
          refine bodyPost_ret (v := .tuple #[.agg #[.int .i64 0, .int .i64 0, .int .i64 0, .int .i64 0, .slice none 0 0], .slice none 0 0]) (by simp [results, Try.results35, go_sem, y0, y1, y2, y3, y4]) rfl ?_
          exact ⟨_, by rw [HM.out]; rfl, by rw [HM.out]; exact G.out.2.2, by rw [HM.out]; exact G.out.2.1⟩
        · have HM0 : rsvM m i c = ((24, 0, 0, 0), m, []) := by unfold rsvM; rw [hty, if_neg (by decide), if_neg hk, if_neg (fun h => hkt h.2)]
          have hne : (m.k != c.t) = true := by rw [bne_iff_ne]; exact hkt
          have HM : Hid _ := HM0
          have bd : Below w1.heap.size w1 w1.drew := (Below.refl _ _).drew
          have RTW := H1.out.1.later bd
          have BW := H1.out.2.2.1.laterB bd
          have HC : Hid (∀ W, Below w1.heap.size w1 W → W.cell? ⟨w.heap.size, 1, none⟩ = some (.int .u64 c.key) ∧ W.cell? ⟨w.heap.size, 3, none⟩ = some (.int .i64 c.t)) := fun W b => ⟨by have := blk_at (H1.out.2.1.laterB b) 1; simpa using this, by have := blk_at (H1.out.2.1.laterB b) 3; simpa using this⟩
          have HY : Hid (∀ W, Below w1.heap.size w1 W → W.cell? ⟨g, 2, none⟩ = some (.int .i64 m.k)) := fun W b => by have := blk_at (H1.out.1.ok.later b).holds.1 2; simpa [rsC] using this
          have HH : Hid (∀ W, Below w1.heap.size w1 W → _) := fun W b => holds_any g m i W (H1.out.1.ok.later b) hi
          clear HM0 bd
          go_wp2_with fail
          refine (Calls.mono HTy.out) ?_
          rintro e _ ⟨rfl, rfl⟩
          clear HTy
          go_upto_region 5 with fail
          clear y2 k0 k1 k2 k3
          rw [hho] at HH
          refine wp_region_held_drew (S := fun W => Below w1.heap.size w1 W) (by kernel_rfl) ((Below.refl _ _).drew) (fun hS => ?_)
          refine any_take (i := 0) (v := ?_) rfl (by kernel_rfl) (by kernel_rfl) (by kernel_rfl) (by exact fun _ _ _ h => h) (by rfl) ?_ hS ?_
          rotate_left
          · ((intro w hSw; skip; go_simp) <;> with_reducible rfl)
          (try simp only [Act.put, List.setIfInBounds_toArray, List.set_cons_zero, List.set_cons_succ])
          refine any_take (i := 1) (v := ?_) rfl (by kernel_rfl) (by kernel_rfl) (by kernel_rfl) (by exact fun _ _ _ h => h) (by rfl) ?_ hS ?_
          rotate_left
          · ((intro w hSw; skip; go_simp) <;> with_reducible rfl)
          (try simp only [Act.put, List.setIfInBounds_toArray, List.set_cons_zero, List.set_cons_succ])
          refine any_one (i := 2) rfl (by kernel_rfl) (fun K hK => ?_)
          go_simp
          refine (Calls.mono (HH.out _ hS)) ?_
          rintro e _ ⟨rfl, rfl⟩
          go_wp2_with fail
          refine hK.out _ _ hS ?_
          clear hK K
          refine any_take (i := 3) (v := ?_) rfl (by kernel_rfl) (by kernel_rfl) (by kernel_rfl) (by exact fun _ _ _ h => h) (by rfl) ?_ hS ?_
          rotate_left
          · ((intro w hSw; skip; go_simp) <;> with_reducible rfl)
          (try simp only [Act.put, List.setIfInBounds_toArray, List.set_cons_zero, List.set_cons_succ])
          refine any_take (i := 4) (v := ?_) rfl (by kernel_rfl) (by kernel_rfl) (by kernel_rfl) (by exact fun _ _ _ h => h) (by rfl) ?_ hS ?_
          rotate_left
          · ((intro w hSw; skip; go_simp) <;> with_reducible rfl)
          (try simp only [Act.put, List.setIfInBounds_toArray, List.set_cons_zero, List.set_cons_succ])
          refine any_take (i := 5) (v := ?_) rfl (by kernel_rfl) (by kernel_rfl) (by kernel_rfl) (by exact fun _ _ _ h => h) (by rfl) ?_ hS ?_
          rotate_left
          · ((intro w hSw; have y2 := HY.out _ hSw; obtain ⟨k1, k3⟩ := HC.out _ hSw; go_simp) <;> with_reducible rfl)
          (try simp only [Act.put, List.setIfInBounds_toArray, List.set_cons_zero, List.set_cons_succ])
          refine any_take (i := 6) (v := ?_) rfl (by kernel_rfl) (by kernel_rfl) (by kernel_rfl) (by exact fun _ _ _ h => h) (by rfl) ?_ hS ?_
          rotate_left
          · ((intro w hSw; have y2 := HY.out _ hSw; obtain ⟨k1, k3⟩ := HC.out _ hSw; go_simp) <;> with_reducible rfl)
          (try simp only [Act.put, List.setIfInBounds_toArray, List.set_cons_zero, List.set_cons_succ])
          refine any_take (i := 7) (v := ?_) rfl (by kernel_rfl) (by kernel_rfl) (by kernel_rfl) (by exact fun _ _ _ h => h) (by rfl) ?_ hS ?_
          rotate_left
          · ((intro w hSw; have y2 := HY.out _ hSw; obtain ⟨k1, k3⟩ := HC.out _ hSw; go_simp) <;> with_reducible rfl)
          (try simp only [Act.put, List.setIfInBounds_toArray, List.set_cons_zero, List.set_cons_succ])
          refine any_take (i := 8) (v := ?_) rfl (by kernel_rfl) (by kernel_rfl) (by kernel_rfl) (by exact fun _ _ _ h => h) (by rfl) ?_ hS ?_
          rotate_left
          · ((intro w hSw; have y2 := HY.out _ hSw; obtain ⟨k1, k3⟩ := HC.out _ hSw; go_simp) <;> with_reducible rfl)
          (try simp only [Act.put, List.setIfInBounds_toArray, List.set_cons_zero, List.set_cons_succ])
          refine any_take (i := 9) (v := ?_) rfl (by kernel_rfl) (by kernel_rfl) (by kernel_rfl) (by exact fun _ _ _ h => h) (by rfl) ?_ hS ?_
          rotate_left
          · ((intro w hSw; have y2 := HY.out _ hSw; obtain ⟨k1, k3⟩ := HC.out _ hSw; go_simp) <;> with_reducible rfl)
          (try simp only [Act.put, List.setIfInBounds_toArray, List.set_cons_zero, List.set_cons_succ])
          refine any_take (i := 10) (v := ?_) rfl (by kernel_rfl) (by kernel_rfl) (by kernel_rfl) (by exact fun _ _ _ h => h) (by rfl) ?_ hS ?_
          rotate_left
          · ((intro w hSw; have y2 := HY.out _ hSw; obtain ⟨k1, k3⟩ := HC.out _ hSw; go_simp) <;> with_reducible rfl)
          (try simp only [Act.put, List.setIfInBounds_toArray, List.set_cons_zero, List.set_cons_succ])
          refine any_take (i := 11) (v := ?_) rfl (by kernel_rfl) (by kernel_rfl) (by kernel_rfl) (by exact fun _ _ _ h => h) (by rfl) ?_ hS ?_
          rotate_left
          · ((intro w hSw; have y2 := HY.out _ hSw; obtain ⟨k1, k3⟩ := HC.out _ hSw; go_simp) <;> with_reducible rfl)
          (try simp only [Act.put, List.setIfInBounds_toArray, List.set_cons_zero, List.set_cons_succ])
          refine any_take (i := 12) (v := ?_) rfl (by kernel_rfl) (by kernel_rfl) (by kernel_rfl) (by exact fun _ _ _ h => h) (by rfl) ?_ hS ?_
          rotate_left
          · ((intro w hSw; skip; go_simp) <;> with_reducible rfl)
          (try simp only [Act.put, List.setIfInBounds_toArray, List.set_cons_zero, List.set_cons_succ])
          refine any_take (i := 13) (v := ?_) rfl (by kernel_rfl) (by kernel_rfl) (by kernel_rfl) (by exact fun _ _ _ h => h) (by rfl) ?_ hS ?_
          rotate_left
          · ((intro w hSw; skip; go_simp) <;> with_reducible rfl)
          (try simp only [Act.put, List.setIfInBounds_toArray, List.set_cons_zero, List.set_cons_succ])
          refine wpAnyH_done (by kernel_rfl) ?_ _
          clear hS
          generalize w1.drew = w2 at *
          (try rw [hne])
          have HG : Hid _ := conflict_any w2
          go_wp2_with fail
          refine (Calls.mono HG.out) ?_
          rintro e w9 ⟨rfl, b9⟩
          have r3' := RTW.later b9
          have B3 := BW.laterB b9
          have hN' : Nts w w9 (.slice none 0 0) [] := Nts.nil _ _
          have han : ∀ b, (Value.slice none 0 0).ownBlock = some b → b ≠ w.heap.size + 1 := fun b hb => by cases hb
          clear HG b9 RTW BW
          have y0 := blk_at B3 0
          have f0 := blk_frozen B3 0
          have y1 := blk_at B3 1
          have f1 := blk_frozen B3 1
          have y2 := blk_at B3 2
          have f2 := blk_frozen B3 2
          have y3 := blk_at B3 3
          have f3 := blk_frozen B3 3
          have y4 := blk_at B3 4
          have f4 := blk_frozen B3 4
          simp only [List.getElem?_cons_zero, List.getElem?_cons_succ] at y0 y1 y2 y3 y4
          have SP := rp5_blk B3 (24) (0) (0) (0)
          have G : Hid _ := And.intro SP.1 (And.intro (r3'.codes SP.2 (by omega) H1.out.2.2.2.2) (hN'.keep SP.2 han))
          unfold rp5 at G
          clear SP B3
          go_wp2
          clear y0 y1 y2 y3 y4 f0 f1 f2 f3 f4
          generalize (((((w9).setCell ⟨w.heap.size + 1, 0, none⟩ (.int .i64 24)).setCell ⟨w.heap.size + 1, 1, none⟩ (.int .i64 0)).setCell ⟨w.heap.size + 1, 2, none⟩ (.int .i64 0)).setCell ⟨w.heap.size + 1, 3, none⟩ (.int .i64 0)).setCell ⟨w.heap.size + 1, 4, none⟩ (.slice none 0 0) = wf at *
          have y0 := blk_at G.out.1 0
          have y1 := blk_at G.out.1 1
          have y2 := blk_at G.out.1 2
          have y3 := blk_at G.out.1 3
          have y4 := blk_at G.out.1 4
          simp only [List.getElem?_cons_zero, List.getElem?_cons_succ] at y0 y1 y2 y3 y4
          refine bodyPost_ret (v := .tuple #[.agg #[.int .i64 24, .int .i64 0, .int .i64 0, .int .i64 0, .slice none 0 0], .slice none 0 0]) (by simp [results, Try.results35, go_sem, y0, y1, y2, y3, y4]) rfl ?_
          exact ⟨_, by rw [HM.out]; rfl, by rw [HM.out]; exact G.out.2.2, by rw [HM.out]; exact G.out.2.1⟩
end Go.Proofs.Ytlopkfenbeahgaa

/- The calls that only tell. -/
namespace Go.Proofs.Ytlopkfenbeahgaa
open Go.RowKit Go.Shelf
set_option linter.unusedVariables false
set_option linter.unusedSimpArgs false
set_option maxRecDepth 4000

def keyM (m : Rs) (n : Int) : Int := if nxB n = true then m.ks.getD n.toNat 0 else 0
def fenM (m : Rs) (n : Int) : Bool := if nxB n = true then m.f.getD n.toNat false else false
theorem keyM_any (g : Nat) (m : Rs) (n : Int) (w : World) (h : (rv g m).Ok w) : Calls Try.prog 12 #[.pointer (some ⟨g, 0, none⟩), .int .i64 n] w fun e w' => e = .returned (.int .u64 (keyM m n)) ∧ w = w' := by
  obtain ⟨hB, hW⟩ := h.holds
  have HN : Hid _ := isNx_any n w
  cases hn : nxB n with
  | false =>
    rw [hn] at HN
    have H0 : keyM m n = 0 := by unfold keyM; rw [hn]; rfl
    have H : Hid _ := H0
    clear H0 h hB hW
    go_enter Try.func12, Try.ntmps12
    go_wp2_with fail
    refine (Calls.mono HN.out) ?_
    rintro e _ ⟨rfl, rfl⟩
    go_wp2
    go_ret
    exact ⟨by rw [H.out]; rfl, rfl⟩
  | true =>
    rw [hn] at HN
    have hn' : 0 ≤ n ∧ n < 16 := of_decide_eq_true hn
    obtain ⟨i, rfl⟩ : ∃ i : Nat, n = i := ⟨n.toNat, by omega⟩
    have q : (i : Int) < 16 := by omega
    have c := hW.key hB i (by omega)
    have H0 : keyM m i = m.ks.getD i 0 := by unfold keyM; rw [hn, Int.toNat_natCast]; rfl
    have H : Hid _ := H0
    clear H0 h hB hW
    rw [← H.out] at c
    generalize keyM m i = x at *
    go_enter Try.func12, Try.ntmps12
    go_wp2_with fail
    refine (Calls.mono HN.out) ?_
    rintro e _ ⟨rfl, rfl⟩
    go_wp2
    go_ret
    exact ⟨rfl, rfl⟩
theorem fenM_any (g : Nat) (m : Rs) (n : Int) (w : World) (h : (rv g m).Ok w) : Calls Try.prog 26 #[.pointer (some ⟨g, 0, none⟩), .int .i64 n] w fun e w' => e = .returned (.bool (fenM m n)) ∧ w = w' := by
  obtain ⟨hB, hW⟩ := h.holds
  have HN : Hid _ := isNx_any n w
  cases hn : nxB n with
  | false =>
    rw [hn] at HN
    have H0 : fenM m n = false := by unfold fenM; rw [hn]; rfl
    have H : Hid _ := H0
    clear H0 h hB hW
    go_enter Try.func26, Try.ntmps26
    go_wp2_with fail
    refine (Calls.mono HN.out) ?_
    rintro e _ ⟨rfl, rfl⟩
    go_wp2
    go_ret
    exact ⟨by rw [H.out]; rfl, rfl⟩
  | true =>
    rw [hn] at HN
    have hn' : 0 ≤ n ∧ n < 16 := of_decide_eq_true hn
    obtain ⟨i, rfl⟩ : ∃ i : Nat, n = i := ⟨n.toNat, by omega⟩
    have q : (i : Int) < 16 := by omega
    have c := hW.flag hB i (by omega)
    have H0 : fenM m i = m.f.getD i false := by unfold fenM; rw [hn, Int.toNat_natCast]; rfl
    have H : Hid _ := H0
    clear H0 h hB hW
    rw [← H.out] at c
    generalize fenM m i = x at *
    go_enter Try.func26, Try.ntmps26
    go_wp2_with fail
    refine (Calls.mono HN.out) ?_
    rintro e _ ⟨rfl, rfl⟩
    go_wp2
    go_ret
    exact ⟨rfl, rfl⟩
theorem gen_any (g : Nat) (m : Rs) (w : World) (h : (rv g m).Ok w) : Calls Try.prog 11 #[.pointer (some ⟨g, 0, none⟩)] w fun e w' => e = .returned (.int .i64 m.gen) ∧ w = w' := by
  obtain ⟨hB, hW⟩ := h.holds
  have y0 := blk_at hB 0
  simp only [rsC, List.getElem?_cons_zero, List.getElem?_cons_succ] at y0
  have hg := hW.gg
  clear h hB hW
  generalize m.gen = x at *
  go_enter Try.func11, Try.ntmps11
  go_wp2
  go_ret
  exact ⟨by go_num, rfl⟩
def holM (m : Rs) : Int × Int := if m.k = 0 then (-1, 0) else (m.h, m.k)
theorem holder_any (g : Nat) (m : Rs) (w : World) (h : (rv g m).Ok w) : Calls Try.prog 14 #[.pointer (some ⟨g, 0, none⟩)] w fun e w' => e = .returned (.tuple #[.int .i64 (holM m).1, .int .i64 (holM m).2]) ∧ Below w.heap.size w w' := by
  obtain ⟨hB, hW⟩ := h.holds
  have y1 := blk_at hB 1
  have y2 := blk_at hB 2
  simp only [rsC, List.getElem?_cons_zero, List.getElem?_cons_succ] at y1 y2
  clear h hB hW
  by_cases hk : m.k = 0
  · have H0 : holM m = (-1, 0) := by unfold holM; rw [if_pos hk]
    have H : Hid _ := H0
    rw [hk] at y2
    clear H0
    go_enter Try.func14, Try.ntmps14
    go_wp2
    go_ret2
    exact ⟨by rw [H.out]; rfl, Below.refl _ _⟩
  · have H0 : holM m = (m.h, m.k) := by unfold holM; rw [if_neg hk]
    have H : Hid _ := H0
    have hk' : (m.k == 0) = false := by rw [beq_eq_false_iff_ne]; exact hk
    clear H0
    generalize m.k = k at *
    generalize m.h = hh at *
    go_enter Try.func14, Try.ntmps14
    go_wp2_with fail
    go_quiet (fail)
    go_wp2
    go_ret2
    exact ⟨by rw [H.out]; rfl, dnr _ _ _⟩
theorem rnew_any (w : World) : Calls Try.prog 5 #[] w fun e w' => e = .returned (.pointer (some ⟨w.heap.size, 0, none⟩)) ∧ (rv w.heap.size ⟨0, 0, 0, List.replicate 16 false, z16⟩).Ok w' ∧ Below w.heap.size w w' := by
  have b1 : Below w.heap.size w (w.alloc (.cells (rsC ⟨0, 0, 0, List.replicate 16 false, z16⟩).toArray 54)) := (Below.refl _ _).alloc (Nat.le_refl _) _
  have B1 := Blk.new' w 54 (rsC ⟨0, 0, 0, List.replicate 16 false, z16⟩)
  have F : Hid _ := And.intro (rv_ok B1 ⟨rfl, rfl, by decide, by decide, by decide, fun i => by
    show 0 ≤ z16.getD i 0 ∧ z16.getD i 0 < _
    rcases Nat.lt_or_ge i 16 with h | h
    · have : ∀ j : Fin 16, z16.getD j.val 0 = 0 := by decide
      rw [this ⟨i, h⟩]; omega
    · rw [List.getD, List.getElem?_eq_none (by simpa [z16] using h)]; simp⟩) b1
  clear b1 B1
  go_enter Try.func5, Try.ntmps5
  go_wp2
  go_ret
  exact ⟨rfl, F.out.1, F.out.2⟩
end Go.Proofs.Ytlopkfenbeahgaa
