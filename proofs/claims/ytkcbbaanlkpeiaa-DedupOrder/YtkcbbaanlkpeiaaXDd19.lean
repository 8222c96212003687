/- An answer put amid others: slices.Insert. -/
import Derived.Test.YtkcbbaanlkpeiaaXDd16
import Derived.Lib.Overlaps
import Derived.Lib.AppendZeros
import Derived.Lib.AppendZerosOnto
import Derived.Laws.Externs
import Derived.Laws.NewBlocks
namespace Go.Proofs.Ytkcbbaanlkpeiaa
open Go.RowKit
set_option linter.unusedVariables false
set_option linter.unusedSimpArgs false
set_option maxRecDepth 4000

theorem acells_take (l : List An) (i : Nat) : (acells l).take (i * 3) = acells (l.take i) := by
  induction l generalizing i with
  | nil => simp [acells]
  | cons h l ih =>
    cases i with
    | zero => simp [acells]
    | succ i =>
      have := ih i
      unfold acells at *
      rw [List.flatMap_cons, List.take_succ_cons, List.flatMap_cons, ← this, show (i + 1) * 3 = i * 3 + 1 + 1 + 1 by omega]
      rfl
theorem acells_drop (l : List An) (i : Nat) : (acells l).drop (i * 3) = acells (l.drop i) := by
  induction l generalizing i with
  | nil => simp [acells]
  | cons h l ih =>
    cases i with
    | zero => simp [acells]
    | succ i =>
      have := ih i
      unfold acells at *
      rw [List.flatMap_cons, List.drop_succ_cons, ← this, show (i + 1) * 3 = i * 3 + 1 + 1 + 1 by omega]
      rfl
theorem acells_mid (l : List An) (i : Nat) (a b : Int) (s : ByteArray) : acells (l.take i ++ (a, b, s) :: l.drop i) = (acells l).take (i * 3) ++ [.int .i64 a, .int .i64 b, .string s] ++ (acells l).drop (i * 3) := by
  rw [acells_take, acells_drop, acells_append]
  unfold acells
  rw [List.flatMap_cons]
  simp
theorem splice_mid (cur A C : List Value) (n i : Nat) (hA : cur.take (n * 3) = A) (hl : (n + 1) * 3 ≤ cur.length) (hi : i ≤ n) (hC : C.length = 3) :
    (splice (splice cur ((i + 1) * 3) (A.drop (i * 3))) (i * 3) C).take ((n + 1) * 3) = A.take (i * 3) ++ C ++ A.drop (i * 3) := by
  have lA : A.length = n * 3 := by rw [← hA, List.length_take]; omega
  have lD : (A.drop (i * 3)).length = (n - i) * 3 := by rw [List.length_drop, lA]; omega
  have tA : A.take (i * 3) = cur.take (i * 3) := by rw [← hA, List.take_take]; congr 1; omega
  have lT : (cur.take (i * 3)).length = i * 3 := by rw [List.length_take]; omega
  rw [tA]
  generalize hD : A.drop (i * 3) = D at *
  have l1 : (cur.take ((i + 1) * 3)).length = (i + 1) * 3 := by rw [List.length_take]; omega
  have e1 : (splice cur ((i + 1) * 3) D).take (i * 3) = cur.take (i * 3) := by
    unfold splice
    rw [List.take_append_of_le_length (by rw [l1]; omega), List.take_take]; congr 1; omega
  have e2 : (splice cur ((i + 1) * 3) D).drop (i * 3 + C.length) = D ++ cur.drop ((i + 1) * 3 + D.length) := by
    unfold splice
    rw [hC, show i * 3 + 3 = (cur.take ((i + 1) * 3)).length by rw [l1]; omega, List.drop_left]
  have e3 : splice (splice cur ((i + 1) * 3) D) (i * 3) C = (cur.take (i * 3) ++ (C ++ D)) ++ cur.drop ((i + 1) * 3 + D.length) := by
    rw [show splice (splice cur ((i + 1) * 3) D) (i * 3) C = (splice cur ((i + 1) * 3) D).take (i * 3) ++ (C ++ (splice cur ((i + 1) * 3) D).drop (i * 3 + C.length)) from rfl, e1, e2]
    simp
  rw [e3, List.take_append_of_le_length (by simp only [List.length_append]; omega), List.take_of_length_le (by simp only [List.length_append]; omega), List.append_assoc]
/-- copy of answers -/
theorem run_copy_ans (w : World) (ty : TypeId) (g o dLen dCap : Nat) (a : Addr) (sLen sCap : Nat) (cur : List Value) (cs : List Value) (hg : Blk w g 90 cur) (hn : cs.length = Nat.min sLen dLen * 3)
    (hsrc : ∀ j v, cs[j]? = some v → w.cell? (a.add j) = some v) (hfit : o + cs.length ≤ cur.length) (h1 : ∀ v ∈ cs, v.oneCell' = true) :
    ∃ w', (Builtin.copy_ #[55, 55] ty #[.slice (some ⟨g, o, none⟩) dLen dCap, .slice (some a) sLen sCap]).run Try.prog w = .ok (goInt (Nat.min sLen dLen)) w' ∧ Blk w' g 90 (splice cur o cs) ∧ w.grownBy w' (some g) := by
  have hl := run_loadCells_list (P := Try.prog) w a cs hsrc
  have hst := run_storeCells_at Try.prog g o 90 cs 0 cur.toArray w hg (by simpa using hfit) h1
  refine ⟨w.setRow g (splice cur o cs).toArray, ?_, setRow_heap w g _ _ 90 _ hg, ⟨rfl, rfl, rfl, by simp [World.setRow], fun k hk hr => setRow_other w g k _ (by intro e; subst e; exact hr rfl)⟩⟩
  obtain ⟨i0, hi, hz0, hz1, hz2⟩ := info_parts info_answer
  simp [Builtin.copy_, run_underlying Try.underlying55, Builtin.lenOf, Builtin.firstCells, sizeOf, typeInfo, hi, hz1, ← hn, hl, hst, splice]
/-- a copy whose run is known, in the walk -/
theorem wpList_copy12 (w : World) {ops : Array Oper} {rest : List Oper} {o : Oper} {a : Act} {Q : Exit → Act → World → Prop} (hgd : o.guard = none) (d s : Operand) (t t' : TypeId)
    (ho : o.op = .call { callee := .builtin .copy, args := #[d, s], argTypes := #[t, t'] }) (v u : Value) (hd : a.eval d = v) (hs : a.eval s = u) {v' : Value} {w' : World}
    (hr : (Builtin.copy_ #[t, t'] o.type #[v, u]).run Try.prog w = .ok v' w') (h : wpList Try.prog ops Q rest (a.put o.dst v') w') : wpList Try.prog ops Q (o :: rest) a w :=
  wpList_plain hgd fun _ hK => by
    unfold Oper.wp execOp
    simp only [ho, resolve, invoke, builtin, Sem.run_bind, Sem.run_pure, Result.andThen_ok, List.map_toArray, List.map_cons, List.map_nil, hd, hs, hr]
    exact hK _ _ h
theorem step_copy12 {ops : Array Oper} {o : Oper} {a : Act} {w : World} {K : Act → World → Prop} {Q : Exit → Act → World → Prop} {E : Prop}
    (hg : o.guard = none) (d x : Operand) (dT sT : TypeId) (hop : o.op = Op.call { callee := Callee.builtin Builtin.copy, args := #[d, x], argTypes := #[dT, sT] })
    (v u : Value) (hd : a.eval d = v) (hx : a.eval x = u) {v' : Value} {w' : World} (hr : (Builtin.copy_ #[dT, sT] o.type #[v, u]).run Try.prog w = .ok v' w') (hK : K (a.put o.dst v') w') :
    if Region.wanted o (yielded ops a.tmps) = true then Oper.wp Try.prog o a w K Q else E := by
  have hw : Region.wanted o (yielded ops a.tmps) = true := by simp [Region.wanted, hg]
  rw [if_pos hw]
  unfold Oper.wp
  simp [execOp, hop, resolve, invoke, builtin, hd, hx, hr, Result.andThen]
  exact hK
theorem size_answer (w : World) : (Go.sizeOf 90).run Try.prog w = .ok 3 w := by
  obtain ⟨i0, hi, hz0, hz1, hz2⟩ := info_parts info_answer
  simp [sizeOf, typeInfo, hi, hz1]
/-- there is room -/
theorem insert_shift (g n cap i k : Nat) (cur : List Value) (l : List An) (a b : Int) (s : ByteArray) (w : World) (hB : Blk w g 90 cur) (hcur : cur.length = cap * 3) (hn : l.length = n) (ht : cur.take (n * 3) = acells l) (hi : i < n) (hroom : n + 1 ≤ cap) (hcm : cap ≤ maxLen) (hnl : n ≤ 1000)
    (hk : Blk w k 90 [.int .i64 a, .int .i64 b, .string s]) (hkg : k ≠ g) :
    Calls Try.prog 76 #[.slice (some ⟨g, 0, none⟩) n cap, .int .i64 i, .slice (some ⟨k, 0, none⟩) 1 1] w fun e w' => e = .returned (.slice (some ⟨g, 0, none⟩) (n + 1) cap) ∧ (∃ cur', Blk w' g 90 cur' ∧ cur'.length = cap * 3 ∧ cur'.take ((n + 1) * 3) = acells (l.take i ++ (a, b, s) :: l.drop i)) ∧ w.grownBy w' (some g) := by
  have hov : ∀ lb cb, (callFunc 88 #[.slice (some ⟨k, 0, none⟩) 1 1, .slice (some ⟨g, (i + 1) * 3, none⟩) lb cb]).run Try.prog w = .ok (.value (.bool false)) w := fun lb cb => by
    rw [run_callFunc_extern Try.func88 (by kernel_rfl) (by kernel_rfl) (by kernel_rfl) (e := Extern.SlicesOverlaps.overlaps #[55, 55] #[4]) (by kernel_rfl),
      Lib.run_overlaps_apart w 55 4 90 Try.underlying55 3 size_answer ⟨k, 0, none⟩ ⟨g, (i + 1) * 3, none⟩ 1 1 lb cb hkg 90 90 3 cur.length (by unfold Blk at hk; simp [World.shape?, hk]) (by unfold Blk at hB; simp [World.shape?, hB]) (by omega) (blk_frozen hk 0) (blk_frozen hk 3)]
    rfl
  have lA : (acells l).length = n * 3 := by rw [acells_length, hn]
  have lD : ((acells l).drop (i * 3)).length = (n - i) * 3 := by rw [List.length_drop, lA]; omega
  have hcell : ∀ j v, ((acells l).drop (i * 3))[j]? = some v → w.drew.cell? ((⟨g, i * 3, none⟩ : Addr).add j) = some v := fun j v hj => by
    have hlt : j < ((acells l).drop (i * 3)).length := by
      rcases Nat.lt_or_ge j ((acells l).drop (i * 3)).length with q | q
      · exact q
      · rw [List.getElem?_eq_none q] at hj; cases hj
    rw [Addr.add_lit]
    have hBd : Blk w.drew g 90 cur := hB
    rw [blk_at hBd, ← hj, List.getElem?_drop, ← ht, List.getElem?_take, if_pos (by omega)]
  have c1 : ∀ dc sc, ∃ w1, (Builtin.copy_ #[55, 55] 3 #[.slice (some ⟨g, (i + 1) * 3, none⟩) (n + 1 - (i + 1)) dc, .slice (some ⟨g, i * 3, none⟩) (n + 1 - i) sc]).run Try.prog w.drew = .ok (goInt ((n - i : Nat) : Int)) w1 ∧ Blk w1 g 90 (splice cur ((i + 1) * 3) ((acells l).drop (i * 3))) ∧ w.grownBy w1 (some g) := fun dc sc => by
    have hm : Nat.min (n + 1 - i) (n + 1 - (i + 1)) = n - i := by simp only [Nat.min_def]; split <;> omega
    obtain ⟨w1, h1, h2, h3⟩ := run_copy_ans w.drew 3 g ((i + 1) * 3) (n + 1 - (i + 1)) dc ⟨g, i * 3, none⟩ (n + 1 - i) sc cur ((acells l).drop (i * 3)) hB (by rw [hm, lD]) hcell (by rw [lD]; omega) (fun v hv => acells_one l v (List.mem_of_mem_drop hv))
    rw [hm] at h1
    exact ⟨w1, h1, h2, ⟨h3.os, h3.tape, h3.output, h3.size, h3.block⟩⟩
  obtain ⟨w1, h1, B1, g1⟩ := c1 (cap - (i + 1)) (cap - i)
  have lS : (splice cur ((i + 1) * 3) ((acells l).drop (i * 3))).length = cur.length := length_splice _ _ _ (by rw [lD]; omega)
  have hk1 : Blk w1 k 90 [.int .i64 a, .int .i64 b, .string s] := hk.grown g1 (fun e => hkg (by injection e))
  have c2 : ∃ w2, (Builtin.copy_ #[55, 55] 3 #[.slice (some ⟨g, i * 3, none⟩) (n + 1 - i) (cap - i), .slice (some ⟨k, 0, none⟩) 1 1]).run Try.prog w1 = .ok (goInt 1) w2 ∧ Blk w2 g 90 (splice (splice cur ((i + 1) * 3) ((acells l).drop (i * 3))) (i * 3) [.int .i64 a, .int .i64 b, .string s]) ∧ w1.grownBy w2 (some g) := by
    have hm : Nat.min 1 (n + 1 - i) = 1 := by simp only [Nat.min_def]; split <;> omega
    obtain ⟨w2, h1, h2, h3⟩ := run_copy_ans w1 3 g (i * 3) (n + 1 - i) (cap - i) ⟨k, 0, none⟩ 1 1 _ [.int .i64 a, .int .i64 b, .string s] B1 (by rw [hm]; rfl) (fun j v hj => by rw [Addr.add_lit, Nat.zero_add, blk_at hk1, hj]) (by rw [lS]; simp; omega) (fun u hu => by
      simp only [List.mem_cons, List.not_mem_nil, or_false] at hu
      rcases hu with rfl | rfl | rfl <;> rfl)
    rw [hm] at h1
    exact ⟨w2, h1, h2, h3⟩
  obtain ⟨w2, h2, B2, g2⟩ := c2
  have HF : Hid _ := And.intro (⟨_, B2, by rw [length_splice _ _ _ (by rw [lS]; simp; omega), lS, hcur], by rw [splice_mid cur _ _ n i ht (by omega) (by omega) rfl, acells_mid]⟩ : ∃ cur', Blk w2 g 90 cur' ∧ cur'.length = cap * 3 ∧ cur'.take ((n + 1) * 3) = acells (l.take i ++ (a, b, s) :: l.drop i)) (grown_trans g1 g2)
  have q1 : ¬ ((i : Int) = (n : Int)) := by omega
  have q2 : (n : Int) + 1 ≤ (cap : Int) := by omega
  have q3 : (i : Int) ≤ (n : Int) := by omega
  have q4 : ¬ (cap = i) := by omega
  have q5 : ¬ (cap = i + 1) := by omega
  have q6 : (n : Int) ≤ 1000 := by omega
  have q7 : (i : Int) + 1 ≤ (n : Int) + 1 := by omega
  have q8 : (i : Int) ≤ (n : Int) + 1 := by omega
  have q9 : ¬ ((n : Int) + 1 > (cap : Int)) := by omega
  have q10 : (i : Int) ≤ (cap : Int) := by omega
  have hw1 : IntKind.i64.wrap ((i : Int) + 1) = (i : Int) + 1 := by rw [IntKind.wrap_i64]; omega
  have hb1 : (0 : Int) ≤ (i : Int) + 1 := by omega
  have htn : ((i : Int) + 1).toNat = i + 1 := by omega
  have h1' := h1
  rw [Nat.add_sub_add_right] at h1'
  have H1 : Hid _ := And.intro h1 h1'
  have H2 : Hid _ := h2
  clear h1 h1' h2
  clear hB hcur ht hk hcell c1 lA lD B1 g1 lS hk1 B2 g2 hn
  go_enter Try.func76, Try.ntmps76
  go_wp2_with (simp only [hov])
  go_region_law (refine step_copy12 rfl _ _ 55 55 rfl _ _ (by simp [Act.eval, Act.put]; rfl) (by simp [Act.eval, Act.put]; rfl) (by first | exact H1.out.1 | exact H1.out.2) ?_)
  all_goals
    have h2 := H2.out
    go_wp2
    go_ret
    exact ⟨rfl, HF.out.1, HF.out.2⟩
end Go.Proofs.Ytkcbbaanlkpeiaa

