/- The runs of a log, as a function that is ranged over. -/
import Derived.RangeFuncNested
import Derived.RangeFuncBound
import Derived.RangeFuncCalls
import Derived.RangeFuncLeaves
import Derived.Shelf.Abstract
import Derived.Shelf.RegionOpen
import Derived.OwnWalkIn
import Derived.TacticsInMore
import Derived.LoopNIn
import Derived.LoopIn
import Derived.Test.YtgjcgnmomdanaaaXEn16
namespace Go.Proofs.Ytgjcgnmomdanaaa
open Go.RowKit Go.Shelf
set_option linter.unusedVariables false
set_option maxRecDepth 4000
attribute [local go_sem] Oper.semAt_some

/-- the runs of the first k entries: places and terms -/
def Lm.runK (m : Lm) : Nat → List (Int × Int)
  | 0 => []
  | k + 1 => if m.begB ((m.fl : Int) + (k + 1 : Nat)) = true then m.runK k ++ [((m.fl : Int) + (k + 1 : Nat), m.term ((m.fl : Int) + (k + 1 : Nat)))] else m.runK k
theorem Lm.runK_len (m : Lm) (k : Nat) : (m.runK k).length ≤ k := by
  induction k with
  | zero => exact Nat.le_refl _
  | succ k ih => unfold Lm.runK; split; simp; omega; omega
def encI (r : Int × Int) : Array Value := #[.int .i64 r.1, .int .i64 r.2]
/-- these blocks lie as they lay -/
def KeepL (bs : List Nat) (W W' : World) : Prop := ∀ k ∈ bs, W'.heap[k]? = W.heap[k]?
theorem KeepL.t {bs : List Nat} {A B C : World} (h : KeepL bs A B) (k : KeepL bs B C) : KeepL bs A C := fun i hi => (k i hi).trans (h i hi)
theorem KeepL.below {bs : List Nat} {A B : World} (h : Below A.heap.size A B) (hl : ∀ k ∈ bs, k < A.heap.size) : KeepL bs A B := fun k hk => h.block k (hl k hk)
theorem Lg.blocks {w : World} {g : Nat} {m : Lm} (h : Lg w g m) : ∃ ks : List Nat, (∀ k ∈ ks, k < w.heap.size) ∧ ∀ w', KeepL ks w w' → Lg w' g m := by
  obtain ⟨a, c, h1, h2, h3, h4⟩ := h
  by_cases hl : m.l = []
  · exact ⟨[g], (fun k hk => by rw [List.mem_singleton.1 hk]; exact h1.lt), fun w' hk => ⟨a, c, by unfold Blk at *; rw [hk g (by simp)]; exact h1, h2, h3, .inl hl⟩⟩
  · have hpos : 0 < m.l.length := List.length_pos_iff.2 hl
    rcases h4 with h4 | ⟨b, off, rfl, h4⟩
    · exact absurd h4 hl
    · refine ⟨[g, b], (fun k hk => ?_), fun w' hk => ⟨_, c, by unfold Blk at *; rw [hk g (by simp)]; exact h1, h2, h3, .inr ⟨b, off, rfl, fun i hi => ?_⟩⟩⟩
      · simp only [List.mem_cons, List.not_mem_nil, or_false] at hk
        rcases hk with rfl | rfl
        · exact h1.lt
        · exact World.block_lt_of_cell? w ⟨k, off + 0, none⟩ (h4 0 hpos)
      · exact (World.cell?_of_block (w := w) (a := ⟨b, off + i, none⟩) (hk b (by simp))).trans (h4 i hi)
theorem below_grown9 {w w' : World} (h : Below w.heap.size w w') : w.grownBy w' none := ⟨h.os, h.tape, h.output, h.size, fun k hk _ => h.block k hk⟩

theorem Lm.runK_mono (m : Lm) {i j : Nat} (h : i ≤ j) : (m.runK i).length ≤ (m.runK j).length := by
  induction j with
  | zero => rw [Nat.le_zero.1 h]; exact Nat.le_refl _
  | succ j ih =>
    by_cases e : i = j + 1
    · rw [e]; exact Nat.le_refl _
    · have := ih (by omega)
      rw [Lm.runK]
      split
      · simp; omega
      · exact this
set_option maxHeartbeats 2000000 in
theorem seq9_stops (n : Nat) (hn : 1 ≤ n) (c g : Nat) (m : Lm) (ks : List Nat) (w : World) (hw : m.Wf) (hB : Blk w c 71 [.pointer (some ⟨g, 0, none⟩)]) (hL : Lg w g m) (hks : ∀ k ∈ ks, k < w.heap.size) (hkL : ∀ W w', Below w.heap.size w W → KeepL ks W w' → Lg w' g m) (hc : c ∈ ks) :
    SeqStopsK Fence.wide n Try.prog 86 #[.pointer (some ⟨c, 0, none⟩)] encI (KeepL ks) (fun ys => ys = m.runK m.l.length) (fun _ => True) (m.runK m.l.length).length w := fun y J Jx W hW hJ _ hY h0 => by
  have hB' : Blk W c 71 [.pointer (some ⟨g, 0, none⟩)] := hB.laterB hW
  have hL' : Lg W g m := hL.later hW
  have hpl := hw.place
  have hfu := hw.full
  have HF := enFloor_any g m W hL'
  have cc := hB'.cell (by simp [maxLen]) 0 (by simp)
  simp only [List.getElem?_cons_zero] at cc
  have hksW : ∀ k ∈ ks, k < W.heap.size := fun k hk => Nat.lt_of_lt_of_le (hks k hk) hW.size
  have htl : (m.top : Int) = (m.fl : Int) + m.l.length := by unfold Lm.top; omega
  have HX : Hid _ := And.intro hw (And.intro hksW (And.intro (fun w' hk => hkL W w' hW hk) (And.intro hB' htl)))
  clear hB hL hks hkL hW hB' hL' hw hksW htl
  refine callsIn_of_wp Try.func86 rfl trivial ?_ rfl
  simp only [Try.ntmps86, List.size_toArray, List.length_cons, List.length_nil, Nat.reduceAdd, Nat.reduceSub, Array.replicate_succ, Array.replicate_zero, List.push_toArray, List.append_toArray, List.nil_append, List.cons_append]
  gi_wp2
  refine ⟨trivial, (callsIn_wide.2 HF).mono ?_⟩
  rintro e w1 ⟨rfl, b1⟩
  have J1 := hJ [] W w1 none h0 (below_grown9 b1) (fun r e => by cases e)
  have K1 := KeepL.below b1 HX.out.2.1
  have cc1 := cell_later b1 cc
  have HT := enTop_any g m w1 (HX.out.2.2.1 w1 K1) HX.out.1
  have H1 : Hid _ := And.intro J1 K1
  clear J1 K1 b1 HF cc
  gi_wp2
  refine ⟨trivial, (callsIn_wide.2 HT).mono ?_⟩
  rintro e w2 ⟨rfl, b2⟩
  have J2 := hJ [] w1 w2 none H1.out.1 (below_grown9 b2) (fun r e => by cases e)
  have hz1 : ∀ k ∈ ks, k < w1.heap.size := fun k hk => by
    rcases Nat.lt_or_ge k w1.heap.size with h | h
    · exact h
    · have h1 := H1.out.2 k hk
      rw [Array.getElem?_eq_none h] at h1
      have h2 := HX.out.2.1 k hk
      rw [Array.getElem?_eq_getElem h2] at h1; cases h1
  have K2 := KeepL.t H1.out.2 (KeepL.below b2 hz1)
  have H2 : Hid _ := And.intro J2 K2
  clear J2 K2 b2 HT cc1 H1 hz1
  have htop : m.top ≤ 1125899906842624 + 4096 := by have := HX.out.2.2.2.2; omega
  gi_wp2
  gi_loopw [8] (fun iv wr => ∃ k : Nat, k ≤ m.l.length ∧ iv = .int .i64 ((m.fl : Int) + k + 1) ∧ J (m.runK k) wr ∧ KeepL ks W wr) (fun iv _ => ((m.top : Int) + 2 - intOf iv).toNat)
  case atStart => exact ⟨0, Nat.zero_le _, by go_num, H2.out.1, H2.out.2⟩
  case round =>
    obtain ⟨k, hk, rfl, hJk, hKk⟩ := hrel
    have htl := HX.out.2.2.2.2
    have hBk : Blk wr c 71 [.pointer (some ⟨g, 0, none⟩)] := by have := HX.out.2.2.2.1; unfold Blk at *; rw [hKk c hc]; exact this
    have ck := hBk.cell (by simp [maxLen]) 0 (by simp)
    simp only [List.getElem?_cons_zero] at ck
    have hz : ∀ q ∈ ks, q < wr.heap.size := fun q hq => by
      rcases Nat.lt_or_ge q wr.heap.size with h | h
      · exact h
      · have h1 := hKk q hq
        rw [Array.getElem?_eq_none h] at h1
        have h2 := HX.out.2.1 q hq
        rw [Array.getElem?_eq_getElem h2] at h1; cases h1
    by_cases hlt : k < m.l.length
    · have q1 : (m.fl : Int) + k + 1 ≤ (m.top : Int) := by omega
      have hn64 : I64 ((m.fl : Int) + k + 1) := by unfold I64; omega
      have HB := enbegins_any g m ((m.fl : Int) + k + 1) wr (HX.out.2.2.1 wr hKk) HX.out.1 hn64 (by omega)
      have e1 : (m.fl : Int) + (k + 1 : Nat) = (m.fl : Int) + k + 1 := by omega
      have hrk : m.runK (k + 1) = if m.begB ((m.fl : Int) + k + 1) = true then m.runK k ++ [((m.fl : Int) + k + 1, m.term ((m.fl : Int) + k + 1))] else m.runK k := by rw [Lm.runK, e1]
      have hlen := m.runK_mono (show k + 1 ≤ m.l.length by omega)
      cases hbg : m.begB ((m.fl : Int) + k + 1) with
      | false =>
        rw [hbg] at HB hrk
        rw [if_neg (by decide)] at hrk
        have F : Hid _ := And.intro hJk (And.intro hKk (And.intro hrk hz))
        clear hJk hKk hrk hz hBk hlen htl hbg e1 hn64
        gi_wp2
        refine ⟨trivial, (callsIn_wide.2 HB).mono ?_⟩
        rintro e w3 ⟨rfl, b3⟩
        obtain ⟨hJk, hKk, hrk, hz⟩ := F.out
        have J3 := hJ _ wr w3 none hJk (below_grown9 b3) (fun r e => by cases e)
        have G : Hid _ := And.intro (show J (m.runK (k + 1)) w3 by rw [hrk]; exact J3) (KeepL.t hKk (KeepL.below b3 hz))
        clear F hJk hKk hrk hz J3 b3 HB ck
        gi_wp2
        refine ⟨trivial, ?_⟩
        gi_wp2
        refine ⟨(fun f h => by cases h), ?_⟩
        gi_wp2
        go_roundw
        case rel => exact ⟨k + 1, by omega, by go_num, G.out.1, G.out.2⟩
        case measure => simp [intOf]; omega
      | true =>
        rw [hbg] at HB hrk
        rw [if_pos rfl] at hrk
        have hl2 : (m.runK k).length < (m.runK m.l.length).length := by rw [hrk] at hlen; simp at hlen; omega
        have F : Hid _ := And.intro hJk (And.intro hKk (And.intro hrk (And.intro hz (And.intro hl2 hn64))))
        clear hJk hKk hrk hz hBk hlen htl hbg e1 hn64 hl2
        gi_wp2
        refine ⟨trivial, (callsIn_wide.2 HB).mono ?_⟩
        rintro e w3 ⟨rfl, b3⟩
        obtain ⟨hJk, hKk, hrk, hz, hl2, hn64⟩ := F.out
        have J3 := hJ _ wr w3 none hJk (below_grown9 b3) (fun r e => by cases e)
        have K3 := KeepL.t hKk (KeepL.below b3 hz)
        have hz3 : ∀ q ∈ ks, q < w3.heap.size := fun q hq => Nat.lt_of_lt_of_le (hz q hq) b3.size
        have c3 := cell_later b3 ck
        have HE := enTerm_any g m ((m.fl : Int) + k + 1) w3 (HX.out.2.2.1 w3 K3) HX.out.1 hn64
        have G : Hid _ := And.intro J3 (And.intro K3 (And.intro hrk (And.intro hz3 hl2)))
        clear F hJk hKk hrk hz J3 K3 b3 HB ck hz3 hl2 hn64
        gi_wp2
        refine ⟨trivial, (callsIn_wide.2 HE).mono ?_⟩
        rintro e w4 ⟨rfl, b4⟩
        obtain ⟨J3, K3, hrk, hz3, hl2⟩ := G.out
        have J4 := hJ _ w3 w4 none J3 (below_grown9 b4) (fun r e => by cases e)
        have K4 := KeepL.t K3 (KeepL.below b4 hz3)
        obtain ⟨fn, tmps, assign, body, hy, hRd⟩ := hY (m.runK k) ((m.fl : Int) + k + 1, m.term ((m.fl : Int) + k + 1)) w4 J4 hl2
        unfold encI at hy
        dsimp only at hy
        have H4 : Hid _ := And.intro K4 hrk
        clear G J3 K3 hrk hz3 hl2 J4 K4 b4 HE c3
        gi_wp2
        refine hRd.mono ?_
        rintro e W5 (⟨rfl, hJ5, hk5⟩ | ⟨rfl, hJx5⟩)
        · have G : Hid _ := And.intro (show J (m.runK (k + 1)) W5 by rw [H4.out.2]; exact hJ5) (KeepL.t H4.out.1 hk5)
          clear hJ5 hk5 H4
          gi_wp2
          go_roundw
          case rel => exact ⟨k + 1, by omega, by go_num, G.out.1, G.out.2⟩
          case measure => simp [intOf]; omega
        · gi_wp2
          refine bodyPost_ret (results_none rfl _ _ _) rfl ?_
          exact ⟨⟨_, rfl⟩, .inr ⟨_, trivial, hJx5⟩⟩
    · obtain rfl : k = m.l.length := by omega
      have q1 : ¬ (m.fl : Int) + m.l.length + 1 ≤ (m.top : Int) := by omega
      clear htl hz hBk
      gi_wp2
      go_end0
      exact ⟨⟨_, rfl⟩, .inl hJk⟩

set_option maxHeartbeats 400000 in
theorem enRuns_any (p : Option Addr) (w : World) :
    Calls Try.prog 66 #[.pointer p] w fun e w' => ∃ c, e = .returned (.func (.func 86) #[] #[.pointer (some ⟨c, 0, none⟩)]) ∧ w.heap.size ≤ c ∧ Blk w' c 71 [.pointer p] ∧ Below w.heap.size w w' := by
  have B2 : Blk (w.alloc (.cells #[.pointer p] 71)) w.heap.size 71 [.pointer p] := Blk.new' w _ _
  have b2 : Below w.heap.size w (w.alloc (.cells #[.pointer p] 71)) := (Below.refl _ _).alloc (Nat.le_refl _) _
  have F : Hid _ := And.intro B2 b2
  clear B2 b2
  go_enter Try.func66, Try.ntmps66
  go_wp2
  go_ret
  exact ⟨_, rfl, Nat.le_refl _, F.out.1, F.out.2⟩
set_option maxHeartbeats 1000000 in
theorem seq9_nil (n : Nat) (hn : 1 ≤ n) (c : Nat) (w : World) (hB : Blk w c 71 [.pointer none]) :
    SeqStopsK Fence.wide n Try.prog 86 #[.pointer (some ⟨c, 0, none⟩)] encI (KeepL [c]) (fun ys => ys = []) (fun _ => True) 0 w := fun y J Jx W hW hJ _ hY h0 => by
  have hB' : Blk W c 71 [.pointer none] := hB.laterB hW
  have cc := hB'.cell (by simp [maxLen]) 0 (by simp)
  simp only [List.getElem?_cons_zero] at cc
  have HF := enFloor_nil W
  have HT := enTop_nil W
  clear hB hW hB'
  refine callsIn_of_wp Try.func86 rfl trivial ?_ rfl
  simp only [Try.ntmps86, List.size_toArray, List.length_cons, List.length_nil, Nat.reduceAdd, Nat.reduceSub, Array.replicate_succ, Array.replicate_zero, List.push_toArray, List.append_toArray, List.nil_append, List.cons_append]
  gi_wp2
  refine ⟨trivial, (callsIn_wide.2 HF).mono ?_⟩
  rintro e w1 ⟨rfl, rfl⟩
  gi_wp2
  refine ⟨trivial, (callsIn_wide.2 HT).mono ?_⟩
  rintro e w1 ⟨rfl, rfl⟩
  gi_wp2
  gi_loopw [8] (fun iv wr => iv = .int .i64 1 ∧ J [] wr) (fun iv _ => 0)
  case atStart => exact ⟨rfl, h0⟩
  case round =>
    obtain ⟨rfl, hJk⟩ := hrel
    gi_wp2
    go_end0
    exact ⟨⟨_, rfl⟩, .inl ⟨_, rfl, hJk⟩⟩
end Go.Proofs.Ytgjcgnmomdanaaa

/- The runs of a log, gathered. -/
namespace Go.Proofs.Ytgjcgnmomdanaaa
open Go.RowKit Go.Shelf
set_option linter.unusedVariables false
set_option maxRecDepth 4000
attribute [local go_sem] Oper.semAt_some

/-- runs as cells -/
def rcells (l : List (Int × Int)) : List Value := l.flatMap (fun r => [.int .i64 r.1, .int .i64 r.2])
theorem rcells_snoc (l : List (Int × Int)) (r : Int × Int) : rcells (l ++ [r]) = rcells l ++ [.int .i64 r.1, .int .i64 r.2] := by unfold rcells; rw [List.flatMap_append]; simp
theorem rcells_at (l : List (Int × Int)) (i : Nat) (hi : i < l.length) : (rcells l)[i * 2]? = some (.int .i64 l[i].1) ∧ (rcells l)[i * 2 + 1]? = some (.int .i64 l[i].2) := by
  induction l generalizing i with
  | nil => simp at hi
  | cons h l ih =>
    unfold rcells at *
    rw [List.flatMap_cons]
    cases i with
    | zero => simp
    | succ i =>
      have := ih i (by simpa using hi)
      rw [List.getElem?_append_right (by simp; omega), List.getElem?_append_right (by simp; omega)]
      have e1 : (i + 1) * 2 - [Value.int .i64 h.1, Value.int .i64 h.2].length = i * 2 := by simp; omega
      have e2 : (i + 1) * 2 + 1 - [Value.int .i64 h.1, Value.int .i64 h.2].length = i * 2 + 1 := by simp; omega
      rw [e1, e2, this.1, this.2]
      simp
/-- runs of the call's own -/
def RnOwn (w : World) (base : Nat) (v : Value) (l : List (Int × Int)) : Prop := w.ownsRow base 81 2 v l.length (rcells l)
theorem RnOwn.later {w w' : World} {base : Nat} {v : Value} {l : List (Int × Int)} (h : RnOwn w base v l) (hb : Below w.heap.size w w') : RnOwn w' base v l :=
  World.ownsRow.kept h (row := none) ⟨hb.os, hb.tape, hb.output, hb.size, fun k hk _ => hb.block k hk⟩ (by cases hv : v.ownBlock <;> simp)
theorem RnOwn.open {w : World} {base : Nat} {v : Value} {l : List (Int × Int)} (h : RnOwn w base v l) : ∃ a c, v = .slice a l.length c ∧ l.length ≤ c ∧ ∀ i (hi : i < l.length), ∃ b, a = some ⟨b, 0, none⟩ ∧ w.cell? ⟨b, i * 2, none⟩ = some (.int .i64 l[i].1) ∧ w.cell? ⟨b, i * 2 + 1, none⟩ = some (.int .i64 l[i].2) := by
  have h0 := h
  obtain ⟨h1, ⟨h2, h3⟩ | ⟨g, cap, cur, rfl, hb, hh, hc, hm, hs, ht⟩⟩ := h
  · exact ⟨none, 0, by rw [h2, h3], by omega, fun i hi => by omega⟩
  · refine ⟨_, cap, rfl, hc, fun i hi => ⟨g, rfl, ?_, ?_⟩⟩
    · rw [World.ownsRow.cellAt h0 _ (by omega)]; exact (rcells_at l i hi).1
    · rw [World.ownsRow.cellAt h0 _ (by omega)]; exact (rcells_at l i hi).2
theorem info_rn : (Try.prog.info? 81).map (fun i => (i.zero, i.size, i.bytes)) = some (some (.agg #[.int .i64 0, .int .i64 0]), 2, 16) := by kernel_rfl
/-- nothing panics -/
def calm9 (Q : Exit → Act → World → Prop) : Exit → Act → World → Prop
  | .panic _, _, _ => False
  | .normal, a, w => Q .normal a w
  | .ret, a, w => Q .ret a w
  | .exit i, a, w => Q (.exit i) a w
  | .goto i, a, w => Q (.goto i) a w
  | .outgrown, a, w => Q .outgrown a w
theorem calm9_out {Q : Exit → Act → World → Prop} {e : Exit} {a : Act} {w : World} (h : calm9 Q e a w) : Q e a w := by
  cases e <;> first | exact h | exact h.elim
theorem blk_non {A : World} {k T' : Nat} {xs : List Value} {o : Obj} (hB : Blk A k T' xs) (ho : A.heap[k]? = some o) (hc : o.isCells = false) : False := by
  unfold Blk at hB
  rw [hB] at ho
  cases ho
  simp [Obj.isCells] at hc
theorem seq9_not_nil (w : World) (f : Fn) (x y : Array Value) : (binOp .eql 106 (.func f x y) .nilFunc).run Try.prog w = .ok (.bool false) w := by kernel_rfl
/-- between two rounds -/
structure RI (q base : Nat) (w : World) (pre : List (Int × Int)) (W : World) : Prop where
  ex : ∃ v, Blk W q 75 [v] ∧ RnOwn W base v pre
  below : Below w.heap.size w W
  base_w : base ≤ W.heap.size
theorem ri_own {q base : Nat} {w : World} (hz : w.heap.size ≤ base) : OwnFrom base (fun pre W => RI q base w pre W) := by
  rintro s A B row ⟨⟨v, hB, ho⟩, hb, hbase⟩ hg hr
  have ht : Turned (fun k => row = some k) A B := turned_grown hg (fun k e => e)
  refine ⟨⟨v, hB.turned ht (fun e => ?_), ?_⟩, hb.grown hg hb.size (fun k e => Nat.le_trans hz (hr k e).1), Nat.le_trans hbase hg.size⟩
  · obtain ⟨_, o, ho', hc⟩ := hr _ e; exact blk_non hB ho' hc
  · refine World.ownsRow.kept ho hg ?_
    cases hv : v.ownBlock with
    | none => exact .inl rfl
    | some k =>
      refine .inr (fun e => ?_)
      obtain ⟨_, o, ho', hc⟩ := hr k e.symm
      obtain ⟨_, ⟨rfl, _⟩ | ⟨g', cap, cur, rfl, hb', hh, r⟩⟩ := ho
      · cases hv
      · cases hv
        rw [hh] at ho'; cases ho'
        simp [Obj.isCells] at hc
/-- a round that goes on -/
def round9 (R : World → Prop) : Exit → Act → World → Prop
  | .normal, _, W' => R W'
  | _, _, _ => False
set_option maxHeartbeats 4000000 in
theorem lawruns9 (p : Option Addr) (L : List (Int × Int)) (w : World) (hLl : L.length ≤ 5000)
    (hseq : ∀ (x6 : World) (c : Nat), Below w.heap.size w x6 → w.heap.size < c → Blk x6 c 71 [.pointer p] → ∃ ks : List Nat, (∀ k ∈ ks, k < x6.heap.size ∧ k ≠ w.heap.size) ∧ SeqStopsK Fence.wide 8 Try.prog 86 #[.pointer (some ⟨c, 0, none⟩)] encI (KeepL ks) (fun ys => ys = L) (fun _ => True) L.length x6) :
    Calls Try.prog 41 #[.pointer p] w fun e w' => ∃ v, e = .returned v ∧ RnOwn w' w.heap.size v L ∧ Below w.heap.size w w' := by
  have B1 : Blk (w.alloc (.cells #[.slice none 0 0] 75)) w.heap.size 75 [.slice none 0 0] := Blk.new' w _ _
  have b1 : Below w.heap.size w (w.alloc (.cells #[.slice none 0 0] 75)) := (Below.refl _ _).alloc (Nat.le_refl _) _
  have s1 : (w.alloc (.cells #[.slice none 0 0] 75)).heap.size = w.heap.size + 1 := by simp
  have F0 : Hid _ := And.intro B1 (And.intro b1 s1)
  have HS : Hid _ := hseq
  clear B1 b1 s1 hseq
  refine (callsIn_wide (n := 9)).1 ?_
  refine callsIn_of_wp_marks Try.func41 rfl trivial ?_ rfl
  simp only [Try.ntmps41, List.size_toArray, List.length_cons, List.length_nil, Nat.reduceAdd, Nat.reduceSub, Array.replicate_succ, Array.replicate_zero, List.push_toArray, List.append_toArray, List.nil_append, List.cons_append]
  refine wpIn_wide.2 (wp_mono (Q := calm9 (bodyPostM Fence.wide 9 Try.prog Try.f41 fun e w' => ∃ v, e = .returned v ∧ RnOwn w' w.heap.size v L ∧ Below w.heap.size w w')) ?_ (fun e a w h => calm9_out h))
  go_wp2_with fail
  generalize w.alloc (.cells #[.slice none 0 0] 75) = w1 at *
  refine (enRuns_any p w1).mono ?_
  rintro e x6 ⟨cb, rfl, hcb, Bc, b6⟩
  have hsn := seq9_not_nil x6
  go_wp2_with fail
  have B6 := F0.out.1.laterB b6
  have bb6 := below_then F0.out.2.1 b6
  have hz6 := bb6.size
  have hs1 := F0.out.2.2
  have hq6 : w.heap.size < x6.heap.size := by have := b6.size; omega
  obtain ⟨ks, hks, hsq⟩ := HS.out x6 cb bb6 (by omega) Bc
  refine (wpIn_wide (n := 9)).1 ?_
  refine wpIn_rangeFunc_ownG rfl (by omega) (gf := 86) (lb := #[.pointer (some ⟨cb, 0, none⟩)]) rfl trivial (enters_of Try.func86 (by kernel_rfl) rfl) hsq (fun h k => h.t k) (fun W l o o' hl h _ _ k hk => World.putObj_heap_other (by have := (hks k hk).1; omega)) (Below.refl _ _) (fun _ => rfl) (fun pre W => RI w.heap.size x6.heap.size w pre W) (fun _ _ _ => False)
    (ri_own hz6)
    (fun _ _ _ _ _ hs _ _ => hs) ⟨⟨_, B6, World.ownsRow_nil _ _ _ _⟩, bb6, Nat.le_refl _⟩ (fun x => { tmps := #[.pointer p, undef, .slice none 0 0, .pointer (some ⟨w.heap.size, 0, none⟩), .func (.func 86) #[] #[.pointer (some ⟨cb, 0, none⟩)], .int .i64 x.1, .int .i64 x.2, .pointer p, .func (.func 86) #[] #[.pointer (some ⟨cb, 0, none⟩)], .func (.func 86) #[] #[.pointer (some ⟨cb, 0, none⟩)], .bool false, .func (.func 86) #[] #[.pointer (some ⟨cb, 0, none⟩)], .int .i64 x.1, .int .i64 x.2, undef, undef, undef, undef, undef, undef, undef], defers := [] }) ?assign ?body ?done ?stop
  case assign =>
    intro l x W K hK
    simp only [encI]
    gi_wp2
    exact hK
  case body =>
    rintro l pre ⟨xa, xt⟩ W ⟨⟨v, hB, ho⟩, hb, hbase⟩ hlt
    refine wpIn_mono (Q := round9 (fun W' => KeepsFrom x6.heap.size W W' ∧ KeepL ks W W' ∧ RI w.heap.size x6.heap.size w (pre ++ [(xa, xt)]) W')) ?_ ?_
    rotate_left
    · rintro e a W' h
      cases e <;> first | exact h.elim | exact h
    have c0 := hB.cell (by simp [maxLen]) 0 (by simp)
    simp only [List.getElem?_cons_zero] at c0
    have bx : Below W.heap.size W (W.alloc (.cells #[.int .i64 xa, .int .i64 xt] 81)) := (Below.refl _ _).alloc (Nat.le_refl _) _
    have BX : Blk (W.alloc (.cells #[.int .i64 xa, .int .i64 xt] 81)) W.heap.size 81 [.int .i64 xa, .int .i64 xt] := Blk.new' W _ _
    have hox := RnOwn.later ho bx
    have hBx := hB.laterB bx
    have hbx := below_then hb bx
    have hbs : x6.heap.size ≤ (W.alloc (.cells #[.int .i64 xa, .int .i64 xt] 81)).heap.size := Nat.le_trans hbase bx.size
    obtain ⟨i0, hi, hz0, hz1, hz2⟩ := info_parts info_rn
    have hnews : ∀ j u, [Value.int .i64 xa, .int .i64 xt][j]? = some u → (W.alloc (.cells #[.int .i64 xa, .int .i64 xt] 81)).cell? ((⟨W.heap.size, 0, none⟩ : Addr).add j) = some u := by
      intro j u hj
      have hjl : j < 2 := by
        rcases Nat.lt_or_ge j 2 with h | h
        · exact h
        · rw [List.getElem?_eq_none (by simpa using h)] at hj; cases hj
      have e1 : (⟨W.heap.size, 0, none⟩ : Addr).add j = ⟨W.heap.size, j, none⟩ := by unfold Addr.add; split <;> simp_all
      rw [e1, BX.cell (by simp [maxLen]) j (by simpa using hjl)]; exact hj
    have H0 : Hid _ := And.intro hox (And.intro hnews (And.intro hBx (And.intro hbx (And.intro hbs (And.intro bx (And.intro hbase ho))))))
    clear hox hnews hBx hbx hbs bx ho hb hB BX
    gi_wp2_with (gi_at_builtin; refine wpListIn_append_own _ rfl _ _ 75 rfl x6.heap.size 81 i0 (.agg #[.int .i64 0, .int .i64 0]) 2 16 Try.underlying75 hi hz0 hz1 hz2 rfl (by decide) v pre.length (rcells pre) rfl H0.out.1 ⟨W.heap.size, 0, none⟩ 1 1 [.int .i64 xa, .int .i64 xt] rfl rfl H0.out.2.1 (by intro u hu; simp only [List.mem_cons, List.not_mem_nil, or_false] at hu; rcases hu with rfl | rfl <;> rfl) (by unfold maxLen; omega) (by omega) H0.out.2.2.2.2.1 ?_)
    intro v' w7 ho7 hg7 _
    obtain ⟨va, vn, vc, rfl⟩ : ∃ va vn vc, v' = .slice va vn vc := by
      obtain ⟨_, ⟨rfl, _⟩ | ⟨g', cap, cur, rfl, _⟩⟩ := ho7
      · exact ⟨_, _, _, rfl⟩
      · exact ⟨_, _, _, rfl⟩
    obtain ⟨v', hv'⟩ : ∃ v', v' = Value.slice va vn vc := ⟨_, rfl⟩
    rw [← hv'] at ho7
    obtain ⟨hox, hnews, hBx, hbx, hbs, bx, hbase, ho⟩ := H0.out
    have hlt' := World.ownsRow.lt ho
    have hne : v.ownBlock ≠ some w.heap.size := fun e => by have := (hlt' _ e).1; omega
    have ht7 : Turned (fun k => v.ownBlock = some k) _ w7 := turned_grown hg7 (fun k e => e)
    have hB7 := hBx.turned ht7 hne
    have hb7 : Below w.heap.size w w7 := hbx.grown hg7 hbx.size (fun k e => Nat.le_trans hz6 (hlt' k e).1)
    obtain ⟨e7, f7⟩ : w7.cell? ⟨w.heap.size, 0, none⟩ = some v ∧ w7.frozen? ⟨w.heap.size, 0, none⟩ = false := ⟨by have := hB7.cell (by simp [maxLen]) 0 (by simp); simpa using this, hB7.frozen (by simp [maxLen]) 0⟩
    have hB8 := hB7.set 0 v'
    have hne' : v'.ownBlock ≠ some w.heap.size := fun e => by have := (World.ownsRow.lt ho7 _ e).1; omega
    have ho8 : RnOwn (w7.setCell ⟨w.heap.size, 0, none⟩ v') x6.heap.size v' (pre ++ [(xa, xt)]) := by
      unfold RnOwn
      rw [rcells_snoc, List.length_append]
      exact World.ownsRow.kept ho7 (grown_set w7 w.heap.size 0 v') (.inr hne')
    have hb8 : Below w.heap.size w (w7.setCell ⟨w.heap.size, 0, none⟩ v') := hb7.trans (grown_below (grown_set w7 w.heap.size 0 v') _ (Nat.le_refl _) hb7.size)
    have hlater : ∀ k, k < W.heap.size → k ≠ w.heap.size → v.ownBlock ≠ some k → (w7.setCell ⟨w.heap.size, 0, none⟩ v').heap[k]? = W.heap[k]? := by
      intro k hk h1 h2
      rw [Below.heap_setCell _ _ _ _ h1, hg7.block k (Nat.lt_of_lt_of_le hk bx.size) (fun e => h2 e.symm), bx.block k hk]
    have hKF : KeepsFrom x6.heap.size W (w7.setCell ⟨w.heap.size, 0, none⟩ v') := by
      refine ⟨Nat.le_trans bx.size (Nat.le_trans hg7.size (by simp [World.setCell])), fun k o hk hko hc => ?_⟩
      rw [hlater k (Array.getElem?_eq_some_iff.1 hko).1 (by omega) (fun e => ?_)]
      · exact hko
      · obtain ⟨_, ⟨rfl, _⟩ | ⟨g', cap, cur, rfl, hb', hh, r⟩⟩ := ho
        · cases e
        · cases e
          rw [hh] at hko; cases hko
          simp [Obj.isCells] at hc
    have hKL : KeepL ks W (w7.setCell ⟨w.heap.size, 0, none⟩ v') := by
      intro k hk
      have := hks k hk
      exact hlater k (by omega) this.2 (fun e => by have := (hlt' k e).1; omega)
    rw [hv'] at hKF hKL hB8 ho8 hb8
    have F : Hid _ := And.intro hKF (And.intro hKL (RI.mk ⟨_, by simpa using hB8, ho8⟩ hb8 (by have := hKF.size; omega)))
    clear hox hnews hBx hbx hbs bx ho hlt' hne ht7 hB7 hb7 hB8 hne' ho8 hb8 hlater hKF hKL ho7 hg7 H0 c0 hv' v'
    gi_wp2
    exact F.out
  case done =>
    rintro D ys W hD hys ⟨⟨v, hB, ho⟩, hb, hbase⟩ hdf
    have c1 := hB.cell (by simp [maxLen]) 0 (by simp)
    simp only [List.getElem?_cons_zero] at c1
    subst hys
    have hDv : ∀ k, v.ownBlock = some k → k ≠ D := by
      rintro k hk rfl
      obtain ⟨_, ⟨rfl, _⟩ | ⟨g', cap, cur, rfl, hb', hh, r⟩⟩ := ho
      · cases hk
      · cases hk
        rw [hh] at hdf; cases hdf
    have F : Hid _ := And.intro hb (And.intro hdf (And.intro hD (And.intro hz6 (And.intro ho hDv))))
    clear hb hdf hsq hB hD ho hDv
    go_wp2_with fail
    refine ⟨by simp, .inl ⟨_, _, rfl, run_takeDeferred F.out.2.1, ?_⟩⟩
    obtain ⟨hb, hdf, hD, hz6, ho, hDv⟩ := F.out
    refine ⟨_, results_tmp rfl _ _ _, v, rfl, ?_, hb.trans (belowK_b (w := w) (Nat.le_refl _) W D _ _ (Nat.le_trans hz6 hD) hdf rfl rfl)⟩
    obtain ⟨h1, h2 | ⟨g', cap, cur, rfl, hb', hh, r⟩⟩ := ho
    · exact ⟨h1, .inl h2⟩
    · exact ⟨h1, .inr ⟨g', cap, cur, rfl, Nat.le_trans hz6 hb', by rw [World.putObj_heap_other (hDv g' rfl)]; exact hh, r⟩⟩
  case stop =>
    rintro D c pre W _ _ h _
    exact h.elim
end Go.Proofs.Ytgjcgnmomdanaaa

/- Logs that the law makes; runs of a log, and of none; entries of terms. -/
namespace Go.Proofs.Ytgjcgnmomdanaaa
open Go.RowKit Go.Shelf
set_option linter.unusedVariables false
set_option maxRecDepth 4000

theorem lawruns9_log (g : Nat) (m : Lm) (w : World) (h : Lg w g m) (hw : m.Wf) :
    Calls Try.prog 41 #[.pointer (some ⟨g, 0, none⟩)] w fun e w' => ∃ v, e = .returned v ∧ RnOwn w' w.heap.size v (m.runK m.l.length) ∧ Below w.heap.size w w' := by
  obtain ⟨ks, h1, h2⟩ := h.blocks
  have hfu := hw.full
  have hl := m.runK_len m.l.length
  refine lawruns9 (some ⟨g, 0, none⟩) (m.runK m.l.length) w (by omega) fun x6 c hb hc hB => ⟨c :: ks, fun k hk => ?_, ?_⟩
  · rcases List.mem_cons.1 hk with rfl | hk
    · exact ⟨hB.lt, by omega⟩
    · have := h1 k hk; have := hb.size; exact ⟨by omega, by omega⟩
  · refine seq9_stops 8 (by omega) c g m (c :: ks) x6 hw hB (h.later hb) (fun k hk => ?_) (fun W w' hW hk => ?_) (by simp)
    · rcases List.mem_cons.1 hk with rfl | hk
      · exact hB.lt
      · have := h1 k hk; have := hb.size; omega
    · refine h2 w' (fun k hk' => ?_)
      have hlt := h1 k hk'
      rw [hk k (List.mem_cons_of_mem _ hk'), hW.block k (by have := hb.size; omega), hb.block k hlt]
theorem lawruns9_nil (w : World) :
    Calls Try.prog 41 #[.pointer none] w fun e w' => ∃ v, e = .returned v ∧ RnOwn w' w.heap.size v [] ∧ Below w.heap.size w w' :=
  lawruns9 none [] w (by simp) fun x6 c hb hc hB => ⟨[c], fun k hk => by rw [List.mem_singleton.1 hk]; exact ⟨hB.lt, by omega⟩, seq9_nil 8 (by omega) c x6 hB⟩

theorem goodB_append (t : Int) (a b : List Ent) : goodB t (a ++ b) = (goodB t a && goodB (lastT t a) b) := by
  induction a generalizing t with
  | nil => simp [goodB, lastT]
  | cons x a ih => simp only [List.cons_append, goodB, lastT, ih, Bool.and_assoc]
theorem goodB_rise {t : Int} {l : List Ent} (h : goodB t l = true) : (t :: l.map (fun e : Ent => e.2.1)).Pairwise (· ≤ ·) := by
  induction l generalizing t with
  | nil => simp
  | cons x l ih =>
    simp only [goodB, Bool.and_eq_true, decide_eq_true_eq] at h
    have := ih h.2
    rw [List.map_cons]
    refine List.pairwise_cons.2 ⟨fun y hy => ?_, this⟩
    have hp := List.pairwise_cons.1 this
    rcases List.mem_cons.1 hy with rfl | hy
    · exact h.1.2
    · exact Int.le_trans h.1.2 (hp.1 y hy)
theorem good_of {t : Int} {l : List Ent} (h1 : ∀ e ∈ l, canE e = true) (h2 : (t :: l.map (fun e : Ent => e.2.1)).Pairwise (· ≤ ·)) : goodB t l = true := by
  induction l generalizing t with
  | nil => rfl
  | cons x l ih =>
    rw [List.map_cons] at h2
    have hp := List.pairwise_cons.1 h2
    simp only [goodB, Bool.and_eq_true, decide_eq_true_eq]
    exact ⟨⟨h1 x (by simp), hp.1 _ (by simp)⟩, ih (fun e he => h1 e (List.mem_cons_of_mem _ he)) hp.2⟩
theorem Lm.Wf.good {m : Lm} (hw : m.Wf) : goodB m.ft m.l = true := good_of hw.each hw.rise
theorem Lm.tt_eq (m : Lm) : m.tt = lastT m.ft m.l := by
  unfold Lm.tt Lm.top
  rcases List.eq_nil_or_concat m.l with e | ⟨l', x, e⟩
  · rw [(Lm.part_fl (m := m) (n := ((m.fl + m.l.length : Nat) : Int)) (by rw [e]; simp)).2, e]; rfl
  · have hl : m.l.length = l'.length + 1 := by rw [e]; simp
    have hi : l'.length < m.l.length := by omega
    rw [(Lm.part_in (m := m) (n := ((m.fl + m.l.length : Nat) : Int)) hi (by omega)).2]
    have : m.l[l'.length] = x := by simp [e]
    rw [this, e, List.concat_eq_append, lastT_snoc]
theorem Lm.with_wf {m : Lm} {l : List Ent} (hw : m.Wf) (hl : m.l.length + l.length ≤ 4096) (hg : goodB m.tt l = true) : (m.with l).Wf := by
  have hgd : goodB m.ft (m.l ++ l) = true := by rw [goodB_append, hw.good, ← m.tt_eq, hg]; rfl
  exact ⟨hw.place, hw.term, hw.mask, by show (m.l ++ l).length ≤ 4096; rw [List.length_append]; exact hl, goodB_can hgd, goodB_rise hgd⟩

/-- what log answers -/
def LogR (w w' : World) (a t k : Int) (l : List Ent) (r : Ending) : Prop :=
  (newB a t k = true ∧ l.length ≤ 4096 ∧ goodB t l = true ∧ ∃ g, r = .returned (.pointer (some ⟨g, 0, none⟩)) ∧ w.heap.size ≤ g ∧ Lg w' g ⟨a.toNat, t.toNat, k.toNat, l⟩) ∨
  (¬ (newB a t k = true ∧ l.length ≤ 4096 ∧ goodB t l = true) ∧ r = .returned (.pointer none))
theorem logm_wf {a t k : Int} {l : List Ent} (h1 : newB a t k = true) (h2 : l.length ≤ 4096) (h3 : goodB t l = true) : (⟨a.toNat, t.toNat, k.toNat, l⟩ : Lm).Wf := by
  have h := newB_yes h1
  refine ⟨by show a.toNat ≤ _; omega, by show t.toNat ≤ _; omega, by show 1 ≤ k.toNat ∧ k.toNat ≤ 31; omega, h2, goodB_can h3, ?_⟩
  have := goodB_rise h3
  show (((t.toNat : Nat) : Int) :: l.map (fun e : Ent => e.2.1)).Pairwise (· ≤ ·)
  rw [show ((t.toNat : Nat) : Int) = t by omega]; exact this
set_option maxHeartbeats 1000000 in
theorem log9_any (a t k : Int) (x : Option Addr) (len cap : Nat) (l : List Ent) (w : World) (hl : l.length = len) (hlc : len ≤ cap) (hlen : len ≤ 140737488355328) (hA : EArgs w x l) :
    Calls Try.prog 39 #[.int .i64 a, .int .i64 t, .int .i64 k, .slice x len cap] w fun r w' => LogR w w' a t k l r ∧ Below w.heap.size w w' := by
  subst hl
  cases hnb : newB a t k with
  | false =>
    have HN := enNew_no a t k w hnb
    have F : Hid (LogR w w a t k l (.returned (.pointer none))) := by exact .inr ⟨(fun h => by rw [hnb] at h; cases h.1), rfl⟩
    clear hA hnb
    go_enter Try.func39, Try.ntmps39
    go_wp2_with (go_at_call 64; refine HN.mono ?_; rintro e w' ⟨rfl, rfl⟩)
    go_ret
    exact ⟨F.out, Below.refl _ _⟩
  | true =>
    have hb := newB_yes hnb
    obtain ⟨a', ha⟩ : ∃ a' : Nat, a = a' := ⟨a.toNat, by omega⟩
    obtain ⟨t', ht⟩ : ∃ t' : Nat, t = t' := ⟨t.toNat, by omega⟩
    obtain ⟨k', hk⟩ : ∃ k' : Nat, k = k' := ⟨k.toNat, by omega⟩
    subst ha; subst ht; subst hk
    have HN := enNew_yes a' t' k' w hnb
    have hwf := Lm.new_wf hnb
    have htt : (Lm.new a' t' k').tt = t' := by rw [Lm.tt_eq]; rfl
    have HH : Hid _ := And.intro hnb (And.intro hwf (And.intro htt hA))
    clear hA hwf htt hb hnb
    go_enter Try.func39, Try.ntmps39
    go_wp2_with fail
    refine HN.mono ?_
    rintro e w1 ⟨g, rfl, hg, L1, b1⟩
    obtain ⟨hnb, hwf, htt, hA⟩ := HH.out
    have hA1 := hA.later b1
    by_cases hf : 4096 < l.length
    · have HW := enWith_full g (Lm.new a' t' k') x l.length cap w1 L1 hwf hlen (by show 4096 < ([] : List Ent).length + l.length; simpa using hf)
      have F : Hid (LogR w w1 a' t' k' l (.returned (.pointer none))) := by exact .inr ⟨(fun h => by omega), rfl⟩
      clear hA hA1 hwf htt L1 HN HH hg hnb
      go_wp2_with (go_at_call 65; refine HW.mono ?_; rintro e w' ⟨rfl, rfl⟩)
      go_ret
      exact ⟨F.out, b1⟩
    · have HW := enWith_any g (Lm.new a' t' k') x l.length cap l w1 L1 hwf rfl hlc (by show ([] : List Ent).length + l.length ≤ 4096; simp; omega) hA1
      have HX : Hid _ := And.intro b1 (And.intro htt (And.intro hnb hg))
      clear hA hA1 hwf htt L1 HN HH b1 hg hnb
      go_wp2_with fail
      refine HW.mono ?_
      rintro e w2 ⟨(⟨hgd, rfl⟩ | ⟨hgd, g2, rfl, hg2, L2⟩), hb2⟩
      · rw [HX.out.2.1] at hgd
        clear HW
        go_wp2
        go_ret
        exact ⟨.inr ⟨(fun h => by rw [hgd] at h; cases h.2.2), rfl⟩, below_then HX.out.1 hb2⟩
      · rw [HX.out.2.1] at hgd
        clear HW
        have F : Hid _ := And.intro L2 hg2
        clear L2 hg2
        go_wp2
        go_ret
        have hs := HX.out.1.size
        have h2 := F.out.2
        exact ⟨.inl ⟨HX.out.2.2.1, by omega, hgd, g2, rfl, by omega, F.out.1⟩, below_then HX.out.1 hb2⟩
end Go.Proofs.Ytgjcgnmomdanaaa

/- Entries of terms; what must come of fixed calls. -/
namespace Go.Proofs.Ytgjcgnmomdanaaa
open Go.RowKit Go.Shelf
set_option linter.unusedVariables false
set_option maxRecDepth 4000

/-- an entry of a term -/
def tE (t : Int) : Ent := (1, t, [])
set_option maxHeartbeats 1000000 in
theorem terms9_any (b : Nat) (ts : List Int) (w : World) (hB : Blk w b 2 (ts.map (fun t => .int .i64 t))) (hts : ts.length ≤ 100) (h64 : ∀ t ∈ ts, I64 t) :
    Calls Try.prog 40 #[.slice (some ⟨b, 0, none⟩) ts.length ts.length] w fun e w' => ∃ a cap, e = .returned (.slice a ts.length cap) ∧ ts.length ≤ cap ∧ (a = none → cap = 0) ∧ EArgs w' a (ts.map tE) ∧ Below w.heap.size w w' := by
  have HB : Hid _ := And.intro hB h64
  have hts' : (ts.length : Int) ≤ 100 := by omega
  clear hB h64
  go_enter Try.func40, Try.ntmps40
  go_wp2_with fail
  go_loopw [3, 4] (fun v iv wr => ∃ (k : Nat) (u : Value), u = v ∧ k ≤ ts.length ∧ iv = .int .i64 k ∧ (∃ V vs, EsOwn wr w.heap.size u ((ts.map tE).take k) V vs) ∧ Below w.heap.size w wr) (fun _ iv _ => ts.length - (intOf iv).toNat)
  case atStart => exact ⟨0, _, rfl, Nat.zero_le _, rfl, ⟨[], [], EsOwn.nil _ _⟩, Below.refl _ _⟩
  case round =>
    obtain ⟨k, v, rfl, hk, rfl, ⟨V, vs, hown⟩, hb⟩ := hrel
    by_cases hlt : k < ts.length
    · have q1 : (k : Int) < (ts.length : Int) := by omega
      have c0 : wr.cell? ⟨b, k, none⟩ = some (.int .i64 ts[k]) := by
        have := (HB.out.1.laterB hb).cell (by rw [List.length_map]; unfold maxLen; omega) k (by rw [List.length_map]; exact hlt)
        rw [this, List.getElem?_map, List.getElem?_eq_getElem hlt]; rfl
      have htk : (ts.map tE).take (k + 1) = (ts.map tE).take k ++ [tE ts[k]] := by rw [List.take_succ_eq_append_getElem (by rw [List.length_map]; exact hlt), List.getElem_map]
      generalize ts[k] = t at *
      have b3 := box3_below wr (.int .i64 1) (.int .i64 t) (.slice none 0 0) 49
      have B3 : Blk (wr.alloc (.cells #[.int .i64 1, .int .i64 t, .slice none 0 0] 49)) wr.heap.size 49 [.int .i64 1, .int .i64 t, .slice none 0 0] := Blk.new' wr _ _
      have H3 : Hid _ := And.intro (hown.later b3) (And.intro B3 (And.intro (below_then hb b3) (And.intro htk (And.intro (show ((ts.map tE).take k).length ≤ 1000000 by rw [List.length_take, List.length_map]; omega) (And.intro (World.ownsRow.lt hown.own) (Nat.le_trans hb.size b3.size))))))
      clear hown hb b3 B3 htk
      go_wp2_with (at_builtin; refine wpList_append_ent _ rfl _ _ rfl w.heap.size v ((ts.map tE).take k) V vs rfl H3.out.1 wr.heap.size (tE t) none 0 rfl H3.out.2.1 (Nat.le_refl _) (.inl rfl) (fun _ => rfl) (fun z hz => by cases hz) H3.out.2.2.2.2.1 H3.out.2.2.2.2.2.2 ?_)
      rintro v' w5 V5 vs5 hown5 hg5
      have F : Hid _ := And.intro (show ∃ V vs, EsOwn w5 w.heap.size v' ((ts.map tE).take (k + 1)) V vs by rw [H3.out.2.2.2.1]; exact ⟨V5, vs5, hown5⟩) (H3.out.2.2.1.grown hg5 H3.out.2.2.2.2.2.2 (fun q hq => (H3.out.2.2.2.2.2.1 q hq).1))
      clear H3 hown5 hg5 c0
      go_wp2
      go_roundw
      case rel => exact ⟨k + 1, _, rfl, by omega, by go_num, F.out.1, F.out.2⟩
      case measure => simp [intOf]; omega
    · obtain rfl : k = ts.length := by omega
      have eT : (ts.map tE).take ts.length = ts.map tE := List.take_of_length_le (by rw [List.length_map]; exact Nat.le_refl _)
      rw [eT] at hown
      clear eT
      obtain ⟨a, cap, rfl, h1, h2, h3⟩ := hown.args (fun e he => by
        obtain ⟨t, ht, rfl⟩ := List.mem_map.1 he
        exact ⟨by unfold I64 tE; omega, HB.out.2 t ht, by simp [tE]⟩)
      rw [List.length_map] at h1 ⊢
      have F : Hid _ := And.intro h1 (And.intro h2 (And.intro h3 hb))
      clear hown h1 h2 h3 hb
      go_wp2
      go_ret
      exact ⟨a, cap, rfl, F.out.1, F.out.2.1, F.out.2.2.1, F.out.2.2.2⟩

/-- the log of the fixed calls -/
def m4 : Lm := ⟨0, 0, 7, [tE 1, tE 1, tE 2, tE 2]⟩
theorem m4_runs : m4.runK m4.l.length = [(1, 1), (3, 2)] := by decide +kernel
theorem m4_a : m4.meetsB 4 3 ([] : List Ent).length = false ∧ m4.back 4 = 2 := by decide +kernel
theorem m4_c : m4.meetsB 9 9 ([] : List Ent).length = false ∧ m4.back 9 = 4 := by decide +kernel
theorem m4_b : m4.meetsB 2 1 [tE 3].length = true ∧ m4.pass 2 [tE 3] = 0 := by decide +kernel
theorem m4_fits : m4.fits 2 [tE 3] := by unfold Lm.fits; decide +kernel
theorem m4_new : newB 0 0 7 = true ∧ goodB 0 [tE 1, tE 1, tE 2, tE 2] = true := by decide +kernel
theorem m4_wf : m4.Wf := logm_wf (a := 0) (t := 0) (k := 7) m4_new.1 (by decide) m4_new.2
theorem enJoin_any (g : Nat) (m : Lm) (n t : Int) (a : Option Addr) (cap : Nat) (l : List Ent) (w : World) (h : Lg w g m) (hw : m.Wf) (hn : I64 n) (hlen : l.length ≤ 140737488355328) (hlc : l.length ≤ cap) (hA : EArgs w a l) :
    Calls Try.prog 42 #[.pointer (some ⟨g, 0, none⟩), .int .i64 n, .int .i64 t, .slice a l.length cap] w fun r w' => JoinR w w' g m n t l r ∧ Below w.heap.size w w' := by
  cases hme : m.meetsB n t l.length with
  | false =>
    refine (enJoin_no g m n t a l.length cap w h hw hn hlen hme).mono ?_
    rintro e w' ⟨rfl, hb⟩
    exact ⟨.inl ⟨hme, rfl⟩, hb⟩
  | true => exact enJoin_yes g m n t a cap l w h hw hn hlen hlc hA hme
theorem box5_below (w : World) (p q r s t : Value) (T : TypeId) : Below w.heap.size w (w.alloc (.cells #[p, q, r, s, t] T)) := (Below.refl _ _).alloc (Nat.le_refl _) _
set_option maxHeartbeats 2000000 in
theorem known9_any (w : World) : Calls Try.prog 12 #[] w fun e w' => e = .returned (.bool true) ∧ Below w.heap.size w w' := by
  have B0 : Blk (w.alloc (.cells #[.int .i64 1, .int .i64 1, .int .i64 2, .int .i64 2] 2)) w.heap.size 2 ([1, 1, 2, 2].map (fun t : Int => .int .i64 t)) := Blk.new' w _ [.int .i64 1, .int .i64 1, .int .i64 2, .int .i64 2]
  have b0 : Below w.heap.size w (w.alloc (.cells #[.int .i64 1, .int .i64 1, .int .i64 2, .int .i64 2] 2)) := (Below.refl _ _).alloc (Nat.le_refl _) _
  have HT := terms9_any w.heap.size [1, 1, 2, 2] _ B0 (by decide) (by unfold I64; decide)
  have HX : Hid _ := b0
  clear B0 b0
  go_enter Try.func12, Try.ntmps12
  go_wp2_with fail
  refine HT.mono ?_
  rintro e w1 ⟨a1, cap1, rfl, hc1, -, hA1, b1⟩
  have hb1 := below_then HX.out b1
  have HL := log9_any 0 0 7 a1 4 cap1 [tE 1, tE 1, tE 2, tE 2] w1 rfl hc1 (by decide) hA1
  have H1 : Hid _ := hb1
  clear hb1 b1 hA1 HX HT
  go_wp2_with fail
  refine HL.mono ?_
  rintro e w2 ⟨(⟨-, -, -, g, rfl, hg, L2⟩ | ⟨hno, -⟩), b2⟩
  · have L2' : Lg w2 g m4 := L2
    have hb2 := below_then H1.out b2
    have HR := lawruns9_log g m4 w2 L2' m4_wf
    rw [m4_runs] at HR
    have H2 : Hid (Below w.heap.size w w2 ∧ Lg w2 g m4) := And.intro hb2 L2'
    clear hb2 b2 L2 L2' HL H1 hg
    go_wp2_with fail
    refine HR.mono ?_
    rintro e w3 ⟨v3, rfl, ho3, b3⟩
    have L3 := Lg.later H2.out.2 b3
    have hb3 := below_then H2.out.1 b3
    obtain ⟨ra, rc, rfl, hrc, hcell⟩ := RnOwn.open ho3
    obtain ⟨rb, hra, e0, e1⟩ := hcell 1 (by decide)
    subst hra
    have HJ := enJoin_no g m4 4 3 none 0 0 w3 L3 m4_wf (by unfold I64; omega) (by decide) m4_a.1
    rw [m4_a.2] at HJ
    simp only [joV, Option.map_none] at HJ
    have H3 : Hid (Below w.heap.size w w3 ∧ Lg w3 g m4) := And.intro hb3 L3
    clear hb3 b3 L3 HR H2 ho3 hcell
    go_wp2_with fail
    refine HJ.mono ?_
    rintro e w4 ⟨rfl, b4⟩
    have ba := box5_below w4 (.pointer none) (.bool false) (.int .i64 0) (.int .i64 0) (.int .i64 2) 78
    have Ba : Blk (w4.alloc (.cells #[.pointer none, .bool false, .int .i64 0, .int .i64 0, .int .i64 2] 78)) w4.heap.size 78 [.pointer none, .bool false, .int .i64 0, .int .i64 0, .int .i64 2] := Blk.new' w4 _ _
    have s5 : (w4.alloc (.cells #[.pointer none, .bool false, .int .i64 0, .int .i64 0, .int .i64 2] 78)).heap.size = w4.heap.size + 1 := by simp
    have H4 : Hid _ := And.intro (below_then (below_then H3.out.1 b4) ba) (And.intro (Lg.later (Lg.later H3.out.2 b4) ba) (And.intro Ba (And.intro (cell_later ba (cell_later b4 e0)) (And.intro (cell_later ba (cell_later b4 e1)) s5))))
    clear ba Ba b4 H3 HJ e0 e1 s5
    go_wp2_with fail
    generalize w4.alloc (.cells #[.pointer none, .bool false, .int .i64 0, .int .i64 0, .int .i64 2] 78) = w5 at *
    obtain ⟨hb5, L5, Ba, e0, e1, s5⟩ := H4.out
    have b6 : Below w5.heap.size w5 (w5.alloc (.cells #[.int .i64 3] 2)) := (Below.refl _ _).alloc (Nat.le_refl _) _
    have B6 : Blk (w5.alloc (.cells #[.int .i64 3] 2)) (w4.heap.size + 1) 2 ([3].map (fun t : Int => .int .i64 t)) := by rw [← s5]; exact Blk.new' w5 _ [.int .i64 3]
    refine (terms9_any (w4.heap.size + 1) [3] _ B6 (by decide) (by unfold I64; decide)).mono ?_
    rintro e w7 ⟨a7, cap7, rfl, hc7, -, hA7, b7⟩
    have hb7 := below_then (below_then hb5 b6) b7
    have L7 := Lg.later (Lg.later L5 b6) b7
    have HJ2 := enJoin_any g m4 2 1 a7 cap7 [tE 3] w7 L7 m4_wf (by unfold I64; omega) (by decide) hc7 hA7
    have H7 : Hid (Below w.heap.size w w7 ∧ Lg w7 g m4 ∧ Blk w7 w4.heap.size 78 [.pointer none, .bool false, .int .i64 0, .int .i64 0, .int .i64 2] ∧ w7.cell? ⟨rb, 1 * 2, none⟩ = some (.int .i64 3) ∧ w7.cell? ⟨rb, 1 * 2 + 1, none⟩ = some (.int .i64 2)) := ⟨hb7, L7, (Ba.laterB b6).laterB b7, cell_later b7 (cell_later b6 e0), cell_later b7 (cell_later b6 e1)⟩
    clear hb5 L5 Ba e0 e1 s5 b6 B6 hA7 b7 hb7 L7 H4
    go_wp2_with fail
    refine HJ2.mono ?_
    rintro e w8 ⟨hr8, b8⟩
    obtain ⟨g8, rfl⟩ : ∃ g8, e = .returned (joV (some g8) true 3 3 0) := by
      rcases hr8 with ⟨h, _⟩ | ⟨_, h, _⟩ | ⟨_, _, h, _⟩ | ⟨_, _, _, g', h, _⟩
      · rw [m4_b.1] at h; cases h
      · rw [m4_b.2] at h; cases h
      · exact absurd m4_fits h
      · rw [m4_b.2] at h; exact ⟨g', h⟩
    clear hr8 HJ2
    simp only [joV, Option.map_some]
    have bc := box5_below w8 (.pointer (some ⟨g8, 0, none⟩)) (.bool true) (.int .i64 3) (.int .i64 3) (.int .i64 0) 78
    have Bc : Blk (w8.alloc (.cells #[.pointer (some ⟨g8, 0, none⟩), .bool true, .int .i64 3, .int .i64 3, .int .i64 0] 78)) w8.heap.size 78 [.pointer (some ⟨g8, 0, none⟩), .bool true, .int .i64 3, .int .i64 3, .int .i64 0] := Blk.new' w8 _ _
    obtain ⟨hb7, L7, Ba, e0, e1⟩ := H7.out
    have H9 : Hid (Below w.heap.size w _ ∧ Lg _ g m4 ∧ Blk _ w4.heap.size 78 [.pointer none, .bool false, .int .i64 0, .int .i64 0, .int .i64 2] ∧ _ ∧ _ ∧ Blk _ w8.heap.size 78 _) := ⟨below_then (below_then hb7 b8) bc, Lg.later (Lg.later L7 b8) bc, (Ba.laterB b8).laterB bc, cell_later bc (cell_later b8 e0), cell_later bc (cell_later b8 e1), Bc⟩
    clear bc Bc hb7 L7 Ba e0 e1 b8 H7
    go_wp2_with fail
    generalize w8.alloc (.cells #[.pointer (some ⟨g8, 0, none⟩), .bool true, .int .i64 3, .int .i64 3, .int .i64 0] 78) = w9 at *
    obtain ⟨hb9, L9, Ba, e0, e1, Bc⟩ := H9.out
    have HJ3 := enJoin_no g m4 9 9 none 0 0 w9 L9 m4_wf (by unfold I64; omega) (by decide) m4_c.1
    rw [m4_c.2] at HJ3
    simp only [joV, Option.map_none] at HJ3
    refine HJ3.mono ?_
    rintro e w10 ⟨rfl, b10⟩
    have bd := box5_below w10 (.pointer none) (.bool false) (.int .i64 0) (.int .i64 0) (.int .i64 4) 78
    obtain ⟨⟨p0, p1, p2, p3, p4⟩, -⟩ := eblk5 ((Ba.laterB b10).laterB bd)
    obtain ⟨⟨r0, r1, r2, r3, r4⟩, -⟩ := eblk5 ((Bc.laterB b10).laterB bd)
    have y0 := cell_later bd (cell_later b10 e0)
    have y1 := cell_later bd (cell_later b10 e1)
    have F : Hid _ := below_then (below_then hb9 b10) bd
    clear hb9 L9 Ba e0 e1 Bc HJ3 b10 bd H9
    simp only [Nat.one_mul] at y0 y1
    go_wp2
    go_ret
    exact ⟨rfl, F.out⟩
  · exact absurd ⟨m4_new.1, by decide, m4_new.2⟩ hno
end Go.Proofs.Ytgjcgnmomdanaaa

/- Lists of entries that are alike. -/
namespace Go.Proofs.Ytgjcgnmomdanaaa
open Go.RowKit Go.Shelf
set_option linter.unusedVariables false
set_option maxRecDepth 4000

theorem str_same (s : ByteArray) (w : World) : (binOp .neq 9 (.string s) (.string s)).run Try.prog w = .ok (.bool false) w := by
  simp [binOp, go_sem, Op.stringOp]
set_option maxHeartbeats 2000000 in
theorem same9_yes (a b : Option Addr) (ca cb : Nat) (l : List Ent) (w : World) (hl : l.length ≤ 140737488355328) (ha : l.length ≤ ca) (hb : l.length ≤ cb) (hA : EArgs w a l) (hB : EArgs w b l) :
    Calls Try.prog 38 #[.slice a l.length ca, .slice b l.length cb] w fun e w' => e = .returned (.bool true) ∧ Below w.heap.size w w' := by
  have HH : Hid (EArgs w a l ∧ EArgs w b l) := And.intro hA hB
  have hlI : (l.length : Int) ≤ 140737488355328 := by omega
  clear hA hB
  go_enter Try.func38, Try.ntmps38
  go_wp2_with fail
  go_loopw [5] (fun iv wr => ∃ k : Nat, k ≤ l.length ∧ iv = .int .i64 k ∧ Below w.heap.size w wr) (fun iv _ => l.length - (intOf iv).toNat)
  case atStart => exact ⟨0, Nat.zero_le _, rfl, Below.refl _ _⟩
  case round =>
    obtain ⟨k, hk, rfl, hbw⟩ := hrel
    by_cases hlt : k < l.length
    · have q1 : (k : Int) < (l.length : Int) := by omega
      obtain ⟨p, off, rfl, hE⟩ := (HH.out.1.later hbw).at k hlt
      obtain ⟨p2, off2, rfl, hE2⟩ := (HH.out.2.later hbw).at k hlt
      generalize l[k] = en at *
      obtain ⟨e0, e1, ⟨x, cx, e2, hr, -⟩, -⟩ := hE
      obtain ⟨f0, f1, ⟨y, cy, f2, hr2, -⟩, -⟩ := hE2
      have l0 : ∀ W, Below wr.heap.size wr W → W.cell? ⟨p, off + k * 3, none⟩ = some (.int .i64 en.1) := fun W hW => cell_later hW e0
      have l1 : ∀ W, Below wr.heap.size wr W → W.cell? ⟨p, off + k * 3 + 1, none⟩ = some (.int .i64 en.2.1) := fun W hW => cell_later hW e1
      have l2 : ∀ W, Below wr.heap.size wr W → W.cell? ⟨p, off + k * 3 + 2, none⟩ = some (.slice x en.2.2.length cx) := fun W hW => cell_later hW e2
      have m0 : ∀ W, Below wr.heap.size wr W → W.cell? ⟨p2, off2 + k * 3, none⟩ = some (.int .i64 en.1) := fun W hW => cell_later hW f0
      have m1 : ∀ W, Below wr.heap.size wr W → W.cell? ⟨p2, off2 + k * 3 + 1, none⟩ = some (.int .i64 en.2.1) := fun W hW => cell_later hW f1
      have m2 : ∀ W, Below wr.heap.size wr W → W.cell? ⟨p2, off2 + k * 3 + 2, none⟩ = some (.slice y en.2.2.length cy) := fun W hW => cell_later hW f2
      have s1 : ∀ W, Below wr.heap.size wr W → (convert 23 9 (.slice x en.2.2.length cx)).run Try.prog W = .ok (.string (str en.2.2)) W := fun W hW => (hr.later hW).str _ _ rfl
      have s2 : ∀ W, Below wr.heap.size wr W → (convert 23 9 (.slice y en.2.2.length cy)).run Try.prog W = .ok (.string (str en.2.2)) W := fun W hW => (hr2.later hW).str _ _ rfl
      have hss := str_same (str en.2.2)
      have F : Hid _ := below_then hbw (Below.refl wr.heap.size wr).drew
      clear e0 e1 e2 f0 f1 f2 hr hr2 hbw
      generalize str en.2.2 = sv at *
      generalize en.2.2.length = nv at *
      go_wp2_with fail
      have Sd : Below wr.heap.size wr wr.drew := (Below.refl _ _).drew
      refine wp_region_held_drew (S := fun W => Below wr.heap.size wr W) (by kernel_rfl) Sd (fun hS => ?_)
      have B0 : Below wr.heap.size wr wr.drew := Sd
      refine any_take (i := 0) (v := ?_) rfl (by kernel_rfl) (by kernel_rfl) (by kernel_rfl) (by exact fun _ _ _ h => h) (by rfl) ?_ hS ?_
      rotate_left
      · ((intro w hSw; (try dsimp only at hSw); go_simp) <;> with_reducible rfl)
      (try simp only [Act.put, List.setIfInBounds_toArray, List.set_cons_zero, List.set_cons_succ])
      refine any_take (i := 1) (v := ?_) rfl (by kernel_rfl) (by kernel_rfl) (by kernel_rfl) (by exact fun _ _ _ h => h) (by rfl) ?_ hS ?_
      rotate_left
      · ((intro w hSw; (try dsimp only at hSw); go_simp) <;> with_reducible rfl)
      (try simp only [Act.put, List.setIfInBounds_toArray, List.set_cons_zero, List.set_cons_succ])
      refine any_take (i := 2) (v := ?_) rfl (by kernel_rfl) (by kernel_rfl) (by kernel_rfl) (by exact fun _ _ _ h => h) (by rfl) ?_ hS ?_
      rotate_left
      · ((intro w hSw; (try dsimp only at hSw); go_simp) <;> with_reducible rfl)
      (try simp only [Act.put, List.setIfInBounds_toArray, List.set_cons_zero, List.set_cons_succ])
      refine any_take (i := 3) (v := ?_) rfl (by kernel_rfl) (by kernel_rfl) (by kernel_rfl) (by exact fun _ _ _ h => h) (by rfl) ?_ hS ?_
      rotate_left
      · ((intro w hSw; (try dsimp only at hSw); go_simp) <;> with_reducible rfl)
      (try simp only [Act.put, List.setIfInBounds_toArray, List.set_cons_zero, List.set_cons_succ])
      refine any_take (i := 4) (v := ?_) rfl (by kernel_rfl) (by kernel_rfl) (by kernel_rfl) (by exact fun _ _ _ h => h) (by rfl) ?_ hS ?_
      rotate_left
      · ((intro w hSw; (try dsimp only at hSw); go_simp) <;> with_reducible rfl)
      (try simp only [Act.put, List.setIfInBounds_toArray, List.set_cons_zero, List.set_cons_succ])
      refine any_take (i := 5) (v := ?_) rfl (by kernel_rfl) (by kernel_rfl) (by kernel_rfl) (by exact fun _ _ _ h => h) (by rfl) ?_ hS ?_
      rotate_left
      · ((intro w hSw; (try dsimp only at hSw); go_simp) <;> with_reducible rfl)
      (try simp only [Act.put, List.setIfInBounds_toArray, List.set_cons_zero, List.set_cons_succ])
      refine any_take (i := 6) (v := ?_) rfl (by kernel_rfl) (by kernel_rfl) (by kernel_rfl) (by exact fun _ _ _ h => h) (by rfl) ?_ hS ?_
      rotate_left
      · ((intro w hSw; (try dsimp only at hSw); go_simp) <;> with_reducible rfl)
      (try simp only [Act.put, List.setIfInBounds_toArray, List.set_cons_zero, List.set_cons_succ])
      refine any_take (i := 7) (v := ?_) rfl (by kernel_rfl) (by kernel_rfl) (by kernel_rfl) (by exact fun _ _ _ h => h) (by rfl) ?_ hS ?_
      rotate_left
      · ((intro w hSw; (try dsimp only at hSw); go_simp) <;> with_reducible rfl)
      (try simp only [Act.put, List.setIfInBounds_toArray, List.set_cons_zero, List.set_cons_succ])
      refine any_take (i := 8) (v := ?_) rfl (by kernel_rfl) (by kernel_rfl) (by kernel_rfl) (by exact fun _ _ _ h => h) (by rfl) ?_ hS ?_
      rotate_left
      · ((intro w hSw; (try dsimp only at hSw); go_simp) <;> with_reducible rfl)
      (try simp only [Act.put, List.setIfInBounds_toArray, List.set_cons_zero, List.set_cons_succ])
      refine any_take (i := 9) (v := ?_) rfl (by kernel_rfl) (by kernel_rfl) (by kernel_rfl) (by exact fun _ _ _ h => h) (by rfl) ?_ hS ?_
      rotate_left
      · ((intro w hSw; (try dsimp only at hSw); go_simp) <;> with_reducible rfl)
      (try simp only [Act.put, List.setIfInBounds_toArray, List.set_cons_zero, List.set_cons_succ])
      refine any_take (i := 10) (v := ?_) rfl (by kernel_rfl) (by kernel_rfl) (by kernel_rfl) (by exact fun _ _ _ h => h) (by rfl) ?_ hS ?_
      rotate_left
      · ((intro w hSw; (try dsimp only at hSw); go_simp) <;> with_reducible rfl)
      (try simp only [Act.put, List.setIfInBounds_toArray, List.set_cons_zero, List.set_cons_succ])
      refine any_take (i := 11) (v := ?_) rfl (by kernel_rfl) (by kernel_rfl) (by kernel_rfl) (by exact fun _ _ _ h => h) (by rfl) ?_ hS ?_
      rotate_left
      · ((intro w hSw; (try dsimp only at hSw); go_simp) <;> with_reducible rfl)
      (try simp only [Act.put, List.setIfInBounds_toArray, List.set_cons_zero, List.set_cons_succ])
      refine any_take (i := 12) (v := ?_) rfl (by kernel_rfl) (by kernel_rfl) (by kernel_rfl) (by exact fun _ _ _ h => h) (by rfl) ?_ hS ?_
      rotate_left
      · ((intro w hSw; (try dsimp only at hSw); go_simp) <;> with_reducible rfl)
      (try simp only [Act.put, List.setIfInBounds_toArray, List.set_cons_zero, List.set_cons_succ])
      refine any_take (i := 13) (v := ?_) rfl (by kernel_rfl) (by kernel_rfl) (by kernel_rfl) (by exact fun _ _ _ h => h) (by rfl) ?_ hS ?_
      rotate_left
      · ((intro w hSw; (try dsimp only at hSw); go_simp) <;> with_reducible rfl)
      (try simp only [Act.put, List.setIfInBounds_toArray, List.set_cons_zero, List.set_cons_succ])
      refine any_take (i := 14) (v := ?_) rfl (by kernel_rfl) (by kernel_rfl) (by kernel_rfl) (by exact fun _ _ _ h => h) (by rfl) ?_ hS ?_
      rotate_left
      · ((intro w hSw; (try dsimp only at hSw); go_simp) <;> with_reducible rfl)
      (try simp only [Act.put, List.setIfInBounds_toArray, List.set_cons_zero, List.set_cons_succ])
      refine any_take (i := 15) (v := ?_) rfl (by kernel_rfl) (by kernel_rfl) (by kernel_rfl) (by exact fun _ _ _ h => h) (by rfl) ?_ hS ?_
      rotate_left
      · ((intro w hSw; (try dsimp only at hSw); go_simp) <;> with_reducible rfl)
      (try simp only [Act.put, List.setIfInBounds_toArray, List.set_cons_zero, List.set_cons_succ])
      refine any_take (i := 16) (v := ?_) rfl (by kernel_rfl) (by kernel_rfl) (by kernel_rfl) (by exact fun _ _ _ h => h) (by rfl) ?_ hS ?_
      rotate_left
      · ((intro w hSw; (try dsimp only at hSw); go_simp) <;> with_reducible rfl)
      (try simp only [Act.put, List.setIfInBounds_toArray, List.set_cons_zero, List.set_cons_succ])
      refine any_take (i := 17) (v := ?_) rfl (by kernel_rfl) (by kernel_rfl) (by kernel_rfl) (by exact fun _ _ _ h => h) (by rfl) ?_ hS ?_
      rotate_left
      · ((intro w hSw; (try dsimp only at hSw); go_simp) <;> with_reducible rfl)
      (try simp only [Act.put, List.setIfInBounds_toArray, List.set_cons_zero, List.set_cons_succ])
      refine any_take (i := 18) (v := ?_) rfl (by kernel_rfl) (by kernel_rfl) (by kernel_rfl) (by exact fun _ _ _ h => h) (by rfl) ?_ hS ?_
      rotate_left
      · ((intro w hSw; (try dsimp only at hSw); go_simp) <;> with_reducible rfl)
      (try simp only [Act.put, List.setIfInBounds_toArray, List.set_cons_zero, List.set_cons_succ])
      refine any_take (i := 19) (v := ?_) rfl (by kernel_rfl) (by kernel_rfl) (by kernel_rfl) (by exact fun _ _ _ h => h) (by rfl) ?_ hS ?_
      rotate_left
      · ((intro w hSw; (try dsimp only at hSw); go_simp) <;> with_reducible rfl)
      (try simp only [Act.put, List.setIfInBounds_toArray, List.set_cons_zero, List.set_cons_succ])
      refine any_take (i := 20) (v := ?_) rfl (by kernel_rfl) (by kernel_rfl) (by kernel_rfl) (by exact fun _ _ _ h => h) (by rfl) ?_ hS ?_
      rotate_left
      · ((intro w hSw; (try dsimp only at hSw); go_simp) <;> with_reducible rfl)
      (try simp only [Act.put, List.setIfInBounds_toArray, List.set_cons_zero, List.set_cons_succ])
      refine any_take (i := 21) (v := ?_) rfl (by kernel_rfl) (by kernel_rfl) (by kernel_rfl) (by exact fun _ _ _ h => h) (by rfl) ?_ hS ?_
      rotate_left
      · ((intro w hSw; (try dsimp only at hSw); go_simp) <;> with_reducible rfl)
      (try simp only [Act.put, List.setIfInBounds_toArray, List.set_cons_zero, List.set_cons_succ])
      refine any_take (i := 22) (v := ?_) rfl (by kernel_rfl) (by kernel_rfl) (by kernel_rfl) (by exact fun _ _ _ h => h) (by rfl) ?_ hS ?_
      rotate_left
      · ((intro w hSw; (try dsimp only at hSw); go_simp) <;> with_reducible rfl)
      (try simp only [Act.put, List.setIfInBounds_toArray, List.set_cons_zero, List.set_cons_succ])
      refine any_take (i := 23) (v := ?_) rfl (by kernel_rfl) (by kernel_rfl) (by kernel_rfl) (by exact fun _ _ _ h => h) (by rfl) ?_ hS ?_
      rotate_left
      · ((intro w hSw; (try dsimp only at hSw); go_simp) <;> with_reducible rfl)
      (try simp only [Act.put, List.setIfInBounds_toArray, List.set_cons_zero, List.set_cons_succ])
      refine any_take (i := 24) (v := ?_) rfl (by kernel_rfl) (by kernel_rfl) (by kernel_rfl) (by exact fun _ _ _ h => h) (by rfl) ?_ hS ?_
      rotate_left
      · ((intro w hSw; (try dsimp only at hSw); go_simp) <;> with_reducible rfl)
      (try simp only [Act.put, List.setIfInBounds_toArray, List.set_cons_zero, List.set_cons_succ])
      refine any_take (i := 25) (v := ?_) rfl (by kernel_rfl) (by kernel_rfl) (by kernel_rfl) (by exact fun _ _ _ h => h) (by rfl) ?_ hS ?_
      rotate_left
      · ((intro w hSw; (try dsimp only at hSw); go_simp) <;> with_reducible rfl)
      (try simp only [Act.put, List.setIfInBounds_toArray, List.set_cons_zero, List.set_cons_succ])
      refine any_take (i := 26) (v := ?_) rfl (by kernel_rfl) (by kernel_rfl) (by kernel_rfl) (by exact fun _ _ _ h => h) (by rfl) ?_ hS ?_
      rotate_left
      · ((intro w hSw; (try dsimp only at hSw); go_simp) <;> with_reducible rfl)
      (try simp only [Act.put, List.setIfInBounds_toArray, List.set_cons_zero, List.set_cons_succ])
      refine any_take (i := 27) (v := ?_) rfl (by kernel_rfl) (by kernel_rfl) (by kernel_rfl) (by exact fun _ _ _ h => h) (by rfl) ?_ hS ?_
      rotate_left
      · ((intro w hSw; (try dsimp only at hSw); go_simp) <;> with_reducible rfl)
      (try simp only [Act.put, List.setIfInBounds_toArray, List.set_cons_zero, List.set_cons_succ])
      refine any_take (i := 28) (v := ?_) rfl (by kernel_rfl) (by kernel_rfl) (by kernel_rfl) (by exact fun _ _ _ h => h) (by rfl) ?_ hS ?_
      rotate_left
      · ((intro w hSw; (try dsimp only at hSw); go_simp) <;> with_reducible rfl)
      (try simp only [Act.put, List.setIfInBounds_toArray, List.set_cons_zero, List.set_cons_succ])
      refine any_take (i := 29) (v := ?_) rfl (by kernel_rfl) (by kernel_rfl) (by kernel_rfl) (by exact fun _ _ _ h => h) (by rfl) ?_ hS ?_
      rotate_left
      · ((intro w hSw; (try dsimp only at hSw); go_simp) <;> with_reducible rfl)
      (try simp only [Act.put, List.setIfInBounds_toArray, List.set_cons_zero, List.set_cons_succ])
      refine any_take (i := 30) (v := ?_) rfl (by kernel_rfl) (by kernel_rfl) (by kernel_rfl) (by exact fun _ _ _ h => h) (by rfl) ?_ hS ?_
      rotate_left
      · ((intro w hSw; (try dsimp only at hSw); go_simp) <;> with_reducible rfl)
      (try simp only [Act.put, List.setIfInBounds_toArray, List.set_cons_zero, List.set_cons_succ])
      refine any_take (i := 31) (v := ?_) rfl (by kernel_rfl) (by kernel_rfl) (by kernel_rfl) (by exact fun _ _ _ h => h) (by rfl) ?_ hS ?_
      rotate_left
      · ((intro w hSw; (try dsimp only at hSw); go_simp) <;> with_reducible rfl)
      (try simp only [Act.put, List.setIfInBounds_toArray, List.set_cons_zero, List.set_cons_succ])
      refine any_take (i := 32) (v := ?_) rfl (by kernel_rfl) (by kernel_rfl) (by kernel_rfl) (by exact fun _ _ _ h => h) (by rfl) ?_ hS ?_
      rotate_left
      · ((intro w hSw; (try dsimp only at hSw); go_simp) <;> with_reducible rfl)
      (try simp only [Act.put, List.setIfInBounds_toArray, List.set_cons_zero, List.set_cons_succ])
      refine any_take (i := 33) (v := ?_) rfl (by kernel_rfl) (by kernel_rfl) (by kernel_rfl) (by exact fun _ _ _ h => h) (by rfl) ?_ hS ?_
      rotate_left
      · ((intro w hSw; (try dsimp only at hSw); go_simp) <;> with_reducible rfl)
      (try simp only [Act.put, List.setIfInBounds_toArray, List.set_cons_zero, List.set_cons_succ])
      refine any_take (i := 34) (v := ?_) rfl (by kernel_rfl) (by kernel_rfl) (by kernel_rfl) (by exact fun _ _ _ h => h) (by rfl) ?_ hS ?_
      rotate_left
      · ((intro w hSw; (try dsimp only at hSw); go_simp) <;> with_reducible rfl)
      (try simp only [Act.put, List.setIfInBounds_toArray, List.set_cons_zero, List.set_cons_succ])
      refine any_take (i := 35) (v := ?_) rfl (by kernel_rfl) (by kernel_rfl) (by kernel_rfl) (by exact fun _ _ _ h => h) (by rfl) ?_ hS ?_
      rotate_left
      · ((intro w hSw; (try dsimp only at hSw); go_simp) <;> with_reducible rfl)
      (try simp only [Act.put, List.setIfInBounds_toArray, List.set_cons_zero, List.set_cons_succ])
      refine any_take (i := 36) (v := ?_) rfl (by kernel_rfl) (by kernel_rfl) (by kernel_rfl) (by exact fun _ _ _ h => h) (by rfl) ?_ hS ?_
      rotate_left
      · ((intro w hSw; (try dsimp only at hSw); go_simp) <;> with_reducible rfl)
      (try simp only [Act.put, List.setIfInBounds_toArray, List.set_cons_zero, List.set_cons_succ])
      refine any_take (i := 37) (v := ?_) rfl (by kernel_rfl) (by kernel_rfl) (by kernel_rfl) (by exact fun _ _ _ h => h) (by rfl) ?_ hS ?_
      rotate_left
      · ((intro w hSw; (try dsimp only at hSw); go_simp) <;> with_reducible rfl)
      (try simp only [Act.put, List.setIfInBounds_toArray, List.set_cons_zero, List.set_cons_succ])
      refine any_take (i := 38) (v := ?_) rfl (by kernel_rfl) (by kernel_rfl) (by kernel_rfl) (by exact fun _ _ _ h => h) (by rfl) ?_ hS ?_
      rotate_left
      · ((intro w hSw; (try dsimp only at hSw); go_simp) <;> with_reducible rfl)
      (try simp only [Act.put, List.setIfInBounds_toArray, List.set_cons_zero, List.set_cons_succ])
      refine wpAnyH_done (by kernel_rfl) ?_ _
      clear l0 l1 l2 m0 m1 m2 s1 s2 hss
      go_wp2
      go_roundw
      case rel => exact ⟨k + 1, by omega, by go_num, F.out⟩
      case measure => simp [intOf]; omega
    · obtain rfl : k = l.length := by omega
      have F : Hid _ := hbw
      clear hbw
      go_wp2
      go_ret
      exact ⟨rfl, F.out⟩
end Go.Proofs.Ytgjcgnmomdanaaa
