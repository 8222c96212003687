/- The runs of a log, as a function that is ranged over. -/
import Derived.RangeFuncNested
import Derived.RangeFuncBound
import Derived.RangeFuncCalls
import Derived.RangeFuncLeaves
import Derived.Shelf.Abstract
import Derived.Shelf.RegionOpen
import Derived.OwnWalkIn
import Derived.TacticsInMore
import Derived.LoopNIn
import Derived.LoopIn
import Derived.Test.YtmcljbpemninlaaEn16
namespace Go.Proofs.Ytmcljbpemninlaa
open Go.RowKit Go.Shelf
set_option linter.unusedVariables false
set_option maxRecDepth 4000
attribute [local go_sem] Oper.semAt_some

/-- the runs of the first k entries: places and terms -/
def Lm.runK (m : Lm) : Nat → List (Int × Int)
  | 0 => []
  | k + 1 => if m.begB ((m.fl : Int) + (k + 1 : Nat)) = true then m.runK k ++ [((m.fl : Int) + (k + 1 : Nat), m.term ((m.fl : Int) + (k + 1 : Nat)))] else m.runK k
theorem Lm.runK_len (m : Lm) (k : Nat) : (m.runK k).length ≤ k := by
  induction k with
  | zero => exact Nat.le_refl _
  | succ k ih => unfold Lm.runK; split; simp; omega; omega
def encI (r : Int × Int) : Array Value := #[.int .i64 r.1, .int .i64 r.2]
/-- these blocks lie as they lay -/
def KeepL (bs : List Nat) (W W' : World) : Prop := ∀ k ∈ bs, W'.heap[k]? = W.heap[k]?
theorem KeepL.t {bs : List Nat} {A B C : World} (h : KeepL bs A B) (k : KeepL bs B C) : KeepL bs A C := fun i hi => (k i hi).trans (h i hi)
theorem KeepL.below {bs : List Nat} {A B : World} (h : Below A.heap.size A B) (hl : ∀ k ∈ bs, k < A.heap.size) : KeepL bs A B := fun k hk => h.block k (hl k hk)
theorem Lg.blocks {w : World} {g : Nat} {m : Lm} (h : Lg w g m) : ∃ ks : List Nat, (∀ k ∈ ks, k < w.heap.size) ∧ ∀ w', KeepL ks w w' → Lg w' g m := by
  obtain ⟨a, c, h1, h2, h3, h4⟩ := h
  by_cases hl : m.l = []
  · exact ⟨[g], (fun k hk => by rw [List.mem_singleton.1 hk]; exact h1.lt), fun w' hk => ⟨a, c, by unfold Blk at *; rw [hk g (by simp)]; exact h1, h2, h3, .inl hl⟩⟩
  · have hpos : 0 < m.l.length := List.length_pos_iff.2 hl
    rcases h4 with h4 | ⟨b, off, rfl, h4⟩
    · exact absurd h4 hl
    · refine ⟨[g, b], (fun k hk => ?_), fun w' hk => ⟨_, c, by unfold Blk at *; rw [hk g (by simp)]; exact h1, h2, h3, .inr ⟨b, off, rfl, fun i hi => ?_⟩⟩⟩
      · simp only [List.mem_cons, List.not_mem_nil, or_false] at hk
        rcases hk with rfl | rfl
        · exact h1.lt
        · exact World.block_lt_of_cell? w ⟨k, off + 0, none⟩ (h4 0 hpos)
      · exact (World.cell?_of_block (w := w) (a := ⟨b, off + i, none⟩) (hk b (by simp))).trans (h4 i hi)
theorem below_grown9 {w w' : World} (h : Below w.heap.size w w') : w.grownBy w' none := ⟨h.os, h.tape, h.output, h.size, fun k hk _ => h.block k hk⟩

theorem Lm.runK_mono (m : Lm) {i j : Nat} (h : i ≤ j) : (m.runK i).length ≤ (m.runK j).length := by
  induction j with
  | zero => rw [Nat.le_zero.1 h]; exact Nat.le_refl _
  | succ j ih =>
    by_cases e : i = j + 1
    · rw [e]; exact Nat.le_refl _
    · have := ih (by omega)
      rw [Lm.runK]
      split
      · simp; omega
      · exact this
set_option maxHeartbeats 2000000 in
theorem seq9_stops (n : Nat) (hn : 1 ≤ n) (c g : Nat) (m : Lm) (ks : List Nat) (w : World) (hw : m.Wf) (hB : Blk w c 65 [.pointer (some ⟨g, 0, none⟩)]) (hL : Lg w g m) (hks : ∀ k ∈ ks, k < w.heap.size) (hkL : ∀ W w', Below w.heap.size w W → KeepL ks W w' → Lg w' g m) (hc : c ∈ ks) :
    SeqStopsK Fence.wide n Try.prog 86 #[.pointer (some ⟨c, 0, none⟩)] encI (KeepL ks) (fun ys => ys = m.runK m.l.length) (fun _ => True) (m.runK m.l.length).length w := fun y J Jx W hW hJ _ hY h0 => by
  have hB' : Blk W c 65 [.pointer (some ⟨g, 0, none⟩)] := hB.laterB hW
  have hL' : Lg W g m := hL.later hW
  have hpl := hw.place
  have hfu := hw.full
  have HF := enFloor_any g m W hL'
  have cc := hB'.cell (by simp [maxLen]) 0 (by simp)
  simp only [List.getElem?_cons_zero] at cc
  have hksW : ∀ k ∈ ks, k < W.heap.size := fun k hk => Nat.lt_of_lt_of_le (hks k hk) hW.size
  have htl : (m.top : Int) = (m.fl : Int) + m.l.length := by unfold Lm.top; omega
  have HX : Hid _ := And.intro hw (And.intro hksW (And.intro (fun w' hk => hkL W w' hW hk) (And.intro hB' htl)))
  clear hB hL hks hkL hW hB' hL' hw hksW htl
  refine callsIn_of_wp Try.func86 rfl trivial ?_ rfl
  simp only [Try.ntmps86, List.size_toArray, List.length_cons, List.length_nil, Nat.reduceAdd, Nat.reduceSub, Array.replicate_succ, Array.replicate_zero, List.push_toArray, List.append_toArray, List.nil_append, List.cons_append]
  gi_wp2
  refine ⟨trivial, (callsIn_wide.2 HF).mono ?_⟩
  rintro e w1 ⟨rfl, b1⟩
  have J1 := hJ [] W w1 none h0 (below_grown9 b1) (fun r e => by cases e)
  have K1 := KeepL.below b1 HX.out.2.1
  have cc1 := cell_later b1 cc
  have HT := enTop_any g m w1 (HX.out.2.2.1 w1 K1) HX.out.1
  have H1 : Hid _ := And.intro J1 K1
  clear J1 K1 b1 HF cc
  gi_wp2
  refine ⟨trivial, (callsIn_wide.2 HT).mono ?_⟩
  rintro e w2 ⟨rfl, b2⟩
  have J2 := hJ [] w1 w2 none H1.out.1 (below_grown9 b2) (fun r e => by cases e)
  have hz1 : ∀ k ∈ ks, k < w1.heap.size := fun k hk => by
    rcases Nat.lt_or_ge k w1.heap.size with h | h
    · exact h
    · have h1 := H1.out.2 k hk
      rw [Array.getElem?_eq_none h] at h1
      have h2 := HX.out.2.1 k hk
      rw [Array.getElem?_eq_getElem h2] at h1; cases h1
  have K2 := KeepL.t H1.out.2 (KeepL.below b2 hz1)
  have H2 : Hid _ := And.intro J2 K2
  clear J2 K2 b2 HT cc1 H1 hz1
  have htop : m.top ≤ 1125899906842624 + 4096 := by have := HX.out.2.2.2.2; omega
  gi_wp2
  gi_loopw [8] (fun iv wr => ∃ k : Nat, k ≤ m.l.length ∧ iv = .int .i64 ((m.fl : Int) + k + 1) ∧ J (m.runK k) wr ∧ KeepL ks W wr) (fun iv _ => ((m.top : Int) + 2 - intOf iv).toNat)
  case atStart => exact ⟨0, Nat.zero_le _, by go_num, H2.out.1, H2.out.2⟩
  case round =>
    obtain ⟨k, hk, rfl, hJk, hKk⟩ := hrel
    have htl := HX.out.2.2.2.2
    have hBk : Blk wr c 65 [.pointer (some ⟨g, 0, none⟩)] := by have := HX.out.2.2.2.1; unfold Blk at *; rw [hKk c hc]; exact this
    have ck := hBk.cell (by simp [maxLen]) 0 (by simp)
    simp only [List.getElem?_cons_zero] at ck
    have hz : ∀ q ∈ ks, q < wr.heap.size := fun q hq => by
      rcases Nat.lt_or_ge q wr.heap.size with h | h
      · exact h
      · have h1 := hKk q hq
        rw [Array.getElem?_eq_none h] at h1
        have h2 := HX.out.2.1 q hq
        rw [Array.getElem?_eq_getElem h2] at h1; cases h1
    by_cases hlt : k < m.l.length
    · have q1 : (m.fl : Int) + k + 1 ≤ (m.top : Int) := by omega
      have hn64 : I64 ((m.fl : Int) + k + 1) := by unfold I64; omega
      have HB := enbegins_any g m ((m.fl : Int) + k + 1) wr (HX.out.2.2.1 wr hKk) HX.out.1 hn64 (by omega)
      have e1 : (m.fl : Int) + (k + 1 : Nat) = (m.fl : Int) + k + 1 := by omega
      have hrk : m.runK (k + 1) = if m.begB ((m.fl : Int) + k + 1) = true then m.runK k ++ [((m.fl : Int) + k + 1, m.term ((m.fl : Int) + k + 1))] else m.runK k := by rw [Lm.runK, e1]
      have hlen := m.runK_mono (show k + 1 ≤ m.l.length by omega)
      cases hbg : m.begB ((m.fl : Int) + k + 1) with
      | false =>
        rw [hbg] at HB hrk
        rw [if_neg (by decide)] at hrk
        have F : Hid _ := And.intro hJk (And.intro hKk (And.intro hrk hz))
        clear hJk hKk hrk hz hBk hlen htl hbg e1 hn64
        gi_wp2
        refine ⟨trivial, (callsIn_wide.2 HB).mono ?_⟩
        rintro e w3 ⟨rfl, b3⟩
        obtain ⟨hJk, hKk, hrk, hz⟩ := F.out
        have J3 := hJ _ wr w3 none hJk (below_grown9 b3) (fun r e => by cases e)
        have G : Hid _ := And.intro (show J (m.runK (k + 1)) w3 by rw [hrk]; exact J3) (KeepL.t hKk (KeepL.below b3 hz))
        clear F hJk hKk hrk hz J3 b3 HB ck
        gi_wp2
        refine ⟨trivial, ?_⟩
        gi_wp2
        refine ⟨(fun f h => by cases h), ?_⟩
        gi_wp2
        go_roundw
        case rel => exact ⟨k + 1, by omega, by go_num, G.out.1, G.out.2⟩
        case measure => simp [intOf]; omega
      | true =>
        rw [hbg] at HB hrk
        rw [if_pos rfl] at hrk
        have hl2 : (m.runK k).length < (m.runK m.l.length).length := by rw [hrk] at hlen; simp at hlen; omega
        have F : Hid _ := And.intro hJk (And.intro hKk (And.intro hrk (And.intro hz (And.intro hl2 hn64))))
        clear hJk hKk hrk hz hBk hlen htl hbg e1 hn64 hl2
        gi_wp2
        refine ⟨trivial, (callsIn_wide.2 HB).mono ?_⟩
        rintro e w3 ⟨rfl, b3⟩
        obtain ⟨hJk, hKk, hrk, hz, hl2, hn64⟩ := F.out
        have J3 := hJ _ wr w3 none hJk (below_grown9 b3) (fun r e => by cases e)
        have K3 := KeepL.t hKk (KeepL.below b3 hz)
        have hz3 : ∀ q ∈ ks, q < w3.heap.size := fun q hq => Nat.lt_of_lt_of_le (hz q hq) b3.size
        have c3 := cell_later b3 ck
        have HE := enTerm_any g m ((m.fl : Int) + k + 1) w3 (HX.out.2.2.1 w3 K3) HX.out.1 hn64
        have G : Hid _ := And.intro J3 (And.intro K3 (And.intro hrk (And.intro hz3 hl2)))
        clear F hJk hKk hrk hz J3 K3 b3 HB ck hz3 hl2 hn64
        gi_wp2
        refine ⟨trivial, (callsIn_wide.2 HE).mono ?_⟩
        rintro e w4 ⟨rfl, b4⟩
        obtain ⟨J3, K3, hrk, hz3, hl2⟩ := G.out
        have J4 := hJ _ w3 w4 none J3 (below_grown9 b4) (fun r e => by cases e)
        have K4 := KeepL.t K3 (KeepL.below b4 hz3)
        obtain ⟨fn, tmps, assign, body, hy, hRd⟩ := hY (m.runK k) ((m.fl : Int) + k + 1, m.term ((m.fl : Int) + k + 1)) w4 J4 hl2
        unfold encI at hy
        dsimp only at hy
        have H4 : Hid _ := And.intro K4 hrk
        clear G J3 K3 hrk hz3 hl2 J4 K4 b4 HE c3
        gi_wp2
        refine hRd.mono ?_
        rintro e W5 (⟨rfl, hJ5, hk5⟩ | ⟨rfl, hJx5⟩)
        · have G : Hid _ := And.intro (show J (m.runK (k + 1)) W5 by rw [H4.out.2]; exact hJ5) (KeepL.t H4.out.1 hk5)
          clear hJ5 hk5 H4
          gi_wp2
          go_roundw
          case rel => exact ⟨k + 1, by omega, by go_num, G.out.1, G.out.2⟩
          case measure => simp [intOf]; omega
        · gi_wp2
          refine bodyPost_ret (results_none rfl _ _ _) rfl ?_
          exact ⟨⟨_, rfl⟩, .inr ⟨_, trivial, hJx5⟩⟩
    · obtain rfl : k = m.l.length := by omega
      have q1 : ¬ (m.fl : Int) + m.l.length + 1 ≤ (m.top : Int) := by omega
      clear htl hz hBk
      gi_wp2
      go_end0
      exact ⟨⟨_, rfl⟩, .inl hJk⟩

set_option maxHeartbeats 400000 in
theorem enRuns_any (p : Option Addr) (w : World) :
    Calls Try.prog 62 #[.pointer p] w fun e w' => ∃ c, e = .returned (.func (.func 86) #[] #[.pointer (some ⟨c, 0, none⟩)]) ∧ w.heap.size ≤ c ∧ Blk w' c 65 [.pointer p] ∧ Below w.heap.size w w' := by
  have B2 : Blk (w.alloc (.cells #[.pointer p] 65)) w.heap.size 65 [.pointer p] := Blk.new' w _ _
  have b2 : Below w.heap.size w (w.alloc (.cells #[.pointer p] 65)) := (Below.refl _ _).alloc (Nat.le_refl _) _
  have F : Hid _ := And.intro B2 b2
  clear B2 b2
  go_enter Try.func62, Try.ntmps62
  go_wp2
  go_ret
  exact ⟨_, rfl, Nat.le_refl _, F.out.1, F.out.2⟩
set_option maxHeartbeats 1000000 in
theorem seq9_nil (n : Nat) (hn : 1 ≤ n) (c : Nat) (w : World) (hB : Blk w c 65 [.pointer none]) :
    SeqStopsK Fence.wide n Try.prog 86 #[.pointer (some ⟨c, 0, none⟩)] encI (KeepL [c]) (fun ys => ys = []) (fun _ => True) 0 w := fun y J Jx W hW hJ _ hY h0 => by
  have hB' : Blk W c 65 [.pointer none] := hB.laterB hW
  have cc := hB'.cell (by simp [maxLen]) 0 (by simp)
  simp only [List.getElem?_cons_zero] at cc
  have HF := enFloor_nil W
  have HT := enTop_nil W
  clear hB hW hB'
  refine callsIn_of_wp Try.func86 rfl trivial ?_ rfl
  simp only [Try.ntmps86, List.size_toArray, List.length_cons, List.length_nil, Nat.reduceAdd, Nat.reduceSub, Array.replicate_succ, Array.replicate_zero, List.push_toArray, List.append_toArray, List.nil_append, List.cons_append]
  gi_wp2
  refine ⟨trivial, (callsIn_wide.2 HF).mono ?_⟩
  rintro e w1 ⟨rfl, rfl⟩
  gi_wp2
  refine ⟨trivial, (callsIn_wide.2 HT).mono ?_⟩
  rintro e w1 ⟨rfl, rfl⟩
  gi_wp2
  gi_loopw [8] (fun iv wr => iv = .int .i64 1 ∧ J [] wr) (fun iv _ => 0)
  case atStart => exact ⟨rfl, h0⟩
  case round =>
    obtain ⟨rfl, hJk⟩ := hrel
    gi_wp2
    go_end0
    exact ⟨⟨_, rfl⟩, .inl ⟨_, rfl, hJk⟩⟩
end Go.Proofs.Ytmcljbpemninlaa
