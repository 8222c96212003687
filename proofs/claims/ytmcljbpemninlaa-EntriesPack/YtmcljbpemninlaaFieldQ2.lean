/- A reader's Bytes, Count and End; a new reader; none at all. -/
import Derived.Test.YtmcljbpemninlaaFieldQ1
namespace Go.Proofs.Ytmcljbpemninlaa
open Go.RowKit

theorem below_grown {w w' : World} (hb : Below w.heap.size w w') : w.grownBy w' none := ⟨hb.os, hb.tape, hb.output, hb.size, fun k hk _ => hb.block k hk⟩
/-- new blocks are none of the reader's -/
theorem RdAt.mores {w : World} {F : List Nat} {g T : Nat} {L : List (BitVec 8)} {E : Int} {a : Option Addr} {len cap : Nat} {l : List (BitVec 8)} (h : RdAt w F g T L E a len cap l) (F' : List Nat) (hF : ∀ k ∈ F', w.heap.size ≤ k) : RdAt w (F' ++ F) g T L E a len cap l :=
  ⟨h.blk, h.len_eq, h.le, h.bound, h.row, h.isNil, h.lt, fun x hx => ⟨(h.off x hx).1, fun hm => by
    rcases List.mem_append.1 hm with h1 | h1
    · have := hF _ h1; have := h.lt x hx; omega
    · exact (h.off x hx).2 h1⟩, h.ok⟩
/-- bytes that a call owns stay where another block turns -/
theorem Own.keep {w w' : World} {base : Nat} {v : Value} {l : List (BitVec 8)} {row : Option Nat} (h : Own w base v l) (hg : w.grownBy w' row) (hn : ∀ k, v.ownBlock = some k → some k ≠ row) : Own w' base v l := by
  obtain ⟨h1, h2 | ⟨g, cap, cur, rfl, hb, hh, r⟩⟩ := h
  · exact ⟨h1, .inl h2⟩
  · refine ⟨h1, .inr ⟨g, cap, cur, rfl, hb, ?_, r⟩⟩
    have hlt : g < w.heap.size := by
      rcases Nat.lt_or_ge g w.heap.size with h | h
      · exact h
      · rw [Array.getElem?_eq_none h] at hh; cases hh
    rw [hg.block g hlt (hn g rfl)]; exact hh

/-- what a read of bytes does: what is left, the error, the bytes -/
def rdBytes (L : List (BitVec 8)) (E : Int) (size : Int) : List (BitVec 8) × Int × List (BitVec 8) :=
  if E = 0 then (if cutE L size = 0 then (L.drop (cutN L size), 0, (L.drop size.toNat).take (cutN L size - size.toNat)) else ([], cutE L size, [])) else ([], E, [])
/-- what a read of a count does -/
def rdCount (L : List (BitVec 8)) (E : Int) (size most : Int) : List (BitVec 8) × Int × Int :=
  if (rdNum L E size).2.1 = 0 then (if (rdNum L E size).2.2 < 0 ∨ most < (rdNum L E size).2.2 then ([], 3, 0) else if ((rdNum L E size).1.length : Int) < (rdNum L E size).2.2 then ([], 10, 0) else rdNum L E size) else ([], (rdNum L E size).2.1, 0)
/-- what a reader's end tells -/
def rdEnd (L : List (BitVec 8)) (E : Int) : Int := if E = 0 then (if 0 < L.length then 11 else 0) else E

set_option maxHeartbeats 400000 in
theorem rdBytes_err (F : List Nat) (g : Nat) (L : List (BitVec 8)) (E size : Int) (w : World) (hR : Rd w F g 95 L E) (hE : E ≠ 0) :
    Calls Try.prog 59 #[.pointer (some ⟨g, 0, none⟩), .int .i64 size] w fun e w' => e = .returned (.slice none 0 0) ∧ w = w' := by
  obtain ⟨a, len, cap, l, hR⟩ := hR
  have c1 := hR.blk.cell (by simp [maxLen]) 1 (by simp)
  simp only [List.getElem?_cons_zero, List.getElem?_cons_succ] at c1
  clear hR
  go_enter Try.func59, Try.ntmps59
  go_wp2
  go_ret
  exact ⟨rfl, rfl⟩

set_option maxHeartbeats 400000 in
theorem rdBytes_no (F : List Nat) (g : Nat) (L : List (BitVec 8)) (size : Int) (w : World) (hR : Rd w F g 95 L 0) (hE : cutE L size ≠ 0) :
    Calls Try.prog 59 #[.pointer (some ⟨g, 0, none⟩), .int .i64 size] w fun e w' => e = .returned (.slice none 0 0) ∧ Blk w' g 95 [.slice none 0 0, .int .i64 (cutE L size)] ∧ w.grownBy w' (some g) := by
  obtain ⟨a, len, cap, l, hR⟩ := hR
  have hl := hR.ok rfl
  subst hl
  have c1 := hR.blk.cell (by simp [maxLen]) 1 (by simp)
  have c0 := hR.blk.cell (by simp [maxLen]) 0 (by simp)
  simp only [List.getElem?_cons_zero, List.getElem?_cons_succ] at c1 c0
  have hB := hR.blk
  have hb := hR.bound
  have hle := hR.len_eq
  have hrow := hR.row
  have hE' : (cutE l size == 0) = false := by simpa using hE
  clear hR
  go_enter Try.func59, Try.ntmps59
  go_wp2_with fail
  refine (cutEnd_any a len cap l size w hle hb hrow).mono ?_
  rintro e w' ⟨rfl, rfl⟩
  go_wp2_with fail
  refine (fail_any g _ _ _ w hB).mono ?_
  rintro e w' ⟨rfl, hB', hg⟩
  clear hB
  go_wp2
  go_ret
  exact ⟨rfl, hB', hg⟩

set_option maxHeartbeats 400000 in
theorem rdBytes_yes (F : List Nat) (g : Nat) (L : List (BitVec 8)) (s N : Nat) (w : World) (hR : Rd w F g 95 L 0) (hE : cutE L s = 0) (hN : cutN L s = N) (hsN : s ≤ N) (hNL : N ≤ L.length) (h1 : 1 ≤ s) :
    Calls Try.prog 59 #[.pointer (some ⟨g, 0, none⟩), .int .i64 s] w fun e w' => ∃ v, e = .returned v ∧ Own w' w.heap.size v ((L.drop s).take (N - s)) ∧ Rd w' (v.ownBlock.toList ++ F) g 95 (L.drop N) 0 ∧ w.grownBy w' (some g) := by
  obtain ⟨a, len, cap, l, hR⟩ := hR
  have hl := hR.ok rfl
  subst hl
  have c1 := hR.blk.cell (by simp [maxLen]) 1 (by simp)
  have c0 := hR.blk.cell (by simp [maxLen]) 0 (by simp)
  simp only [List.getElem?_cons_zero, List.getElem?_cons_succ] at c0 c1
  have hB := hR.blk
  have hb := hR.bound
  have hle := hR.len_eq
  have hcap := hR.le
  rw [hle] at hNL
  rcases id hR.row with h0 | ⟨b, off, rfl, hc⟩
  · subst h0; simp at hle; omega
  have q1 : (N : Int) ≤ (len : Int) := by omega
  have q2 : (s : Int) ≤ (N : Int) := by omega
  have q3 : (0 : Int) ≤ (s : Int) := by omega
  have q4 : (N : Int) ≤ (cap : Int) := by omega
  have hrow := hR.row
  by_cases hcs : cap = s
  · obtain rfl : N = s := by omega
    subst hcs
    have hm : ((l.drop cap).take (cap - cap)).length = cap - cap := by simp
    have K : Hid _ := And.intro hB (And.intro hR hm)
    go_enter Try.func59, Try.ntmps59
    go_wp2_with fail
    refine (cutEnd_any (some ⟨b, off, none⟩) len cap l cap w hle hb hrow).mono ?_
    rw [hE, hN]
    rintro e w' ⟨rfl, rfl⟩
    clear hE hN hB hR
    go_wp2_with fail
    refine (clone_any (some ⟨b, off, none⟩) 0 0 ((l.drop cap).take (cap - cap)) w (by omega) (by omega) (.inl (List.eq_nil_of_length_eq_zero (by omega))) (fun e => by cases e) (by omega)).mono ?_
    rintro e w1 ⟨v, rfl, ho, hb1⟩
    have hB1 := K.out.1.grown (below_grown hb1) (by simp)
    have hR1 := (K.out.2.1.mores v.ownBlock.toList (fun k hk => own_block ho k (by simpa using hk))).keep (below_grown hb1) (fun k hk => by cases hk)
    have c1' := hB1.cell (by simp [maxLen]) 1 (by simp)
    have c0' := hB1.cell (by simp [maxLen]) 0 (by simp)
    have f0' := hB1.frozen (by simp [maxLen]) 0
    simp only [List.getElem?_cons_zero, List.getElem?_cons_succ] at c0' c1'
    have B2 := hB1.set 0 (.slice (some ⟨b, off, none⟩) 0 0)
    have G2 := grown_trans (grown_none (below_grown hb1) (some g)) (grown_set w1 g 0 (.slice (some ⟨b, off, none⟩) 0 0))
    have O2 : Own (w1.setCell ⟨g, 0, none⟩ (.slice (some ⟨b, off, none⟩) 0 0)) w.heap.size v ((l.drop cap).take (cap - cap)) := ho.keep (grown_set w1 g 0 _) (fun k hk e => by have := own_block ho k hk; have := K.out.1.lt; have e' : k = g := (by simpa using e); omega)
    have F2 : Hid _ := And.intro B2 (And.intro G2 (And.intro O2 hR1))
    clear B2 G2 O2 hR1 hB1 ho hc c0 c1
    go_wp2
    go_ret
    exact ⟨v, rfl, F2.out.2.2.1, F2.out.2.2.2.cut cap (by omega) (.inr ⟨rfl, rfl⟩) (by rw [show len - cap = 0 by omega, Nat.sub_self]; exact F2.out.1) (grown_set _ _ _ _), F2.out.2.1⟩
  by_cases hcN : cap = N
  · subst hcN
    have hm : ((l.drop s).take (cap - s)).length = cap - s := by simp; omega
    have K : Hid _ := And.intro hB (And.intro hR hm)
    go_enter Try.func59, Try.ntmps59
    go_wp2_with fail
    refine (cutEnd_any (some ⟨b, off, none⟩) len cap l s w hle hb hrow).mono ?_
    rw [hE, hN]
    rintro e w' ⟨rfl, rfl⟩
    clear hE hN hB hR
    go_wp2_with fail
    refine (clone_any (some ⟨b, off + s, none⟩) (cap - s) (cap - s) ((l.drop s).take (cap - s)) w (by omega) (by omega) ((hrow.drop s).takes _) (fun e => by cases e) (by omega)).mono ?_
    rintro e w1 ⟨v, rfl, ho, hb1⟩
    have hB1 := K.out.1.grown (below_grown hb1) (by simp)
    have hR1 := (K.out.2.1.mores v.ownBlock.toList (fun k hk => own_block ho k (by simpa using hk))).keep (below_grown hb1) (fun k hk => by cases hk)
    have c1' := hB1.cell (by simp [maxLen]) 1 (by simp)
    have c0' := hB1.cell (by simp [maxLen]) 0 (by simp)
    have f0' := hB1.frozen (by simp [maxLen]) 0
    simp only [List.getElem?_cons_zero, List.getElem?_cons_succ] at c0' c1'
    have B2 := hB1.set 0 (.slice (some ⟨b, off, none⟩) 0 0)
    have G2 := grown_trans (grown_none (below_grown hb1) (some g)) (grown_set w1 g 0 (.slice (some ⟨b, off, none⟩) 0 0))
    have O2 : Own (w1.setCell ⟨g, 0, none⟩ (.slice (some ⟨b, off, none⟩) 0 0)) w.heap.size v ((l.drop s).take (cap - s)) := ho.keep (grown_set w1 g 0 _) (fun k hk e => by have := own_block ho k hk; have := K.out.1.lt; have e' : k = g := (by simpa using e); omega)
    have F2 : Hid _ := And.intro B2 (And.intro G2 (And.intro O2 hR1))
    clear B2 G2 O2 hR1 hB1 ho hc c0 c1
    go_wp2
    go_ret
    exact ⟨v, rfl, F2.out.2.2.1, F2.out.2.2.2.cut cap (by omega) (.inr ⟨rfl, rfl⟩) (by rw [show len - cap = 0 by omega, Nat.sub_self]; exact F2.out.1) (grown_set _ _ _ _), F2.out.2.1⟩
  · have q5 : ¬ cap = N := hcN
    have hm : ((l.drop s).take (N - s)).length = N - s := by simp; omega
    have K : Hid _ := And.intro hB (And.intro hR hm)
    go_enter Try.func59, Try.ntmps59
    go_wp2_with fail
    refine (cutEnd_any (some ⟨b, off, none⟩) len cap l s w hle hb hrow).mono ?_
    rw [hE, hN]
    rintro e w' ⟨rfl, rfl⟩
    clear hE hN hB hR
    go_wp2_with fail
    refine (clone_any (some ⟨b, off + s, none⟩) (N - s) (cap - s) ((l.drop s).take (N - s)) w (by omega) (by omega) ((hrow.drop s).takes _) (fun e => by cases e) (by omega)).mono ?_
    rintro e w1 ⟨v, rfl, ho, hb1⟩
    have hB1 := K.out.1.grown (below_grown hb1) (by simp)
    have hR1 := (K.out.2.1.mores v.ownBlock.toList (fun k hk => own_block ho k (by simpa using hk))).keep (below_grown hb1) (fun k hk => by cases hk)
    have c1' := hB1.cell (by simp [maxLen]) 1 (by simp)
    have c0' := hB1.cell (by simp [maxLen]) 0 (by simp)
    have f0' := hB1.frozen (by simp [maxLen]) 0
    simp only [List.getElem?_cons_zero, List.getElem?_cons_succ] at c0' c1'
    have B2 := hB1.set 0 (.slice (some ⟨b, off + N, none⟩) (len - N) (cap - N))
    have G2 := grown_trans (grown_none (below_grown hb1) (some g)) (grown_set w1 g 0 (.slice (some ⟨b, off + N, none⟩) (len - N) (cap - N)))
    have O2 : Own (w1.setCell ⟨g, 0, none⟩ (.slice (some ⟨b, off + N, none⟩) (len - N) (cap - N))) w.heap.size v ((l.drop s).take (N - s)) := ho.keep (grown_set w1 g 0 _) (fun k hk e => by have := own_block ho k hk; have := K.out.1.lt; have e' : k = g := (by simpa using e); omega)
    have F2 : Hid _ := And.intro B2 (And.intro G2 (And.intro O2 hR1))
    clear B2 G2 O2 hR1 hB1 ho hc c0 c1
    go_wp2
    go_ret
    exact ⟨v, rfl, F2.out.2.2.1, F2.out.2.2.2.cut N (by omega) (.inl rfl) F2.out.1 (grown_set _ _ _ _), F2.out.2.1⟩

set_option maxHeartbeats 400000 in
theorem End_any (F : List Nat) (g : Nat) (L : List (BitVec 8)) (E : Int) (w : World) (hR : Rd w F g 95 L E) :
    Calls Try.prog 30 #[.pointer (some ⟨g, 0, none⟩)] w fun e w' => e = .returned (.int .i64 (rdEnd L E)) ∧ w = w' := by
  obtain ⟨a, len, cap, l, hR⟩ := hR
  have c1 := hR.blk.cell (by simp [maxLen]) 1 (by simp)
  have c0 := hR.blk.cell (by simp [maxLen]) 0 (by simp)
  simp only [List.getElem?_cons_zero, List.getElem?_cons_succ] at c0 c1
  by_cases hE : E = 0
  · subst hE
    have hl := hR.ok rfl
    subst hl
    have hle := hR.len_eq
    by_cases h0 : 0 < len
    · have H : rdEnd l 0 = 11 := by unfold rdEnd; rw [if_pos rfl, if_pos (by omega)]
      rw [H]
      have q : (0 : Int) < (len : Int) := by omega
      clear hR H
      go_enter Try.func30, Try.ntmps30
      go_wp2
      go_ret
      exact ⟨rfl, rfl⟩
    · have H : rdEnd l 0 = 0 := by unfold rdEnd; rw [if_pos rfl, if_neg (by omega)]
      rw [H]
      have q : ¬ (0 : Int) < (len : Int) := by omega
      clear hR H
      go_enter Try.func30, Try.ntmps30
      go_wp2
      go_ret
      exact ⟨rfl, rfl⟩
  · have H : rdEnd L E = E := by unfold rdEnd; rw [if_neg hE]
    rw [H]
    clear hR H
    go_enter Try.func30, Try.ntmps30
    go_wp2
    go_ret
    exact ⟨rfl, rfl⟩

theorem Bytes_any (F : List Nat) (g : Nat) (L : List (BitVec 8)) (E size : Int) (w : World) (hR : Rd w F g 95 L E) :
    Calls Try.prog 59 #[.pointer (some ⟨g, 0, none⟩), .int .i64 size] w fun e w' => ∃ v, e = .returned v ∧ Own w' w.heap.size v (rdBytes L E size).2.2 ∧ Rd w' (v.ownBlock.toList ++ F) g 95 (rdBytes L E size).1 (rdBytes L E size).2.1 ∧ w.grownBy w' (some g) := by
  by_cases hE : E = 0
  · subst hE
    by_cases hn : cutE L size = 0
    · have e : rdBytes L 0 size = (L.drop (cutN L size), 0, (L.drop size.toNat).take (cutN L size - size.toNat)) := by unfold rdBytes; rw [if_pos rfl, if_pos hn]
      rw [e]
      obtain ⟨s, n, rfl, hs, _, _, hsn, hN⟩ := cutE_0 hn
      exact rdBytes_yes F g L s (cutN L s) w hR hn rfl (by omega) (by omega) (by omega)
    · have e : rdBytes L 0 size = ([], cutE L size, []) := by unfold rdBytes; rw [if_pos rfl, if_neg hn]
      rw [e]
      refine (rdBytes_no F g L size w hR hn).mono ?_
      rintro e w' ⟨rfl, hB, hg⟩
      exact ⟨_, rfl, Own.nil _ _, Rd.failed _ hB hn, hg⟩
  · have e : rdBytes L E size = ([], E, []) := by unfold rdBytes; rw [if_neg hE]
    rw [e]
    refine (rdBytes_err F g L E size w hR hE).mono ?_
    rintro e w' ⟨rfl, rfl⟩
    exact ⟨_, rfl, Own.nil _ _, (hR.forget hE).less (by simp [Value.ownBlock]), ⟨rfl, rfl, rfl, Nat.le_refl _, fun _ _ _ => rfl⟩⟩

theorem Rd.any_blk {w : World} {F : List Nat} {g T : Nat} {L : List (BitVec 8)} {E : Int} (h : Rd w F g T L E) : ∃ a len cap, Blk w g T [.slice a len cap, .int .i64 E] ∧ (E = 0 → L.length = len) := by
  obtain ⟨a, len, cap, l, h⟩ := h
  exact ⟨a, len, cap, h.blk, fun e => by rw [← h.ok e]; exact h.len_eq⟩

set_option maxHeartbeats 400000 in
theorem Count_any (F : List Nat) (g : Nat) (L : List (BitVec 8)) (E size most : Int) (w : World) (hR : Rd w F g 95 L E) :
    Calls Try.prog 77 #[.pointer (some ⟨g, 0, none⟩), .int .i64 size, .int .i64 most] w fun e w' => e = .returned (.int .i64 (rdCount L E size most).2.2) ∧ Rd w' F g 95 (rdCount L E size most).1 (rdCount L E size most).2.1 ∧ w.grownBy w' (some g) := by
  have N := Num_any F g L E size w hR
  unfold rdCount
  generalize rdNum L E size = z at *
  obtain ⟨L1, E1, n⟩ := z
  simp only at N ⊢
  clear hR
  by_cases hE : E1 = 0
  · subst hE
    rw [if_pos rfl]
    by_cases h1 : n < 0 ∨ most < n
    · rw [if_pos h1]
      go_enter Try.func77, Try.ntmps77
      go_wp2_with fail
      refine N.mono ?_
      rintro e w1 ⟨rfl, hR1, hg1⟩
      obtain ⟨a, len, cap, hB, hlen⟩ := hR1.any_blk
      have c1 := hB.cell (by simp [maxLen]) 1 (by simp)
      simp only [List.getElem?_cons_zero, List.getElem?_cons_succ] at c1
      rcases h1 with h1 | h1
      · go_wp2_with fail
        refine (fail_any g _ _ _ w1 hB).mono ?_
        rintro e w2 ⟨rfl, hB', hg⟩
        have F2 : Hid _ := And.intro (Rd.failed (F := F) [] hB' (by decide)) (grown_trans hg1 hg)
        clear hB hg hB' hg1 hR1 N
        go_wp2
        go_ret
        exact ⟨rfl, F2.out.1, F2.out.2⟩
      · by_cases h0 : n < 0
        · go_wp2_with fail
          refine (fail_any g _ _ _ w1 hB).mono ?_
          rintro e w2 ⟨rfl, hB', hg⟩
          have F2 : Hid _ := And.intro (Rd.failed (F := F) [] hB' (by decide)) (grown_trans hg1 hg)
          clear hB hg hB' hg1 hR1 N
          go_wp2
          go_ret
          exact ⟨rfl, F2.out.1, F2.out.2⟩
        · go_wp2_with fail
          refine (fail_any g _ _ _ w1 hB).mono ?_
          rintro e w2 ⟨rfl, hB', hg⟩
          have F2 : Hid _ := And.intro (Rd.failed (F := F) [] hB' (by decide)) (grown_trans hg1 hg)
          clear hB hg hB' hg1 hR1 N
          go_wp2
          go_ret
          exact ⟨rfl, F2.out.1, F2.out.2⟩
    · rw [if_neg h1]
      have t1 : ¬ n < 0 := by omega
      have t2 : ¬ most < n := by omega
      clear h1
      by_cases h2 : (L1.length : Int) < n
      · rw [if_pos h2]
        go_enter Try.func77, Try.ntmps77
        go_wp2_with fail
        refine N.mono ?_
        rintro e w1 ⟨rfl, hR1, hg1⟩
        obtain ⟨a, len, cap, hB, hlen⟩ := hR1.any_blk
        rw [hlen rfl] at h2
        have c1 := hB.cell (by simp [maxLen]) 1 (by simp)
        have c0 := hB.cell (by simp [maxLen]) 0 (by simp)
        simp only [List.getElem?_cons_zero, List.getElem?_cons_succ] at c0 c1
        go_wp2_with fail
        refine (fail_any g _ _ _ w1 hB).mono ?_
        rintro e w2 ⟨rfl, hB', hg⟩
        have F2 : Hid _ := And.intro (Rd.failed (F := F) [] hB' (by decide)) (grown_trans hg1 hg)
        clear hB hg hB' hg1 hR1 N
        go_wp2
        go_ret
        exact ⟨rfl, F2.out.1, F2.out.2⟩
      · rw [if_neg h2]
        go_enter Try.func77, Try.ntmps77
        go_wp2_with fail
        refine N.mono ?_
        rintro e w1 ⟨rfl, hR1, hg1⟩
        obtain ⟨a, len, cap, hB, hlen⟩ := hR1.any_blk
        rw [hlen rfl] at h2
        have c1 := hB.cell (by simp [maxLen]) 1 (by simp)
        have c0 := hB.cell (by simp [maxLen]) 0 (by simp)
        simp only [List.getElem?_cons_zero, List.getElem?_cons_succ] at c0 c1
        have F2 : Hid _ := And.intro hR1 hg1
        clear hB hg1 hR1 N
        go_wp2
        go_ret
        exact ⟨rfl, F2.out.1, F2.out.2⟩
  · rw [if_neg hE]
    go_enter Try.func77, Try.ntmps77
    go_wp2_with fail
    refine N.mono ?_
    rintro e w1 ⟨rfl, hR1, hg1⟩
    obtain ⟨a, len, cap, hB, hlen⟩ := hR1.any_blk
    have c1 := hB.cell (by simp [maxLen]) 1 (by simp)
    simp only [List.getElem?_cons_zero, List.getElem?_cons_succ] at c1
    have F2 : Hid _ := And.intro (hR1.forget (L' := []) hE) hg1
    clear hB hg1 hR1 N hlen
    go_wp2
    go_ret
    exact ⟨rfl, F2.out.1, F2.out.2⟩
end Go.Proofs.Ytmcljbpemninlaa
