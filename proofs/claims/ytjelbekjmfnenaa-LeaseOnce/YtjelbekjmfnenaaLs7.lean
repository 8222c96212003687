/- The first sending goes; a round is sent. -/
import Derived.Test.YtjelbekjmfnenaaLs6
namespace Go.Proofs.Ytjelbekjmfnenaa
open Go.RowKit Go.Shelf
set_option linter.unusedVariables false
set_option maxRecDepth 4000

set_option maxHeartbeats 1000000 in
theorem lsdrop_any (g : Nat) (q : Option Nat) (s : Int) (l : List (Int × Int)) (w : World) (h : (lsOb g q s l).Ok w) (hl : l.length ≤ 1000) (h0 : l ≠ []) :
    Calls Try.prog 38 #[.pointer (some ⟨g, 1, none⟩)] w fun e w' => e = .returned (.tuple #[]) ∧ Step w w' (lsOb g q s l) (lsOb g q s (l.drop 1)) := by
  obtain ⟨hn, v, hq, hG, ho⟩ := id h.holds
  have hpos : 0 < l.length := List.length_pos_iff.2 h0
  have c1 := blk_at hG 1
  simp only [List.cons_append, List.nil_append, List.getElem?_cons_zero, List.getElem?_cons_succ] at c1
  obtain ⟨hl1, ⟨h2, h3⟩ | ⟨qb, qc, cur, rfl, hb, hh, hc, hmx, hs, ht⟩⟩ := id ho
  · omega
  obtain ⟨r, hr⟩ : ∃ r, l.length = r + 1 := ⟨l.length - 1, by omega⟩
  have hB : Blk w qb 72 cur.toList := by unfold Blk; simpa using hh
  have hDel := lsDelete_any qb r qc 0 cur.toList w hB (by simpa using hs) (by omega) (by omega) (by omega) (by rw [← hr, ht]; exact pcells_one l)
  rw [hr] at c1
  have hqb : q = some qb := hq.symm
  have HD : Hid (Calls Try.prog 51 #[.slice (some ⟨qb, 0, none⟩) (r + 1) qc, .int .i64 0, .int .i64 1] w _) := hDel
  have HK : Hid _ := And.intro h (And.intro hG (And.intro hq (And.intro hmx (And.intro ht (And.intro hr hc)))))
  clear hDel h hB hh ht hs hl1 hq hr hc ho hG hmx
  go_enter Try.func38, Try.ntmps38
  go_wp2_with fail
  refine (Calls.mono HD.out) ?_
  rintro e w1 ⟨rfl, ⟨cur', B1, hl', ht'⟩, g1⟩
  obtain ⟨h, hG, hq, hmx, ht, hr, hc⟩ := HK.out
  have hdl : (l.drop 1).length = r := by rw [List.length_drop]; omega
  have P : Put2 70 72 g q [.int .i64 s] l w w1 (.slice (some ⟨qb, 0, none⟩) l.length qc) (.slice (some ⟨qb, 0, none⟩) r qc) (l.drop 1) := by
    refine ⟨h, hq, hG, turned_grown g1 (fun k e => by rw [hqb]; exact e), ?_, fun k hk => .inl (by rw [hqb]; exact hk)⟩
    unfold PrOwn
    rw [hdl]
    refine ⟨by rw [pcells_length, hdl], .inr ⟨qb, qc, cur'.toArray, rfl, Nat.zero_le _, B1, by omega, hmx, by simpa using hl', ?_⟩⟩
    have e1 : cur'.take (r * 2) = (cur.toList.take ((r + 1) * 2)).drop (1 * 2) := by simpa using ht'
    rw [← hr, ht, pcells_drop] at e1
    simpa using e1
  obtain ⟨cc, cf⟩ := P.cell
  simp only [List.length_singleton] at cc cf
  rw [hr] at cc
  have F : Hid _ := P.done
  clear P h hG hq hmx ht hr hc B1 hl' ht' g1 HD HK
  go_wp2
  go_end0
  refine ⟨rfl, ?_⟩
  have := F.out
  rw [hqb] at this ⊢
  exact this
def sentBad (round now : Int) : Prop := round < 1 ∨ round > 1152921504606846976 ∨ now < 0 ∨ now > 1099511627776
instance (a b : Int) : Decidable (sentBad a b) := by unfold sentBad; infer_instance
def sentE (l : List (Int × Int)) (round now : Int) : Int :=
  if sentBad round now then 1
  else if ¬ (lastOf l 1152921504606846976 = (0, 0)) ∧ (round ≤ (lastOf l 1152921504606846976).1 ∨ now < (lastOf l 1152921504606846976).2) then 5 else 0
def sentTo (l : List (Int × Int)) (round now : Int) : List (Int × Int) :=
  if sentE l round now = 0 then (if 100 < l.length + 1 then (l ++ [(round, now)]).drop 1 else l ++ [(round, now)]) else l
theorem lastOf_all {l : List (Int × Int)} {r : Int} (h : ∀ x ∈ l, x.1 ≤ r) (hne : l ≠ []) : lastOf l r = l.getLast hne := by
  unfold lastOf
  obtain ⟨k, x, rfl⟩ : ∃ k x, l = k ++ [x] := ⟨l.dropLast, l.getLast hne, (List.dropLast_concat_getLast hne).symm⟩
  have := h x (by simp)
  rw [List.reverse_append]
  simp [this]
theorem sentTo_wf {s : Int} {l : List (Int × Int)} (h : LsWf s l) (round now : Int) : LsWf s (sentTo l round now) := by
  unfold sentTo
  by_cases h0 : sentE l round now = 0
  · rw [if_pos h0]
    have hb : ¬ sentBad round now := fun e => by unfold sentE at h0; rw [if_pos e] at h0; cases h0
    have hx : ∀ x ∈ l, x.1 < round ∧ x.2 ≤ now := by
      intro x hx
      have hne : l ≠ [] := fun e => by rw [e] at hx; cases hx
      unfold sentE at h0
      rw [if_neg hb] at h0
      have hla := lastOf_all (r := 1152921504606846976) (fun x hx => (h.each x hx).2.1) hne
      rw [hla] at h0
      have hm := h.each _ (List.getLast_mem hne)
      have hnz : ¬ (l.getLast hne = (0, 0)) := fun e => by rw [e] at hm; simp at hm
      have h1 : ¬ (round ≤ (l.getLast hne).1 ∨ now < (l.getLast hne).2) := fun e => by rw [if_pos ⟨hnz, e⟩] at h0; cases h0
      have h2 : x = l.getLast hne ∨ (x.1 < (l.getLast hne).1 ∧ x.2 ≤ (l.getLast hne).2) := by
        have e := List.dropLast_concat_getLast hne
        rw [← e] at hx
        rcases List.mem_append.1 hx with hx | hx
        · have hr := h.rise
          rw [← e] at hr
          exact .inr ((List.pairwise_append.1 hr).2.2 x hx _ (by simp))
        · exact .inl (List.mem_singleton.1 hx)
      rcases h2 with rfl | h2 <;> omega
    have W : LsWf s l → (∀ x ∈ l ++ [(round, now)], 1 ≤ x.1 ∧ x.1 ≤ 1152921504606846976 ∧ 0 ≤ x.2 ∧ x.2 ≤ 1099511627776) ∧ (l ++ [(round, now)]).Pairwise (fun a b => a.1 < b.1 ∧ a.2 ≤ b.2) := by
      intro h
      refine ⟨fun x hx' => ?_, List.pairwise_append.2 ⟨h.rise, by simp, fun x hx' y hy => by rw [List.mem_singleton.1 hy]; exact hx x hx'⟩⟩
      rcases List.mem_append.1 hx' with hx' | hx'
      · exact h.each x hx'
      · rw [List.mem_singleton.1 hx']; unfold sentBad at hb; dsimp only; omega
    obtain ⟨w1, w2⟩ := W h
    have hf := h.full
    by_cases hc : 100 < l.length + 1
    · rw [if_pos hc]
      exact ⟨by rw [List.length_drop, List.length_append]; simp; omega, fun x hx => w1 x (List.mem_of_mem_drop hx), w2.sublist (List.drop_sublist _ _), h.lo, h.hi⟩
    · rw [if_neg hc]
      exact ⟨by rw [List.length_append]; simp; omega, w1, w2, h.lo, h.hi⟩
  · rw [if_neg h0]; exact h
set_option maxHeartbeats 2000000 in
theorem lsSent_any (g : Nat) (q : Option Nat) (s : Int) (l : List (Int × Int)) (a b : Int) (w : World) (h : (lsOb g q s l).Ok w) (hw : LsWf s l) :
    Calls Try.prog 12 #[.pointer (some ⟨g, 0, none⟩), .int .i64 a, .int .i64 b] w fun e w' => ∃ q', e = .returned (.int .i64 (sentE l a b)) ∧ Step w w' (lsOb g q s l) (lsOb g q' s (sentTo l a b)) := by
  by_cases hb : sentBad a b
  · have e1 : sentE l a b = 1 := if_pos hb
    have e2 : sentTo l a b = l := by unfold sentTo; rw [e1]; rfl
    rw [e1, e2]
    have F : Hid _ := Step.refl h
    clear h hw e1 e2
    unfold sentBad at hb
    by_cases h1 : a < 1
    · clear hb
      go_enter Try.func12, Try.ntmps12
      go_wp2
      go_ret
      first | exact ⟨_, rfl, F.out⟩ | exact ⟨rfl, _, F.out⟩
    · by_cases h2 : a > 1152921504606846976
      · clear hb
        go_enter Try.func12, Try.ntmps12
        go_wp2
        go_ret
        first | exact ⟨_, rfl, F.out⟩ | exact ⟨rfl, _, F.out⟩
      · by_cases h3 : b < 0
        · clear hb
          go_enter Try.func12, Try.ntmps12
          go_wp2
          go_ret
          first | exact ⟨_, rfl, F.out⟩ | exact ⟨rfl, _, F.out⟩
        · have h4 : b > 1099511627776 := by omega
          clear hb
          go_enter Try.func12, Try.ntmps12
          go_wp2
          go_ret
          first | exact ⟨_, rfl, F.out⟩ | exact ⟨rfl, _, F.out⟩
  · have hls := hw.last 1152921504606846976
    have HU : Hid _ := lsupTo_any g q s l 1152921504606846976 w h (by have := hw.full; omega)
    have hu := eqS
    have hnb : ¬ a < 1 ∧ ¬ a > 1152921504606846976 ∧ ¬ b < 0 ∧ ¬ b > 1099511627776 := by unfold sentBad at hb; omega
    obtain ⟨n1, n2, n3, n4⟩ := hnb
    have hE : Hid _ := hb
    have HL : Hid _ := And.intro h hw
    clear h hw hb
    go_enter Try.func12, Try.ntmps12
    go_wp2_with fail
    refine (Calls.mono HU.out) ?_
    rintro e w1 ⟨rfl, b1⟩
    generalize hx : lastOf l 1152921504606846976 = x at *
    obtain ⟨x0, x1⟩ := x
    dsimp only at hls ⊢
    have bn : Below w1.heap.size w1 (w1.alloc (.cells #[.int .i64 x0, .int .i64 x1] 72)) := (Below.refl _ _).alloc (Nat.le_refl _) _
    have N := Blk.new' w1 72 [.int .i64 x0, .int .i64 x1]
    have k0 := blk_at N 0
    have k1 := blk_at N 1
    simp only [List.getElem?_cons_zero, List.getElem?_cons_succ] at k0 k1
    have B1 : Hid _ := below_then b1 bn
    clear b1 bn N HU
    by_cases hr : ¬ (x0 = 0 ∧ x1 = 0) ∧ (a ≤ x0 ∨ b < x1)
    · have e1 : sentE l a b = 5 := by
        unfold sentE
        rw [if_neg hE.out, hx, if_pos ⟨by simpa using hr.1, hr.2⟩]
      have e2 : sentTo l a b = l := by unfold sentTo; rw [e1]; rfl
      have F : Hid _ := Step.quiet HL.out.1 B1.out
      have eb : (x0 == 0 && x1 == 0) = false := by simpa using hr.1
      have HE1 : Hid _ := And.intro e1 e2
      obtain ⟨-, hr2⟩ := hr
      clear e1 e2 HL B1 hE
      by_cases h1 : a ≤ x0
      · clear hr2
        go_wp2
        go_ret
        rw [HE1.out.1, HE1.out.2]
        first | exact ⟨_, rfl, F.out⟩ | exact ⟨rfl, _, F.out⟩
      · have h2 : b < x1 := by omega
        clear hr2
        go_wp2
        go_ret
        rw [HE1.out.1, HE1.out.2]
        first | exact ⟨_, rfl, F.out⟩ | exact ⟨rfl, _, F.out⟩
    · have e1 : sentE l a b = 0 := by
        unfold sentE
        rw [if_neg hE.out, hx, if_neg (fun e => hr ⟨by simpa using e.1, e.2⟩)]
      have HE1 : Hid _ := e1
      have HA : Hid _ := lsadd_any g q s l a b _ (HL.out.1.later B1.out) (by have := HL.out.2.full; omega)
      have hcase : x0 = 0 ∧ x1 = 0 ∨ (x0 == 0 && x1 == 0) = false ∧ ¬ a ≤ x0 ∧ ¬ b < x1 := by
        by_cases e : x0 = 0 ∧ x1 = 0
        · exact .inl e
        · exact .inr ⟨by simpa using e, fun e' => hr ⟨e, .inl e'⟩, fun e' => hr ⟨e, .inr e'⟩⟩
      clear e1 hr hE
      have HT : Hid _ := (by unfold sentTo; rw [HE1.out, if_pos rfl] : sentTo l a b = if 100 < l.length + 1 then (l ++ [(a, b)]).drop 1 else l ++ [(a, b)])
      rcases hcase with ⟨rfl, rfl⟩ | ⟨eb, h1, h2⟩
      all_goals
        go_wp2_with fail
        refine (Calls.mono HA.out) ?_
        rintro e w2 ⟨q2, rfl, st2⟩
        have HS2 : Hid _ := lssize_any _ g q2 [.int .i64 s] (l ++ [(a, b)]) w2 st2.ok
        have HST : Hid _ := (Step.quiet HL.out.1 B1.out).trans st2
        clear st2 HA k0 k1
        go_wp2_with fail
        refine (Calls.mono HS2.out) ?_
        rintro e w3 ⟨rfl, rfl⟩
        have hlen : (l ++ [(a, b)]).length = l.length + 1 := by simp
        rw [hlen]
        have hfull := HL.out.2.full
        by_cases hc : 100 < l.length + 1
        · have qc : (100 : Int) < (l.length : Int) + 1 := by omega
          have HD : Hid _ := lsdrop_any g q2 s (l ++ [(a, b)]) w2 HST.out.ok (by rw [hlen]; omega) (by simp)
          have HT2 : Hid _ := (by rw [HT.out, if_pos hc] : sentTo l a b = (l ++ [(a, b)]).drop 1)
          clear hc hlen HT HS2
          go_wp2_with fail
          refine (Calls.mono HD.out) ?_
          rintro e w4 ⟨rfl, st4⟩
          have F : Hid _ := HST.out.trans st4
          clear st4 HD HST
          go_wp2
          go_ret
          rw [HE1.out, HT2.out]
          first | exact ⟨_, rfl, F.out⟩ | exact ⟨rfl, _, F.out⟩
        · have qc : ¬ (100 : Int) < (l.length : Int) + 1 := by omega
          have HT2 : Hid _ := (by rw [HT.out, if_neg hc] : sentTo l a b = l ++ [(a, b)])
          clear hc hlen HT HS2
          go_wp2
          go_ret
          rw [HE1.out, HT2.out]
          first | exact ⟨_, rfl, HST.out⟩ | exact ⟨rfl, _, HST.out⟩
end Go.Proofs.Ytjelbekjmfnenaa
