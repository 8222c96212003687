/- The walk of the law on changes of other blocks. -/
import Derived.Test.YtfieliladdadgaaEx8
import Derived.Test.YtfieliladdadgaaEx14
import Derived.Test.YtfieliladdadgaaEx15
import Derived.Test.YtfieliladdadgaaEx16
import Derived.Deep.CutRange
namespace Go.Proofs.Ytfieliladdadgaa
open Go.RowKit
set_option linter.unusedVariables false
set_option maxRecDepth 4000

set_option maxHeartbeats 2000000 in
theorem apart_none (x : Int) (v1 v2 : Value) (w : World) (hx : I64 x) (h : ¬ (1 ≤ x ∧ x ≤ 256)) :
    Calls Try.prog 5 #[.int .i64 x, v1, v2] w fun e w' => e = .returned (.bool true) ∧ Below w.heap.size w w' := by
  have hN := imNew_no x w hx h
  go_enter Try.func5, Try.ntmps5
  go_wp2_with (first
    | (go_at_call 16; refine hN.mono ?_; rintro e w' ⟨rfl, rfl⟩)
    | (go_at_call 12; refine (known5_any _).mono ?_; rintro e wk ⟨rfl, hbk⟩))
  go_ret
  exact ⟨rfl, hbk⟩
/-- changes, whether they can be or not -/
def chX (m : Im) (l : List (Int × List (BitVec 8))) : Im := if canAll m.n l = true then chAll m l else m
def chE (n : Nat) (l : List (Int × List (BitVec 8))) : Int := if canAll n l = true then 0 else 1
theorem chX_n (m : Im) (l : List (Int × List (BitVec 8))) : (chX m l).n = m.n := by unfold chX; split; exact chAll_n m l; rfl
theorem chX_wf {m : Im} (h : m.Wf) (l : List (Int × List (BitVec 8))) : (chX m l).Wf := by
  by_cases hc : canAll m.n l = true
  · have e : chX m l = chAll m l := if_pos hc
    rw [e]; exact chAll_wf h hc
  · have e : chX m l = m := if_neg hc
    rw [e]; exact h
theorem canAll_pos {n : Nat} {l : List (Int × List (BitVec 8))} (h : canAll n l = true) : ∀ r ∈ l, 0 ≤ r.1 := fun r hr => by
  obtain ⟨x, e, _⟩ := canB_yes (List.all_eq_true.1 h r hr)
  omega
theorem chX_apart (m : Im) (a b : List (Int × List (BitVec 8))) (h : ∀ r ∈ a, ∀ q ∈ b, r.1 ≠ q.1) : chX (chX m a) b = chX (chX m b) a := by
  by_cases ca : canAll m.n a = true
  · by_cases cb : canAll m.n b = true
    · have e1 : chX m a = chAll m a := if_pos ca
      have e2 : chX m b = chAll m b := if_pos cb
      rw [e1, e2]
      unfold chX
      rw [canAll_n, canAll_n, if_pos cb, if_pos ca]
      exact ch_apart m a b (canAll_pos ca) (canAll_pos cb) h
    · have e2 : chX m b = m := if_neg cb
      rw [e2]
      have e1 : chX (chX m a) b = chX m a := by
        show (if canAll (chX m a).n b = true then _ else _) = _
        rw [chX_n, if_neg cb]
      exact e1
  · have e1 : chX m a = m := if_neg ca
    rw [e1]
    show _ = (if canAll (chX m b).n a = true then _ else _)
    rw [chX_n, if_neg ca]
theorem imChange_x (g b : Nat) (m : Im) (a : Option Addr) (len cap : Nat) (l : List (Int × List (BitVec 8))) (w : World) (h : (im g b m).Ok w) (hw : m.Wf) (hl : l.length = len) (hlc : len ≤ cap) (hlen : len ≤ 140737488355328) (hc : CArgs w a l) :
    Calls Try.prog 14 #[.pointer (some ⟨g, 0, none⟩), .slice a len cap] w fun e w' => e = .returned (.int .i64 (chE m.n l)) ∧ Step w w' (im g b m) (im g b (chX m l)) := by
  refine (imChange_any g b m a len cap l w h hw hl hlc hlen hc).mono ?_
  rintro e w' (⟨h1, h2, h3⟩ | ⟨h1, h2, h3⟩)
  · unfold chE chX; rw [if_pos h1, if_pos h1]; exact ⟨h2, h3⟩
  · unfold chE chX; rw [if_neg (by rw [h1]; decide), if_neg (by rw [h1]; decide)]; exact ⟨h2, Step.quiet h h3⟩
theorem CArgs.later {w W : World} {a : Option Addr} {l : List (Int × List (BitVec 8))} (h : CArgs w a l) (hb : Below w.heap.size w W) : CArgs W a l := by
  rcases h with h | ⟨p, off, rfl, h⟩
  · exact .inl h
  · refine .inr ⟨p, off, rfl, fun i hi => ?_⟩
    obtain ⟨h1, h2, ⟨x, c, h3, h4⟩, h5⟩ := h i hi
    exact ⟨h1, cell_later hb h2, ⟨x, c, cell_later hb h3, h4.later hb⟩, h5⟩
theorem CArgs.lba {w : World} {a : Option Addr} {l : List (Int × List (BitVec 8))} (h : CArgs w a l) (i : Nat) (hi : i < l.length) : ∃ p off, a = some ⟨p, off, none⟩ ∧ w.cell? ⟨p, off + i * 2, none⟩ = some (.int .i64 l[i].1) ∧ I64 l[i].1 := by
  rcases h with h | ⟨p, off, rfl, h⟩
  · rw [h] at hi; simp at hi
  · exact ⟨p, off, rfl, (h i hi).lba, (h i hi).num⟩
abbrev Two (B : Nat) (g1 b1 g2 b2 : Nat) (m1 m2 : Im) (W : World) : Prop := Sep B [im g1 b1 m1, im g2 b2 m2] W
theorem chX_can (m : Im) (l q : List (Int × List (BitVec 8))) : chE (chX m l).n q = chE m.n q := by rw [chX_n]

set_option maxRecDepth 20000 in
set_option maxHeartbeats 4000000 in
theorem apart_some (n : Nat) (hn : 1 ≤ n ∧ n ≤ 256) (a1 : Option Addr) (len1 cap1 : Nat) (l1 : List (Int × List (BitVec 8))) (a2 : Option Addr) (len2 cap2 : Nat) (l2 : List (Int × List (BitVec 8))) (w : World)
    (A1 : l1.length = len1 ∧ len1 ≤ cap1 ∧ len1 ≤ 140737488355328 ∧ CArgs w a1 l1) (A2 : l2.length = len2 ∧ len2 ≤ cap2 ∧ len2 ≤ 140737488355328 ∧ CArgs w a2 l2) :
    Calls Try.prog 5 #[.int .i64 n, .slice a1 len1 cap1, .slice a2 len2 cap2] w fun e w' => e = .returned (.bool true) ∧ Below w.heap.size w w' := by
  have hb1 := A1.2.2.1
  have hb2 := A2.2.2.1
  have HA : Hid _ := And.intro A1 A2
  clear A1 A2
  go_enter Try.func5, Try.ntmps5
  go_wp2_with fail
  refine (imNew_yes n w hn).mono ?_
  rintro e w1 ⟨g1, b1, rfl, hg1, hb1', ok1, be1⟩
  have s1 : Sep w.heap.size [im g1 b1 ⟨n, fun _ => none⟩] w1 := Sep.fresh (Sep.nil (w := w)) be1 ok1 (fun k hk => by simp [im] at hk; rcases hk with rfl | rfl <;> assumption)
  have K1 : Hid _ := And.intro s1 be1
  clear s1 be1 ok1 hg1 hb1'
  go_wp2_with fail
  refine (imNew_yes n w1 hn).mono ?_
  rintro e w2 ⟨g2, b2, rfl, hg2, hb2', ok2, be2⟩
  have s2 : Two w.heap.size g1 b1 g2 b2 ⟨n, fun _ => none⟩ ⟨n, fun _ => none⟩ w2 := (Sep.fresh K1.out.1 be2 ok2 (fun k hk => by simp [im] at hk; rcases hk with rfl | rfl <;> assumption)).swap
  have K2 : Hid _ := And.intro s2 (below_then K1.out.2 be2)
  have hwf : (⟨n, fun _ => none⟩ : Im).Wf := ⟨hn.1, hn.2, fun k l h => by cases h⟩
  have HW : Hid _ := hwf
  have HN : Hid ((⟨n, fun _ => none⟩ : Im).n = n) := rfl
  generalize (⟨n, fun _ => none⟩ : Im) = m0 at *
  clear s2 be2 ok2 hg2 hb2' hwf K1
  go_wp2_with fail
  go_loopw [11] (fun iv wr => ∃ i : Nat, i ≤ len1 ∧ i ≤ 100 ∧ iv = .int .i64 i ∧ (∀ r ∈ l1.take i, ∀ q ∈ l2.take 100, r.1 ≠ q.1) ∧ Two w.heap.size g1 b1 g2 b2 m0 m0 wr ∧ Below w.heap.size w wr) (fun iv _ => 100 - (intOf iv).toNat)
  case atStart => exact ⟨0, by omega, by omega, rfl, (fun r hr => by simp at hr), K2.out.1, K2.out.2⟩
  case round =>
    obtain ⟨i, hi1, hi2, rfl, hne, hT, hB⟩ := hrel
    have K3 : Hid _ := And.intro hne (And.intro hT hB)
    clear hne hT hB K2
    go_upto_region 8 with fail
    go_cut [56] from 49 to 80 (fun cv wx => cv = .bool (decide (i < len1 ∧ i < 100)) ∧ wx = wr)
    case first =>
      clear HA K3 HW HN
      by_cases t1 : (i : Int) < (len1 : Int)
      · by_cases t2 : (i : Int) < 100
        · go_wp2
          go_meet
          exact ⟨congrArg Value.bool (decide_eq_true (p := i < len1 ∧ i < 100) (by omega)).symm, rfl⟩
        · go_wp2
          go_meet
          exact ⟨congrArg Value.bool (decide_eq_false (p := i < len1 ∧ i < 100) (by omega)).symm, rfl⟩
      · go_wp2
        go_meet
        exact ⟨congrArg Value.bool (decide_eq_false (p := i < len1 ∧ i < 100) (by omega)).symm, rfl⟩
    case rest =>
    obtain ⟨rfl, hwc⟩ := hcut
    obtain rfl := hwc.symm
    clear hwc
    by_cases hlt' : i < len1 ∧ i < 100
    · have hdec : decide (i < len1 ∧ i < 100) = true := decide_eq_true hlt'
      rw [hdec]
      clear hdec
      obtain ⟨t1, t2⟩ := hlt'
      have hil : i < l1.length := by rw [HA.out.1.1]; exact t1
      go_wp2_with fail
      go_loopw [12] (fun jv wx => ∃ j : Nat, j ≤ len2 ∧ j ≤ 100 ∧ jv = .int .i64 j ∧ (∀ q ∈ l2.take j, l1[i].1 ≠ q.1) ∧ Two w.heap.size g1 b1 g2 b2 m0 m0 wx ∧ Below w.heap.size w wx) (fun jv _ => 100 - (intOf jv).toNat)
      case atStart => exact ⟨0, by omega, by omega, rfl, (fun r hr => by simp at hr), K3.out.2.1, K3.out.2.2⟩
      case round =>
        obtain ⟨j, hj1, hj2, rfl, hne, hT, hB⟩ := hrel
        have K4 : Hid _ := And.intro hne (And.intro hT hB)
        clear hne hT hB
        go_upto_region 11 with fail
        go_cut [66] from 59 to 80 (fun cv wx => cv = .bool (decide (j < len2 ∧ j < 100)) ∧ wx = wr)
        case first =>
          clear HA K3 K4 HW HN
          by_cases t3 : (j : Int) < (len2 : Int)
          · by_cases t4 : (j : Int) < 100
            · go_wp2
              go_meet
              exact ⟨congrArg Value.bool (decide_eq_true (p := j < len2 ∧ j < 100) (by omega)).symm, rfl⟩
            · go_wp2
              go_meet
              exact ⟨congrArg Value.bool (decide_eq_false (p := j < len2 ∧ j < 100) (by omega)).symm, rfl⟩
          · go_wp2
            go_meet
            exact ⟨congrArg Value.bool (decide_eq_false (p := j < len2 ∧ j < 100) (by omega)).symm, rfl⟩
        case rest =>
        obtain ⟨rfl, hwc⟩ := hcut
        obtain rfl := hwc.symm
        clear hwc
        by_cases hlt' : j < len2 ∧ j < 100
        · have hdec : decide (j < len2 ∧ j < 100) = true := decide_eq_true hlt'
          rw [hdec]
          clear hdec
          obtain ⟨t3, t4⟩ := hlt'
          have hjl : j < l2.length := by rw [HA.out.2.1]; exact t3
          obtain ⟨p1, o1, rfl, c1, i1⟩ := (HA.out.1.2.2.2.later K4.out.2.2).lba i hil
          obtain ⟨p2, o2, rfl, c2, i2⟩ := (HA.out.2.2.2.2.later K4.out.2.2).lba j hjl
          have q1 : (i : Int) < (len1 : Int) := by omega
          have q2 : (j : Int) < (len2 : Int) := by omega
          have hsn : l2.take (j + 1) = l2.take j ++ [l2[j]] := List.take_succ_eq_append_getElem hjl
          have HS : Hid (l1[i].1 ≠ l2[j].1 → ∀ q ∈ l2.take (j + 1), l1[i].1 ≠ q.1) := fun hx q hq => by
            rw [hsn] at hq
            rcases List.mem_append.1 hq with hq | hq
            · exact K4.out.1 q hq
            · rw [List.mem_singleton] at hq; subst hq; exact hx
          clear hsn K3
          generalize hgx : l1[i].1 = x at *
          have HGX : Hid _ := hgx
          clear hgx
          generalize l2[j].1 = y at *
          by_cases hxy : x = y
          · subst hxy
            clear HA HS HW HN
            go_wp2_with fail
            go_quiet (fail)
            go_wp2_with (go_at_call 12; refine (known5_any _).mono ?_; rintro e wk ⟨rfl, hbk⟩)
            go_ret
            exact ⟨rfl, below_then (below_then K4.out.2.2 (below_drewN _ _ _)) hbk⟩
          · have hxy' : (x == y) = false := by simpa using hxy
            go_wp2_with fail
            go_quiet (fail)
            go_wp2
            go_roundw
            case rel => exact ⟨j + 1, by omega, by omega, by go_num, (by rw [HGX.out]; exact HS.out hxy), K4.out.2.1.later (below_drewN _ _ _), below_then K4.out.2.2 (below_drewN _ _ _)⟩
            case measure => simp [intOf]; omega
        · have hdec : decide (j < len2 ∧ j < 100) = false := decide_eq_false hlt'
          rw [hdec]
          clear hdec
          have HS : Hid (∀ r ∈ l1.take (i + 1), ∀ q ∈ l2.take 100, r.1 ≠ q.1) := fun r hr q hq => by
            rw [List.take_succ_eq_append_getElem hil] at hr
            rcases List.mem_append.1 hr with hr | hr
            · exact K3.out.1 r hr q hq
            · rw [List.mem_singleton] at hr; subst hr
              have e : l2.take 100 = l2.take j := by
                have hl := HA.out.2.1
                by_cases h1 : j = 100
                · rw [h1]
                · rw [List.take_of_length_le (by omega), List.take_of_length_le (by omega)]
              rw [e] at hq
              exact K4.out.1 q hq
          have K5 : Hid _ := K4.out.2
          clear K3 K4
          go_wp2
          go_roundw
          case rel => exact ⟨i + 1, by omega, by omega, by go_num, HS.out, K5.out.1, K5.out.2⟩
          case measure => simp [intOf]; omega
    · have hdec : decide (i < len1 ∧ i < 100) = false := decide_eq_false hlt'
      rw [hdec]
      clear hdec
      by_cases hbig : len1 ≤ 100 ∧ len2 ≤ 100
      · obtain ⟨s1, s2⟩ := hbig
        have d1 : decide ((100 : Int) < (len1 : Int)) = false := decide_eq_false (by omega)
        have d2 : decide ((100 : Int) < (len2 : Int)) = false := decide_eq_false (by omega)
        obtain ⟨hne, hT, hB⟩ := K3.out
        obtain ⟨⟨la1, lc1, lb1, C1⟩, ⟨la2, lc2, lb2, C2⟩⟩ := HA.out
        rw [List.take_of_length_le (by omega), List.take_of_length_le (by omega)] at hne
        have hX := chX_apart m0 l1 l2 hne
        have HX : Hid _ := hX
        have hc := imChange_x g1 b1 m0 a1 len1 cap1 l1 _ hT.head HW.out la1 lc1 lb1 (C1.later hB)
        have K4 : Hid _ := And.intro hc (And.intro hT hB)
        clear hc hT hB hne hX K3 C1 C2 la1 lc1 la2 lc2 lb1 lb2
        go_wp2_with fail
        refine (Calls.mono K4.out.1) ?_
        rintro e v1 ⟨rfl, st1⟩
        have hT1 := K4.out.2.1.step st1
        have hB1 := K4.out.2.2.trans (K4.out.2.1.below st1)
        obtain ⟨⟨la1, lc1, lb1, C1⟩, ⟨la2, lc2, lb2, C2⟩⟩ := HA.out
        have hc := imChange_x g1 b1 (chX m0 l1) a2 len2 cap2 l2 _ hT1.head (chX_wf HW.out l1) la2 lc2 lb2 (C2.later hB1)
        rw [chX_can] at hc
        have K5 : Hid _ := And.intro hc (And.intro hT1 hB1)
        clear hc hT1 hB1 st1 K4 C1 C2 la1 lc1 la2 lc2 lb1 lb2
        go_wp2_with fail
        refine (Calls.mono K5.out.1) ?_
        rintro e v2 ⟨rfl, st2⟩
        have hT2 := (K5.out.2.1.step st2).swap
        have hB2 := K5.out.2.2.trans (K5.out.2.1.below st2)
        obtain ⟨⟨la1, lc1, lb1, C1⟩, ⟨la2, lc2, lb2, C2⟩⟩ := HA.out
        have hc := imChange_x g2 b2 m0 a2 len2 cap2 l2 _ hT2.head HW.out la2 lc2 lb2 (C2.later hB2)
        have K6 : Hid _ := And.intro hc (And.intro hT2 hB2)
        clear hc hT2 hB2 st2 K5 C1 C2 la1 lc1 la2 lc2 lb1 lb2
        go_wp2_with fail
        refine (Calls.mono K6.out.1) ?_
        rintro e v3 ⟨rfl, st3⟩
        have hT3 := K6.out.2.1.step st3
        have hB3 := K6.out.2.2.trans (K6.out.2.1.below st3)
        obtain ⟨⟨la1, lc1, lb1, C1⟩, ⟨la2, lc2, lb2, C2⟩⟩ := HA.out
        have hc := imChange_x g2 b2 (chX m0 l2) a1 len1 cap1 l1 _ hT3.head (chX_wf HW.out l2) la1 lc1 lb1 (C1.later hB3)
        rw [chX_can] at hc
        have K7 : Hid _ := And.intro hc (And.intro hT3 hB3)
        clear hc hT3 hB3 st3 K6 C1 C2 la1 lc1 la2 lc2 lb1 lb2
        go_wp2_with fail
        refine (Calls.mono K7.out.1) ?_
        rintro e wB ⟨rfl, st4⟩
        have hT4 := K7.out.2.1.step st4
        have hB4 := K7.out.2.2.trans (K7.out.2.1.below st4)
        rw [← HX.out] at hT4
        have HS : Hid _ := And.intro hT4.tail.head (And.intro hT4.head (chX_wf (chX_wf HW.out l1) l2))
        have HB : Hid _ := hB4
        generalize chX (chX m0 l1) l2 = mF at *
        generalize chE m0.n l1 = E1 at *
        generalize chE m0.n l2 = E2 at *
        have Sd : Below wB.heap.size wB wB.drew := (Below.refl _ _).drew
        clear hT4 hB4 st4 K7 HA HX HW HN
        go_wp2_with fail
        refine wp_region_held_drew (S := fun W => Below wB.heap.size wB W) (by kernel_rfl) Sd (fun hS => ?_)
        have B0 : Below wB.heap.size wB wB.drew := Sd
        refine any_take (i := 0) (v := ?_) rfl (by kernel_rfl) (by kernel_rfl) (by kernel_rfl) (by exact fun _ _ _ h => h) (by rfl) ?_ hS ?_
        rotate_left
        · ((intro w hSw; (try dsimp only at hSw); go_simp) <;> with_reducible rfl)
        (try simp only [Act.put, List.setIfInBounds_toArray, List.set_cons_zero, List.set_cons_succ])
        refine any_take (i := 1) (v := ?_) rfl (by kernel_rfl) (by kernel_rfl) (by kernel_rfl) (by exact fun _ _ _ h => h) (by rfl) ?_ hS ?_
        rotate_left
        · ((intro w hSw; (try dsimp only at hSw); go_simp) <;> with_reducible rfl)
        (try simp only [Act.put, List.setIfInBounds_toArray, List.set_cons_zero, List.set_cons_succ])
        refine any_take (i := 2) (v := ?_) rfl (by kernel_rfl) (by kernel_rfl) (by kernel_rfl) (by exact fun _ _ _ h => h) (by rfl) ?_ hS ?_
        rotate_left
        · ((intro w hSw; (try dsimp only at hSw); go_simp) <;> with_reducible rfl)
        (try simp only [Act.put, List.setIfInBounds_toArray, List.set_cons_zero, List.set_cons_succ])
        refine any_take (i := 3) (v := ?_) rfl (by kernel_rfl) (by kernel_rfl) (by kernel_rfl) (by exact fun _ _ _ h => h) (by rfl) ?_ hS ?_
        rotate_left
        · ((intro w hSw; (try dsimp only at hSw); go_simp) <;> with_reducible rfl)
        (try simp only [Act.put, List.setIfInBounds_toArray, List.set_cons_zero, List.set_cons_succ])
        refine any_take (i := 4) (v := ?_) rfl (by kernel_rfl) (by kernel_rfl) (by kernel_rfl) (by exact fun _ _ _ h => h) (by rfl) ?_ hS ?_
        rotate_left
        · ((intro w hSw; (try dsimp only at hSw); go_simp) <;> with_reducible rfl)
        (try simp only [Act.put, List.setIfInBounds_toArray, List.set_cons_zero, List.set_cons_succ])
        refine any_take (i := 5) (v := ?_) rfl (by kernel_rfl) (by kernel_rfl) (by kernel_rfl) (by exact fun _ _ _ h => h) (by rfl) ?_ hS ?_
        rotate_left
        · ((intro w hSw; (try dsimp only at hSw); go_simp) <;> with_reducible rfl)
        (try simp only [Act.put, List.setIfInBounds_toArray, List.set_cons_zero, List.set_cons_succ])
        refine any_take (i := 6) (v := ?_) rfl (by kernel_rfl) (by kernel_rfl) (by kernel_rfl) (by exact fun _ _ _ h => h) (by rfl) ?_ hS ?_
        rotate_left
        · ((intro w hSw; (try dsimp only at hSw); go_simp) <;> with_reducible rfl)
        (try simp only [Act.put, List.setIfInBounds_toArray, List.set_cons_zero, List.set_cons_succ])
        refine any_take (i := 7) (v := ?_) rfl (by kernel_rfl) (by kernel_rfl) (by kernel_rfl) (by exact fun _ _ _ h => h) (by rfl) ?_ hS ?_
        rotate_left
        · ((intro w hSw; (try dsimp only at hSw); go_simp) <;> with_reducible rfl)
        (try simp only [Act.put, List.setIfInBounds_toArray, List.set_cons_zero, List.set_cons_succ])
        refine any_take (i := 8) (v := ?_) rfl (by kernel_rfl) (by kernel_rfl) (by kernel_rfl) (by exact fun _ _ _ h => h) (by rfl) ?_ hS ?_
        rotate_left
        · ((intro w hSw; (try dsimp only at hSw); go_simp) <;> with_reducible rfl)
        (try simp only [Act.put, List.setIfInBounds_toArray, List.set_cons_zero, List.set_cons_succ])
        refine any_take (i := 9) (v := ?_) rfl (by kernel_rfl) (by kernel_rfl) (by kernel_rfl) (by exact fun _ _ _ h => h) (by rfl) ?_ hS ?_
        rotate_left
        · ((intro w hSw; (try dsimp only at hSw); go_simp) <;> with_reducible rfl)
        (try simp only [Act.put, List.setIfInBounds_toArray, List.set_cons_zero, List.set_cons_succ])
        refine any_take (i := 10) (v := ?_) rfl (by kernel_rfl) (by kernel_rfl) (by kernel_rfl) (by exact fun _ _ _ h => h) (by rfl) ?_ hS ?_
        rotate_left
        · ((intro w hSw; (try dsimp only at hSw); go_simp) <;> with_reducible rfl)
        (try simp only [Act.put, List.setIfInBounds_toArray, List.set_cons_zero, List.set_cons_succ])
        have K1 : Hid _ := imSame_same mF g1 b1 g2 b2 _ (HS.out.1.later B0) (HS.out.2.1.later B0) HS.out.2.2
        refine any_one (i := 11) rfl (by kernel_rfl) (fun K hK => ?_)
        go_simp
        refine (Calls.mono (K1.out)) ?_
        rintro e x1 ⟨rfl, hbR⟩
        have B1 : Below wB.heap.size wB x1 := below_then B0 hbR
        clear K1
        go_wp2_with fail
        refine hK.out _ _ (by first | exact B1 | exact hbR | exact below_then hS hbR) (any_weaken (S' := fun W => Below x1.heap.size x1 W) (fun W hW => by first | exact below_then B1 hW | exact below_then hbR hW | exact below_then (below_then hS hbR) hW) _ _ _ _ ?_)
        clear hK K hS hbR
        have hS : Below x1.heap.size x1 x1 := Below.refl _ _
        refine any_take (i := 12) (v := ?_) rfl (by kernel_rfl) (by kernel_rfl) (by kernel_rfl) (by exact fun _ _ _ h => h) (by rfl) ?_ hS ?_
        rotate_left
        · ((intro w hSw; (try dsimp only at hSw); go_simp) <;> with_reducible rfl)
        (try simp only [Act.put, List.setIfInBounds_toArray, List.set_cons_zero, List.set_cons_succ])
        refine any_take (i := 13) (v := ?_) rfl (by kernel_rfl) (by kernel_rfl) (by kernel_rfl) (by exact fun _ _ _ h => h) (by rfl) ?_ hS ?_
        rotate_left
        · ((intro w hSw; (try dsimp only at hSw); go_simp) <;> with_reducible rfl)
        (try simp only [Act.put, List.setIfInBounds_toArray, List.set_cons_zero, List.set_cons_succ])
        refine any_take (i := 14) (v := ?_) rfl (by kernel_rfl) (by kernel_rfl) (by kernel_rfl) (by exact fun _ _ _ h => h) (by rfl) ?_ hS ?_
        rotate_left
        · ((intro w hSw; (try dsimp only at hSw); go_simp) <;> with_reducible rfl)
        (try simp only [Act.put, List.setIfInBounds_toArray, List.set_cons_zero, List.set_cons_succ])
        refine any_take (i := 17) (v := ?_) rfl (by kernel_rfl) (by kernel_rfl) (by kernel_rfl) (by exact fun _ _ _ h => h) (by rfl) ?_ hS ?_
        rotate_left
        · ((intro w hSw; (try dsimp only at hSw); go_simp) <;> with_reducible rfl)
        (try simp only [Act.put, List.setIfInBounds_toArray, List.set_cons_zero, List.set_cons_succ])
        have K2 : Hid _ := imBytes_str g1 b1 mF _ (HS.out.1.later B1) HS.out.2.2 _ rfl
        refine any_one (i := 15) rfl (by kernel_rfl) (fun K hK => ?_)
        go_simp
        refine (Calls.mono (K2.out)) ?_
        rintro e x2 ⟨a2, l2, c2, rfl, hc2, -, hbR⟩
        have B2 : Below wB.heap.size wB x2 := below_then B1 hbR
        clear K2
        go_wp2_with fail
        refine hK.out _ _ (by first | exact B2 | exact hbR | exact below_then hS hbR) (any_weaken (S' := fun W => Below x2.heap.size x2 W) (fun W hW => by first | exact below_then B2 hW | exact below_then hbR hW | exact below_then (below_then hS hbR) hW) _ _ _ _ ?_)
        clear hK K hS hbR
        have hS : Below x2.heap.size x2 x2 := Below.refl _ _
        refine any_take (i := 16) (v := ?_) rfl (by kernel_rfl) (by kernel_rfl) (by kernel_rfl) (by exact fun _ _ _ h => h) (by rfl) ?_ hS ?_
        rotate_left
        · ((intro w hSw; (try dsimp only at hSw); go_simp) <;> with_reducible rfl)
        (try simp only [Act.put, List.setIfInBounds_toArray, List.set_cons_zero, List.set_cons_succ])
        have K3 : Hid _ := imBytes_str g2 b2 mF _ (HS.out.2.1.later B2) HS.out.2.2 _ rfl
        refine any_one (i := 18) rfl (by kernel_rfl) (fun K hK => ?_)
        go_simp
        refine (Calls.mono (K3.out)) ?_
        rintro e x3 ⟨a3, l3, c3, rfl, hc3, -, hbR⟩
        have B3 : Below wB.heap.size wB x3 := below_then B2 hbR
        clear K3
        go_wp2_with fail
        refine hK.out _ _ (by first | exact B3 | exact hbR | exact below_then hS hbR) (any_weaken (S' := fun W => Below x3.heap.size x3 W) (fun W hW => by first | exact below_then B3 hW | exact below_then hbR hW | exact below_then (below_then hS hbR) hW) _ _ _ _ ?_)
        clear hK K hS hbR
        have hS : Below x3.heap.size x3 x3 := Below.refl _ _
        refine any_take (i := 19) (v := ?_) rfl (by kernel_rfl) (by kernel_rfl) (by kernel_rfl) (by exact fun _ _ _ h => h) (by rfl) ?_ hS ?_
        rotate_left
        · ((intro w hSw; (try dsimp only at hSw); go_simp) <;> with_reducible rfl)
        (try simp only [Act.put, List.setIfInBounds_toArray, List.set_cons_zero, List.set_cons_succ])
        refine any_take (i := 20) (v := ?_) rfl (by kernel_rfl) (by kernel_rfl) (by kernel_rfl) (by exact fun _ _ _ h => h) (by rfl) ?_ hS ?_
        rotate_left
        · ((intro w hSw; (try dsimp only at hSw); go_simp) <;> with_reducible rfl)
        (try simp only [Act.put, List.setIfInBounds_toArray, List.set_cons_zero, List.set_cons_succ])
        refine any_take (i := 21) (v := ?_) rfl (by kernel_rfl) (by kernel_rfl) (by kernel_rfl) (by exact fun _ _ _ h => h) (by rfl) ?_ hS ?_
        rotate_left
        · ((intro w hSw; (try dsimp only at hSw); go_simp) <;> with_reducible rfl)
        (try simp only [Act.put, List.setIfInBounds_toArray, List.set_cons_zero, List.set_cons_succ])
        refine any_take (i := 22) (v := ?_) rfl (by kernel_rfl) (by kernel_rfl) (by kernel_rfl) (by exact fun _ _ _ h => h) (by rfl) ?_ hS ?_
        rotate_left
        · ((intro w hSw; (try dsimp only at hSw); go_simp) <;> with_reducible rfl)
        (try simp only [Act.put, List.setIfInBounds_toArray, List.set_cons_zero, List.set_cons_succ])
        refine any_one (i := 23) rfl (by kernel_rfl) (fun K hK => ?_)
        go_simp
        refine (Calls.mono (known5_any _)) ?_
        rintro e x4 ⟨rfl, hbR⟩
        have B4 : Below wB.heap.size wB x4 := below_then B3 hbR
        go_wp2_with fail
        refine hK.out _ _ (by first | exact B4 | exact hbR | exact below_then hS hbR) (any_weaken (S' := fun W => Below x4.heap.size x4 W) (fun W hW => by first | exact below_then B4 hW | exact below_then hbR hW | exact below_then (below_then hS hbR) hW) _ _ _ _ ?_)
        clear hK K hS hbR
        have hS : Below x4.heap.size x4 x4 := Below.refl _ _
        refine any_take (i := 24) (v := ?_) rfl (by kernel_rfl) (by kernel_rfl) (by kernel_rfl) (by exact fun _ _ _ h => h) (by rfl) ?_ hS ?_
        rotate_left
        · ((intro w hSw; (try dsimp only at hSw); go_simp) <;> with_reducible rfl)
        (try simp only [Act.put, List.setIfInBounds_toArray, List.set_cons_zero, List.set_cons_succ])
        refine any_take (i := 25) (v := ?_) rfl (by kernel_rfl) (by kernel_rfl) (by kernel_rfl) (by exact fun _ _ _ h => h) (by rfl) ?_ hS ?_
        rotate_left
        · ((intro w hSw; (try dsimp only at hSw); go_simp) <;> with_reducible rfl)
        (try simp only [Act.put, List.setIfInBounds_toArray, List.set_cons_zero, List.set_cons_succ])
        refine wpAnyH_done (by kernel_rfl) ?_ _
        go_wp2_with fail
        go_ret
        exact ⟨rfl, below_then HB.out B4⟩
      · by_cases s1 : 100 < len1
        · have d1 : decide ((100 : Int) < (len1 : Int)) = true := decide_eq_true (by omega)
          have HB : Hid _ := K3.out.2.2
          clear K3 HA HW HN
          go_wp2_with (go_at_call 12; refine (known5_any _).mono ?_; rintro e wk ⟨rfl, hbk⟩)
          go_ret
          exact ⟨rfl, below_then HB.out hbk⟩
        · have d1 : decide ((100 : Int) < (len1 : Int)) = false := decide_eq_false (by omega)
          have d2 : decide ((100 : Int) < (len2 : Int)) = true := decide_eq_true (by omega)
          have HB : Hid _ := K3.out.2.2
          clear K3 HA HW HN
          go_wp2_with (go_at_call 12; refine (known5_any _).mono ?_; rintro e wk ⟨rfl, hbk⟩)
          go_ret
          exact ⟨rfl, below_then HB.out hbk⟩
theorem extentApart_walk (x : Int) (a1 : Option Addr) (len1 cap1 : Nat) (l1 : List (Int × List (BitVec 8))) (a2 : Option Addr) (len2 cap2 : Nat) (l2 : List (Int × List (BitVec 8))) (w : World) (hx : -9223372036854775808 ≤ x ∧ x ≤ 9223372036854775807)
    (A1 : l1.length = len1 ∧ len1 ≤ cap1 ∧ len1 ≤ 140737488355328 ∧ CArgs w a1 l1) (A2 : l2.length = len2 ∧ len2 ≤ cap2 ∧ len2 ≤ 140737488355328 ∧ CArgs w a2 l2) :
    Calls Try.prog 5 #[.int .i64 x, .slice a1 len1 cap1, .slice a2 len2 cap2] w fun e w' => e = .returned (.bool true) ∧ Below w.heap.size w w' := by
  by_cases h : 1 ≤ x ∧ x ≤ 256
  · obtain ⟨n, rfl⟩ : ∃ n : Nat, x = n := ⟨x.toNat, by omega⟩
    exact apart_some n (by omega) a1 len1 cap1 l1 a2 len2 cap2 l2 w A1 A2
  · exact apart_none x _ _ w hx h
end Go.Proofs.Ytfieliladdadgaa
