/- LeaseLater. -/
import Derived.Test.YtjelbekjmfnenaaLs8
import Derived.Test.YtjelbekjmfnenaaLsA
import Derived.Deep.RegionWith
namespace Go.Proofs.Ytjelbekjmfnenaa
open Go.RowKit Go.Shelf
set_option linter.unusedVariables false
set_option maxRecDepth 4000

theorem find_later {R : List (Int × Int)} (h : R.Pairwise (fun a b => b.1 < a.1 ∧ b.2 ≤ a.2)) {a b : Int} (hab : a ≤ b) {x : Int × Int} (hx : R.find? (fun s => decide (s.1 ≤ a)) = some x) : ∃ y, R.find? (fun s => decide (s.1 ≤ b)) = some y ∧ x.2 ≤ y.2 := by
  induction R with
  | nil => simp at hx
  | cons z R ih =>
    have hp := List.pairwise_cons.1 h
    rw [List.find?_cons] at hx ⊢
    by_cases h1 : z.1 ≤ a
    · simp [h1] at hx
      subst hx
      exact ⟨z, by simp [show z.1 ≤ b by omega], Int.le_refl _⟩
    · simp [h1] at hx
      by_cases h2 : z.1 ≤ b
      · refine ⟨z, by simp [h2], ?_⟩
        exact (hp.1 x (List.mem_of_find?_eq_some hx)).2
      · obtain ⟨y, h3, h4⟩ := ih hp.2 hx
        exact ⟨y, by simp [h2]; exact h3, h4⟩
theorem until_mono {s : Int} {l : List (Int × Int)} (h : LsWf s l) {a b : Int} (hab : a ≤ b) : untilOf s l a ≤ untilOf s l b ∧ 0 ≤ untilOf s l a := by
  have hnn : ∀ r, 0 ≤ untilOf s l r := by
    intro r
    have := h.last r
    unfold untilOf endOf
    split <;> omega
  refine ⟨?_, hnn a⟩
  cases ha : l.reverse.find? (fun s => decide (s.1 ≤ a)) with
  | none =>
    have e : untilOf s l a = 0 := by unfold untilOf lastOf; rw [ha]; simp [endOf]
    rw [e]; exact hnn b
  | some x =>
    obtain ⟨y, hy, hxy⟩ := find_later (List.pairwise_reverse.2 h.rise) hab ha
    have mx := h.each x (by simpa using List.mem_of_find?_eq_some ha)
    have my := h.each y (by simpa using List.mem_of_find?_eq_some hy)
    unfold untilOf lastOf
    rw [ha, hy]
    simp only [Option.getD_some]
    unfold endOf
    by_cases hs : s ≤ 0
    · rw [if_pos (.inr hs), if_pos (.inr hs)]; exact Int.le_refl _
    · rw [if_neg (by omega), if_neg (by omega)]; omega
theorem until_top {s : Int} {l : List (Int × Int)} (h : LsWf s l) (b L n : Int) (hL : ∀ x ∈ l, x.2 ≤ L) (h0 : 0 ≤ L) (hn : s ≤ n) (hn0 : 0 ≤ n) : untilOf s l b ≤ L + n := by
  unfold untilOf
  rcases lastOf_mem l b with e | ⟨e, -⟩
  · rw [e]; simp [endOf]; omega
  · have := hL _ e
    unfold endOf
    split <;> omega
theorem sentTo_top {l : List (Int × Int)} {L a b : Int} (hL : ∀ x ∈ l, x.2 ≤ L) (he : sentE l a b = 0) (hw : ∀ x ∈ l, x.2 ≤ b) : ∀ x ∈ sentTo l a b, x.2 ≤ b := by
  unfold sentTo
  rw [if_pos he]
  intro x hx
  have : x ∈ l ++ [(a, b)] := by
    by_cases hc : 100 < l.length + 1
    · rw [if_pos hc] at hx; exact List.mem_of_mem_drop hx
    · rw [if_neg hc] at hx; exact hx
  rcases List.mem_append.1 this with h | h
  · exact hw x h
  · rw [List.mem_singleton.1 h]; exact Int.le_refl _
theorem sentE_rise {s : Int} {l : List (Int × Int)} (h : LsWf s l) {a b : Int} (he : sentE l a b = 0) : (∀ x ∈ l, x.2 ≤ b) ∧ 0 ≤ b := by
  have hb : ¬ sentBad a b := fun e => by unfold sentE at he; rw [if_pos e] at he; cases he
  refine ⟨fun x hx => ?_, by unfold sentBad at hb; omega⟩
  have hne : l ≠ [] := fun e => by rw [e] at hx; cases hx
  have hr := (sentTo_wf h a b)
  unfold sentE at he
  rw [if_neg hb, lastOf_all (r := 1152921504606846976) (fun x hx => (h.each x hx).2.1) hne] at he
  have hm := h.each _ (List.getLast_mem hne)
  have hnz : ¬ (l.getLast hne = (0, 0)) := fun e => by rw [e] at hm; simp at hm
  have h1 : ¬ (a ≤ (l.getLast hne).1 ∨ b < (l.getLast hne).2) := fun e => by rw [if_pos ⟨hnz, e⟩] at he; cases he
  have e := List.dropLast_concat_getLast hne
  rw [← e] at hx
  rcases List.mem_append.1 hx with hx | hx
  · have hr := h.rise
    rw [← e] at hr
    have := (List.pairwise_append.1 hr).2.2 x hx _ (List.mem_singleton_self _)
    omega
  · rw [List.mem_singleton.1 hx]; omega
/-- between two rounds -/
structure LtI (w : World) (g : Nat) (s L : Int) (wr : World) : Prop where
  ex : ∃ q l, (lsOb g q s l).Ok wr ∧ (∀ k ∈ (lsOb g q s l).W, w.heap.size ≤ k) ∧ LsWf s l ∧ (∀ x ∈ l, x.2 ≤ L)
  below : Below w.heap.size w wr
  pos : 0 ≤ L
  top : L ≤ 1099511627776
set_option maxHeartbeats 4000000 in
theorem leaseLater_walk (n r : Int) (ra : Option Addr) (rl rc : Nat) (ta : Option Addr) (tl tc : Nat) (a b : Int) (w : World) (hn : I64 n) (hr : I64 r) (R : NArg w ra rl rc) (T : NArg w ta tl tc) (ha : I64 a) (hb : I64 b) :
    Calls Try.prog 7 #[.int .i64 n, .int .i64 r, .slice ra rl rc, .slice ta tl tc, .int .i64 a, .int .i64 b] w fun e w' => e = .returned (.bool true) ∧ Below w.heap.size w w' := by
  by_cases hok : 1 ≤ n ∧ n ≤ 1000 ∧ 1 ≤ r ∧ r ≤ 1000
  · have H1 : Hid _ := lsNew_yes n r w hok
    have HK : Hid _ := known11_any
    have HN : Hid _ := And.intro hok (And.intro R T)
    have HB : Hid _ := hb
    clear R T hok hr hb ha
    go_enter Try.func7, Try.ntmps7
    go_wp2_with fail
    refine (Calls.mono H1.out) ?_
    rintro e w1 ⟨g, rfl, hg, ho1, b1⟩
    have F0 : Hid (LtI w g (n - 2 * r) 0 w1) := ⟨⟨none, [], ho1, (fun k hk => by simp only [lsOb, qu, List.mem_cons, Option.mem_toList, reduceCtorEq, or_false] at hk; omega), ⟨by simp, (fun x hx => by cases hx), .nil, by have := HN.out.1; omega, by have := HN.out.1; omega⟩, (fun x hx => by cases hx)⟩, b1, Int.le_refl _, by omega⟩
    clear ho1 b1 H1 hg
    go_wp2_with fail
    go_loopw [15, 16] (fun lv iv wr => ∃ (k : Nat) (L : Int), iv = .int .i64 k ∧ lv = .int .i64 L ∧ k ≤ 150 ∧ LtI w g (n - 2 * r) L wr) (fun _ iv _ => 150 - (intOf iv).toNat)
    case atStart => exact ⟨0, 0, rfl, rfl, by omega, F0.out⟩
    case round =>
      clear F0
      obtain ⟨k, L, rfl, rfl, hk, hI⟩ := hrel
      have HI : Hid _ := hI
      clear hI
      by_cases hc : k < rl ∧ k < tl ∧ k < 150
      · obtain ⟨c1, c2, c3⟩ := hc
        obtain ⟨rb, ro, rfl, hrr⟩ := HN.out.2.1.each (by omega)
        obtain ⟨tb, to, rfl, htt⟩ := HN.out.2.2.each (by omega)
        obtain ⟨x, hx, hx6⟩ := hrr k c1
        obtain ⟨y, hy, hy6⟩ := htt k c2
        have hx' := cell_later HI.out.below hx
        have hy' := cell_later HI.out.below hy
        obtain ⟨q, l, ho, hfar, hwf, hL⟩ := HI.out.ex
        have q1 : (k : Int) < rl := by omega
        have q2 : (k : Int) < tl := by omega
        have q3 : (k : Int) < 150 := by omega
        have HS : Hid _ := lsSent_any g q (n - 2 * r) l x y wr.drew ho.drew hwf
        have HO : Hid _ := And.intro ho (And.intro hfar (And.intro hwf hL))
        clear hrr htt hx ho hfar hwf hL
        by_cases he : sentE l x y = 0
        · rw [he] at HS
          go_wp2_with fail
          go_region_with (go_at_call 12; refine (Calls.mono HS.out) ?_; rintro e w2 ⟨q2, rfl, st⟩)
          all_goals
            have b2 : Below w.heap.size w w2 := HI.out.below.trans (((Below.refl _ _).drew).trans (st.below w.heap.size HI.out.below.size HO.out.2.1))
            have hy2 := cell_later b2 hy
            have R2 : Hid (LtI w g (n - 2 * r) y w2) := by
              obtain ⟨ho, hfar, hwf, hL⟩ := HO.out
              obtain ⟨hx1, hx2⟩ := sentE_rise hwf he
              have hw' := sentTo_wf hwf x y
              refine ⟨⟨q2, _, st.ok, (fun k hk => by rcases st.writes k hk with e | e; exact hfar k e; have := HI.out.below.size; exact Nat.le_trans this e), hw', sentTo_top hL he hx1⟩, b2, hx2, ?_⟩
              have hb' : ¬ sentBad x y := fun e => by unfold sentE at he; rw [if_pos e] at he; cases he
              unfold sentBad at hb'; omega
            clear st b2 HS HO
            go_wp2
            go_roundw
            case rel => exact ⟨k + 1, y, by go_num, rfl, by omega, R2.out⟩
            case measure => simp [intOf]; omega
        · have HT : Hid _ := (by unfold sentTo; rw [if_neg he] : sentTo l x y = l)
          rw [HT.out] at HS
          have he' : ¬ (sentE l x y : Int) = 0 := he
          generalize sentE l x y = ev at *
          go_wp2_with fail
          go_region_with (go_at_call 12; refine (Calls.mono HS.out) ?_; rintro e w2 ⟨q2, rfl, st⟩)
          all_goals
            have b2 : Below w.heap.size w w2 := HI.out.below.trans (((Below.refl _ _).drew).trans (st.below w.heap.size HI.out.below.size HO.out.2.1))
            have R2 : Hid (LtI w g (n - 2 * r) L w2) := by
              obtain ⟨ho, hfar, hwf, hL⟩ := HO.out
              exact ⟨⟨q2, _, st.ok, (fun k hk => by rcases st.writes k hk with e | e; exact hfar k e; have := HI.out.below.size; exact Nat.le_trans this e), hwf, hL⟩, b2, HI.out.pos, HI.out.top⟩
            clear st b2 HS HO
            go_wp2
            go_roundw
            case rel => exact ⟨k + 1, L, by go_num, rfl, by omega, R2.out⟩
            case measure => simp [intOf]; omega
      · have hcs : ¬ (k : Int) < rl ∨ ((k : Int) < rl ∧ ¬ (k : Int) < tl) ∨ ((k : Int) < rl ∧ (k : Int) < tl ∧ ¬ (k : Int) < 150) := by omega
        clear hc
        obtain ⟨q, l, ho, hfar, hwf, hL⟩ := HI.out.ex
        have HA : Hid _ := lsUntil_any g q (n - 2 * r) l a wr ho hwf
        have HU : Hid _ := fun W (bw : Below wr.heap.size wr W) => lsUntil_any g q (n - 2 * r) l b W (ho.later bw) hwf
        have HM : Hid _ := fun (hab : a ≤ b) => until_mono hwf hab
        have HTp : Hid _ := until_top hwf b L n hL HI.out.pos (by have := HN.out.1; omega) (by have := HN.out.1; omega)
        have HBd : Hid _ := hwf.last b
        have hn1 := HN.out.1
        clear ho hfar hwf hL HN
        rcases hcs with h1 | ⟨h1, h2⟩ | ⟨h1, h2, h3⟩
        all_goals
          by_cases hab : a > b
          · go_wp2_with fail
            refine (Calls.mono (HK.out _)) ?_
            rintro e w2 ⟨rfl, b2⟩
            have F : Hid _ := below_then HI.out.below b2
            clear b2
            go_wp2
            go_ret
            exact ⟨rfl, F.out⟩
          · obtain ⟨m1, m2⟩ := HM.out (by omega)
            have m3 := HTp.out
            have m4 := HI.out.top
            have m5 := HI.out.pos
            generalize untilOf (n - 2 * r) l a = ua at *
            generalize untilOf (n - 2 * r) l b = ub at *
            go_wp2_with fail
            refine (Calls.mono HA.out) ?_
            rintro e w2 ⟨rfl, b2⟩
            have H2 : Hid _ := HU.out w2 b2
            have B2 : Hid _ := below_then HI.out.below b2
            clear b2 HU HA
            go_wp2_with fail
            refine (Calls.mono H2.out) ?_
            rintro e w3 ⟨rfl, b3⟩
            have B3 : Hid _ := below_then B2.out b3
            clear b3 H2 B2
            go_wp2_with fail
            refine (Calls.mono (HK.out _)) ?_
            rintro e w4 ⟨rfl, b4⟩
            have F : Hid _ := below_then B3.out b4
            clear b4 B3
            go_wp2
            go_ret
            exact ⟨rfl, F.out⟩
  · have H1 : Hid _ := lsNew_no n r w hok
    have HK : Hid _ := known11_any w
    clear R T hok
    go_enter Try.func7, Try.ntmps7
    go_wp2_with fail
    refine (Calls.mono H1.out) ?_
    rintro e w1 ⟨rfl, rfl⟩
    go_wp2_with fail
    refine (Calls.mono HK.out) ?_
    rintro e w2 ⟨rfl, b2⟩
    have F : Hid _ := b2
    clear b2
    go_wp2
    go_ret
    exact ⟨rfl, F.out⟩
end Go.Proofs.Ytjelbekjmfnenaa
