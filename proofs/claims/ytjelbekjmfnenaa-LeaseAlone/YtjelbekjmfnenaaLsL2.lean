/- LeaseAlone. -/
import Derived.Test.YtjelbekjmfnenaaLsL1
import Derived.Test.YtjelbekjmfnenaaWo4
namespace Go.Proofs.Ytjelbekjmfnenaa
open Go.RowKit Go.Shelf
set_option linter.unusedVariables false
set_option maxRecDepth 4000

/-- two clocks that keep within their bound -/
structure Two (r a b : Nat) (m : Wm) : Prop where
  wf : m.Wf
  ck : m.ck = [a, b]
  rho : m.rho = r
  ab : a ≤ b + r
  ba : b ≤ a + r
theorem minC2 (a b : Nat) : minC [a, b] ≤ a ∧ minC [a, b] ≤ b := ⟨minC_le a (by simp), minC_le b (by simp)⟩
theorem two_tick {r a b : Nat} {m : Wm} (h : Two r a b m) (i : Int) (hi : i = 0 ∨ i = 1) : ∃ a' b', Two r a' b' (m.tick i) ∧ a ≤ a' ∧ b ≤ b' ∧ a' ≤ a + 1 ∧ b' ≤ b + 1 := by
  have hw := tick_wf h.wf i
  have hc := minC2 a b
  by_cases hm : m.may i = true
  · have e : m.tick i = { m with ck := m.ck.set i.toNat (m.ck.getD i.toNat 0 + 1) } := by unfold Wm.tick; rw [if_pos hm]
    have hm' := hm
    unfold Wm.may at hm'
    rw [h.ck, h.rho] at hm'
    rcases hi with rfl | rfl
    · simp at hm'
      refine ⟨a + 1, b, ⟨hw, by rw [e, h.ck]; rfl, by rw [e]; exact h.rho, ?_, ?_⟩, by omega, by omega, by omega, by omega⟩
      · omega
      · have := h.ba; omega
    · simp at hm'
      refine ⟨a, b + 1, ⟨hw, by rw [e, h.ck]; rfl, by rw [e]; exact h.rho, ?_, ?_⟩, by omega, by omega, by omega, by omega⟩
      · have := h.ab; omega
      · omega
  · have e : m.tick i = m := by unfold Wm.tick; rw [if_neg hm]
    exact ⟨a, b, by rw [e]; exact h, by omega, by omega, by omega, by omega⟩
theorem count_any (n k : Int) (w : World) (hn : I64 n) (hk : 1 ≤ k ∧ k ≤ 100) :
    Calls Try.prog 28 #[.int .i64 n, .int .i64 k] w fun e w' => ∃ c : Int, e = .returned (.int .i64 c) ∧ 0 ≤ c ∧ c < k ∧ w = w' := by
  unfold I64 at hn
  have h1 : n.tmod k < k := Int.tmod_lt_of_pos n (by omega)
  have h2 : -k < n.tmod k := by
    have := Int.tmod_lt_of_pos (-n) (show (0 : Int) < k by omega)
    rw [Int.neg_tmod] at this
    omega
  have hk0 : ¬ k = 0 := by omega
  have hk1 : ¬ k = -1 := by omega
  obtain ⟨k1, k2⟩ := hk
  by_cases h0 : n.tmod k < 0
  · go_enter Try.func28, Try.ntmps28
    go_wp2
    go_ret
    exact ⟨_, rfl, by first | omega | (go_num; omega), by first | omega | (go_num; omega), rfl⟩
  · go_enter Try.func28, Try.ntmps28
    go_wp2
    go_ret
    exact ⟨_, rfl, by first | omega | (go_num; omega), by first | omega | (go_num; omega), rfl⟩
set_option maxHeartbeats 1000000 in
theorem ticks_any (g : Nat) (p : Wp) (m0 : Wm) (r a b : Nat) (la : Option Addr) (len cap : Nat) (w0 w : World) (h : (wo g p m0).Ok w) (hT : Two r a b m0) (A : NArg w0 la len cap) (b0 : Below w0.heap.size w0 w) (hfar : ∀ k ∈ (wo g p m0).W, w0.heap.size ≤ k) :
    Calls Try.prog 30 #[.pointer (some ⟨g, 0, none⟩), .slice la len cap] w fun e w' => e = .returned (.tuple #[]) ∧ ∃ m a' b', Step w w' (wo g p m0) (wo g p m) ∧ Two r a' b' m ∧ a ≤ a' ∧ b ≤ b' := by
  have HA : Hid _ := And.intro A (And.intro b0 (And.intro hfar (And.intro h hT)))
  clear A b0 hfar h hT
  go_enter Try.func30, Try.ntmps30
  go_wp2_with fail
  go_loopw [4] (fun iv wr => ∃ (k : Nat), iv = .int .i64 k ∧ k ≤ 300 ∧ ∃ m a' b', Step w wr (wo g p m0) (wo g p m) ∧ Two r a' b' m ∧ a ≤ a' ∧ b ≤ b') (fun iv _ => 300 - (intOf iv).toNat)
  case atStart => exact ⟨0, rfl, by omega, m0, a, b, Step.refl HA.out.2.2.2.1, HA.out.2.2.2.2, by omega, by omega⟩
  case round =>
    obtain ⟨k, rfl, hk, m, a', b', st, hT, ha, hb⟩ := hrel
    have HS : Hid _ := And.intro st (And.intro hT (And.intro ha hb))
    clear st hT ha hb
    by_cases hc : k < len ∧ k < 300
    · obtain ⟨c1, c2⟩ := hc
      obtain ⟨rb, ro, rfl, hrr⟩ := HA.out.1.each (by omega)
      obtain ⟨x, hx, hx6⟩ := hrr k c1
      have bw : Below w0.heap.size w0 wr := HA.out.2.1.trans (HS.out.1.below w0.heap.size HA.out.2.1.size HA.out.2.2.1)
      have hx' := cell_later bw hx
      have q1 : (k : Int) < len := by omega
      have q2 : (k : Int) < 300 := by omega
      have HC : Hid _ := count_any x 2 wr hx6 (by omega)
      have HT : Hid _ := fun (i : Int) (hi : I64 i) => woTick_any g p m i wr HS.out.1.ok HS.out.2.1.wf hi
      clear hrr bw hx
      go_wp2_with fail
      refine (Calls.mono HC.out) ?_
      rintro e w1 ⟨c, rfl, hc0, hc1, rfl⟩
      have hT2 : Hid _ := HT.out c (by unfold I64; omega)
      clear HC HT
      go_wp2_with fail
      refine (Calls.mono hT2.out) ?_
      rintro e w2 ⟨rfl, st2⟩
      have R : Hid (∃ m a' b', Step w w2 (wo g p m0) (wo g p m) ∧ Two r a' b' m ∧ a ≤ a' ∧ b ≤ b') := by
        obtain ⟨a2, b2, t1, t2, t3, -, -⟩ := two_tick HS.out.2.1 c (by omega)
        have := HS.out.2.2
        exact ⟨_, a2, b2, HS.out.1.trans st2, t1, by omega, by omega⟩
      clear st2 hT2 HS
      generalize m.tickE c = ev at *
      go_wp2
      go_roundw
      case rel => exact ⟨k + 1, by go_num, by omega, R.out⟩
      case measure => simp [intOf]; omega
    · have hcs : ¬ (k : Int) < len ∨ ((k : Int) < len ∧ ¬ (k : Int) < 300) := by omega
      clear hc
      rcases hcs with h1 | ⟨h1, h2⟩
      all_goals
        go_wp2
        go_end0
        exact ⟨rfl, m, HS.out.1, a', b', HS.out.2⟩
theorem holds_one {s A a : Int} (h0 : 0 ≤ A) (h : holdsOf s [(1, A)] 1 a = true) : A ≤ a ∧ a < A + s := by
  have e : lastOf [(1, A)] 1 = (1, A) := by simp [lastOf]
  unfold holdsOf untilOf at h
  rw [e] at h
  unfold endOf at h
  simp at h
  obtain ⟨h1, h2⟩ := h
  refine ⟨h1, ?_⟩
  split at h2 <;> omega
theorem two_clock {r a b : Nat} {m : Wm} (h : Two r a b m) : m.clock 0 = a ∧ m.clock 1 = b := by
  unfold Wm.clock
  rw [h.ck]
  exact ⟨rfl, rfl⟩
theorem two_late {r a b : Nat} {m : Wm} (h : Two r a b m) : a ≤ 1099511627776 ∧ b ≤ 1099511627776 := ⟨h.wf.late a (by rw [h.ck]; simp), h.wf.late b (by rw [h.ck]; simp)⟩
theorem two_new (r : Nat) (h : 1 ≤ r ∧ r ≤ 1000) : Two r 0 0 (Wm.new 2 r) := ⟨Wm.new_wf (by omega) h, rfl, rfl, by omega, by omega⟩
theorem one_wf {s A : Int} (hs : -2000 ≤ s ∧ s ≤ 1000) (hA : 0 ≤ A ∧ A ≤ 1099511627776) : LsWf s [(1, A)] := ⟨by simp, (fun x hx => by rw [List.mem_singleton.1 hx]; dsimp only; omega), by simp, hs.1, hs.2⟩
theorem one_sent {A : Int} (hA : 0 ≤ A ∧ A ≤ 1099511627776) : sentE [] 1 A = 0 ∧ sentTo [] 1 A = [(1, A)] := by
  have e : sentE [] 1 A = 0 := by
    unfold sentE
    rw [if_neg (by unfold sentBad; omega), if_neg (by simp [lastOf])]
  exact ⟨e, by unfold sentTo; rw [if_pos e]; rfl⟩
/-- between two rounds -/
structure LaI (w : World) (g gl : Nat) (p : Wp) (s : Int) (r A H : Nat) (wr : World) : Prop where
  ex : ∃ m q a b, Sep w.heap.size [wo g p m, lsOb gl q s [(1, (A : Int))]] wr ∧ Two r a b m ∧ A ≤ a ∧ H ≤ b
  below : Below w.heap.size w wr
set_option maxHeartbeats 4000000 in
theorem leaseAlone_walk (n r0 : Int) (xa : Option Addr) (xl xc : Nat) (ya : Option Addr) (yl yc : Nat) (za : Option Addr) (zl zc : Nat) (w : World) (hn : I64 n) (hr : I64 r0) (X : NArg w xa xl xc) (Y : NArg w ya yl yc) (Z : NArg w za zl zc) :
    Calls Try.prog 5 #[.int .i64 n, .int .i64 r0, .slice xa xl xc, .slice ya yl yc, .slice za zl zc] w fun e w' => e = .returned (.bool true) ∧ Below w.heap.size w w' := by
  have HC1 : Hid _ := count_any n 60 w hn (by omega)
  have HC2 : Hid _ := count_any r0 20 w hr (by omega)
  have HX : Hid _ := And.intro X (And.intro Y Z)
  clear X Y Z hn hr
  go_enter Try.func5, Try.ntmps5
  go_wp2_with fail
  refine (Calls.mono HC1.out) ?_
  rintro e w1 ⟨c1, rfl, hc1, hc1', rfl⟩
  go_wp2_with fail
  refine (Calls.mono HC2.out) ?_
  rintro e w1 ⟨c2, rfl, hc2, hc2', rfl⟩
  obtain ⟨t, ht⟩ : ∃ t : Int, t = 1 + c1 := ⟨_, rfl⟩
  obtain ⟨r, hr⟩ : ∃ r : Nat, (r : Int) = 1 + c2 := ⟨(1 + c2).toNat, by omega⟩
  have tb : 1 ≤ t ∧ t ≤ 60 := by omega
  have rb : 1 ≤ r ∧ r ≤ 20 := by omega
  have HN : Hid _ := woNew_yes 2 r w (by omega) (by omega)
  have HL : Hid _ := fun W => lsNew_yes t r W (by omega)
  have wtb : IntKind.i64.wrap (1 + c1) = t := by rw [IntKind.wrap_i64] <;> omega
  go_wp2_with fail
  rw [show 1 + c1 = t from ht.symm, show 1 + c2 = (r : Int) from hr.symm]
  refine (Calls.mono HN.out) ?_
  rintro e w1 ⟨g, c, rfl, hg, hc, ho1, b1⟩
  have H2 : Hid _ := HL.out w1
  have S1 : Hid (Sep w.heap.size [wo g ⟨c, none, []⟩ (Wm.new 2 r)] w1) := Sep.nil.fresh b1 ho1 (fun k hk => by
    rcases hk with hk | hk
    · simp only [wo, List.mem_cons, Option.mem_toList, reduceCtorEq, or_false] at hk; rcases hk with rfl | rfl <;> assumption
    · cases hk)
  have B1 : Hid _ := b1
  clear HN HL ho1 b1 hg hc HC1 HC2 ht hr wtb hc1 hc1' hc2 hc2'
  go_wp2_with fail
  refine (Calls.mono H2.out) ?_
  rintro e w2 ⟨gl, rfl, hgl, ho2, b2⟩
  have S2 : Hid (Sep w.heap.size [wo g ⟨c, none, []⟩ (Wm.new 2 r), lsOb gl none (t - 2 * r) []] w2) := (S1.out.fresh b2 ho2 (fun k hk => by
    rcases hk with hk | hk
    · simp only [lsOb, qu, List.mem_cons, Option.mem_toList, reduceCtorEq, or_false] at hk; omega
    · cases hk)).swap
  have B2 : Hid _ := below_then B1.out b2
  have H3 : Hid _ := ticks_any g ⟨c, none, []⟩ (Wm.new 2 r) r 0 0 xa xl xc w w2 S2.out.head (two_new r (by omega)) HX.out.1 B2.out (S2.out.new _ (by simp))
  clear H2 S1 B1 ho2 b2 hgl
  go_wp2_with fail
  refine (Calls.mono H3.out) ?_
  rintro e w3 ⟨rfl, m1, a1, d1, st3, t3, -, -⟩
  have S3 : Hid _ := S2.out.step st3
  have B3 : Hid _ := B2.out.trans (S2.out.below st3)
  have T3 : Hid _ := t3
  have H4 : Hid _ := woClock_any g ⟨c, none, []⟩ m1 0 w3 S3.out.head t3.wf (by unfold I64; omega)
  rw [(two_clock t3).1] at H4
  have hA := (two_late t3).1
  have H5 : Hid _ := lsSent_any gl none (t - 2 * r) [] 1 a1 w3 S3.out.swap.head ⟨by simp, (fun x hx => by cases hx), .nil, by omega, by omega⟩
  rw [(one_sent (A := a1) (by omega)).1, (one_sent (A := a1) (by omega)).2] at H5
  clear H3 S2 B2 st3 t3
  go_wp2_with fail
  refine (Calls.mono H4.out) ?_
  rintro e w4 ⟨rfl, rfl⟩
  clear H4
  go_wp2_with fail
  refine (Calls.mono H5.out) ?_
  rintro e w4 ⟨q4, rfl, st4⟩
  have S4 : Hid _ := (S3.out.swap.step st4).swap
  have B4 : Hid _ := B3.out.trans (S3.out.swap.below st4)
  have H6 : Hid _ := ticks_any g ⟨c, none, []⟩ m1 r a1 d1 ya yl yc w w4 S4.out.head T3.out HX.out.2.1 B4.out (S4.out.new _ (by simp))
  clear S3 B3 H5 st4
  go_wp2_with fail
  refine (Calls.mono H6.out) ?_
  rintro e w5 ⟨rfl, m2, a2, d2, st5, t5, ha2, hd2⟩
  have S5 : Hid _ := S4.out.step st5
  have B5 : Hid _ := B4.out.trans (S4.out.below st5)
  have H7 : Hid _ := woClock_any g ⟨c, none, []⟩ m2 1 w5 S5.out.head t5.wf (by unfold I64; omega)
  rw [(two_clock t5).2] at H7
  have I5 : Hid (LaI w g gl ⟨c, none, []⟩ (t - 2 * r) r a1 d2 w5) := ⟨⟨m2, q4, a2, d2, S5.out, t5, ha2, Nat.le_refl _⟩, B5.out⟩
  have hab := T3.out.ab
  have hd2' := (two_late t5).2
  clear S4 B4 H6 st5 t5 S5 B5 T3 ha2
  go_wp2_with fail
  refine (Calls.mono H7.out) ?_
  rintro e w6 ⟨rfl, rfl⟩
  have HK : Hid _ := known11_any
  clear H7
  go_wp2_with fail
  go_loopw [16] (fun iv wr => ∃ (k : Nat), iv = .int .i64 k ∧ k ≤ 300 ∧ LaI w g gl ⟨c, none, []⟩ (t - 2 * r) r a1 d2 wr) (fun iv _ => 300 - (intOf iv).toNat)
  case atStart => exact ⟨0, rfl, by omega, I5.out⟩
  case round =>
    clear I5
    obtain ⟨k, rfl, hk, hI⟩ := hrel
    have HI : Hid _ := hI
    clear hI
    by_cases hcc : k < zl ∧ k < 300
    · obtain ⟨c1, c2⟩ := hcc
      obtain ⟨zb, zo, rfl, hzz⟩ := HX.out.2.2.each (by omega)
      obtain ⟨x, hx, hx6⟩ := hzz k c1
      have hx' := cell_later HI.out.below hx
      have q1 : (k : Int) < zl := by omega
      have q2 : (k : Int) < 300 := by omega
      obtain ⟨m, q, a, b, S, T, ha, hb⟩ := HI.out.ex
      have HC : Hid _ := count_any x 2 wr hx6 (by omega)
      have HT : Hid _ := fun (i : Int) (hi : I64 i) => woTick_any g ⟨c, none, []⟩ m i wr S.head T.wf hi
      have HS : Hid _ := And.intro S (And.intro T (And.intro ha (And.intro hb HI.out.below)))
      clear hzz hx S T ha hb HI
      go_wp2_with fail
      refine (Calls.mono HC.out) ?_
      rintro e w1 ⟨y, rfl, hy0, hy1, rfl⟩
      have hT2 : Hid _ := HT.out y (by unfold I64; omega)
      clear HC HT
      go_wp2_with fail
      refine (Calls.mono hT2.out) ?_
      rintro e w2 ⟨rfl, st2⟩
      obtain ⟨S, T, ha, hb, bw⟩ := HS.out
      obtain ⟨a', b', T', t2, t3, -, -⟩ := two_tick T y (by omega)
      have S2 := S.step st2
      have bw2 := bw.trans (S.below st2)
      have HC0 : Hid _ := woClock_any g ⟨c, none, []⟩ (m.tick y) 0 w2 S2.head T'.wf (by unfold I64; omega)
      rw [(two_clock T').1] at HC0
      have HH : Hid _ := lsHolds_any gl q (t - 2 * r) [(1, (a1 : Int))] 1 a' w2 S2.swap.head (one_wf (by omega) (by omega))
      have hl := two_late T'
      have R : Hid _ := And.intro S2 (And.intro T' (And.intro (show a1 ≤ a' by omega) (And.intro (show d2 ≤ b' by omega) bw2)))
      have fact : Hid (holdsOf (t - 2 * r) [(1, (a1 : Int))] 1 a' = true → ¬ ((b' : Int) - d2 ≥ t)) := fun e => by
        have := holds_one (by omega) e
        have := T'.ba
        omega
      have hb2 : d2 ≤ b' := by omega
      clear hT2 HS S T ha hb bw st2 S2 bw2 T' t2 t3
      generalize m.tickE y = ev at *
      generalize m.tick y = m' at *
      go_wp2_with fail
      refine (Calls.mono HC0.out) ?_
      rintro e w3 ⟨rfl, rfl⟩
      clear HC0
      go_wp2_with fail
      refine (Calls.mono HH.out) ?_
      rintro e w3 ⟨rfl, b3⟩
      have R2 : Hid _ := And.intro (R.out.1.later b3) (And.intro R.out.2.1 (And.intro R.out.2.2.1 (And.intro R.out.2.2.2.1 (below_then R.out.2.2.2.2 b3))))
      clear HH b3 R
      have HC1 : Hid _ := woClock_any g ⟨c, none, []⟩ m' 1 w3 R2.out.1.head R2.out.2.1.wf (by unfold I64; omega)
      rw [(two_clock R2.out.2.1).2] at HC1
      cases hh : holdsOf (t - 2 * r) [(1, (a1 : Int))] 1 a' with
      | false =>
        clear HC1 fact
        go_wp2
        go_roundw
        case rel => exact ⟨k + 1, by go_num, by omega, ⟨m', q, a', b', R2.out.1, R2.out.2.1, R2.out.2.2.1, R2.out.2.2.2.1⟩, R2.out.2.2.2.2⟩
        case measure => simp [intOf]; omega
      | true =>
        have hlt := fact.out hh
        clear fact hh
        go_wp2_with fail
        refine (Calls.mono HC1.out) ?_
        rintro e w4 ⟨rfl, rfl⟩
        clear HC1
        go_wp2
        go_roundw
        case rel => exact ⟨k + 1, by go_num, by omega, ⟨m', q, a', b', R2.out.1, R2.out.2.1, R2.out.2.2.1, R2.out.2.2.2.1⟩, R2.out.2.2.2.2⟩
        case measure => simp [intOf]; omega
    · have hcs : ¬ (k : Int) < zl ∨ ((k : Int) < zl ∧ ¬ (k : Int) < 300) := by omega
      clear hcc
      rcases hcs with h1 | ⟨h1, h2⟩
      all_goals
        go_wp2_with fail
        refine (Calls.mono (HK.out _)) ?_
        rintro e w2 ⟨rfl, b2⟩
        have F : Hid _ := below_then HI.out.below b2
        clear b2
        go_wp2
        go_ret
        exact ⟨rfl, F.out⟩
end Go.Proofs.Ytjelbekjmfnenaa
