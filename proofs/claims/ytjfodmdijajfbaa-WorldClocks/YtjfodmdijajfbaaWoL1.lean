/- The walk of the law on clocks. -/
import Derived.Test.YtjfodmdijajfbaaWo12
import Derived.Test.YtjfodmdijajfbaaDkOps
import Derived.Deep.CutRange
namespace Go.Proofs.Ytjfodmdijajfbaa
open Go.RowKit
set_option linter.unusedVariables false
set_option maxRecDepth 4000

set_option maxHeartbeats 400000 in
theorem cnt_any (n : Int) (m : Nat) (w : World) (_h1 : I64 n) (hm : 0 < m) (hm2 : m ≤ 1125899906842624) :
    Calls Try.prog 14 #[.int .i64 n, .int .i64 m] w fun e w' => ∃ k : Nat, e = .returned (.int .i64 k) ∧ k < m ∧ w = w' := by
  obtain ⟨h1, h2⟩ := _h1
  have hb := Int.tmod_lt_of_pos n (by omega : (0 : Int) < m)
  have hb2 : -(m : Int) < n.tmod m := by
    have := Int.tmod_lt_of_pos (-n) (by omega : (0 : Int) < m)
    rw [Int.neg_tmod] at this; omega
  by_cases h : n.tmod m < 0
  · go_enter Try.func14, Try.ntmps14
    go_wp2
    go_ret
    refine ⟨(n.tmod m + m).toNat, ret_int ?_, by omega, rfl⟩
    omega
  · go_enter Try.func14, Try.ntmps14
    go_wp2
    go_ret
    exact ⟨(n.tmod m).toNat, ret_int (by omega), by omega, rfl⟩

/-- no two of them differ by more than r -/
def Sp (r : Nat) (l : List Nat) : Prop := ∀ a ∈ l, ∀ b ∈ l, a ≤ b + r
theorem sp_zero (r n : Nat) : Sp r (List.replicate n 0) := fun a ha b hb => by rw [List.eq_of_mem_replicate ha]; omega
theorem sp_tick {m : Wm} (h : Sp m.rho m.ck) (hw : m.Wf) (i : Int) : Sp m.rho (m.tick i).ck := by
  unfold Wm.tick
  split
  · rename_i hm
    obtain ⟨x, rfl, hx⟩ := at_ck (may_has hm)
    unfold Wm.may at hm
    simp only [Bool.and_eq_true, decide_eq_true_eq, Int.toNat_natCast] at hm
    have hle := hm.2.2
    have hmem : m.ck.getD x 0 ∈ m.ck := by rw [List.getD, List.getElem?_eq_getElem hx]; exact List.getElem_mem hx
    simp only [Int.toNat_natCast]
    generalize m.ck.getD x 0 = z at *
    intro a ha b hb
    rcases List.mem_or_eq_of_mem_set ha with ha | rfl <;> rcases List.mem_or_eq_of_mem_set hb with hb | rfl
    · exact h a ha b hb
    · have := h a ha z hmem; omega
    · have := minC_le b hb; omega
    · omega
  · exact h
theorem tick_few {m : Wm} {i : Nat} (h : ∀ c ∈ m.ck, c ≤ i) (x : Int) : ∀ c ∈ (m.tick x).ck, c ≤ i + 1 := by
  unfold Wm.tick
  split
  · intro c hc
    rcases List.mem_or_eq_of_mem_set hc with hc | rfl
    · have := h c hc; omega
    · rw [List.getD]
      cases e : m.ck[x.toNat]? with
      | none => simp
      | some y => have := h y (List.mem_of_getElem? e); simpa using this
  · intro c hc; have := h c hc; omega
theorem tick_len (m : Wm) (x : Int) : (m.tick x).ck.length = m.ck.length := by unfold Wm.tick; split <;> simp
theorem tick_rho (m : Wm) (x : Int) : (m.tick x).rho = m.rho := by unfold Wm.tick; split <;> rfl
/-- somebody's clock may tick -/
theorem some_may {m : Wm} (hw : m.Wf) (h : ∀ c ∈ m.ck, c ≤ 300) : ∃ x, x < m.ck.length ∧ m.may x = true := by
  have hm := minC_mem (l := m.ck) (fun e => by have := hw.one; rw [e] at this; simp at this)
  obtain ⟨x, hx, he⟩ := List.getElem_of_mem hm
  refine ⟨x, hx, ?_⟩
  have h1 := h _ hm
  have hr := hw.rho1
  have hz : m.ck.getD x 0 = minC m.ck := by rw [List.getD, List.getElem?_eq_getElem hx, he]; rfl
  unfold Wm.may
  simp only [Bool.and_eq_true, decide_eq_true_eq, Int.toNat_natCast, hz]
  exact ⟨decide_eq_true (by omega), by omega, by omega⟩

structure CS0 (w W : World) (g c : Nat) (m : Wm) (q n r i : Nat) : Prop where
  mine : Mine w W (wo g ⟨c, none, []⟩ m)
  wf : m.Wf
  len : m.ck.length = n
  rho : m.rho = r
  sp : Sp r m.ck
  few : ∀ c ∈ m.ck, c ≤ i
  most : i ≤ 300
  qfar : w.heap.size ≤ q
  qne : q ∉ (wo g ⟨c, none, []⟩ m).W
structure WS (W : World) (q : Nat) (was : List Nat) (n r : Nat) : Prop where
  blk : Blk W q 2 (cks was)
  wlen : was.length = n
  wsp : Sp r was
  wfew : ∀ c ∈ was, c ≤ 300
theorem CS0.later {w W W' : World} {g c : Nat} {m : Wm} {q : Nat} {n r i : Nat} (h : CS0 w W g c m q n r i) (hb : Below W.heap.size W W') : CS0 w W' g c m q n r i :=
  ⟨h.mine.later hb, h.wf, h.len, h.rho, h.sp, h.few, h.most, h.qfar, h.qne⟩
theorem WS.later {W W' : World} {q : Nat} {was : List Nat} {n r : Nat} (h : WS W q was n r) (hb : Below W.heap.size W W') : WS W' q was n r := ⟨h.blk.laterB hb, h.wlen, h.wsp, h.wfew⟩
theorem CS0.tick {w W W' : World} {g c : Nat} {m : Wm} {q : Nat} {n r i : Nat} (h : CS0 w W g c m q n r i) (x : Int) (hi : i < 300) (s : Step W W' (wo g ⟨c, none, []⟩ m) (wo g ⟨c, none, []⟩ (m.tick x))) : CS0 w W' g c (m.tick x) q n r (i + 1) :=
  ⟨h.mine.step s, tick_wf h.wf x, (tick_len m x).trans h.len, (tick_rho m x).trans h.rho, by have := sp_tick (h.rho ▸ h.sp) h.wf x; rwa [h.rho] at this, tick_few h.few x, by omega, h.qfar, h.qne⟩
theorem WS.tick {w W W' : World} {g c : Nat} {m : Wm} {q : Nat} {was : List Nat} {n r i : Nat} (k : WS W q was n r) (h : CS0 w W g c m q n r i) (x : Int) (s : Step W W' (wo g ⟨c, none, []⟩ m) (wo g ⟨c, none, []⟩ (m.tick x))) : WS W' q was n r :=
  ⟨k.blk.step s h.qne, k.wlen, k.wsp, k.wfew⟩
theorem CS0.set {w W : World} {g c : Nat} {m : Wm} {q : Nat} {n r i : Nat} (h : CS0 w W g c m q n r i) (j : Nat) (v : Value) : CS0 w (W.setCell ⟨q, j, none⟩ v) g c m q n r i :=
  ⟨⟨h.mine.ok.turned (turned_set W q j v) (fun k hk e => by
      subst e
      rcases hk with hk | hk
      · exact h.qne hk
      · cases hk), h.mine.far, h.mine.below.trans (grown_below (grown_set W q j v) _ h.qfar h.mine.below.size)⟩, h.wf, h.len, h.rho, h.sp, h.few, h.most, h.qfar, h.qne⟩
theorem WS.at {W : World} {q : Nat} {was : List Nat} {n r : Nat} (h : WS W q was n r) (k : Nat) (hk : k < n) : W.cell? ⟨q, k, none⟩ = some (.int .i64 (was.getD k 0 : Nat)) := by
  have hl := h.wlen
  rw [blk_at h.blk, cks_at _ _ (by omega), List.getD, List.getElem?_eq_getElem (by omega)]
  rfl
theorem mix_step (a b : List Nat) (j : Nat) (h : a.length = b.length) (hj : j < a.length) : (cks (a.take j ++ b.drop j)).set j (.int .i64 (a.getD j 0 : Nat)) = cks (a.take (j + 1) ++ b.drop (j + 1)) := by
  unfold cks
  rw [show (Value.int .i64 (a.getD j 0 : Nat)) = (fun c : Nat => Value.int .i64 c) (a.getD j 0) from rfl, ← List.map_set]
  congr 1
  have e1 : (a.take j).length = j := by rw [List.length_take]; omega
  rw [List.set_append_right _ _ (by omega), e1, Nat.sub_self, List.take_succ_eq_append_getElem hj, List.append_assoc, List.drop_eq_getElem_cons (by omega : j < b.length), List.set_cons_zero]
  simp [List.getD, List.getElem?_eq_getElem hj]
/-- has somebody up to j may? -/
def anyTo (m : Wm) (j : Nat) : Bool := (List.range j).any (fun x => m.may x)
theorem anyTo_succ (m : Wm) (j : Nat) : anyTo m (j + 1) = (anyTo m j || m.may j) := by unfold anyTo; rw [List.range_succ, List.any_append]; simp
theorem anyTo_all {m : Wm} (hw : m.Wf) (h : ∀ c ∈ m.ck, c ≤ 300) : anyTo m m.ck.length = true := by
  obtain ⟨x, hx, hm⟩ := some_may hw h
  exact List.any_eq_true.2 ⟨x, List.mem_range.2 hx, hm⟩
theorem getD_mem' {l : List Nat} {k : Nat} (h : k < l.length) : l.getD k 0 ∈ l := by rw [List.getD, List.getElem?_eq_getElem h]; exact List.getElem_mem h
theorem clock_nat {m : Wm} {k : Nat} (h : k < m.ck.length) : m.clock k = m.ck.getD k 0 := by
  have hh : hasW m.ck.length k = true := decide_eq_true (by omega)
  unfold Wm.clock; rw [if_pos hh, Int.toNat_natCast]

theorem make_cks' (N : Nat) (C : Int) (hC : C = N) (hN : N ≤ 1000) (u : World) : (Instr.makeSlice 47 (.int .i64 C) (.int .i64 C)).run Try.prog u = .ok (.slice (some ⟨u.heap.size, 0, none⟩) N N) (u.alloc (.cells (madeCells #[.int .i64 0] N) 2)) := by
  subst hC; exact make_cks N hN u
theorem woNew_yes' (n r : Nat) (N R : Int) (hN : N = n) (hR : R = r) (w : World) (h : 1 ≤ n ∧ n ≤ 5) (hr : 1 ≤ r ∧ r ≤ 1000) :
    Calls Try.prog 9 #[.int .i64 N, .int .i64 R] w fun e w' => ∃ g c, e = .returned (.tuple #[.pointer (some ⟨g, 0, none⟩), .int .i64 0]) ∧ w.heap.size ≤ g ∧ w.heap.size ≤ c ∧ (wo g ⟨c, none, []⟩ (Wm.new n r)).Ok w' ∧ Below w.heap.size w w' := by
  subst hN; subst hR; exact woNew_yes n r w h hr

set_option maxRecDepth 20000 in
set_option maxHeartbeats 4000000 in
theorem worldClocks_walk (n0 r0 : Int) (a : Option Addr) (len cap : Nat) (l : List Int) (fr : Int) (w : World) (hn0 : I64 n0) (hr0 : I64 r0) (I : IArg 140737488351232 w a len cap l) (hfr : I64 fr) :
    Calls Try.prog 5 #[.int .i64 n0, .int .i64 r0, .slice a len cap, .int .i64 fr] w fun e w' => e = .returned (.bool true) ∧ Below w.heap.size w w' := by
  have HI : Hid _ := I
  have hlen : len ≤ 140737488351232 := Nat.le_trans I.le I.bound
  clear I
  go_enter Try.func5, Try.ntmps5
  go_wp2_with fail
  refine (cnt_any n0 5 w hn0 (by omega) (by omega)).mono ?_
  rintro e _ ⟨k1, rfl, hk1, rfl⟩
  go_wp2_with fail
  refine (cnt_any r0 20 w hr0 (by omega) (by omega)).mono ?_
  rintro e _ ⟨r1, rfl, hr1, rfl⟩
  have hmk := make_cks' (1 + k1) (1 + (k1 : Int)) (by omega) (by omega)
  go_wp2_with fail
  refine (woNew_yes' (1 + k1) (1 + r1) _ _ (by omega) (by omega) w (by omega) (by omega)).mono ?_
  rintro e w1 ⟨g, c, rfl, hg, hc, ok1, b1⟩
  have bq : Below w1.heap.size w1 (w1.alloc (.cells (madeCells #[.int .i64 0] (1 + k1)) 2)) := (Below.refl _ _).alloc (Nat.le_refl _) _
  have hCS : CS0 w (w1.alloc (.cells (madeCells #[.int .i64 0] (1 + k1)) 2)) g c (Wm.new (1 + k1) (1 + r1)) w1.heap.size (1 + k1) (1 + r1) 0 :=
    ⟨⟨ok1.later bq, wo_far hg hc (fun k hk => by cases hk), below_then b1 bq⟩, Wm.new_wf (by omega) (by omega), by simp [Wm.new], rfl, sp_zero _ _, (fun c hc => by have := List.eq_of_mem_replicate hc; omega), by omega, b1.size,
      (fun e => by have := ok1.lt _ (.inl e); omega)⟩
  have hWS : WS (w1.alloc (.cells (madeCells #[.int .i64 0] (1 + k1)) 2)) w1.heap.size (List.replicate (1 + k1) 0) (1 + k1) (1 + r1) :=
    ⟨made_cks w1 _, by simp, sp_zero _ _, (fun c hc => by have := List.eq_of_mem_replicate hc; omega)⟩
  have K1 : Hid _ := And.intro hCS hWS
  clear hCS hWS bq ok1 b1
  go_wp2_with fail
  generalize w1.alloc (.cells (madeCells #[.int .i64 0] (1 + k1)) 2) = w2 at *
  generalize w1.heap.size = q at *
  go_loopw [12] (fun i wr => ∃ (k : Nat) (m : Wm) (was : List Nat), k ≤ len ∧ k ≤ 300 ∧ i = .int .i64 k ∧ CS0 w wr g c m q (1 + k1) (1 + r1) k ∧ WS wr q was (1 + k1) (1 + r1)) (fun i _ => 300 - (intOf i).toNat)
  case atStart => exact ⟨0, _, _, by omega, by omega, rfl, K1.out.1, K1.out.2⟩
  case round =>
    obtain ⟨k, m, was, hk1', hk2, rfl, hC, hW⟩ := hrel
    have K2 : Hid _ := And.intro hC hW
    clear hC hW K1 hmk
    go_upto_region 8 with fail
    go_cut [45] from 38 to 117 (fun c wx => c = .bool (decide (k < len ∧ k < 300)) ∧ wx = wr)
    case first =>
      clear HI K2
      by_cases t1 : (k : Int) < (len : Int)
      · by_cases t2 : (k : Int) < 300
        · go_wp2
          go_meet
          exact ⟨congrArg Value.bool (decide_eq_true (p := k < len ∧ k < 300) (by omega)).symm, rfl⟩
        · go_wp2
          go_meet
          exact ⟨congrArg Value.bool (decide_eq_false (p := k < len ∧ k < 300) (by omega)).symm, rfl⟩
      · go_wp2
        go_meet
        exact ⟨congrArg Value.bool (decide_eq_false (p := k < len ∧ k < 300) (by omega)).symm, rfl⟩
    case rest =>
    obtain ⟨rfl, hwc⟩ := hcut
    obtain rfl := hwc.symm
    clear hwc
    by_cases hlt' : k < len ∧ k < 300
    · have hdec : decide (k < len ∧ k < 300) = true := decide_eq_true hlt'
      rw [hdec]
      clear hdec
      obtain ⟨t1, t2⟩ := hlt'
      by_cases hfe : (k : Int) = fr
      · subst hfe
        go_wp2_with fail
        go_loopw [13] (fun jv wc => ∃ j : Nat, j ≤ 1 + k1 ∧ jv = .int .i64 j ∧ CS0 w wc g c m q (1 + k1) (1 + r1) k ∧ Blk wc q 2 (cks (m.ck.take j ++ was.drop j))) (fun jv _ => 1 + k1 - (intOf jv).toNat)
        case atStart => exact ⟨0, by omega, rfl, K2.out.1, by simpa using K2.out.2.blk⟩
        case round =>
          obtain ⟨j, hj, rfl, hC, hB⟩ := hrel
          have hml := hC.len
          have hwl := K2.out.2.wlen
          by_cases hjn : j < 1 + k1
          · have hA := woClock_any g _ m j _ hC.mine.ok hC.wf (by constructor <;> omega)
            rw [clock_nat (by omega)] at hA
            have hlm : (cks (m.ck.take j ++ was.drop j)).length = 1 + k1 := by rw [cks_length, List.length_append, List.length_take, List.length_drop]; omega
            obtain ⟨old, hold⟩ : ∃ old, wr.cell? ⟨q, j, none⟩ = some old := ⟨_, (blk_at hB j).trans (List.getElem?_eq_getElem (by omega))⟩
            have hfz := blk_frozen hB j
            have hBs := hB.set j (.int .i64 (m.ck.getD j 0 : Nat))
            rw [mix_step _ _ _ (by omega) (by omega)] at hBs
            have K3 : Hid _ := And.intro (hC.set j (.int .i64 (m.ck.getD j 0 : Nat))) hBs
            have HA : Hid _ := hA
            have q2 : (j : Int) < 1 + (k1 : Int) := by omega
            generalize ((m.ck.getD j 0 : Nat) : Int) = Z at *
            clear hC hB hml hwl hA hlm hBs K2
            go_wp2_with (go_at_call 22; refine (Calls.mono HA.out) ?_; rintro e _ ⟨rfl, rfl⟩)
            go_roundw
            case rel => exact ⟨j + 1, by omega, by go_num, K3.out.1, K3.out.2⟩
            case measure => simp [intOf]; omega
          · obtain rfl : j = 1 + k1 := by omega
            rw [List.take_of_length_le (by omega), List.drop_eq_nil_of_le (by omega), List.append_nil] at hB
            have K3 : Hid _ := And.intro hC (⟨hB, hml, hC.sp, fun c hc => by have := hC.few c hc; omega⟩ : WS wr q m.ck (1 + k1) (1 + r1))
            clear hC hB hml hwl K2
            go_upto_region 15 with fail
            obtain ⟨hC, hW⟩ := K3.out
            obtain ⟨hI0, hI1 | ⟨ib, ioff, rfl, hI2⟩⟩ := HI.out.row
            · have := HI.out.len_eq; rw [hI1] at this; simp at this; omega
            have hkl : k < l.length := by rw [HI.out.len_eq]; exact t1
            have hx := cell_later hC.mine.below (hI2 k hkl)
            have hT := woTick_any g _ m l[k] _ hC.mine.ok hC.wf (hI0 _ (List.getElem_mem hkl))
            have HT : Hid _ := And.intro hT (And.intro hC hW)
            have q1 : (k : Int) < (len : Int) := by omega
            generalize l[k] = x at *
            clear hT hC hW hI0 hI2 K3
            go_wp2_with fail
            refine (Calls.mono HT.out.1) ?_
            rintro e w3 ⟨rfl, st⟩
            have K4 : Hid _ := And.intro (HT.out.2.1.tick x t2 st) (HT.out.2.2.tick HT.out.2.1 x st)
            generalize m.tick x = m3 at *
            clear st HT hx
            go_wp2_with fail
            go_loopw [14, 15] (fun an av wa => ∃ j : Nat, j ≤ 1 + k1 ∧ av = .int .i64 j ∧ an = .bool (anyTo m3 j) ∧ CS0 w wa g c m3 q (1 + k1) (1 + r1) (k + 1) ∧ WS wa q m.ck (1 + k1) (1 + r1)) (fun _ av _ => 1 + k1 - (intOf av).toNat)
            case atStart => exact ⟨0, by omega, rfl, rfl, K4.out.1, K4.out.2⟩
            case round =>
              obtain ⟨j, hj, rfl, rfl, hC, hW⟩ := hrel
              have K5 : Hid _ := And.intro hC hW
              clear hC hW K4 HI
              by_cases hjn : j < 1 + k1
              · have q2 : (j : Int) < 1 + (k1 : Int) := by omega
                have HM : Hid _ := woMay_any g _ m3 j _ K5.out.1.mine.ok K5.out.1.wf (by constructor <;> omega)
                have HSU : Hid _ := anyTo_succ m3 j
                go_upto_region 20 with fail
                go_cut [14] from 73 to 78 (fun an wx => an = .bool (anyTo m3 (j + 1)) ∧ CS0 w wx g c m3 q (1 + k1) (1 + r1) (k + 1) ∧ WS wx q m.ck (1 + k1) (1 + r1))
                case first =>
                  cases hb : anyTo m3 j with
                  | true =>
                    have HE : Hid (true = anyTo m3 (j + 1)) := by rw [HSU.out, hb]; rfl
                    clear HM hb HSU
                    go_wp2
                    go_meet
                    exact ⟨congrArg Value.bool HE.out, K5.out.1, K5.out.2⟩
                  | false =>
                    have HE : Hid (m3.may j = anyTo m3 (j + 1)) := by rw [HSU.out, hb]; rfl
                    clear hb HSU
                    go_wp2_with (go_at_call 24; refine (Calls.mono HM.out) ?_; rintro e w5 ⟨rfl, b5⟩)
                    go_meet
                    exact ⟨congrArg Value.bool HE.out, K5.out.1.later b5, K5.out.2.later b5⟩
                case rest =>
                obtain ⟨rfl, hC, hW⟩ := hcut
                have K6 : Hid _ := And.intro hC hW
                clear hC hW K5 HM HSU
                go_wp2_with fail
                go_loopw [16] (fun bv wb => ∃ i : Nat, i ≤ 1 + k1 ∧ bv = .int .i64 i ∧ CS0 w wb g c m3 q (1 + k1) (1 + r1) (k + 1) ∧ WS wb q m.ck (1 + k1) (1 + r1)) (fun bv _ => 1 + k1 - (intOf bv).toNat)
                case atStart => exact ⟨0, by omega, rfl, K6.out.1, K6.out.2⟩
                case round =>
                  obtain ⟨i, hi, rfl, hC, hW⟩ := hrel
                  by_cases hin : i < 1 + k1
                  · have q3 : (i : Int) < 1 + (k1 : Int) := by omega
                    have hln := hC.len
                    have hwl := hW.wlen
                    have s1 := hC.sp _ (getD_mem' (k := j) (by omega)) _ (getD_mem' (k := i) (by omega))
                    have s2 := hW.wsp _ (getD_mem' (k := i) (by omega)) _ (getD_mem' (k := j) (by omega))
                    have f1 := hC.few _ (getD_mem' (k := j) (by omega))
                    have f2 := hC.few _ (getD_mem' (k := i) (by omega))
                    have f3 := hW.wfew _ (getD_mem' (k := j) (by omega))
                    have f4 := hW.wfew _ (getD_mem' (k := i) (by omega))
                    have hA := woClock_any g _ m3 j _ hC.mine.ok hC.wf (by constructor <;> omega)
                    have hB := woClock_any g _ m3 i _ hC.mine.ok hC.wf (by constructor <;> omega)
                    rw [clock_nat (by omega)] at hA hB
                    have x1 := hW.at j hjn
                    have x2 := hW.at i hin
                    obtain ⟨cl, hcl⟩ : ∃ cl : Nat → Int, ∀ z, cl z = ((m3.ck.getD z 0 : Nat) : Int) := ⟨_, fun _ => rfl⟩
                    have HZ : Hid _ := fun (z : Nat) (hz : z = j ∨ z = i) (n : Nat) => (woClock_any g _ m3 z (wr.drewN n) (hC.mine.ok.later (below_drewN _ _ _)) hC.wf (by constructor <;> omega)).mono (fun e w' hh => (⟨hh.1.trans (by rw [clock_nat (by omega), hcl]), hh.2.symm⟩ : e = .returned (.int .i64 (cl z)) ∧ w' = wr.drewN n))
                    rw [← hcl] at hA hB
                    have HAB : Hid _ := And.intro hA hB
                    have K7 : Hid _ := And.intro hC hW
                    clear hC hW hA hB hln hwl K6
                    have p1 : cl j ≤ cl i + (1 + (r1 : Int)) := by rw [hcl, hcl]; omega
                    have p2 : ((m.ck.getD i 0 : Nat) : Int) ≤ ((m.ck.getD j 0 : Nat) : Int) + (1 + (r1 : Int)) := by omega
                    have p3 : (0 : Int) ≤ cl j ∧ cl j ≤ 1000 := by rw [hcl]; omega
                    have p4 : (0 : Int) ≤ cl i ∧ cl i ≤ 1000 := by rw [hcl]; omega
                    have p5 : (0 : Int) ≤ ((m.ck.getD j 0 : Nat) : Int) ∧ ((m.ck.getD j 0 : Nat) : Int) ≤ 1000 := by omega
                    have p6 : (0 : Int) ≤ ((m.ck.getD i 0 : Nat) : Int) ∧ ((m.ck.getD i 0 : Nat) : Int) ≤ 1000 := by omega
                    clear s1 s2 f1 f2 f3 f4 hcl
                    generalize ((m.ck.getD j 0 : Nat) : Int) = C at *
                    generalize ((m.ck.getD i 0 : Nat) : Int) = D at *
                    have hd : decide ((1 + (r1 : Int)) < cl j - cl i) = false := decide_eq_false (by omega)
                    have hd2 : decide (2 * (1 + (r1 : Int)) < cl j - C - (cl i - D)) = false := decide_eq_false (by omega)
                    obtain ⟨p31, p32⟩ := p3
                    obtain ⟨p41, p42⟩ := p4
                    obtain ⟨p51, p52⟩ := p5
                    obtain ⟨p61, p62⟩ := p6
                    have q4 : (j : Int) < 1 + (k1 : Int) := q2
                    go_wp2_with fail
                    refine (Calls.mono HAB.out.1) ?_
                    rintro e _ ⟨rfl, rfl⟩
                    go_wp2_with fail
                    refine (Calls.mono HAB.out.2) ?_
                    rintro e _ ⟨rfl, rfl⟩
                    clear HAB
                    go_wp2_with fail
                    go_quiet ((go_at_call 22; exact Calls.quiet_of_same (HZ.out _ (by first | exact .inl rfl | exact .inr rfl) _)))
                    clear HZ
                    go_wp2
                    go_roundw
                    case rel => exact ⟨i + 1, by omega, by go_num, K7.out.1.later (below_drewN _ _ _), K7.out.2.later (below_drewN _ _ _)⟩
                    case measure => simp [intOf]; omega
                  · obtain rfl : i = 1 + k1 := by omega
                    have K7 : Hid _ := And.intro hC hW
                    clear hC hW K6
                    go_wp2
                    go_roundw
                    case rel => exact ⟨j + 1, by omega, by go_num, rfl, K7.out.1, K7.out.2⟩
                    case measure => simp [intOf]; omega
              · obtain rfl : j = 1 + k1 := by omega
                have han : anyTo m3 (1 + k1) = true := by have := anyTo_all K5.out.1.wf (fun c hc => by have := K5.out.1.few c hc; have := K5.out.1.most; omega); rwa [K5.out.1.len] at this
                rw [han]
                clear han
                go_wp2
                go_roundw
                case rel => exact ⟨k + 1, m3, m.ck, by omega, by omega, by go_num, K5.out.1, K5.out.2⟩
                case measure => simp [intOf]; omega
      · have hfe' : ((k : Int) == fr) = false := by simpa using hfe
        have K3 : Hid _ := K2.out
        clear K2
        go_upto_region 15 with fail
        obtain ⟨hC, hW⟩ := K3.out
        obtain ⟨hI0, hI1 | ⟨ib, ioff, rfl, hI2⟩⟩ := HI.out.row
        · have := HI.out.len_eq; rw [hI1] at this; simp at this; omega
        have hkl : k < l.length := by rw [HI.out.len_eq]; exact t1
        have hx := cell_later hC.mine.below (hI2 k hkl)
        have hT := woTick_any g _ m l[k] _ hC.mine.ok hC.wf (hI0 _ (List.getElem_mem hkl))
        have HT : Hid _ := And.intro hT (And.intro hC hW)
        have q1 : (k : Int) < (len : Int) := by omega
        generalize l[k] = x at *
        clear hT hC hW hI0 hI2 K3
        go_wp2_with fail
        refine (Calls.mono HT.out.1) ?_
        rintro e w3 ⟨rfl, st⟩
        have K4 : Hid _ := And.intro (HT.out.2.1.tick x t2 st) (HT.out.2.2.tick HT.out.2.1 x st)
        generalize m.tick x = m3 at *
        clear st HT hx
        go_wp2_with fail
        go_loopw [14, 15] (fun an av wa => ∃ j : Nat, j ≤ 1 + k1 ∧ av = .int .i64 j ∧ an = .bool (anyTo m3 j) ∧ CS0 w wa g c m3 q (1 + k1) (1 + r1) (k + 1) ∧ WS wa q was (1 + k1) (1 + r1)) (fun _ av _ => 1 + k1 - (intOf av).toNat)
        case atStart => exact ⟨0, by omega, rfl, rfl, K4.out.1, K4.out.2⟩
        case round =>
          obtain ⟨j, hj, rfl, rfl, hC, hW⟩ := hrel
          have K5 : Hid _ := And.intro hC hW
          clear hC hW K4 HI
          by_cases hjn : j < 1 + k1
          · have q2 : (j : Int) < 1 + (k1 : Int) := by omega
            have HM : Hid _ := woMay_any g _ m3 j _ K5.out.1.mine.ok K5.out.1.wf (by constructor <;> omega)
            have HSU : Hid _ := anyTo_succ m3 j
            go_upto_region 20 with fail
            go_cut [14] from 73 to 78 (fun an wx => an = .bool (anyTo m3 (j + 1)) ∧ CS0 w wx g c m3 q (1 + k1) (1 + r1) (k + 1) ∧ WS wx q was (1 + k1) (1 + r1))
            case first =>
              cases hb : anyTo m3 j with
              | true =>
                have HE : Hid (true = anyTo m3 (j + 1)) := by rw [HSU.out, hb]; rfl
                clear HM hb HSU
                go_wp2
                go_meet
                exact ⟨congrArg Value.bool HE.out, K5.out.1, K5.out.2⟩
              | false =>
                have HE : Hid (m3.may j = anyTo m3 (j + 1)) := by rw [HSU.out, hb]; rfl
                clear hb HSU
                go_wp2_with (go_at_call 24; refine (Calls.mono HM.out) ?_; rintro e w5 ⟨rfl, b5⟩)
                go_meet
                exact ⟨congrArg Value.bool HE.out, K5.out.1.later b5, K5.out.2.later b5⟩
            case rest =>
            obtain ⟨rfl, hC, hW⟩ := hcut
            have K6 : Hid _ := And.intro hC hW
            clear hC hW K5 HM HSU
            go_wp2_with fail
            go_loopw [16] (fun bv wb => ∃ i : Nat, i ≤ 1 + k1 ∧ bv = .int .i64 i ∧ CS0 w wb g c m3 q (1 + k1) (1 + r1) (k + 1) ∧ WS wb q was (1 + k1) (1 + r1)) (fun bv _ => 1 + k1 - (intOf bv).toNat)
            case atStart => exact ⟨0, by omega, rfl, K6.out.1, K6.out.2⟩
            case round =>
              obtain ⟨i, hi, rfl, hC, hW⟩ := hrel
              by_cases hin : i < 1 + k1
              · have q3 : (i : Int) < 1 + (k1 : Int) := by omega
                have hln := hC.len
                have hwl := hW.wlen
                have s1 := hC.sp _ (getD_mem' (k := j) (by omega)) _ (getD_mem' (k := i) (by omega))
                have s2 := hW.wsp _ (getD_mem' (k := i) (by omega)) _ (getD_mem' (k := j) (by omega))
                have f1 := hC.few _ (getD_mem' (k := j) (by omega))
                have f2 := hC.few _ (getD_mem' (k := i) (by omega))
                have f3 := hW.wfew _ (getD_mem' (k := j) (by omega))
                have f4 := hW.wfew _ (getD_mem' (k := i) (by omega))
                have hA := woClock_any g _ m3 j _ hC.mine.ok hC.wf (by constructor <;> omega)
                have hB := woClock_any g _ m3 i _ hC.mine.ok hC.wf (by constructor <;> omega)
                rw [clock_nat (by omega)] at hA hB
                have x1 := hW.at j hjn
                have x2 := hW.at i hin
                obtain ⟨cl, hcl⟩ : ∃ cl : Nat → Int, ∀ z, cl z = ((m3.ck.getD z 0 : Nat) : Int) := ⟨_, fun _ => rfl⟩
                have HZ : Hid _ := fun (z : Nat) (hz : z = j ∨ z = i) (n : Nat) => (woClock_any g _ m3 z (wr.drewN n) (hC.mine.ok.later (below_drewN _ _ _)) hC.wf (by constructor <;> omega)).mono (fun e w' hh => (⟨hh.1.trans (by rw [clock_nat (by omega), hcl]), hh.2.symm⟩ : e = .returned (.int .i64 (cl z)) ∧ w' = wr.drewN n))
                rw [← hcl] at hA hB
                have HAB : Hid _ := And.intro hA hB
                have K7 : Hid _ := And.intro hC hW
                clear hC hW hA hB hln hwl K6
                have p1 : cl j ≤ cl i + (1 + (r1 : Int)) := by rw [hcl, hcl]; omega
                have p2 : ((was.getD i 0 : Nat) : Int) ≤ ((was.getD j 0 : Nat) : Int) + (1 + (r1 : Int)) := by omega
                have p3 : (0 : Int) ≤ cl j ∧ cl j ≤ 1000 := by rw [hcl]; omega
                have p4 : (0 : Int) ≤ cl i ∧ cl i ≤ 1000 := by rw [hcl]; omega
                have p5 : (0 : Int) ≤ ((was.getD j 0 : Nat) : Int) ∧ ((was.getD j 0 : Nat) : Int) ≤ 1000 := by omega
                have p6 : (0 : Int) ≤ ((was.getD i 0 : Nat) : Int) ∧ ((was.getD i 0 : Nat) : Int) ≤ 1000 := by omega
                clear s1 s2 f1 f2 f3 f4 hcl
                generalize ((was.getD j 0 : Nat) : Int) = C at *
                generalize ((was.getD i 0 : Nat) : Int) = D at *
                have hd : decide ((1 + (r1 : Int)) < cl j - cl i) = false := decide_eq_false (by omega)
                have hd2 : decide (2 * (1 + (r1 : Int)) < cl j - C - (cl i - D)) = false := decide_eq_false (by omega)
                obtain ⟨p31, p32⟩ := p3
                obtain ⟨p41, p42⟩ := p4
                obtain ⟨p51, p52⟩ := p5
                obtain ⟨p61, p62⟩ := p6
                have q4 : (j : Int) < 1 + (k1 : Int) := q2
                go_wp2_with fail
                refine (Calls.mono HAB.out.1) ?_
                rintro e _ ⟨rfl, rfl⟩
                go_wp2_with fail
                refine (Calls.mono HAB.out.2) ?_
                rintro e _ ⟨rfl, rfl⟩
                clear HAB
                go_wp2_with fail
                go_quiet ((go_at_call 22; exact Calls.quiet_of_same (HZ.out _ (by first | exact .inl rfl | exact .inr rfl) _)))
                clear HZ
                go_wp2
                go_roundw
                case rel => exact ⟨i + 1, by omega, by go_num, K7.out.1.later (below_drewN _ _ _), K7.out.2.later (below_drewN _ _ _)⟩
                case measure => simp [intOf]; omega
              · obtain rfl : i = 1 + k1 := by omega
                have K7 : Hid _ := And.intro hC hW
                clear hC hW K6
                go_wp2
                go_roundw
                case rel => exact ⟨j + 1, by omega, by go_num, rfl, K7.out.1, K7.out.2⟩
                case measure => simp [intOf]; omega
          · obtain rfl : j = 1 + k1 := by omega
            have han : anyTo m3 (1 + k1) = true := by have := anyTo_all K5.out.1.wf (fun c hc => by have := K5.out.1.few c hc; have := K5.out.1.most; omega); rwa [K5.out.1.len] at this
            rw [han]
            clear han
            go_wp2
            go_roundw
            case rel => exact ⟨k + 1, m3, was, by omega, by omega, by go_num, K5.out.1, K5.out.2⟩
            case measure => simp [intOf]; omega
    · have hdec : decide (k < len ∧ k < 300) = false := decide_eq_false hlt'
      rw [hdec]
      have HB : Hid _ := K2.out.1.mine.below
      clear hdec K2
      go_wp2_with (go_at_call 11; refine (known8_any _).mono ?_; rintro e w3 ⟨rfl, b3⟩)
      go_ret
      exact ⟨rfl, below_then HB.out b3⟩
end Go.Proofs.Ytjfodmdijajfbaa
