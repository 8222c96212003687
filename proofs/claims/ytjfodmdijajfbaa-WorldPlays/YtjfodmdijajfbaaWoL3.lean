/- The walk of the law on letters that come at most once. -/
import Derived.Test.YtjfodmdijajfbaaWoQ
import Derived.Test.YtjfodmdijajfbaaWoOps
import Derived.Deep.CutRange
namespace Go.Proofs.Ytjfodmdijajfbaa
open Go.RowKit
set_option linter.unusedVariables false
set_option maxRecDepth 4000

set_option maxHeartbeats 400000 in
theorem cnt_anyM (n : Int) (m : Nat) (M : Int) (hM : M = m) (w : World) (_h1 : I64 n) (hm : 0 < m) (hm2 : m ≤ 1125899906842624) :
    Calls Try.prog 14 #[.int .i64 n, .int .i64 M] w fun e w' => ∃ k : Nat, e = .returned (.int .i64 k) ∧ k < m ∧ w = w' := by
  subst hM
  obtain ⟨h1, h2⟩ := _h1
  have hb := Int.tmod_lt_of_pos n (by omega : (0 : Int) < m)
  have hb2 : -(m : Int) < n.tmod m := by
    have := Int.tmod_lt_of_pos (-n) (by omega : (0 : Int) < m)
    rw [Int.neg_tmod] at this; omega
  by_cases h : n.tmod m < 0
  · go_enter Try.func14, Try.ntmps14
    go_wp2
    go_ret
    refine ⟨(n.tmod m + m).toNat, ret_int ?_, by omega, rfl⟩
    omega
  · go_enter Try.func14, Try.ntmps14
    go_wp2
    go_ret
    exact ⟨(n.tmod m).toNat, ret_int (by omega), by omega, rfl⟩
theorem woNew_yesN (n r : Nat) (N R : Int) (hN : N = n) (hR : R = r) (w : World) (h : 1 ≤ n ∧ n ≤ 5) (hr : 1 ≤ r ∧ r ≤ 1000) :
    Calls Try.prog 9 #[.int .i64 N, .int .i64 R] w fun e w' => ∃ g c, e = .returned (.tuple #[.pointer (some ⟨g, 0, none⟩), .int .i64 0]) ∧ w.heap.size ≤ g ∧ w.heap.size ≤ c ∧ (wo g ⟨c, none, []⟩ (Wm.new n r)).Ok w' ∧ Below w.heap.size w w' := by
  subst hN; subst hR; exact woNew_yes n r w h hr
theorem getD_mem8 {l : List Nat} {k : Nat} (h : k < l.length) : l.getD k 0 ∈ l := by rw [List.getD, List.getElem?_eq_getElem h]; exact List.getElem_mem h
theorem conv_u8 (s : Nat) (hs : s < 256) (W : World) : (convert 3 5 (.int .i64 s)).run Try.prog W = .ok (.int .u8 s) W := by
  have e : IntKind.u8.wrap (s : Int) = s := by simp [IntKind.wrap, IntKind.signed, IntKind.bits]; omega
  simp [convert, run_underlying Try.underlying3, run_underlying Try.underlying5, Conv.intToInt, e]

set_option maxRecDepth 20000 in
set_option maxHeartbeats 8000000 in
theorem worldOnce_walk (n0 : Int) (a : Option Addr) (len cap : Nat) (w : World) (hn0 : I64 n0) (O : WOps w a len cap) :
    Calls Try.prog 4 #[.int .i64 n0, .slice a len cap] w fun e w' => e = .returned (.bool true) ∧ Below w.heap.size w w' := by
  have hlen : len ≤ maxLen := Nat.le_trans O.le O.most
  unfold maxLen at hlen
  have HO : Hid _ := O
  clear O
  have hmk := make_ints 200 (by omega)
  rw [show ((200 : Nat) : Int) = 200 from rfl] at hmk
  go_enter Try.func4, Try.ntmps4
  go_wp2_with fail
  refine (cnt_anyM n0 3 3 rfl w hn0 (by omega) (by omega)).mono ?_
  rintro e _ ⟨c1, rfl, hc1, rfl⟩
  go_wp2_with fail
  refine (woNew_yesN (2 + c1) 5 _ _ (by omega) (by omega) w (by omega) (by omega)).mono ?_
  rintro e w1 ⟨g, c, rfl, hg, hc, ok1, b1⟩
  have bq1 : Below w1.heap.size w1 (w1.alloc (.cells (madeCells #[.int .i64 0] 200) 3)) := (Below.refl _ _).alloc (Nat.le_refl _) _
  have B1 := made_ints w1 200
  have z1 : (w1.alloc (.cells (madeCells #[.int .i64 0] 200) 3)).heap.size = w1.heap.size + 1 := by simp
  have bq2 : Below (w1.alloc (.cells (madeCells #[.int .i64 0] 200) 3)).heap.size (w1.alloc (.cells (madeCells #[.int .i64 0] 200) 3)) ((w1.alloc (.cells (madeCells #[.int .i64 0] 200) 3)).alloc (.cells (madeCells #[.int .i64 0] 200) 3)) := (Below.refl _ _).alloc (Nat.le_refl _) _
  have B2 := made_ints (w1.alloc (.cells (madeCells #[.int .i64 0] 200) 3)) 200
  rw [z1] at B2
  have bq := below_then bq1 bq2
  have zb := b1.size
  have K1 : Hid _ := And.intro (om_new (2 + c1) (by omega)) (⟨⟨ok1.later bq, wo_far hg hc (fun k hk => by cases hk), below_then b1 bq⟩, B1.laterB bq2, B2, zb, by omega, by omega,
    ⟨fun e => by have := ok1.lt _ (.inl e); omega, fun e => by cases e⟩, ⟨fun e => by have := ok1.lt _ (.inl e); omega, fun e => by cases e⟩⟩ : OW w _ g ⟨c, none, []⟩ (Wm.new (2 + c1) 5) w1.heap.size (w1.heap.size + 1) (List.replicate 200 0) (List.replicate 200 0))
  clear bq1 B1 z1 bq2 B2 bq ok1 b1 zb
  go_wp2_with fail
  generalize (w1.alloc (.cells (madeCells #[.int .i64 0] 200) 3)).alloc (.cells (madeCells #[.int .i64 0] 200) 3) = w2 at *
  generalize w1.heap.size + 1 = q2 at *
  generalize w1.heap.size = q1 at *
  go_loopw [7, 10] (fun sv iv wr => ∃ (s i : Nat) (p : Wp) (m : Wm) (cm tw : List Nat), i ≤ len ∧ sv = .int .i64 s ∧ iv = .int .i64 i ∧ OM m cm tw (2 + c1) s i ∧ OW w wr g p m q1 q2 cm tw) (fun _ iv _ => 150 - (intOf iv).toNat)
  case atStart => exact ⟨0, 0, _, _, _, _, by omega, rfl, rfl, K1.out.1, K1.out.2⟩
  case round =>
    obtain ⟨s, i, p, m, cm, tw, hi1, rfl, rfl, hM, hW⟩ := hrel
    have hi2 := hM.most
    have hsi := hM.fs
    have K2 : Hid _ := And.intro hM hW
    clear hM hW K1 hmk
    go_upto_region 9 with fail
    go_cut [40] from 33 to 162 (fun cv wx => cv = .bool (decide (i < len ∧ i < 150)) ∧ wx = wr)
    case first =>
      clear HO K2
      by_cases t1 : (i : Int) < (len : Int)
      · by_cases t2 : (i : Int) < 150
        · go_wp2
          go_meet
          exact ⟨congrArg Value.bool (decide_eq_true (p := i < len ∧ i < 150) (by omega)).symm, rfl⟩
        · go_wp2
          go_meet
          exact ⟨congrArg Value.bool (decide_eq_false (p := i < len ∧ i < 150) (by omega)).symm, rfl⟩
      · go_wp2
        go_meet
        exact ⟨congrArg Value.bool (decide_eq_false (p := i < len ∧ i < 150) (by omega)).symm, rfl⟩
    case rest =>
    obtain ⟨rfl, hwc⟩ := hcut
    obtain rfl := hwc.symm
    clear hwc
    by_cases hlt' : i < len ∧ i < 150
    · have hdec : decide (i < len ∧ i < 150) = true := decide_eq_true hlt'
      rw [hdec]
      clear hdec
      obtain ⟨t1, t2⟩ := hlt'
      obtain ⟨hM, hW⟩ := K2.out
      obtain ⟨b, off, rfl, hop⟩ := HO.out.each (by omega)
      obtain ⟨K, F, N, xv, o0, o1, o2, o3, D⟩ := hop i t1
      obtain ⟨xa, xl, xc, xb, rfl, -⟩ := D.bytes
      have e0 := cell_later hW.mine.below o0
      have e1 := cell_later hW.mine.below o1
      have e2 := cell_later hW.mine.below o2
      have e3 := cell_later hW.mine.below o3
      have HD : Hid _ := And.intro D.froms D.nums
      have q1' : (i : Int) < (len : Int) := by omega
      have bo : Below wr.heap.size wr (wr.alloc (.cells #[.int .i64 K, .int .i64 F, .int .i64 N, .slice xa xl xc] 34)) := (Below.refl _ _).alloc (Nat.le_refl _) _
      have BO := Blk.new' wr 34 [.int .i64 K, .int .i64 F, .int .i64 N, .slice xa xl xc]
      have x0 := BO.cell (by simp [maxLen]) 0 (by simp)
      have x1 := BO.cell (by simp [maxLen]) 1 (by simp)
      have x2 := BO.cell (by simp [maxLen]) 2 (by simp)
      simp only [List.getElem?_cons_succ, List.getElem?_cons_zero] at x0 x1 x2
      have K3 : Hid _ := And.intro hM (hW.later bo)
      have HL : Hid _ := hW.mine.ok.lt
      clear hM hW o0 o1 o2 o3 D hop K2 HO bo BO
      have HDn : Hid _ := HD.out.2
      by_cases k0 : K = 0
      · subst k0
        go_upto_region 16 with fail
        have BO := Blk.new' wr 34 [.int .i64 0, .int .i64 F, .int .i64 N, .slice xa xl xc]
        generalize wr.alloc (.cells #[.int .i64 0, .int .i64 F, .int .i64 N, .slice xa xl xc] 34) = wk at *
        have obl := BO.lt
        have hcv := conv_u8 s (by omega)
        have ba : Below wk.heap.size wk (wk.drew.alloc (.cells #[.int .u8 s] 5)) := ((Below.refl _ _).drew).alloc (Nat.le_refl _) _
        have Sd : wk.drew.cell? ⟨wr.heap.size, 1, none⟩ = some (.int .i64 F) ∧ wk.drew.cell? ⟨wr.heap.size, 2, none⟩ = some (.int .i64 N) := ⟨x1, x2⟩
        have Sa : (wk.drew.alloc (.cells #[.int .u8 s] 5)).cell? ⟨wr.heap.size, 1, none⟩ = some (.int .i64 F) ∧ (wk.drew.alloc (.cells #[.int .u8 s] 5)).cell? ⟨wr.heap.size, 2, none⟩ = some (.int .i64 N) := ⟨cell_later ba x1, cell_later ba x2⟩
        have HS : Hid (∀ x y : Nat, x < 2 + c1 → y < 2 + c1 → Calls Try.prog 15 #[.pointer (some ⟨g, 0, none⟩), .int .i64 x, .int .i64 y, .slice (some ⟨wk.heap.size, 0, none⟩) 1 1] (wk.drew.alloc (.cells #[.int .u8 s] 5)) fun e w' => ∃ p', e = .returned (.int .i64 0) ∧ OW w w' g p' (m.send x y [BitVec.ofNat 8 s]) q1 q2 cm tw ∧ w'.cell? ⟨wr.heap.size, 1, none⟩ = some (.int .i64 F) ∧ w'.cell? ⟨wr.heap.size, 2, none⟩ = some (.int .i64 N)) := by
          intro x y hx hy
          obtain ⟨hM, hW⟩ := K3.out
          have hW2 := hW.later ba
          have BO2 := BO.laterB ba
          have hn := woSend_any g p m x y (some ⟨wk.heap.size, 0, none⟩) 1 1 [BitVec.ofNat 8 s] _ hW2.mine.ok hM.wf (by constructor <;> omega) (by constructor <;> omega) rfl (Nat.le_refl _) (Row.newl wk.drew _ _ _ _ (by simp; omega)) (fun e => by cases e)
          rw [hM.sendE x y hx hy] at hn
          refine hn.mono ?_
          rintro e w' ⟨p', rfl, st⟩
          have hnW : wr.heap.size ∉ (wo g p m).W := fun e => by have := HL.out _ (.inl e); omega
          have BO3 := BO2.step st hnW
          exact ⟨p', rfl, hW2.step st, BO3.cell (by simp [maxLen]) 1 (by simp), BO3.cell (by simp [maxLen]) 2 (by simp)⟩
        have HM0 : Hid _ := K3.out.1
        clear BO K3 x0 x1 x2 ba obl HL
        go_cut [66] from 53 to 66 (fun cv wx => cv = .bool false ∧ ∃ x y p', x < 2 + c1 ∧ y < 2 + c1 ∧ OW w wx g p' (m.send x y [BitVec.ofNat 8 s]) q1 q2 cm tw)
        case first =>
          go_region_held_law (fun W => W.cell? ⟨wr.heap.size, 1, none⟩ = some (.int .i64 F) ∧ W.cell? ⟨wr.heap.size, 2, none⟩ = some (.int .i64 N)) (first | exact Sd | exact Sa | assumption)
            (first
              | (go_at_call 14; refine (cnt_anyM _ (2 + c1) _ (by omega) _ (by first | exact HD.out.1 | exact HD.out.2) (by omega) (by omega)).mono ?_; rintro e _ ⟨kk, rfl, hkk, rfl⟩)
              | (go_at_call 15; refine (Calls.mono (HS.out _ _ (by assumption) (by assumption))) ?_; rintro e w5 ⟨p5, rfl, h5, S5⟩))
          all_goals
            go_wp2
            go_meet
            exact ⟨rfl, _, _, p5, by assumption, by assumption, h5⟩
        case rest =>
        obtain ⟨rfl, x, y, p', hx, hy, hW⟩ := hcut
        have F : Hid _ := And.intro (HM0.out.send t2 x y hx hy) hW
        clear hW HS Sd Sa hcv HM0
        go_wp2
        go_roundw
        case rel => exact ⟨s + 1, i + 1, p', _, cm, tw, by omega, by go_num, by go_num, F.out.1, F.out.2⟩
        case measure => simp [intOf]; omega
      by_cases k1 : K = 1
      · subst k1
        go_upto_region 16 with fail
        have BO := Blk.new' wr 34 [.int .i64 1, .int .i64 F, .int .i64 N, .slice xa xl xc]
        generalize wr.alloc (.cells #[.int .i64 1, .int .i64 F, .int .i64 N, .slice xa xl xc] 34) = wk at *
        have obl := BO.lt
        have hcv := conv_u8 s (by omega)
        have ba : Below wk.heap.size wk (wk.drew.alloc (.cells #[.int .u8 s] 5)) := ((Below.refl _ _).drew).alloc (Nat.le_refl _) _
        have Sd : wk.drew.cell? ⟨wr.heap.size, 1, none⟩ = some (.int .i64 F) ∧ wk.drew.cell? ⟨wr.heap.size, 2, none⟩ = some (.int .i64 N) := ⟨x1, x2⟩
        have Sa : (wk.drew.alloc (.cells #[.int .u8 s] 5)).cell? ⟨wr.heap.size, 1, none⟩ = some (.int .i64 F) ∧ (wk.drew.alloc (.cells #[.int .u8 s] 5)).cell? ⟨wr.heap.size, 2, none⟩ = some (.int .i64 N) := ⟨cell_later ba x1, cell_later ba x2⟩
        have HS : Hid (∀ x y : Nat, x < 2 + c1 → y < 2 + c1 → Calls Try.prog 15 #[.pointer (some ⟨g, 0, none⟩), .int .i64 x, .int .i64 y, .slice (some ⟨wk.heap.size, 0, none⟩) 1 1] (wk.drew.alloc (.cells #[.int .u8 s] 5)) fun e w' => ∃ p', e = .returned (.int .i64 0) ∧ OW w w' g p' (m.send x y [BitVec.ofNat 8 s]) q1 q2 cm tw ∧ w'.cell? ⟨wr.heap.size, 1, none⟩ = some (.int .i64 F) ∧ w'.cell? ⟨wr.heap.size, 2, none⟩ = some (.int .i64 N)) := by
          intro x y hx hy
          obtain ⟨hM, hW⟩ := K3.out
          have hW2 := hW.later ba
          have BO2 := BO.laterB ba
          have hn := woSend_any g p m x y (some ⟨wk.heap.size, 0, none⟩) 1 1 [BitVec.ofNat 8 s] _ hW2.mine.ok hM.wf (by constructor <;> omega) (by constructor <;> omega) rfl (Nat.le_refl _) (Row.newl wk.drew _ _ _ _ (by simp; omega)) (fun e => by cases e)
          rw [hM.sendE x y hx hy] at hn
          refine hn.mono ?_
          rintro e w' ⟨p', rfl, st⟩
          have hnW : wr.heap.size ∉ (wo g p m).W := fun e => by have := HL.out _ (.inl e); omega
          have BO3 := BO2.step st hnW
          exact ⟨p', rfl, hW2.step st, BO3.cell (by simp [maxLen]) 1 (by simp), BO3.cell (by simp [maxLen]) 2 (by simp)⟩
        have HM0 : Hid _ := K3.out.1
        clear BO K3 x0 x1 x2 ba obl HL
        go_cut [66] from 53 to 66 (fun cv wx => cv = .bool false ∧ ∃ x y p', x < 2 + c1 ∧ y < 2 + c1 ∧ OW w wx g p' (m.send x y [BitVec.ofNat 8 s]) q1 q2 cm tw)
        case first =>
          go_region_held_law (fun W => W.cell? ⟨wr.heap.size, 1, none⟩ = some (.int .i64 F) ∧ W.cell? ⟨wr.heap.size, 2, none⟩ = some (.int .i64 N)) (first | exact Sd | exact Sa | assumption)
            (first
              | (go_at_call 14; refine (cnt_anyM _ (2 + c1) _ (by omega) _ (by first | exact HD.out.1 | exact HD.out.2) (by omega) (by omega)).mono ?_; rintro e _ ⟨kk, rfl, hkk, rfl⟩)
              | (go_at_call 15; refine (Calls.mono (HS.out _ _ (by assumption) (by assumption))) ?_; rintro e w5 ⟨p5, rfl, h5, S5⟩))
          all_goals
            go_wp2
            go_meet
            exact ⟨rfl, _, _, p5, by assumption, by assumption, h5⟩
        case rest =>
        obtain ⟨rfl, x, y, p', hx, hy, hW⟩ := hcut
        have F : Hid _ := And.intro (HM0.out.send t2 x y hx hy) hW
        clear hW HS Sd Sa hcv HM0
        go_wp2
        go_roundw
        case rel => exact ⟨s + 1, i + 1, p', _, cm, tw, by omega, by go_num, by go_num, F.out.1, F.out.2⟩
        case measure => simp [intOf]; omega
      by_cases k2 : K = 2
      · subst k2
        go_upto_region 16 with fail
        have BO := Blk.new' wr 34 [.int .i64 2, .int .i64 F, .int .i64 N, .slice xa xl xc]
        generalize wr.alloc (.cells #[.int .i64 2, .int .i64 F, .int .i64 N, .slice xa xl xc] 34) = wk at *
        have obl := BO.lt
        have hcv := conv_u8 s (by omega)
        have ba : Below wk.heap.size wk (wk.drew.alloc (.cells #[.int .u8 s] 5)) := ((Below.refl _ _).drew).alloc (Nat.le_refl _) _
        have Sd : wk.drew.cell? ⟨wr.heap.size, 1, none⟩ = some (.int .i64 F) ∧ wk.drew.cell? ⟨wr.heap.size, 2, none⟩ = some (.int .i64 N) := ⟨x1, x2⟩
        have Sa : (wk.drew.alloc (.cells #[.int .u8 s] 5)).cell? ⟨wr.heap.size, 1, none⟩ = some (.int .i64 F) ∧ (wk.drew.alloc (.cells #[.int .u8 s] 5)).cell? ⟨wr.heap.size, 2, none⟩ = some (.int .i64 N) := ⟨cell_later ba x1, cell_later ba x2⟩
        have HS : Hid (∀ x y : Nat, x < 2 + c1 → y < 2 + c1 → Calls Try.prog 15 #[.pointer (some ⟨g, 0, none⟩), .int .i64 x, .int .i64 y, .slice (some ⟨wk.heap.size, 0, none⟩) 1 1] (wk.drew.alloc (.cells #[.int .u8 s] 5)) fun e w' => ∃ p', e = .returned (.int .i64 0) ∧ OW w w' g p' (m.send x y [BitVec.ofNat 8 s]) q1 q2 cm tw ∧ w'.cell? ⟨wr.heap.size, 1, none⟩ = some (.int .i64 F) ∧ w'.cell? ⟨wr.heap.size, 2, none⟩ = some (.int .i64 N)) := by
          intro x y hx hy
          obtain ⟨hM, hW⟩ := K3.out
          have hW2 := hW.later ba
          have BO2 := BO.laterB ba
          have hn := woSend_any g p m x y (some ⟨wk.heap.size, 0, none⟩) 1 1 [BitVec.ofNat 8 s] _ hW2.mine.ok hM.wf (by constructor <;> omega) (by constructor <;> omega) rfl (Nat.le_refl _) (Row.newl wk.drew _ _ _ _ (by simp; omega)) (fun e => by cases e)
          rw [hM.sendE x y hx hy] at hn
          refine hn.mono ?_
          rintro e w' ⟨p', rfl, st⟩
          have hnW : wr.heap.size ∉ (wo g p m).W := fun e => by have := HL.out _ (.inl e); omega
          have BO3 := BO2.step st hnW
          exact ⟨p', rfl, hW2.step st, BO3.cell (by simp [maxLen]) 1 (by simp), BO3.cell (by simp [maxLen]) 2 (by simp)⟩
        have HM0 : Hid _ := K3.out.1
        clear BO K3 x0 x1 x2 ba obl HL
        go_cut [66] from 53 to 66 (fun cv wx => cv = .bool false ∧ ∃ x y p', x < 2 + c1 ∧ y < 2 + c1 ∧ OW w wx g p' (m.send x y [BitVec.ofNat 8 s]) q1 q2 cm tw)
        case first =>
          go_region_held_law (fun W => W.cell? ⟨wr.heap.size, 1, none⟩ = some (.int .i64 F) ∧ W.cell? ⟨wr.heap.size, 2, none⟩ = some (.int .i64 N)) (first | exact Sd | exact Sa | assumption)
            (first
              | (go_at_call 14; refine (cnt_anyM _ (2 + c1) _ (by omega) _ (by first | exact HD.out.1 | exact HD.out.2) (by omega) (by omega)).mono ?_; rintro e _ ⟨kk, rfl, hkk, rfl⟩)
              | (go_at_call 15; refine (Calls.mono (HS.out _ _ (by assumption) (by assumption))) ?_; rintro e w5 ⟨p5, rfl, h5, S5⟩))
          all_goals
            go_wp2
            go_meet
            exact ⟨rfl, _, _, p5, by assumption, by assumption, h5⟩
        case rest =>
        obtain ⟨rfl, x, y, p', hx, hy, hW⟩ := hcut
        have F : Hid _ := And.intro (HM0.out.send t2 x y hx hy) hW
        clear hW HS Sd Sa hcv HM0
        go_wp2
        go_roundw
        case rel => exact ⟨s + 1, i + 1, p', _, cm, tw, by omega, by go_num, by go_num, F.out.1, F.out.2⟩
        case measure => simp [intOf]; omega
      by_cases k3 : K = 3
      · subst k3
        go_upto_region 21 with fail
        generalize hwk : wr.alloc (.cells #[.int .i64 3, .int .i64 F, .int .i64 N, .slice xa xl xc] 34) = wk at *
        clear hwk x0 x1 e0 e1 e2 e3 HD HL
        obtain ⟨hM, hW⟩ := K3.out
        generalize wr.heap.size = ob at *
        have HNb : Hid _ := HDn.out
        by_cases hN : 0 ≤ N ∧ N < (m.fl.length : Int)
        · obtain ⟨k, rfl⟩ : ∃ k : Nat, N = k := ⟨N.toNat, by omega⟩
          have hk : k < m.fl.length := by omega
          by_cases hap : m.apart (m.fl[k].1 : Nat) (m.fl[k].2.1 : Nat) = true
          · have hT := woTake_apart g p m k wk hW.mine.ok hM.wf hk (by have := hM.fo; omega) hap
            unfold lz at hT
            have HT : Hid _ := hT
            have K4 : Hid _ := And.intro (hM.lose t2 k hk) hW
            clear hT hap hk hN hM hW K3
            go_wp2_with fail
            refine (Calls.mono HT.out) ?_
            rintro e w5 ⟨rfl, st⟩
            have F : Hid _ := And.intro K4.out.1 ((K4.out.2.step st).later ((Below.refl _ _).alloc (Nat.le_refl _) _ : Below w5.heap.size w5 (w5.alloc (.cells #[.int .i64 0, .int .i64 0, .slice none 0 0] 41))))
            clear st K4 HT x2
            go_wp2
            go_roundw
            case rel => exact ⟨s, i + 1, p, _, _, _, by omega, rfl, by go_num, F.out.1, F.out.2⟩
            case measure => simp [intOf]; omega
          · have hapf : m.apart (m.fl[k].1 : Nat) (m.fl[k].2.1 : Nat) = false := by simpa using hap
            obtain ⟨bb, hb1, hb2⟩ := hM.lets _ (List.getElem_mem hk)
            have hT := woTake_come g p m k wk hW.mine.ok hM.wf hk (by have := hM.ft; omega) hapf
            rw [hb1] at hT
            unfold lv at hT
            have hid : idOf m.fl[k] = bb.toNat := by unfold idOf; rw [hb1]; rfl
            have HT : Hid _ := hT
            have hfi := hM.wf.each _ (List.getElem_mem hk)
            have hlc := hM.len
            have hAp : Hid _ := fun (W : World) (hW : (wo g p (m.come k)).Ok W) => woApart_any g p (m.come k) (m.fl[k].1 : Nat) (m.fl[k].2.1 : Nat) W hW (come_wf hM.wf k) (by constructor <;> omega) (by constructor <;> omega)
            rw [show (m.come k).apart (m.fl[k].1 : Nat) (m.fl[k].2.1 : Nat) = false from hapf] at hAp
            have K4 : Hid _ := And.intro (hM.come t2 k hk bb.toNat hid (by omega)) (And.intro hW (And.intro hM.l1 (fun c hc => (hM.fc c hc : c ≤ i))))
            generalize m.fl[k].1 = x at *
            generalize m.fl[k].2.1 = y at *
            clear hT hap hapf hk hN hM hW K3 hb1 hid hfi hlc
            go_wp2_with fail
            refine (Calls.mono HT.out) ?_
            rintro e w5 ⟨v, rfl, ho, st⟩
            obtain ⟨kb, vc, rfl, hkb, hkl⟩ := ho.some (by simp)
            obtain ⟨va, vc', hv, hle, hmx, hrw, -, -⟩ := ho.open
            simp only [Value.slice.injEq] at hv
            obtain ⟨rfl, -, rfl⟩ := hv
            have hby : w5.cell? ⟨kb, 0, none⟩ = some (.int .u8 (bb.toNat : Nat)) := by
              rcases hrw with h0 | ⟨b', off', hb', hcc⟩
              · simp at h0
              · cases hb'
                have := hcc 0 (by simp)
                simpa [bt] using this
            rw [show ([bb] : List (BitVec 8)).length = 1 from rfl] at hle ⊢
            have b6 : Below w5.heap.size w5 (w5.alloc (.cells #[.int .i64 x, .int .i64 y, .slice (some ⟨kb, 0, none⟩) 1 vc] 41)) := (Below.refl _ _).alloc (Nat.le_refl _) _
            have M6 := Blk.new' w5 41 [.int .i64 x, .int .i64 y, .slice (some ⟨kb, 0, none⟩) 1 vc]
            obtain ⟨⟨y0, y1, y2⟩, -⟩ := wblk3 M6
            have hby6 := cell_later b6 hby
            obtain ⟨hM5, hW4, hl1, hfc⟩ := K4.out
            have hW6 := (hW4.step st).later b6
            obtain ⟨z1, z2⟩ := hW6.at1 bb.toNat (by rw [hl1]; omega)
            have hfb := hfc _ (getD_mem8 (k := bb.toNat) (by rw [hl1]; omega))
            have HA : Hid _ := hAp.out _ hW6.mine.ok
            have F : Hid _ := And.intro hM5 (hW6.set1 bb.toNat (cm.getD bb.toNat 0 + 1))
            have hz : Hid ((((cm.getD bb.toNat 0 + 1 : Nat)) : Int) = ((cm.getD bb.toNat 0 : Nat) : Int) + 1) := by show _ = _; omega
            rw [hz.out] at F
            have p1 : ((cm.getD bb.toNat 0 : Nat) : Int) ≤ 1000 ∧ 0 ≤ ((cm.getD bb.toNat 0 : Nat) : Int) := by omega
            generalize ((cm.getD bb.toNat 0 : Nat) : Int) = Z at *
            obtain ⟨p11, p12⟩ := p1
            have hd : decide ((s : Int) ≤ ((bb.toNat : Nat) : Int)) = false := decide_eq_false (by omega)
            have q5 : ((bb.toNat : Nat) : Int) < 200 := by omega
            clear hM5 hW4 hl1 hfc hW6 hfb K4 hAp HT st b6 M6 hby ho hrw hz hkb hkl hle hmx x2
            generalize bb.toNat = t at *
            go_wp2_with (go_at_call 17; refine (Calls.mono HA.out) ?_; rintro e _ ⟨rfl, rfl⟩)
            go_roundw
            case rel => exact ⟨s, i + 1, p, _, _, _, by omega, rfl, by go_num, F.out.1, F.out.2⟩
            case measure => simp [intOf]; omega
        · have hT := woTake_no g p m N wk hW.mine.ok hM.wf HNb.out hN
          unfold lz at hT
          have HT : Hid _ := hT
          have K4 : Hid _ := And.intro (hM.on t2) hW
          clear hT hN hM hW K3
          go_wp2_with fail
          refine (Calls.mono HT.out) ?_
          rintro e w5 ⟨rfl, b5⟩
          have F : Hid _ := And.intro K4.out.1 (K4.out.2.later (below_then b5 ((Below.refl _ _).alloc (Nat.le_refl _) _ : Below w5.heap.size w5 (w5.alloc (.cells #[.int .i64 0, .int .i64 0, .slice none 0 0] 41)))))
          clear b5 K4 HT x2
          go_wp2
          go_roundw
          case rel => exact ⟨s, i + 1, p, _, _, _, by omega, rfl, by go_num, F.out.1, F.out.2⟩
          case measure => simp [intOf]; omega
      by_cases k4 : K = 4
      · subst k4
        go_upto_region 21 with fail
        generalize hwk : wr.alloc (.cells #[.int .i64 4, .int .i64 F, .int .i64 N, .slice xa xl xc] 34) = wk at *
        clear hwk x0 x1 e0 e1 e2 e3 HD HL
        obtain ⟨hM, hW⟩ := K3.out
        generalize wr.heap.size = ob at *
        have HNb : Hid _ := HDn.out
        by_cases hN : 0 ≤ N ∧ N < (m.fl.length : Int)
        · obtain ⟨k, rfl⟩ : ∃ k : Nat, N = k := ⟨N.toNat, by omega⟩
          have hk : k < m.fl.length := by omega
          by_cases hap : m.apart (m.fl[k].1 : Nat) (m.fl[k].2.1 : Nat) = true
          · have hT := woTake_apart g p m k wk hW.mine.ok hM.wf hk (by have := hM.fo; omega) hap
            unfold lz at hT
            have HT : Hid _ := hT
            have K4 : Hid _ := And.intro (hM.lose t2 k hk) hW
            clear hT hap hk hN hM hW K3
            go_wp2_with fail
            refine (Calls.mono HT.out) ?_
            rintro e w5 ⟨rfl, st⟩
            have F : Hid _ := And.intro K4.out.1 ((K4.out.2.step st).later ((Below.refl _ _).alloc (Nat.le_refl _) _ : Below w5.heap.size w5 (w5.alloc (.cells #[.int .i64 0, .int .i64 0, .slice none 0 0] 41))))
            clear st K4 HT x2
            go_wp2
            go_roundw
            case rel => exact ⟨s, i + 1, p, _, _, _, by omega, rfl, by go_num, F.out.1, F.out.2⟩
            case measure => simp [intOf]; omega
          · have hapf : m.apart (m.fl[k].1 : Nat) (m.fl[k].2.1 : Nat) = false := by simpa using hap
            obtain ⟨bb, hb1, hb2⟩ := hM.lets _ (List.getElem_mem hk)
            have hT := woTake_come g p m k wk hW.mine.ok hM.wf hk (by have := hM.ft; omega) hapf
            rw [hb1] at hT
            unfold lv at hT
            have hid : idOf m.fl[k] = bb.toNat := by unfold idOf; rw [hb1]; rfl
            have HT : Hid _ := hT
            have hfi := hM.wf.each _ (List.getElem_mem hk)
            have hlc := hM.len
            have hAp : Hid _ := fun (W : World) (hW : (wo g p (m.come k)).Ok W) => woApart_any g p (m.come k) (m.fl[k].1 : Nat) (m.fl[k].2.1 : Nat) W hW (come_wf hM.wf k) (by constructor <;> omega) (by constructor <;> omega)
            rw [show (m.come k).apart (m.fl[k].1 : Nat) (m.fl[k].2.1 : Nat) = false from hapf] at hAp
            have K4 : Hid _ := And.intro (hM.come t2 k hk bb.toNat hid (by omega)) (And.intro hW (And.intro hM.l1 (fun c hc => (hM.fc c hc : c ≤ i))))
            generalize m.fl[k].1 = x at *
            generalize m.fl[k].2.1 = y at *
            clear hT hap hapf hk hN hM hW K3 hb1 hid hfi hlc
            go_wp2_with fail
            refine (Calls.mono HT.out) ?_
            rintro e w5 ⟨v, rfl, ho, st⟩
            obtain ⟨kb, vc, rfl, hkb, hkl⟩ := ho.some (by simp)
            obtain ⟨va, vc', hv, hle, hmx, hrw, -, -⟩ := ho.open
            simp only [Value.slice.injEq] at hv
            obtain ⟨rfl, -, rfl⟩ := hv
            have hby : w5.cell? ⟨kb, 0, none⟩ = some (.int .u8 (bb.toNat : Nat)) := by
              rcases hrw with h0 | ⟨b', off', hb', hcc⟩
              · simp at h0
              · cases hb'
                have := hcc 0 (by simp)
                simpa [bt] using this
            rw [show ([bb] : List (BitVec 8)).length = 1 from rfl] at hle ⊢
            have b6 : Below w5.heap.size w5 (w5.alloc (.cells #[.int .i64 x, .int .i64 y, .slice (some ⟨kb, 0, none⟩) 1 vc] 41)) := (Below.refl _ _).alloc (Nat.le_refl _) _
            have M6 := Blk.new' w5 41 [.int .i64 x, .int .i64 y, .slice (some ⟨kb, 0, none⟩) 1 vc]
            obtain ⟨⟨y0, y1, y2⟩, -⟩ := wblk3 M6
            have hby6 := cell_later b6 hby
            obtain ⟨hM5, hW4, hl1, hfc⟩ := K4.out
            have hW6 := (hW4.step st).later b6
            obtain ⟨z1, z2⟩ := hW6.at1 bb.toNat (by rw [hl1]; omega)
            have hfb := hfc _ (getD_mem8 (k := bb.toNat) (by rw [hl1]; omega))
            have HA : Hid _ := hAp.out _ hW6.mine.ok
            have F : Hid _ := And.intro hM5 (hW6.set1 bb.toNat (cm.getD bb.toNat 0 + 1))
            have hz : Hid ((((cm.getD bb.toNat 0 + 1 : Nat)) : Int) = ((cm.getD bb.toNat 0 : Nat) : Int) + 1) := by show _ = _; omega
            rw [hz.out] at F
            have p1 : ((cm.getD bb.toNat 0 : Nat) : Int) ≤ 1000 ∧ 0 ≤ ((cm.getD bb.toNat 0 : Nat) : Int) := by omega
            generalize ((cm.getD bb.toNat 0 : Nat) : Int) = Z at *
            obtain ⟨p11, p12⟩ := p1
            have hd : decide ((s : Int) ≤ ((bb.toNat : Nat) : Int)) = false := decide_eq_false (by omega)
            have q5 : ((bb.toNat : Nat) : Int) < 200 := by omega
            clear hM5 hW4 hl1 hfc hW6 hfb K4 hAp HT st b6 M6 hby ho hrw hz hkb hkl hle hmx x2
            generalize bb.toNat = t at *
            go_wp2_with (go_at_call 17; refine (Calls.mono HA.out) ?_; rintro e _ ⟨rfl, rfl⟩)
            go_roundw
            case rel => exact ⟨s, i + 1, p, _, _, _, by omega, rfl, by go_num, F.out.1, F.out.2⟩
            case measure => simp [intOf]; omega
        · have hT := woTake_no g p m N wk hW.mine.ok hM.wf HNb.out hN
          unfold lz at hT
          have HT : Hid _ := hT
          have K4 : Hid _ := And.intro (hM.on t2) hW
          clear hT hN hM hW K3
          go_wp2_with fail
          refine (Calls.mono HT.out) ?_
          rintro e w5 ⟨rfl, b5⟩
          have F : Hid _ := And.intro K4.out.1 (K4.out.2.later (below_then b5 ((Below.refl _ _).alloc (Nat.le_refl _) _ : Below w5.heap.size w5 (w5.alloc (.cells #[.int .i64 0, .int .i64 0, .slice none 0 0] 41)))))
          clear b5 K4 HT x2
          go_wp2
          go_roundw
          case rel => exact ⟨s, i + 1, p, _, _, _, by omega, rfl, by go_num, F.out.1, F.out.2⟩
          case measure => simp [intOf]; omega
      by_cases k5 : K = 5
      · subst k5
        go_upto_region 27 with fail
        generalize hwk : wr.alloc (.cells #[.int .i64 5, .int .i64 F, .int .i64 N, .slice xa xl xc] 34) = wk at *
        clear hwk x0 x1 e0 e1 e2 e3 HD HL
        obtain ⟨hM, hW⟩ := K3.out
        generalize wr.heap.size = ob at *
        have HNb : Hid _ := HDn.out
        by_cases hN : 0 ≤ N ∧ N < (m.fl.length : Int)
        · obtain ⟨k, rfl⟩ : ∃ k : Nat, N = k := ⟨N.toNat, by omega⟩
          have hk : k < m.fl.length := by omega
          have HT : Hid _ := woDrop_yes g p m k wk hW.mine.ok hM.wf hk (by have := hM.fo; omega)
          have K4 : Hid _ := And.intro (hM.lose t2 k hk) hW
          clear hk hN hM hW K3
          go_wp2_with fail
          refine (Calls.mono HT.out) ?_
          rintro e w5 ⟨rfl, st⟩
          have F : Hid _ := And.intro K4.out.1 (K4.out.2.step st)
          clear st K4 HT x2
          go_wp2
          go_roundw
          case rel => exact ⟨s, i + 1, p, _, _, _, by omega, rfl, by go_num, F.out.1, F.out.2⟩
          case measure => simp [intOf]; omega
        · have HT : Hid _ := woDrop_no g p m N wk hW.mine.ok hM.wf HNb.out hN
          have F : Hid _ := And.intro (hM.on t2) hW
          clear hN hM hW K3
          go_wp2_with fail
          refine (Calls.mono HT.out) ?_
          rintro e _ ⟨rfl, rfl⟩
          clear HT x2
          go_wp2
          go_roundw
          case rel => exact ⟨s, i + 1, p, _, _, _, by omega, rfl, by go_num, F.out.1, F.out.2⟩
          case measure => simp [intOf]; omega
      by_cases k6 : K = 6
      · subst k6
        go_upto_region 29 with fail
        generalize hwk : wr.alloc (.cells #[.int .i64 6, .int .i64 F, .int .i64 N, .slice xa xl xc] 34) = wk at *
        clear hwk x0 x1 e0 e1 e2 e3 HD HL
        obtain ⟨hM, hW⟩ := K3.out
        generalize wr.heap.size = ob at *
        have HNb : Hid _ := HDn.out
        by_cases hN : 0 ≤ N ∧ N < (m.fl.length : Int)
        · obtain ⟨k, rfl⟩ : ∃ k : Nat, N = k := ⟨N.toNat, by omega⟩
          have hk : k < m.fl.length := by omega
          obtain ⟨bb, hb1, hb2⟩ := hM.lets _ (List.getElem_mem hk)
          have hT := woLook_yes g p m k wk hW.mine.ok hM.wf hk
          rw [hb1] at hT
          unfold lv at hT
          have hid : idOf m.fl[k] = bb.toNat := by unfold idOf; rw [hb1]; rfl
          have HT : Hid _ := hT
          have hff := hM.ff
          have hDo : Hid _ := fun (W : World) (hW : (wo g p m).Ok W) => woDouble_yes g p m k W hW hM.wf hk
          rw [if_pos (by omega), if_pos (by omega)] at hDo
          have K4 : Hid _ := And.intro (hM.twice t2 k hk bb.toNat hid (by omega)) (And.intro hW (And.intro hM.l2 (And.intro (fun c hc => (hM.fw c hc : c ≤ i)) hW.mine.ok.lt)))
          generalize m.fl[k].1 = x at *
          generalize m.fl[k].2.1 = y at *
          clear hT hk hN hM hW K3 hb1 hid hff
          have x2' := x2
          go_wp2_with fail
          refine (Calls.mono HT.out) ?_
          rintro e w5 ⟨v, rfl, ho, b5⟩
          obtain ⟨kb, vc, rfl, hkb, hkl⟩ := ho.some (by simp)
          rw [show ([bb] : List (BitVec 8)).length = 1 from rfl]
          have b6 : Below w5.heap.size w5 (w5.alloc (.cells #[.int .i64 x, .int .i64 y, .slice (some ⟨kb, 0, none⟩) 1 vc] 41)) := (Below.refl _ _).alloc (Nat.le_refl _) _
          have M6 := Blk.new' w5 41 [.int .i64 x, .int .i64 y, .slice (some ⟨kb, 0, none⟩) 1 vc]
          have x6 := cell_later b6 (cell_later b5 x2)
          obtain ⟨hM5, hW4, hl1, hfc, hlt⟩ := K4.out
          have hW6 := (hW4.later b5).later b6
          have HDb : Hid _ := hDo.out _ hW6.mine.ok
          have z5 := b5.size
          have HJ : Hid _ := And.intro hM5 (And.intro hW6 (And.intro hl1 (And.intro hfc (And.intro hlt (And.intro M6 (And.intro (ho.later b6) (And.intro hkb z5)))))))
          clear hM5 hW4 hl1 hfc hlt hW6 b6 M6 b5 K4 hDo HT x2 ho hkb hkl z5 x2'
          go_wp2_with fail
          generalize w5.alloc (.cells #[.int .i64 x, .int .i64 y, .slice (some ⟨kb, 0, none⟩) 1 vc] 41) = w6 at *
          refine (Calls.mono HDb.out) ?_
          rintro e w7 ⟨p7, rfl, st⟩
          obtain ⟨hM5, hW6, hl1, hfc, hlt, M6, ho, hkb, z5⟩ := HJ.out
          have M7 := M6.step st (fun e => by have := hlt _ (.inl e); omega)
          obtain ⟨⟨y0, y1, y2⟩, -⟩ := wblk3 M7
          have ho7 := ho.turned st.turned (fun j hj e => by cases hj; have h9 : kb < wk.heap.size := hlt kb (.inl e); omega)
          obtain ⟨va, vc', hv, hle, hmx, hrw, -, -⟩ := ho7.open
          simp only [Value.slice.injEq] at hv
          obtain ⟨rfl, -, rfl⟩ := hv
          have hby : w7.cell? ⟨kb, 0, none⟩ = some (.int .u8 (bb.toNat : Nat)) := by
            rcases hrw with h0 | ⟨b', off', hb', hcc⟩
            · simp at h0
            · cases hb'
              have := hcc 0 (by simp)
              simpa [bt] using this
          have hW7 := hW6.step st
          obtain ⟨z1, z2⟩ := hW7.at2 bb.toNat (by rw [hl1]; omega)
          have hfb := hfc _ (getD_mem8 (k := bb.toNat) (by rw [hl1]; omega))
          have F : Hid _ := And.intro hM5 (hW7.set2 bb.toNat (tw.getD bb.toNat 0 + 1))
          have hz : Hid ((((tw.getD bb.toNat 0 + 1 : Nat)) : Int) = ((tw.getD bb.toNat 0 : Nat) : Int) + 1) := by show _ = _; omega
          rw [hz.out] at F
          have p1 : ((tw.getD bb.toNat 0 : Nat) : Int) ≤ 1000 ∧ 0 ≤ ((tw.getD bb.toNat 0 : Nat) : Int) := by omega
          generalize ((tw.getD bb.toNat 0 : Nat) : Int) = Z at *
          obtain ⟨p11, p12⟩ := p1
          have hd : decide ((s : Int) ≤ ((bb.toNat : Nat) : Int)) = false := decide_eq_false (by omega)
          have q5 : ((bb.toNat : Nat) : Int) < 200 := by omega
          clear hM5 hW6 hl1 hfc hlt hW7 hfb HJ HDb st M6 M7 ho ho7 hrw hz hkb hle hmx z5 x6
          generalize bb.toNat = t at *
          go_wp2
          go_roundw
          case rel => exact ⟨s, i + 1, p7, _, _, _, by omega, rfl, by go_num, F.out.1, F.out.2⟩
          case measure => simp [intOf]; omega
        · have hT := woLook_no g p m N wk hW.mine.ok hM.wf HNb.out hN
          have HT : Hid _ := hT
          have hDo : Hid _ := fun (W : World) (hW : (wo g p m).Ok W) => woDouble_no g p m N W hW hM.wf HNb.out hN
          have K4 : Hid _ := And.intro (hM.on t2) hW
          clear hT hN hM hW K3
          go_wp2_with fail
          refine (Calls.mono HT.out) ?_
          rintro e w5 ⟨rfl, b5⟩
          have b6 : Below w5.heap.size w5 (w5.alloc (.cells #[.int .i64 0, .int .i64 0, .slice none 0 0] 41)) := (Below.refl _ _).alloc (Nat.le_refl _) _
          have x6 := cell_later b6 (cell_later b5 x2)
          have hW6 := (K4.out.2.later b5).later b6
          have HDb : Hid _ := hDo.out _ hW6.mine.ok
          have F : Hid _ := And.intro K4.out.1 hW6
          clear b5 b6 hW6 K4 HT hDo x2
          go_wp2_with (go_at_call 20; refine (Calls.mono HDb.out) ?_; rintro e _ ⟨rfl, rfl⟩)
          go_roundw
          case rel => exact ⟨s, i + 1, p, _, _, _, by omega, rfl, by go_num, F.out.1, F.out.2⟩
          case measure => simp [intOf]; omega
      by_cases k7 : K = 7
      · subst k7
        go_upto_region 35 with fail
        generalize hwk : wr.alloc (.cells #[.int .i64 7, .int .i64 F, .int .i64 N, .slice xa xl xc] 34) = wk at *
        clear hwk x0 x1 e0 e1 e2 e3 HD HL
        obtain ⟨hM, hW⟩ := K3.out
        generalize wr.heap.size = ob at *
        have HT : Hid _ := woCut_any g p m N wk hW.mine.ok hM.wf HDn.out
        have K4 : Hid _ := And.intro (hM.cut t2 N) hW
        clear hM hW K3
        go_wp2_with fail
        refine (Calls.mono HT.out) ?_
        rintro e w5 ⟨rfl, st⟩
        have F : Hid _ := And.intro K4.out.1 (K4.out.2.step st)
        clear st K4 HT x2
        go_wp2
        go_roundw
        case rel => exact ⟨s, i + 1, p, _, _, _, by omega, rfl, by go_num, F.out.1, F.out.2⟩
        case measure => simp [intOf]; omega
      have u0 : (K == 0) = false := by simpa using k0
      have u1 : (K == 1) = false := by simpa using k1
      have u2 : (K == 2) = false := by simpa using k2
      have u3 : (K == 3) = false := by simpa using k3
      have u4 : (K == 4) = false := by simpa using k4
      have u5 : (K == 5) = false := by simpa using k5
      have u6 : (K == 6) = false := by simpa using k6
      have u7 : (K == 7) = false := by simpa using k7
      have F : Hid _ := And.intro (K3.out.1.on t2) K3.out.2
      clear K3 HL HD
      go_wp2
      go_roundw
      case rel => exact ⟨s, i + 1, p, _, _, _, by omega, rfl, by go_num, F.out.1, F.out.2⟩
      case measure => simp [intOf]; omega
    · have hdec : decide (i < len ∧ i < 150) = false := decide_eq_false hlt'
      rw [hdec]
      clear hdec HO
      go_wp2_with fail
      go_loopw [16] (fun jv wx => ∃ j : Nat, j ≤ s ∧ jv = .int .i64 j ∧ OW w wx g p m q1 q2 cm tw) (fun jv _ => s - (intOf jv).toNat)
      case atStart => exact ⟨0, by omega, rfl, K2.out.2⟩
      case round =>
        obtain ⟨j, hj, rfl, hW⟩ := hrel
        have K3 : Hid _ := hW
        by_cases hjs : j < s
        · have q2' : (j : Int) < (s : Int) := by omega
          have hM := K2.out.1
          obtain ⟨y1, -⟩ := hW.at1 j (by rw [hM.l1]; omega)
          obtain ⟨y2, -⟩ := hW.at2 j (by rw [hM.l2]; omega)
          have hcn := hM.cnt j
          rw [if_pos hjs] at hcn
          have f1 := hM.fc _ (getD_mem8 (k := j) (by rw [hM.l1]; omega))
          have f2 := hM.fw _ (getD_mem8 (k := j) (by rw [hM.l2]; omega))
          have p1 : ((cm.getD j 0 : Nat) : Int) ≤ 1 + ((tw.getD j 0 : Nat) : Int) := by omega
          have p2 : (0 : Int) ≤ ((tw.getD j 0 : Nat) : Int) ∧ ((tw.getD j 0 : Nat) : Int) ≤ 1000 := by omega
          have p3 : (j : Int) < 200 := by omega
          clear hcn f1 f2 hM hW K2
          generalize ((cm.getD j 0 : Nat) : Int) = A at *
          generalize ((tw.getD j 0 : Nat) : Int) = B at *
          obtain ⟨p21, p22⟩ := p2
          have hd : decide (1 + B < A) = false := decide_eq_false (by omega)
          go_wp2_with fail
          go_quiet (fail)
          go_wp2
          go_roundw
          case rel => exact ⟨j + 1, by omega, by go_num, K3.out.later (below_drewN _ _ _)⟩
          case measure => simp [intOf]; omega
        · obtain rfl : j = s := by omega
          have HB : Hid _ := hW.mine.below
          clear hW K3 K2
          go_wp2_with (go_at_call 11; refine (known8_any _).mono ?_; rintro e w3 ⟨rfl, b3⟩)
          go_ret
          exact ⟨rfl, below_then HB.out b3⟩
end Go.Proofs.Ytjfodmdijajfbaa
