/- The walk of ResvHolds. -/
import Derived.Test.YtjokohjdpickoaaXRv23
import Derived.Test.YtjokohjdpickoaaXRvB
import Derived.Test.YtjokohjdpickoaaXDraw
import Derived.Deep.CutRange
namespace Go.Proofs.Ytjokohjdpickoaa
open Go.RowKit Go.Shelf
set_option linter.unusedVariables false
set_option linter.unusedSimpArgs false
set_option maxRecDepth 4000

def anK (m : Rs) (j : Nat) : Bool := (List.range j).any (fun n => kAt m n != 0)
theorem anK_succ (m : Rs) (j : Nat) : anK m (j + 1) = (anK m j || (kAt m j != 0)) := by unfold anK; rw [List.range_succ, List.any_append]; simp
theorem anK_all {m : Rs} (hm : m.Wf) (h : HI m) (hk : m.k ≠ 0) : anK m 16 = true := by
  have ex : ∃ n, n < 16 ∧ kAt m n ≠ 0 := by
    rcases h.res with h0 | ⟨ht, h1 | h1⟩
    · exact absurd h0 hk
    · exact ⟨m.h.toNat, by have := hm.hh; omega, h1.2⟩
    · exact h1.2
  obtain ⟨n, hn, hx⟩ := ex
  unfold anK
  rw [List.any_eq_true]
  exact ⟨n, List.mem_range.2 hn, bne_iff_ne.2 hx⟩
theorem key_at {m : Rs} {j : Nat} (h : j < 16) : keyM m (j : Int) = kAt m j := by unfold keyM; rw [nxB_nat h, Int.toNat_natCast]; rfl
set_option maxHeartbeats 16000000 in
theorem resvHolds_walk (a : Option Addr) (len cap : Nat) (w : World) (A : Act13Arg w a len cap) :
    Calls Try.prog 4 #[.slice a len cap] w fun e w' => e = .returned (.bool true) ∧ Below w.heap.size w w' := by
  have HA : Hid _ := A
  have hlen : (len : Int) ≤ 140737488355328 := by have := A.few; omega
  clear A
  have HN : Hid _ := rnew_any w
  go_enter Try.func4, Try.ntmps4
  go_wp2_with fail
  refine (Calls.mono HN.out) ?_
  rintro e w2 ⟨rfl, ok1, b1⟩
  have Z1 : Sep w.heap.size [rv w.heap.size rs0] w2 := (Sep.nil (w := w)).fresh b1 ok1 (fun k hk => by rcases hk with hk | hk; simp only [rv, List.mem_singleton] at hk; omega; cases hk)
  obtain ⟨g, hg⟩ : ∃ g, w.heap.size = g := ⟨_, rfl⟩
  rw [show rv w.heap.size rs0 = rv g rs0 by rw [hg]] at Z1
  have J2 : Hid _ := And.intro Z1 b1
  clear HN ok1 b1 Z1
  rw [show (⟨w.heap.size, 0, none⟩ : Addr) = ⟨g, 0, none⟩ by rw [hg]]
  clear hg
  go_wp2_with fail
  go_loopw [4] (fun iv wr => ∃ (k : Nat) (m : Rs), iv = .int .i64 k ∧ k ≤ 80 ∧ Sep w.heap.size [rv g m] wr ∧ Below w.heap.size w wr ∧ HI m) (fun iv _ => 80 - (intOf iv).toNat)
  case atStart => exact ⟨0, rs0, rfl, by omega, J2.out.1, J2.out.2, HI0⟩
  case round =>
    clear J2
    obtain ⟨k, m, rfl, hk, Z0, hB0, hF0⟩ := hrel
    have HK : Hid _ := And.intro Z0 (And.intro hB0 hF0)
    clear Z0 hB0 hF0
    have hk8 : (k : Int) ≤ 80 := by omega
    go_upto_region 5 with fail
    go_cut [21] from 14 to 132 (fun cv wx => cv = .bool (decide (k < len ∧ k < 80)) ∧ wx = wr)
    case first =>
      by_cases t1 : (k : Int) < (len : Int)
      · by_cases t2 : (k : Int) < 80
        · go_wp2
          go_meet
          exact ⟨congrArg Value.bool (decide_eq_true (p := k < len ∧ k < 80) (by omega)).symm, rfl⟩
        · go_wp2
          go_meet
          exact ⟨congrArg Value.bool (decide_eq_false (p := k < len ∧ k < 80) (by omega)).symm, rfl⟩
      · go_wp2
        go_meet
        exact ⟨congrArg Value.bool (decide_eq_false (p := k < len ∧ k < 80) (by omega)).symm, rfl⟩
    case rest =>
    obtain ⟨rfl, hwc⟩ := hcut
    obtain rfl := hwc.symm
    clear hwc
    by_cases hlt : k < len ∧ k < 80
    · rw [decide_eq_true hlt]
      obtain ⟨ab, ao, rfl, hcells⟩ := HA.out.each (by omega)
      obtain ⟨z0, z1, z2, z3, z4, q0, q1, q2, q3, q4, -, -, -⟩ := hcells k hlt.1
      have HC : Hid (∀ W, Below wr.heap.size wr W → W.cell? ⟨ab, ao + k * 5, none⟩ = some (.int .i64 z0) ∧ W.cell? ⟨ab, ao + k * 5 + 1, none⟩ = some (.int .i64 z1) ∧ W.cell? ⟨ab, ao + k * 5 + 2, none⟩ = some (.int .u64 (z2.toNat : Int)) ∧ W.cell? ⟨ab, ao + k * 5 + 3, none⟩ = some (.int .u64 (z3.toNat : Int)) ∧ W.cell? ⟨ab, ao + k * 5 + 4, none⟩ = some (.int .i64 z4)) := fun W b => by
        have bw := below_then HK.out.2.1 b
        exact ⟨cell_later8 q0 bw, cell_later8 q1 bw, cell_later8 q2 bw, cell_later8 q3 bw, cell_later8 q4 bw⟩
      have HDo : Hid (∀ W, Below wr.heap.size wr W → Calls Try.prog 9 #[.pointer (some ⟨g, 0, none⟩), .int .i64 z0, .agg #[.int .i64 z1, .int .u64 (z2.toNat : Int), .int .u64 (z3.toNat : Int), .int .i64 z4]] W (Does W g (doM m z0 ⟨z1, z2.toNat, z3.toNat, z4⟩))) := fun W b => doN_any g m z0 ⟨z1, z2.toNat, z3.toNat, z4⟩ W (HK.out.1.later b).head ⟨by show (0 : Int) ≤ (z3.toNat : Int); omega, by show (z3.toNat : Int) < 18446744073709551616; have := z3.isLt; omega⟩
      have hq : (k : Int) < (len : Int) := by omega
      clear hcells q0 q1 q2 q3 q4
      go_upto_region 7 with fail
      refine e_begin (S := fun W => Below wr.heap.size wr W) 12 (by kernel_rfl) ((Below.refl _ _).drew) (fun hS => ?_)
      refine e_take (i := 0) (v := ?_) [12] rfl (by kernel_rfl) (by kernel_rfl) (by kernel_rfl) (by kernel_rfl) (by exact fun _ _ _ h => h) (by rfl) ?_ hS ?_
      rotate_left
      · ((intro w hSw; obtain ⟨q0, q1, q2, q3, q4⟩ := HC.out _ hSw; go_simp) <;> with_reducible rfl)
      (try simp only [Act.put, List.setIfInBounds_toArray, List.set_cons_zero, List.set_cons_succ])
      refine e_take (i := 1) (v := ?_) [3, 4, 5, 12] rfl (by kernel_rfl) (by kernel_rfl) (by kernel_rfl) (by kernel_rfl) (by exact fun _ _ _ h => h) (by rfl) ?_ hS ?_
      rotate_left
      · ((intro w hSw; obtain ⟨q0, q1, q2, q3, q4⟩ := HC.out _ hSw; go_simp) <;> with_reducible rfl)
      (try simp only [Act.put, List.setIfInBounds_toArray, List.set_cons_zero, List.set_cons_succ])
      refine e_take (i := 2) (v := ?_) [3, 4, 5, 12] rfl (by kernel_rfl) (by kernel_rfl) (by kernel_rfl) (by kernel_rfl) (by exact fun _ _ _ h => h) (by rfl) ?_ hS ?_
      rotate_left
      · ((intro w hSw; obtain ⟨q0, q1, q2, q3, q4⟩ := HC.out _ hSw; go_simp) <;> with_reducible rfl)
      (try simp only [Act.put, List.setIfInBounds_toArray, List.set_cons_zero, List.set_cons_succ])
      refine e_take (i := 3) (v := ?_) [4, 5, 12] rfl (by kernel_rfl) (by kernel_rfl) (by kernel_rfl) (by kernel_rfl) (by exact fun _ _ _ h => h) (by rfl) ?_ hS ?_
      rotate_left
      · ((intro w hSw; obtain ⟨q0, q1, q2, q3, q4⟩ := HC.out _ hSw; go_simp) <;> with_reducible rfl)
      (try simp only [Act.put, List.setIfInBounds_toArray, List.set_cons_zero, List.set_cons_succ])
      refine e_take (i := 4) (v := ?_) [5, 12] rfl (by kernel_rfl) (by kernel_rfl) (by kernel_rfl) (by kernel_rfl) (by exact fun _ _ _ h => h) (by rfl) ?_ hS ?_
      rotate_left
      · ((intro w hSw; obtain ⟨q0, q1, q2, q3, q4⟩ := HC.out _ hSw; go_simp) <;> with_reducible rfl)
      (try simp only [Act.put, List.setIfInBounds_toArray, List.set_cons_zero, List.set_cons_succ])
      refine e_take (i := 5) (v := ?_) [12] rfl (by kernel_rfl) (by kernel_rfl) (by kernel_rfl) (by kernel_rfl) (by exact fun _ _ _ h => h) (by rfl) ?_ hS ?_
      rotate_left
      · ((intro w hSw; obtain ⟨q0, q1, q2, q3, q4⟩ := HC.out _ hSw; go_simp) <;> with_reducible rfl)
      (try simp only [Act.put, List.setIfInBounds_toArray, List.set_cons_zero, List.set_cons_succ])
      refine e_take (i := 6) (v := ?_) [8, 9, 10, 11, 12] rfl (by kernel_rfl) (by kernel_rfl) (by kernel_rfl) (by kernel_rfl) (by exact fun _ _ _ h => h) (by rfl) ?_ hS ?_
      rotate_left
      · ((intro w hSw; obtain ⟨q0, q1, q2, q3, q4⟩ := HC.out _ hSw; go_simp) <;> with_reducible rfl)
      (try simp only [Act.put, List.setIfInBounds_toArray, List.set_cons_zero, List.set_cons_succ])
      refine e_take (i := 7) (v := ?_) [8, 9, 10, 11, 12] rfl (by kernel_rfl) (by kernel_rfl) (by kernel_rfl) (by kernel_rfl) (by exact fun _ _ _ h => h) (by rfl) ?_ hS ?_
      rotate_left
      · ((intro w hSw; obtain ⟨q0, q1, q2, q3, q4⟩ := HC.out _ hSw; go_simp) <;> with_reducible rfl)
      (try simp only [Act.put, List.setIfInBounds_toArray, List.set_cons_zero, List.set_cons_succ])
      refine e_take (i := 8) (v := ?_) [9, 10, 11, 12] rfl (by kernel_rfl) (by kernel_rfl) (by kernel_rfl) (by kernel_rfl) (by exact fun _ _ _ h => h) (by rfl) ?_ hS ?_
      rotate_left
      · ((intro w hSw; obtain ⟨q0, q1, q2, q3, q4⟩ := HC.out _ hSw; go_simp) <;> with_reducible rfl)
      (try simp only [Act.put, List.setIfInBounds_toArray, List.set_cons_zero, List.set_cons_succ])
      refine e_take (i := 9) (v := ?_) [10, 11, 12] rfl (by kernel_rfl) (by kernel_rfl) (by kernel_rfl) (by kernel_rfl) (by exact fun _ _ _ h => h) (by rfl) ?_ hS ?_
      rotate_left
      · ((intro w hSw; obtain ⟨q0, q1, q2, q3, q4⟩ := HC.out _ hSw; go_simp) <;> with_reducible rfl)
      (try simp only [Act.put, List.setIfInBounds_toArray, List.set_cons_zero, List.set_cons_succ])
      refine e_take (i := 10) (v := ?_) [11, 12] rfl (by kernel_rfl) (by kernel_rfl) (by kernel_rfl) (by kernel_rfl) (by exact fun _ _ _ h => h) (by rfl) ?_ hS ?_
      rotate_left
      · ((intro w hSw; obtain ⟨q0, q1, q2, q3, q4⟩ := HC.out _ hSw; go_simp) <;> with_reducible rfl)
      (try simp only [Act.put, List.setIfInBounds_toArray, List.set_cons_zero, List.set_cons_succ])
      refine e_one (i := 11) rfl (by kernel_rfl) (fun K hK => ?_)
      go_simp
      refine (Calls.mono (given_any ⟨z1, z2.toNat, z3.toNat, z4⟩ _)) ?_
      rintro e x1 ⟨rfl, b1⟩
      have S1 := below_then hS b1
      clear b1
      go_wp2_with fail
      refine hK.out _ _ (S1) (fun hS => ?_)
      clear hK K
      clear hS
      refine e_last (z := 12) rfl (by kernel_rfl) (fun K hK => ?_)
      go_simp
      refine (Calls.mono (HDo.out _ S1)) ?_
      rintro e w5 ⟨v5, rfl, -, t5⟩
      have Z5 := (HK.out.1.later S1).step (t5.fin (m := m))
      have B5 := (below_then HK.out.2.1 S1).trans ((HK.out.1.later S1).below (t5.fin (m := m)))
      have H5 : Hid _ := And.intro Z5 B5
      clear Z5 B5 t5 S1 HDo
      go_wp2_with fail
      refine hK.out _ _ ?_
      clear hK K
      refine e_done (by kernel_rfl) ?_ _
      have HH0 : Hid _ := do_HI m HK.out.1.head.holds.2 HK.out.2.2 z0 ⟨z1, z2.toNat, z3.toNat, z4⟩
      clear HC HK
      generalize (doM m z0 ⟨z1, z2.toNat, z3.toNat, z4⟩).2.1 = m' at *
      have HHo : Hid _ := holder_any g m' w5 H5.out.1.head
      have hWf := H5.out.1.head.holds.2
      have HWf : Hid _ := hWf
      by_cases hk0 : m'.k = 0
      · rw [show holM m' = (-1, 0) by unfold holM; rw [if_pos hk0]] at HHo
        go_wp2_with fail
        refine (Calls.mono HHo.out) ?_
        rintro e w6 ⟨rfl, b6⟩
        have H6 : Hid _ := And.intro (H5.out.1.later b6) (below_then H5.out.2 b6)
        clear HHo H5 b6 hWf
        go_wp2_with fail
        go_loopw [7, 8] (fun av iv wr => ∃ (j : Nat) (b : Bool), j ≤ 16 ∧ iv = .int .i64 j ∧ av = .bool b ∧ Sep w.heap.size [rv g m'] wr ∧ Below w.heap.size w wr) (fun _ iv _ => 16 - (intOf iv).toNat)
        case atStart => exact ⟨0, false, by omega, rfl, rfl, H6.out.1, H6.out.2⟩
        case round =>
          clear H6
          obtain ⟨j, b, hj, rfl, rfl, Z, hB2⟩ := hrel
          by_cases hlt2 : j < 16
          · have q : (j : Int) < 16 := by omega
            have HKy : Hid _ := keyM_any g m' (j : Int) wr Z.head
            have R : Hid _ := And.intro Z hB2
            clear Z hB2
            generalize keyM m' (j : Int) = x at *
            cases b with
            | true =>
              go_wp2
              go_roundw
              case rel => exact ⟨j + 1, true, by omega, by go_num, rfl, R.out.1, R.out.2⟩
              case measure => simp [intOf]; omega
            | false =>
              go_wp2_with fail
              refine (Calls.mono HKy.out) ?_
              rintro e _ ⟨rfl, rfl⟩
              go_wp2
              go_roundw
              case rel => exact ⟨j + 1, _, by omega, by go_num, rfl, R.out.1, R.out.2⟩
              case measure => simp [intOf]; omega
          · obtain rfl : j = 16 := by omega
            have R : Hid _ := And.intro HH0.out (And.intro Z hB2)
            clear Z hB2
            go_wp2
            go_roundw
            case rel => exact ⟨k + 1, m', by go_num, by omega, R.out.2.1, R.out.2.2, R.out.1⟩
            case measure => simp [intOf]; omega
      · rw [show holM m' = (m'.h, m'.k) by unfold holM; rw [if_neg hk0]] at HHo
        obtain ⟨kk, hkk⟩ : ∃ kk, m'.k = kk := ⟨_, rfl⟩
        obtain ⟨hh, hhh⟩ : ∃ hh, m'.h = hh := ⟨_, rfl⟩
        have hb1 := hWf.hh
        have hb2 := hWf.kk
        rw [hkk, hhh] at HHo
        rw [hhh] at hb1
        rw [hkk] at hb2 hk0
        have HKK : Hid _ := And.intro hkk hhh
        have d0 : (kk == 0) = false := by rw [beq_eq_false_iff_ne]; exact hk0
        have dm : (hh == -1) = false := by rw [beq_eq_false_iff_ne]; omega
        have dl : decide (hh < -1) = false := decide_eq_false (by omega)
        have dg : decide (hh ≥ 16) = false := decide_eq_false (by omega)
        clear hkk hhh hWf
        go_wp2_with fail
        refine (Calls.mono HHo.out) ?_
        rintro e w6 ⟨rfl, b6⟩
        have H6 : Hid _ := And.intro (H5.out.1.later b6) (below_then H5.out.2 b6)
        clear HHo H5 b6
        go_wp2_with fail
        clear dm dl dg
        go_loopw [7, 8] (fun av iv wr => ∃ (j : Nat), j ≤ 16 ∧ iv = .int .i64 j ∧ av = .bool (anK m' j) ∧ Sep w.heap.size [rv g m'] wr ∧ Below w.heap.size w wr) (fun _ iv _ => 16 - (intOf iv).toNat)
        case atStart => exact ⟨0, by omega, rfl, rfl, H6.out.1, H6.out.2⟩
        case round =>
          clear H6
          obtain ⟨j, hj, rfl, rfl, Z, hB2⟩ := hrel
          by_cases hlt2 : j < 16
          · have q : (j : Int) < 16 := by omega
            have HKy : Hid _ := keyM_any g m' (j : Int) wr Z.head
            have HM1 : Hid _ := may_any g m' (j : Int) 1 wr Z.head
            have HM2 : Hid _ := may_any g m' (j : Int) 2 wr Z.head
            have HFe : Hid _ := fenM_any g m' (j : Int) wr Z.head
            have hsc := anK_succ m' j
            rw [← key_at hlt2] at hsc
            have hr1 := may_rw m' (j : Int)
            have hr2 := may_ex m' (j : Int)
            have hr3 : (j : Int) = hh → kk < 7 → mayM m' (j : Int) 1 = true ∧ mayM m' (j : Int) 2 = true ∧ keyM m' (j : Int) ≠ 0 := fun e h7 => by
              have := may_ho m' HWf.out HH0.out (by rw [HKK.out.1]; exact hk0) (by rw [HKK.out.1]; exact h7)
              rw [HKK.out.2, ← e] at this
              exact this
            rw [HKK.out.1] at hr2
            have HR : Hid _ := And.intro hr1 (And.intro hr2 hr3)
            have RZ : Hid _ := And.intro Z hB2
            clear Z hB2 hr1 hr2 hr3
            generalize keyM m' (j : Int) = x at *
            generalize mayM m' (j : Int) 1 = rd at *
            generalize mayM m' (j : Int) 2 = wt at *
            generalize fenM m' (j : Int) = fe at *
            obtain ⟨an1, han1⟩ : ∃ an1, anK m' (j + 1) = an1 := ⟨_, rfl⟩
            rw [han1] at hsc
            have HAN : Hid _ := han1
            clear han1
            generalize anK m' j = an0 at *
            go_upto_region 15 with fail
            go_cut [7] from 59 to 126 (fun av wx => av = .bool an1 ∧ wx = wr)
            case first =>
              cases an0 with
              | true =>
                clear HR
                go_wp2
                go_meet
                exact ⟨by rw [hsc]; rfl, rfl⟩
              | false =>
                go_wp2_with fail
                refine (Calls.mono HKy.out) ?_
                rintro e _ ⟨rfl, rfl⟩
                go_wp2
                go_meet
                exact ⟨by rw [hsc]; rfl, rfl⟩
            case rest =>
            obtain ⟨rfl, hwc⟩ := hcut
            obtain rfl := hwc.symm
            clear hwc hsc
            go_wp2_with fail
            refine (Calls.mono HM1.out) ?_
            rintro e _ ⟨rfl, rfl⟩
            go_wp2_with fail
            refine (Calls.mono HM2.out) ?_
            rintro e _ ⟨rfl, rfl⟩
            clear HM1 HM2
            go_upto_region 19 with fail
            go_cut [126] from 74 to 126 (fun cv wx => cv = .bool false ∧ wx = wr)
            case first =>
              cases rd with
              | false =>
                cases wt with
                | true => exact absurd (HR.out.1 rfl) (by simp)
                | false =>
                  by_cases k3 : kk = 3
                  · have d3 : (kk == 3) = true := by rw [beq_iff_eq]; exact k3
                    by_cases hnh : (j : Int) = hh
                    · have h7 : kk < 7 := by omega
                      have dnh : ((j : Int) == hh) = true := by rw [beq_iff_eq]; exact hnh
                      have d7 : decide (kk < 7) = true := decide_eq_true h7
                      exact absurd (HR.out.2.2 hnh h7) (by simp)
                    · have dnh : ((j : Int) == hh) = false := by rw [beq_eq_false_iff_ne]; exact hnh
                      clear HR hnh HKK HAN k3
                      go_wp2
                      go_meet
                      exact ⟨rfl, rfl⟩
                  · have d3 : (kk == 3) = false := by rw [beq_eq_false_iff_ne]; exact k3
                    by_cases k6 : kk = 6
                    · have d6 : (kk == 6) = true := by rw [beq_iff_eq]; exact k6
                      by_cases hnh : (j : Int) = hh
                      · have h7 : kk < 7 := by omega
                        have dnh : ((j : Int) == hh) = true := by rw [beq_iff_eq]; exact hnh
                        have d7 : decide (kk < 7) = true := decide_eq_true h7
                        exact absurd (HR.out.2.2 hnh h7) (by simp)
                      · have dnh : ((j : Int) == hh) = false := by rw [beq_eq_false_iff_ne]; exact hnh
                        clear HR hnh HKK HAN k6 k3
                        go_wp2
                        go_meet
                        exact ⟨rfl, rfl⟩
                    · have d6 : (kk == 6) = false := by rw [beq_eq_false_iff_ne]; exact k6
                      by_cases k8 : kk = 8
                      · have d8 : (kk == 8) = true := by rw [beq_iff_eq]; exact k8
                        by_cases hnh : (j : Int) = hh
                        · have h7 : ¬ kk < 7 := by omega
                          have dnh : ((j : Int) == hh) = true := by rw [beq_iff_eq]; exact hnh
                          have d7 : decide (kk < 7) = false := decide_eq_false h7
                          clear HR hnh HKK HAN k8 k6 k3 h7
                          go_wp2
                          go_meet
                          exact ⟨rfl, rfl⟩
                        · have dnh : ((j : Int) == hh) = false := by rw [beq_eq_false_iff_ne]; exact hnh
                          clear HR hnh HKK HAN k8 k6 k3
                          go_wp2
                          go_meet
                          exact ⟨rfl, rfl⟩
                      · have d8 : (kk == 8) = false := by rw [beq_eq_false_iff_ne]; exact k8
                        by_cases hnh : (j : Int) = hh
                        · by_cases h7 : kk < 7
                          · have dnh : ((j : Int) == hh) = true := by rw [beq_iff_eq]; exact hnh
                            have d7 : decide (kk < 7) = true := decide_eq_true h7
                            exact absurd (HR.out.2.2 hnh h7) (by simp)
                          · have dnh : ((j : Int) == hh) = true := by rw [beq_iff_eq]; exact hnh
                            have d7 : decide (kk < 7) = false := decide_eq_false h7
                            clear HR hnh HKK HAN k8 k6 k3 h7
                            go_wp2
                            go_meet
                            exact ⟨rfl, rfl⟩
                        · have dnh : ((j : Int) == hh) = false := by rw [beq_eq_false_iff_ne]; exact hnh
                          clear HR hnh HKK HAN k8 k6 k3
                          go_wp2
                          go_meet
                          exact ⟨rfl, rfl⟩
              | true =>
                cases wt with
                | false =>
                  by_cases k3 : kk = 3
                  · have d3 : (kk == 3) = true := by rw [beq_iff_eq]; exact k3
                    by_cases hnh : (j : Int) = hh
                    · have h7 : kk < 7 := by omega
                      have dnh : ((j : Int) == hh) = true := by rw [beq_iff_eq]; exact hnh
                      have d7 : decide (kk < 7) = true := decide_eq_true h7
                      exact absurd (HR.out.2.2 hnh h7) (by simp)
                    · have dnh : ((j : Int) == hh) = false := by rw [beq_eq_false_iff_ne]; exact hnh
                      have hfe := HR.out.2.1 (.inl k3) rfl rfl
                      rw [hfe] at HFe
                      clear HR hnh HKK HAN k3
                      go_wp2_with fail
                      refine (Calls.mono HFe.out) ?_
                      rintro e _ ⟨rfl, rfl⟩
                      go_wp2
                      go_meet
                      exact ⟨rfl, rfl⟩
                  · have d3 : (kk == 3) = false := by rw [beq_eq_false_iff_ne]; exact k3
                    by_cases k6 : kk = 6
                    · have d6 : (kk == 6) = true := by rw [beq_iff_eq]; exact k6
                      by_cases hnh : (j : Int) = hh
                      · have h7 : kk < 7 := by omega
                        have dnh : ((j : Int) == hh) = true := by rw [beq_iff_eq]; exact hnh
                        have d7 : decide (kk < 7) = true := decide_eq_true h7
                        exact absurd (HR.out.2.2 hnh h7) (by simp)
                      · have dnh : ((j : Int) == hh) = false := by rw [beq_eq_false_iff_ne]; exact hnh
                        have hfe := HR.out.2.1 (.inr (.inl k6)) rfl rfl
                        rw [hfe] at HFe
                        clear HR hnh HKK HAN k6 k3
                        go_wp2_with fail
                        refine (Calls.mono HFe.out) ?_
                        rintro e _ ⟨rfl, rfl⟩
                        go_wp2
                        go_meet
                        exact ⟨rfl, rfl⟩
                    · have d6 : (kk == 6) = false := by rw [beq_eq_false_iff_ne]; exact k6
                      by_cases k8 : kk = 8
                      · have d8 : (kk == 8) = true := by rw [beq_iff_eq]; exact k8
                        by_cases hnh : (j : Int) = hh
                        · have h7 : ¬ kk < 7 := by omega
                          have dnh : ((j : Int) == hh) = true := by rw [beq_iff_eq]; exact hnh
                          have d7 : decide (kk < 7) = false := decide_eq_false h7
                          have hfe := HR.out.2.1 (.inr (.inr k8)) rfl rfl
                          rw [hfe] at HFe
                          clear HR hnh HKK HAN k8 k6 k3 h7
                          go_wp2_with fail
                          refine (Calls.mono HFe.out) ?_
                          rintro e _ ⟨rfl, rfl⟩
                          go_wp2
                          go_meet
                          exact ⟨rfl, rfl⟩
                        · have dnh : ((j : Int) == hh) = false := by rw [beq_eq_false_iff_ne]; exact hnh
                          have hfe := HR.out.2.1 (.inr (.inr k8)) rfl rfl
                          rw [hfe] at HFe
                          clear HR hnh HKK HAN k8 k6 k3
                          go_wp2_with fail
                          refine (Calls.mono HFe.out) ?_
                          rintro e _ ⟨rfl, rfl⟩
                          go_wp2
                          go_meet
                          exact ⟨rfl, rfl⟩
                      · have d8 : (kk == 8) = false := by rw [beq_eq_false_iff_ne]; exact k8
                        by_cases hnh : (j : Int) = hh
                        · by_cases h7 : kk < 7
                          · have dnh : ((j : Int) == hh) = true := by rw [beq_iff_eq]; exact hnh
                            have d7 : decide (kk < 7) = true := decide_eq_true h7
                            exact absurd (HR.out.2.2 hnh h7) (by simp)
                          · have dnh : ((j : Int) == hh) = true := by rw [beq_iff_eq]; exact hnh
                            have d7 : decide (kk < 7) = false := decide_eq_false h7
                            clear HR hnh HKK HAN k8 k6 k3 h7
                            go_wp2
                            go_meet
                            exact ⟨rfl, rfl⟩
                        · have dnh : ((j : Int) == hh) = false := by rw [beq_eq_false_iff_ne]; exact hnh
                          clear HR hnh HKK HAN k8 k6 k3
                          go_wp2
                          go_meet
                          exact ⟨rfl, rfl⟩
                | true =>
                  by_cases k3 : kk = 3
                  · have d3 : (kk == 3) = true := by rw [beq_iff_eq]; exact k3
                    by_cases hnh : (j : Int) = hh
                    · have h7 : kk < 7 := by omega
                      have dnh : ((j : Int) == hh) = true := by rw [beq_iff_eq]; exact hnh
                      have d7 : decide (kk < 7) = true := decide_eq_true h7
                      have hx0 : (x == 0) = false := by rw [beq_eq_false_iff_ne]; exact (HR.out.2.2 hnh h7).2.2
                      clear HR hnh HKK HAN k3 h7
                      go_wp2_with fail
                      refine (Calls.mono HKy.out) ?_
                      rintro e _ ⟨rfl, rfl⟩
                      go_wp2
                      go_meet
                      exact ⟨rfl, rfl⟩
                    · have dnh : ((j : Int) == hh) = false := by rw [beq_eq_false_iff_ne]; exact hnh
                      clear HR hnh HKK HAN k3
                      go_wp2
                      go_meet
                      exact ⟨rfl, rfl⟩
                  · have d3 : (kk == 3) = false := by rw [beq_eq_false_iff_ne]; exact k3
                    by_cases k6 : kk = 6
                    · have d6 : (kk == 6) = true := by rw [beq_iff_eq]; exact k6
                      by_cases hnh : (j : Int) = hh
                      · have h7 : kk < 7 := by omega
                        have dnh : ((j : Int) == hh) = true := by rw [beq_iff_eq]; exact hnh
                        have d7 : decide (kk < 7) = true := decide_eq_true h7
                        have hx0 : (x == 0) = false := by rw [beq_eq_false_iff_ne]; exact (HR.out.2.2 hnh h7).2.2
                        clear HR hnh HKK HAN k6 k3 h7
                        go_wp2_with fail
                        refine (Calls.mono HKy.out) ?_
                        rintro e _ ⟨rfl, rfl⟩
                        go_wp2
                        go_meet
                        exact ⟨rfl, rfl⟩
                      · have dnh : ((j : Int) == hh) = false := by rw [beq_eq_false_iff_ne]; exact hnh
                        clear HR hnh HKK HAN k6 k3
                        go_wp2
                        go_meet
                        exact ⟨rfl, rfl⟩
                    · have d6 : (kk == 6) = false := by rw [beq_eq_false_iff_ne]; exact k6
                      by_cases k8 : kk = 8
                      · have d8 : (kk == 8) = true := by rw [beq_iff_eq]; exact k8
                        by_cases hnh : (j : Int) = hh
                        · have h7 : ¬ kk < 7 := by omega
                          have dnh : ((j : Int) == hh) = true := by rw [beq_iff_eq]; exact hnh
                          have d7 : decide (kk < 7) = false := decide_eq_false h7
                          clear HR hnh HKK HAN k8 k6 k3 h7
                          go_wp2
                          go_meet
                          exact ⟨rfl, rfl⟩
                        · have dnh : ((j : Int) == hh) = false := by rw [beq_eq_false_iff_ne]; exact hnh
                          clear HR hnh HKK HAN k8 k6 k3
                          go_wp2
                          go_meet
                          exact ⟨rfl, rfl⟩
                      · have d8 : (kk == 8) = false := by rw [beq_eq_false_iff_ne]; exact k8
                        by_cases hnh : (j : Int) = hh
                        · by_cases h7 : kk < 7
                          · have dnh : ((j : Int) == hh) = true := by rw [beq_iff_eq]; exact hnh
                            have d7 : decide (kk < 7) = true := decide_eq_true h7
                            have hx0 : (x == 0) = false := by rw [beq_eq_false_iff_ne]; exact (HR.out.2.2 hnh h7).2.2
                            clear HR hnh HKK HAN k8 k6 k3 h7
                            go_wp2_with fail
                            refine (Calls.mono HKy.out) ?_
                            rintro e _ ⟨rfl, rfl⟩
                            go_wp2
                            go_meet
                            exact ⟨rfl, rfl⟩
                          · have dnh : ((j : Int) == hh) = true := by rw [beq_iff_eq]; exact hnh
                            have d7 : decide (kk < 7) = false := decide_eq_false h7
                            clear HR hnh HKK HAN k8 k6 k3 h7
                            go_wp2
                            go_meet
                            exact ⟨rfl, rfl⟩
                        · have dnh : ((j : Int) == hh) = false := by rw [beq_eq_false_iff_ne]; exact hnh
                          clear HR hnh HKK HAN k8 k6 k3
                          go_wp2
                          go_meet
                          exact ⟨rfl, rfl⟩
            case rest =>
            obtain ⟨rfl, hwc⟩ := hcut
            obtain rfl := hwc.symm
            clear hwc HR HKy HFe
            go_wp2
            go_roundw
            case rel => exact ⟨j + 1, by omega, by go_num, by rw [HAN.out], RZ.out.1, RZ.out.2⟩
            case measure => simp [intOf]; omega
          · obtain rfl : j = 16 := by omega
            rw [anK_all HWf.out HH0.out (by rw [HKK.out.1]; exact hk0)]
            have R : Hid _ := And.intro HH0.out (And.intro Z hB2)
            clear Z hB2
            go_wp2
            go_roundw
            case rel => exact ⟨k + 1, m', by go_num, by omega, R.out.2.1, R.out.2.2, R.out.1⟩
            case measure => simp [intOf]; omega
    · rw [decide_eq_false hlt]
      have HKn : Hid _ := known13_any wr
      have F1 : Hid _ := HK.out.2.1
      clear HK
      go_wp2_with fail
      refine (Calls.mono HKn.out) ?_
      rintro e w9 ⟨rfl, b9⟩
      have F : Hid _ := below_then F1.out b9
      clear HKn F1 b9
      go_wp2
      go_ret
      exact ⟨rfl, F.out⟩
end Go.Proofs.Ytjokohjdpickoaa

