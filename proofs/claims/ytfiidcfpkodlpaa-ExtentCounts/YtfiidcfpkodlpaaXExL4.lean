/- extent: runs are all blocks that are there. -/
import Derived.Test.YtfiidcfpkodlpaaXEr7
import Derived.Test.YtfiidcfpkodlpaaXErG
import Derived.Test.YtfiidcfpkodlpaaXSumC
namespace Go.Proofs.Ytfiidcfpkodlpaa
open Go.RowKit
set_option linter.unusedVariables false
set_option linter.unusedSimpArgs false
set_option maxRecDepth 8000

set_option maxHeartbeats 16000000 in
theorem extentCounts_walk (x0 : Int) (a1 : Option Addr) (len1 c1 : Nat) (l1 : List Op5) (w : World) (hx : -9223372036854775808 ≤ x0 ∧ x0 ≤ 9223372036854775807)
    (A1 : l1.length = len1 ∧ len1 ≤ 140737488355328 ∧ OArgs w a1 l1) :
    Calls Try.prog 3 #[.int .i64 x0, .slice a1 len1 c1] w fun e w' => e = .returned (.bool true) ∧ Below w.heap.size w w' := by
  obtain ⟨rfl, e2, e3⟩ := A1
  have HK : Hid _ := And.intro (ct_any x0 256 w hx (by omega) (by omega)) (And.intro e2 e3)
  clear e2 e3 hx
  go_enter Try.func3, Try.ntmps3
  go_wp2_with fail
  refine (Calls.mono HK.out.1) ?_
  rintro e w1 ⟨k, rfl, hk, rfl⟩
  have hP := played_any (k + 1) ⟨by omega, by omega⟩ a1 l1.length c1 l1 w rfl HK.out.2.1 HK.out.2.2
  rw [show ((k + 1 : Nat) : Int) = 1 + (k : Int) by omega] at hP
  have HP : Hid _ := And.intro hP (plM_wf (n := k + 1) ⟨by omega, by omega⟩ (l1.take 40))
  clear hP HK
  have hk0 : (0 : Int) ≤ (k : Int) := by omega
  have hk1 : (k : Int) < 256 := by omega
  clear hk
  generalize plM (k + 1) (l1.take 40) = m at *
  go_wp2_with fail
  refine (Calls.mono HP.out.1) ?_
  rintro e w2 ⟨g, b, rfl, hS, hb⟩
  have H1 : Hid _ := And.intro hS.head (And.intro hb HP.out.2)
  clear hS hb HP hk0 hk1
  go_wp2_with fail
  refine (Calls.mono (lawruns_any g b m w2 H1.out.1 H1.out.2.2)) ?_
  rintro e w3 ⟨v, rfl, T, hT, hO, hb⟩
  obtain ⟨a3, c3, rfl, hc3, hat⟩ := ns_at hO hT
  have HA : Hid _ := hat
  have HL : Hid _ := rn_at H1.out.2.2
  have HU : Hid _ := cntR_all m
  have hll : (rnN m m.n).length ≤ 256 := Nat.le_trans (rn_len m m.n) H1.out.2.2.most
  have H3 : Hid _ := And.intro (H1.out.1.later hb) (And.intro (below_then H1.out.2.1 hb) H1.out.2.2)
  clear hat hO hT hb H1
  generalize rnN m m.n = l at *
  go_wp2_with fail
  go_loopw [7, 8, 9] (fun nv lv iv wr => ∃ i : Nat, i ≤ l.length ∧ iv = .int .i64 i ∧ nv = .int .i64 (cntR l i : Int) ∧ lv = .int .i64 (lastR l i) ∧ Below w3.heap.size w3 wr) (fun _ _ iv _ => l.length - (intOf iv).toNat)
  case atStart => exact ⟨0, Nat.zero_le _, rfl, rfl, rfl, Below.refl _ _⟩
  case round =>
    obtain ⟨i, hi, rfl, rfl, rfl, hB⟩ := hrel
    have F0 : Hid _ := hB
    clear hB
    by_cases hlt : i < l.length
    · have q1 : (i : Int) < (l.length : Int) := by omega
      obtain ⟨q, k0, rfl, c0, c1, c2⟩ := HA.out i hlt
      have c0 := cell_later F0.out c0
      have c1 := cell_later F0.out c1
      have c2 := cell_later F0.out c2
      have HQ : Hid _ := HL.out i hlt
      have hcs := cntR_step l i hlt
      have hls := lastR_step l i hlt
      generalize l[i] = r at *
      obtain ⟨rf, rc⟩ := r
      simp only at c0 c1 c2 hcs hls
      have hcb : cntR l i + rc ≤ 256 := by have := cntR_le l (i + 1); rw [HU.out] at this; have := m.used_le; have := H3.out.2.2.most; omega
      have HC2 : Hid _ := And.intro hcs hls
      clear hcs hls
      have q2 : ¬ ((rc : Int) < 1) := by have := HQ.out.1; simp only at this; omega
      have q3 : ¬ ((rf : Int) ≤ lastR l i) := by have := HQ.out.2.2.1; simp only at this; omega
      have q4 : rf + rc ≤ 256 := HQ.out.2.1
      generalize hla : lastR l i = la at *
      have HLa : Hid _ := hla
      clear hla
      generalize hcn : cntR l i = cn at *
      have HCn : Hid _ := hcn
      clear hcn
      go_wp2_with fail
      go_loopw [7, 10] (fun nv kv wx => ∃ j : Nat, j ≤ rc ∧ kv = .int .i64 ((rf + j : Nat) : Int) ∧ nv = .int .i64 ((cn + j : Nat) : Int) ∧ Below wr.heap.size wr wx) (fun _ kv _ => rf + rc - (intOf kv).toNat)
      case atStart => exact ⟨0, Nat.zero_le _, rfl, rfl, Below.refl _ _⟩
      case round =>
        obtain ⟨j, hj, rfl, rfl, hbx⟩ := hrel
        have d0 := cell_later hbx c0
        have d1 := cell_later hbx c1
        have d2 := cell_later hbx c2
        by_cases hjl : j < rc
        · have hh := HQ.out.2.2.2.1 (rf + j) (by omega) (by omega)
          rw [show ((rf + j : Nat) : Int) = (rf : Int) + (j : Int) by omega] at hh
          have HB : Hid _ := hbx
          have HH : Hid _ := hh
          clear hbx c0 c1 c2 hh
          have hjn : j + 1 ≤ rc := hjl
          go_wp2_with fail
          go_quiet (fail)
          go_wp2_with fail
          refine (Calls.mono (imHas_any g b m _ _ (H3.out.1.later (below_then (below_then F0.out HB.out) (below_drewN _ _ _))) H3.out.2.2 (by unfold I64; omega))) ?_
          rintro e w5 ⟨rfl, hb5⟩
          rw [HH.out]
          have F : Hid _ := below_then (below_then HB.out (below_drewN _ _ _)) hb5
          clear hb5 HB d0 d1 d2
          go_wp2
          go_roundw
          case rel => exact ⟨j + 1, by omega, by go_num, by go_num, F.out⟩
          case measure => simp [intOf]; omega
        · obtain rfl : j = rc := by omega
          have hh := HQ.out.2.2.2.2
          rw [show ((rf + j : Nat) : Int) = (rf : Int) + (j : Int) by omega] at hh
          have HB : Hid _ := hbx
          have HH : Hid _ := hh
          clear hbx c0 c1 c2 hh
          go_wp2_with fail
          go_quiet (fail)
          go_wp2_with fail
          go_quiet (fail)
          go_wp2_with fail
          refine (Calls.mono (imHas_any g b m _ _ (H3.out.1.later (below_then (below_then F0.out HB.out) (below_drewN _ _ _))) H3.out.2.2 (by unfold I64; omega))) ?_
          rintro e w5 ⟨rfl, hb5⟩
          rw [HH.out]
          have F : Hid _ := below_then (below_then (below_then F0.out HB.out) (below_drewN _ _ _)) hb5
          clear hb5 HB d0 d1 d2
          go_wp2
          go_roundw
          case rel => exact ⟨i + 1, by omega, by go_num, by rw [HC2.out.1]; go_num, by rw [HC2.out.2]; go_num, F.out⟩
          case measure => simp [intOf]; omega
    · obtain rfl : i = l.length := by omega
      have q1 : ¬ ((l.length : Int) < (l.length : Int)) := by omega
      rw [HU.out]
      have F1 : Hid _ := F0.out
      clear F0 HA HL
      have hmn := H3.out.2.2.most
      have hmu := m.used_le
      go_wp2_with fail
      go_loopw [11, 12] (fun av yv wx => ∃ y : Nat, y ≤ m.n ∧ yv = .int .i64 y ∧ av = .int .i64 (cntH m y : Int) ∧ Below wr.heap.size wr wx) (fun _ yv _ => m.n - (intOf yv).toNat)
      case atStart => exact ⟨0, Nat.zero_le _, rfl, rfl, Below.refl _ _⟩
      case round =>
        obtain ⟨y, hy, rfl, rfl, hbx⟩ := hrel
        have HB : Hid _ := hbx
        clear hbx
        have hyI : (y : Int) ≤ 256 := by omega
        go_wp2_with fail
        refine (Calls.mono (imSize_any g b m _ (H3.out.1.later (below_then F1.out HB.out)))) ?_
        rintro e _ ⟨rfl, rfl⟩
        by_cases hyl : y < m.n
        · have hyn : (y : Int) < (m.n : Int) := by omega
          have hcl := cntH_le m y
          have hcI : (cntH m y : Int) ≤ 256 := by omega
          have hs := cntH_step m y
          generalize hcc : cntH m y = cc at *
          cases hh : m.has (y : Int)
          · have HH : Hid _ := hh
            have HS : Hid _ := (show cntH m (y + 1) = cc + 0 by rw [hs, hh]; rfl)
            clear hs hh hcc
            go_wp2_with fail
            refine (Calls.mono (imHas_any g b m _ _ (H3.out.1.later (below_then F1.out HB.out)) H3.out.2.2 (by unfold I64; omega))) ?_
            rintro e w5 ⟨rfl, hb5⟩
            rw [HH.out]
            have F : Hid _ := below_then HB.out hb5
            clear hb5 HB
            go_wp2
            go_roundw
            case rel => exact ⟨y + 1, by omega, by go_num, by rw [HS.out]; go_num, F.out⟩
            case measure => simp [intOf]; omega
          · have HH : Hid _ := hh
            have HS : Hid _ := (show cntH m (y + 1) = cc + 1 by rw [hs, hh]; rfl)
            clear hs hh hcc
            go_wp2_with fail
            refine (Calls.mono (imHas_any g b m _ _ (H3.out.1.later (below_then F1.out HB.out)) H3.out.2.2 (by unfold I64; omega))) ?_
            rintro e w5 ⟨rfl, hb5⟩
            rw [HH.out]
            have F : Hid _ := below_then HB.out hb5
            clear hb5 HB
            go_wp2
            go_roundw
            case rel => exact ⟨y + 1, by omega, by go_num, by rw [HS.out]; go_num, F.out⟩
            case measure => simp [intOf]; omega
        · obtain rfl : y = m.n := by omega
          have hyn : ¬ ((m.n : Int) < (m.n : Int)) := by omega
          have HAl : Hid _ := (show cntH m m.n = m.used from has_used m)
          rw [HAl.out]
          go_wp2_with fail
          refine (Calls.mono (imUsed_any g b m _ (H3.out.1.later (below_then F1.out HB.out)) H3.out.2.2)) ?_
          rintro e _ ⟨rfl, rfl⟩
          go_wp2_with fail
          refine (Calls.mono (known5_any _)) ?_
          rintro e wk ⟨rfl, hbk⟩
          have F : Hid _ := below_then H3.out.2.1 (below_then (below_then F1.out HB.out) hbk)
          clear hbk HB
          go_wp2
          go_ret
          exact ⟨rfl, F.out⟩
end Go.Proofs.Ytfiidcfpkodlpaa

