/- The walk of the law on what is put and told. -/
import Derived.Test.YtkajedabcedifabFieldS
namespace Go.Proofs.Ytkajedabcedifab
open Go.RowKit

set_option maxHeartbeats 1000000 in
theorem fieldBack_no (a : Option Addr) (len cap : Nat) (p size : Int) (x : BitVec 64) (c : BitVec 8) (k : Int) (w : World) (hsz : size ≤ 9223372036854775807)
    (E : Int) (hE : (E == 0) = false) (hput : Calls Try.prog 13 #[.slice a len cap, .int .i64 p, .int .i64 size, .int .u64 (x.toNat : Int)] w fun e w' => e = .returned (.tuple #[.slice none 0 0, .int .i64 E]) ∧ w' = w) :
    Calls Try.prog 5 #[.slice a len cap, .int .i64 p, .int .i64 size, .int .u64 (x.toNat : Int), .int .u8 (c.toNat : Int), .int .i64 k] w fun e w' => e = .returned (.bool true) ∧ Below w.heap.size w w' := by
  have HP : Hid _ := hput
  clear hput
  go_enter Try.func5, Try.ntmps5
  go_wp2_with fail
  refine Calls.mono HP.out ?_
  rintro e w' ⟨rfl, hw⟩
  obtain rfl := hw.symm
  clear hw HP
  have hbW : Below w.heap.size w w := Below.refl _ _
  have Hw : Hid (Below w.heap.size w w) := hbW
  clear hbW
  by_cases hS : bitsB p size = true
  · obtain ⟨lo, sz, e1, e2, g1, g2⟩ := bitsB_ex hS
    subst e1; subst e2
    by_cases hK : k < 0 ∨ onesN sz < k
    · go_wp2_with fail
      refine (Set_no2 c lo sz k _ g1 g2 hK).mono ?_
      rintro e w' ⟨rfl, rfl⟩
      clear hK hS
      go_wp2_with fail
      refine (known2_any _).mono ?_
      rintro e w' ⟨rfl, hk⟩
      go_wp2
      go_ret
      exact ⟨rfl, below_then Hw.out hk⟩
    · obtain ⟨n, rfl⟩ := Int.eq_ofNat_of_zero_le (show 0 ≤ k by omega)
      have hn : (n : Int) ≤ onesN sz := by omega
      have hback := set8_back c lo sz n g2 hn
      have hbit := fun i hi => set8_bit c lo sz n i g2 hn hi
      have HB : Hid _ := hbit
      clear hbit hK hS
      go_wp2_with fail
      refine (Set_yes c lo sz n _ g1 g2 hn).mono ?_
      rintro e w2 ⟨rfl, hb2⟩
      generalize set8 c lo sz n = d at *
      go_wp2_with fail
      refine (Bits_yes d lo sz _ g1 g2).mono ?_
      rintro e w3 ⟨rfl, hb3⟩
      rw [hback]
      have Hw3 : Hid (Below w.heap.size w w3) := below_then (below_then Hw.out hb2) hb3
      clear hb2 hb3 Hw hback
      go_wp2_with fail
      go_loop [22] (fun i => ∃ j : Nat, j ≤ 8 ∧ i = .int .i64 j) (fun i => 8 - (intOf i).toNat)
      case atStart => exact ⟨0, by omega, rfl⟩
      case round =>
        obtain ⟨j, hj, rfl⟩ := hrel
        by_cases hjt : j < 8
        · by_cases hout : lo ≤ j ∧ j < lo + sz
          · obtain ⟨o1, o2⟩ := hout
            have t1 : ¬ (j : Int) < (lo : Int) := by omega
            have t2 : ¬ (lo : Int) + (sz : Int) ≤ (j : Int) := by omega
            go_wp2
            go_round
            case rel => exact ⟨j + 1, by omega, by go_num⟩
            case measure => simp [intOf]; omega
          · have heq : bits .and .u8 ((d.toNat : Int) / 2 ^ j) 1 = bits .and .u8 ((c.toNat : Int) / 2 ^ j) 1 := by
              rw [bit8, bit8, HB.out j hjt, if_neg hout]
            by_cases o1 : j < lo
            · have t1 : (j : Int) < (lo : Int) := by omega
              clear hout
              go_wp2
              go_round
              case rel => exact ⟨j + 1, by omega, by go_num⟩
              case measure => simp [intOf]; omega
            · have t1 : ¬ (j : Int) < (lo : Int) := by omega
              have t2 : (lo : Int) + (sz : Int) ≤ (j : Int) := by omega
              clear hout
              go_wp2
              go_round
              case rel => exact ⟨j + 1, by omega, by go_num⟩
              case measure => simp [intOf]; omega
        · go_wp2_with fail
          refine (known2_any _).mono ?_
          rintro e w' ⟨rfl, hk⟩
          go_wp2
          go_ret
          exact ⟨rfl, below_then Hw3.out hk⟩
  · have hS' : bitsB p size = false := by simpa using hS
    clear hS
    go_wp2_with fail
    refine (Set_no1 c p size k _ hsz hS').mono ?_
    rintro e w' ⟨rfl, rfl⟩
    clear hS'
    go_wp2_with fail
    refine (known2_any _).mono ?_
    rintro e w' ⟨rfl, hk⟩
    go_wp2
    go_ret
    exact ⟨rfl, below_then Hw.out hk⟩

set_option maxHeartbeats 1000000 in
theorem fieldBack_yes (a : Option Addr) (len cap : Nat) (l : List (BitVec 8)) (q s : Nat) (x : BitVec 64) (c : BitVec 8) (k : Int) (w : World) (A : Arg 140737488351232 w a len cap l)
    (h1 : 1 ≤ s) (h2 : s ≤ 8) (h3 : q + s ≤ len) (hf : fitsB s x = true) :
    Calls Try.prog 5 #[.slice a len cap, .int .i64 q, .int .i64 s, .int .u64 (x.toNat : Int), .int .u8 (c.toNat : Int), .int .i64 k] w fun e w' => e = .returned (.bool true) ∧ Below w.heap.size w w' := by
  obtain ⟨hl, hle, hbd, hr, hnil⟩ := A
  have hlen : len ≤ 140737488355328 := by omega
  have hbl : (be s x).length = s := be_length s x h2
  have hnum : numTo (over l q (be s x)) q s = x := by
    have := over_mid l q (be s x) (by omega)
    rw [hbl] at this
    rw [this, num_be s h2 x hf]
  have hoth : ∀ i, i < q ∨ q + s ≤ i → bt (over l q (be s x)) i = bt l i := fun i hi => over_other l q (be s x) i (by omega) (by omega)
  have hol : (over l q (be s x)).length = len := by rw [over_length _ _ _ (by omega), hl]
  go_enter Try.func5, Try.ntmps5
  go_wp2_with fail
  refine (Put_yes a len cap l q s x w hl hle hr hnil hlen h1 h2 h3 hf).mono ?_
  rintro e w1 ⟨v, rfl, ho, hb1⟩
  generalize over l q (be s x) = nl at *
  obtain ⟨g, cap1, cur, hv, hg1, hg2, hh, hc1, hc2, hc3, hc4⟩ := ho.block (by omega)
  rw [hol] at hv hc1 hc4
  have hrow : Row w1 (some ⟨g, 0, none⟩) nl := by
    obtain ⟨a', c', hv', -, -, hr', -, -⟩ := ho.open
    rw [hv, Value.slice.injEq] at hv'
    rw [hv'.1]; exact hr'
  rw [hv]
  have hr1 := hr.later hb1
  rcases hr1 with h0 | ⟨b, off, rfl, hcell⟩
  · subst h0; simp at hl; omega
  have hcell2 : ∀ i, i < nl.length → w1.cell? ⟨g, 0 + i, none⟩ = some (.int .u8 (bt nl i)) := by
    rcases hrow with h0 | ⟨b', o', hb', hc'⟩
    · subst h0; simp at hol; omega
    · cases hb'; exact hc'
  have C : Hid _ := And.intro hcell (And.intro hcell2 hoth)
  clear ho hv hg1 hg2 hh hc3 hc4 hr hcell hcell2 hoth hbl hf
  go_wp2_with fail
  refine (Get_yes (some ⟨g, 0, none⟩) len cap1 nl q s w1 hol hlen hrow h1 h2 h3).mono ?_
  rintro e w' ⟨rfl, hw⟩
  obtain rfl := hw.symm
  rw [hnum]
  clear hw hnum hrow
  go_wp2_with fail
  go_loopw [17] (fun i wr => ∃ j : Nat, j ≤ len ∧ i = .int .i64 j ∧ Below w1.heap.size w1 wr) (fun i _ => len - (intOf i).toNat)
  case atStart => exact ⟨0, by omega, rfl, Below.refl _ _⟩
  case round =>
    obtain ⟨j, hj, rfl, hbr⟩ := hrel
    by_cases hjt : j < len
    · have c1 : wr.cell? ⟨b, off + j, none⟩ = some (.int .u8 (bt l j)) := cell_later hbr (C.out.1 j (by omega))
      by_cases hout : q ≤ j ∧ j < q + s
      · obtain ⟨o1, o2⟩ := hout
        have t1 : decide (j < q) = false := by simp; omega
        have t2 : decide ((q : Int) + (s : Int) ≤ (j : Int)) = false := by simp; omega
        have t3 : IntKind.i64.wrap ((q : Int) + (s : Int)) = (q : Int) + (s : Int) := wrap_i64_small _ (by omega) (by omega)
        go_wp2_with fail
        go_quiet (fail)
        go_wp2
        go_roundw
        case rel => exact ⟨j + 1, by omega, by go_num, below_then hbr (below_draw _ _)⟩
        case measure => simp [intOf]; omega
      · have c2 : wr.cell? ⟨g, j, none⟩ = some (.int .u8 (bt l j)) := by
          have := C.out.2.1 j (by omega)
          rw [Nat.zero_add, C.out.2.2 j (by omega)] at this
          exact cell_later hbr this
        have u1 : (j : Int) < (len : Int) := by omega
        by_cases o1 : j < q
        · have t1 : (j : Int) < (q : Int) := by omega
          clear hout
          go_wp2_with fail
          go_quiet (fail)
          go_wp2
          go_roundw
          case rel => exact ⟨j + 1, by omega, by go_num, below_then hbr (below_draw _ _)⟩
          case measure => simp [intOf]; omega
        · have t1 : decide (j < q) = false := by simp; omega
          have t2 : (q : Int) + (s : Int) ≤ (j : Int) := by omega
          clear hout
          go_wp2_with fail
          go_quiet (fail)
          go_wp2
          go_roundw
          case rel => exact ⟨j + 1, by omega, by go_num, below_then hbr (below_draw _ _)⟩
          case measure => simp [intOf]; omega
    · have hbW : Below w.heap.size w wr := below_then hb1 hbr
      clear C hb1 hbr
      have Hw : Hid (Below w.heap.size w wr) := hbW
      clear hbW
      by_cases hS : bitsB (q : Int) (s : Int) = true
      · obtain ⟨lo, sz, e1, e2, g1, g2⟩ := bitsB_ex hS
        obtain rfl : lo = q := by omega
        obtain rfl : sz = s := by omega
        clear e1 e2
        by_cases hK : k < 0 ∨ onesN sz < k
        · go_wp2_with fail
          refine (Set_no2 c lo sz k _ g1 g2 hK).mono ?_
          rintro e w' ⟨rfl, rfl⟩
          clear hK hS
          go_wp2_with fail
          refine (known2_any _).mono ?_
          rintro e w' ⟨rfl, hk⟩
          go_wp2
          go_ret
          exact ⟨rfl, below_then Hw.out hk⟩
        · obtain ⟨n, rfl⟩ := Int.eq_ofNat_of_zero_le (show 0 ≤ k by omega)
          have hn : (n : Int) ≤ onesN sz := by omega
          have hback := set8_back c lo sz n g2 hn
          have hbit := fun i hi => set8_bit c lo sz n i g2 hn hi
          have HB : Hid _ := hbit
          clear hbit hK hS
          go_wp2_with fail
          refine (Set_yes c lo sz n _ g1 g2 hn).mono ?_
          rintro e w2 ⟨rfl, hb2⟩
          generalize set8 c lo sz n = d at *
          go_wp2_with fail
          refine (Bits_yes d lo sz _ g1 g2).mono ?_
          rintro e w3 ⟨rfl, hb3⟩
          rw [hback]
          have Hw3 : Hid (Below w.heap.size w w3) := below_then (below_then Hw.out hb2) hb3
          clear hb2 hb3 Hw hback
          go_wp2_with fail
          go_loop [22] (fun i => ∃ j : Nat, j ≤ 8 ∧ i = .int .i64 j) (fun i => 8 - (intOf i).toNat)
          case atStart => exact ⟨0, by omega, rfl⟩
          case round =>
            obtain ⟨j, hj, rfl⟩ := hrel
            by_cases hjt : j < 8
            · by_cases hout : lo ≤ j ∧ j < lo + sz
              · obtain ⟨o1, o2⟩ := hout
                have t1 : ¬ (j : Int) < (lo : Int) := by omega
                have t2 : ¬ (lo : Int) + (sz : Int) ≤ (j : Int) := by omega
                go_wp2
                go_round
                case rel => exact ⟨j + 1, by omega, by go_num⟩
                case measure => simp [intOf]; omega
              · have heq : bits .and .u8 ((d.toNat : Int) / 2 ^ j) 1 = bits .and .u8 ((c.toNat : Int) / 2 ^ j) 1 := by
                  rw [bit8, bit8, HB.out j hjt, if_neg hout]
                by_cases o1 : j < lo
                · have t1 : (j : Int) < (lo : Int) := by omega
                  clear hout
                  go_wp2
                  go_round
                  case rel => exact ⟨j + 1, by omega, by go_num⟩
                  case measure => simp [intOf]; omega
                · have t1 : ¬ (j : Int) < (lo : Int) := by omega
                  have t2 : (lo : Int) + (sz : Int) ≤ (j : Int) := by omega
                  clear hout
                  go_wp2
                  go_round
                  case rel => exact ⟨j + 1, by omega, by go_num⟩
                  case measure => simp [intOf]; omega
            · go_wp2_with fail
              refine (known2_any _).mono ?_
              rintro e w' ⟨rfl, hk⟩
              go_wp2
              go_ret
              exact ⟨rfl, below_then Hw3.out hk⟩
      · have hS' : bitsB (q : Int) (s : Int) = false := by simpa using hS
        clear hS
        go_wp2_with fail
        refine (Set_no1 c (q : Int) (s : Int) k _ (by omega) hS').mono ?_
        rintro e w' ⟨rfl, rfl⟩
        clear hS'
        go_wp2_with fail
        refine (known2_any _).mono ?_
        rintro e w' ⟨rfl, hk⟩
        go_wp2
        go_ret
        exact ⟨rfl, below_then Hw.out hk⟩

theorem fieldBack_walk (a : Option Addr) (len cap : Nat) (l : List (BitVec 8)) (p size : Int) (x : BitVec 64) (c : BitVec 8) (k : Int) (w : World) (A : Arg 140737488351232 w a len cap l)
    (_hp : -9223372036854775808 ≤ p ∧ p ≤ 9223372036854775807) (hs : -9223372036854775808 ≤ size ∧ size ≤ 9223372036854775807) (_hk : -9223372036854775808 ≤ k ∧ k ≤ 9223372036854775807) :
    Calls Try.prog 5 #[.slice a len cap, .int .i64 p, .int .i64 size, .int .u64 (x.toNat : Int), .int .u8 (c.toNat : Int), .int .i64 k] w fun e w' => e = .returned (.bool true) ∧ Below w.heap.size w w' := by
  have hlen : len ≤ 140737488355328 := by have := A.le; have := A.bound; omega
  by_cases hI : insideB len p size = true
  · obtain ⟨q, s, rfl, rfl, h1, h2, h3⟩ := insideB_ex hI
    by_cases hf : fitsB s x = true
    · exact fieldBack_yes a len cap l q s x c k w A h1 h2 h3 hf
    · exact fieldBack_no a len cap q s x c k w hs.2 3 rfl (Put_no2 a len cap q s x w hlen h1 h2 h3 (by simpa using hf))
  · exact fieldBack_no a len cap p size x c k w hs.2 1 rfl (Put_no1 a len cap p size x w hlen (by simpa using hI))
end Go.Proofs.Ytkajedabcedifab
