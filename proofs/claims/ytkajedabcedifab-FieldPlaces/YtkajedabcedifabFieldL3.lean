/- The walk of the law on numbers and bits at any place. -/
import Derived.Test.YtkajedabcedifabFieldRef2
namespace Go.Proofs.Ytkajedabcedifab
open Go.RowKit

/-- both Puts give one answer -/
theorem puts (l : List (BitVec 8)) (len : Nat) (p size : Int) (x : BitVec 64) (hl : l.length = len) (hlen : len ≤ 140737488351232) : ∃ (nl : List (BitVec 8)) (E : Int), nl.length ≤ len ∧
    (∀ a cap w, Row w a l → len ≤ cap → (a = none → cap = 0) → Calls Try.prog 13 #[.slice a len cap, .int .i64 p, .int .i64 size, .int .u64 (x.toNat : Int)] w fun e w' => ∃ v, e = .returned (.tuple #[v, .int .i64 E]) ∧ Own w' w.heap.size v nl ∧ Below w.heap.size w w') ∧
    (∀ a cap w, Row w a l → len ≤ cap → (a = none → cap = 0) → Calls Try.prog 14 #[.slice a len cap, .int .i64 p, .int .i64 size, .int .u64 (x.toNat : Int)] w fun e w' => ∃ v, e = .returned (.tuple #[v, .int .i64 E]) ∧ Own w' w.heap.size v nl ∧ Below w.heap.size w w') := by
  by_cases hI : insideB len p size = true
  · obtain ⟨q, s, rfl, rfl, h1, h2, h3⟩ := insideB_ex hI
    by_cases hf : fitsB s x = true
    · refine ⟨over l q (be s x), 0, ?_, fun a cap w hr hle hn => Put_yes a len cap l q s x w hl hle hr hn (by omega) h1 h2 h3 hf, fun a cap w hr hle hn => rPut_yes a len cap l q s x w hl hle hr hn (by omega) h1 h2 h3 hf⟩
      rw [over_length _ _ _ (by rw [be_length s x h2]; omega), hl]; exact Nat.le_refl _
    · have hf' : fitsB s x = false := by simpa using hf
      refine ⟨[], 3, by simp, fun a cap w _ _ _ => (Put_no2 a len cap q s x w (by omega) h1 h2 h3 hf').mono ?_, fun a cap w _ _ _ => (rPut_no2 a len cap q s x w (by omega) h1 h2 h3 hf').mono ?_⟩
      · rintro e w' ⟨rfl, hw⟩; obtain rfl := hw.symm; exact ⟨_, rfl, Own.nil _ _, Below.refl _ _⟩
      · rintro e w' ⟨rfl, rfl⟩; exact ⟨_, rfl, Own.nil _ _, Below.refl _ _⟩
  · have hI' : insideB len p size = false := by simpa using hI
    refine ⟨[], 1, by simp, fun a cap w _ _ _ => (Put_no1 a len cap p size x w (by omega) hI').mono ?_, fun a cap w _ _ _ => (rPut_no1 a len cap p size x w (by omega) hI').mono ?_⟩
    · rintro e w' ⟨rfl, hw⟩; obtain rfl := hw.symm; exact ⟨_, rfl, Own.nil _ _, Below.refl _ _⟩
    · rintro e w' ⟨rfl, rfl⟩; exact ⟨_, rfl, Own.nil _ _, Below.refl _ _⟩
theorem gets (l : List (BitVec 8)) (len : Nat) (p size : Int) (hl : l.length = len) (hlen : len ≤ 140737488351232) : ∃ (G E : Int),
    (∀ a cap w, Row w a l → Calls Try.prog 15 #[.slice a len cap, .int .i64 p, .int .i64 size] w fun e w' => e = .returned (.tuple #[.int .u64 G, .int .i64 E]) ∧ w = w') ∧
    (∀ a cap w, Row w a l → Calls Try.prog 16 #[.slice a len cap, .int .i64 p, .int .i64 size] w fun e w' => e = .returned (.tuple #[.int .u64 G, .int .i64 E]) ∧ w = w') := by
  by_cases hI : insideB len p size = true
  · obtain ⟨q, s, rfl, rfl, h1, h2, h3⟩ := insideB_ex hI
    refine ⟨((numTo l q s).toNat : Int), 0, fun a cap w hr => (Get_yes a len cap l q s w hl (by omega) hr h1 h2 h3).mono ?_, fun a cap w hr => ?_⟩
    · rintro e w' ⟨rfl, hw⟩; exact ⟨rfl, hw.symm⟩
    · rcases hr with h0 | ⟨b, off, rfl, hc⟩
      · subst h0; simp at hl; omega
      · exact rGet_yes b off len cap l q s w hl (by omega) hc h1 h2 h3
  · have hI' : insideB len p size = false := by simpa using hI
    refine ⟨0, 1, fun a cap w _ => (Get_no a len cap p size w (by omega) hI').mono ?_, fun a cap w _ => rGet_no a len cap p size w (by omega) hI'⟩
    rintro e w' ⟨rfl, hw⟩; exact ⟨rfl, hw.symm⟩
theorem sets (c : BitVec 8) (p size k : Int) (hs : size ≤ 9223372036854775807) : ∃ (D E B F : Int),
    (∀ w, Calls Try.prog 18 #[.int .u8 (c.toNat : Int), .int .i64 p, .int .i64 size, .int .i64 k] w fun e w' => e = .returned (.tuple #[.int .u8 D, .int .i64 E]) ∧ Below w.heap.size w w') ∧
    (∀ w, Calls Try.prog 19 #[.int .u8 (c.toNat : Int), .int .i64 p, .int .i64 size, .int .i64 k] w fun e w' => e = .returned (.tuple #[.int .u8 D, .int .i64 E]) ∧ w = w') ∧
    (∀ w, Calls Try.prog 20 #[.int .u8 (c.toNat : Int), .int .i64 p, .int .i64 size] w fun e w' => e = .returned (.tuple #[.int .i64 B, .int .i64 F]) ∧ Below w.heap.size w w') ∧
    (∀ w, Calls Try.prog 21 #[.int .u8 (c.toNat : Int), .int .i64 p, .int .i64 size] w fun e w' => e = .returned (.tuple #[.int .i64 B, .int .i64 F]) ∧ w = w') := by
  by_cases hS : bitsB p size = true
  · obtain ⟨lo, sz, rfl, rfl, g1, g2⟩ := bitsB_ex hS
    by_cases hK : k < 0 ∨ onesN sz < k
    · refine ⟨0, 3, (((c >>> lo) &&& msk sz).toNat : Int), 0, fun w => (Set_no2 c lo sz k w g1 g2 hK).mono ?_, fun w => rSet_no2 c lo sz k w g1 g2 hK, fun w => Bits_yes c lo sz w g1 g2, fun w => rBits_yes c lo sz w g1 g2⟩
      rintro e w' ⟨rfl, rfl⟩; exact ⟨rfl, Below.refl _ _⟩
    · obtain ⟨n, rfl⟩ := Int.eq_ofNat_of_zero_le (show 0 ≤ k by omega)
      exact ⟨_, 0, _, 0, fun w => Set_yes c lo sz n w g1 g2 (by omega), fun w => rSet_yes c lo sz n w g1 g2 (by omega), fun w => Bits_yes c lo sz w g1 g2, fun w => rBits_yes c lo sz w g1 g2⟩
  · have hS' : bitsB p size = false := by simpa using hS
    refine ⟨0, 1, 0, 1, fun w => (Set_no1 c p size k w hs hS').mono ?_, fun w => rSet_no1 c p size k w hS', fun w => (Bits_no c p size w hs hS').mono ?_, fun w => rBits_no c p size w hS'⟩
    · rintro e w' ⟨rfl, rfl⟩; exact ⟨rfl, Below.refl _ _⟩
    · rintro e w' ⟨rfl, rfl⟩; exact ⟨rfl, Below.refl _ _⟩

set_option maxHeartbeats 2000000 in
theorem fieldPlaces_walk (a : Option Addr) (len cap : Nat) (l : List (BitVec 8)) (p size : Int) (x : BitVec 64) (c : BitVec 8) (k : Int) (w : World) (A : Arg 140737488351232 w a len cap l)
    (_hp : -9223372036854775808 ≤ p ∧ p ≤ 9223372036854775807) (hs : -9223372036854775808 ≤ size ∧ size ≤ 9223372036854775807) (_hk : -9223372036854775808 ≤ k ∧ k ≤ 9223372036854775807) :
    Calls Try.prog 4 #[.slice a len cap, .int .i64 p, .int .i64 size, .int .u64 (x.toNat : Int), .int .u8 (c.toNat : Int), .int .i64 k] w fun e w' => e = .returned (.bool true) ∧ Below w.heap.size w w' := by
  have A0 := A
  obtain ⟨hl, hle, hbd, hr, hnil⟩ := A
  have hlen : len ≤ 140737488351232 := by omega
  obtain ⟨nl, E1, hnl, hp1, hp2⟩ := puts l len p size x hl hlen
  obtain ⟨G, E2, hg1, hg2⟩ := gets l len p size hl hlen
  obtain ⟨D, E3, B, F, hs1, hs2, hb1, hb2⟩ := sets c p size k hs.2
  have P1 : Hid _ := hp1
  have P2 : Hid _ := hp2
  have G1 : Hid _ := hg1
  have G2 : Hid _ := hg2
  have S1 : Hid _ := hs1
  have S2 : Hid _ := hs2
  have T1 : Hid _ := hb1
  have T2 : Hid _ := hb2
  clear hp1 hp2 hg1 hg2 hs1 hs2 hb1 hb2 hs
  go_enter Try.func4, Try.ntmps4
  go_wp2_with fail
  refine (Lent_any a len cap l w A0).mono ?_
  rintro e w1 ⟨go, co, rfl, hown, hgo, hco, hcm, hb1⟩
  clear A0
  have ho167 : Row w1 (some ⟨go, 0, none⟩) (l ++ [167#8]) := by
    obtain ⟨a', c', hv, -, -, hr', -, -⟩ := hown.open
    rw [Value.slice.injEq] at hv
    rw [hv.1]; exact hr'
  have hol : Row w1 (some ⟨go, 0, none⟩) l := by
    rcases ho167 with h0 | ⟨b', o', hb', hc'⟩
    · simp at h0
    · exact .inr ⟨b', o', hb', fun i hi => by rw [hc' i (by simp; omega)]; unfold bt; rw [List.getD, List.getD, List.getElem?_append_left hi]⟩
  have hr1 := hr.later hb1
  clear hown hr
  go_wp2_with fail
  refine Calls.mono (P1.out (some ⟨go, 0, none⟩) co w1 hol (by omega) (fun h => by cases h)) ?_
  rintro e w2 ⟨v1, rfl, ho1, hb2⟩
  go_wp2_with fail
  refine Calls.mono (P2.out a cap w2 (hr1.later hb2) hle hnil) ?_
  rintro e w3 ⟨v2, rfl, ho2, hb3⟩
  have ho1' := ho1.later hb3
  have hb13 := below_then hb2 hb3
  clear P1 P2 ho1
  go_wp2_with fail
  refine Calls.mono (G1.out (some ⟨go, 0, none⟩) co w3 (hol.later hb13)) ?_
  rintro e w' ⟨rfl, rfl⟩
  go_wp2_with fail
  refine Calls.mono (G2.out a cap w3 (hr1.later hb13)) ?_
  rintro e w' ⟨rfl, rfl⟩
  clear G1 G2
  obtain ⟨a1, c1, hv1, -, -, hrow1, -, -⟩ := ho1'.open
  obtain ⟨a2, c2, hv2, -, -, hrow2, -, -⟩ := ho2.open
  have hst1 := hrow1.str nl.length c1 rfl
  have hst2 := hrow2.str nl.length c2 rfl
  rw [← hv1] at hst1
  rw [← hv2] at hst2
  clear hv1 hv2 hrow1 hrow2 ho2
  go_wp2_with fail
  refine (Spoil_own v1 w1.heap.size nl w3 ho1' (by omega)).mono ?_
  rintro e w4 ⟨rfl, hg4⟩
  have hb14 : Below w1.heap.size w1 w4 := hb13.grown hg4 hb13.size (own_block ho1')
  clear hst1 hst2 hg4 ho1' hb13 hb2 hb3
  go_wp2_with fail
  refine Calls.mono (S1.out w4) ?_
  rintro e w5 ⟨rfl, hb5⟩
  go_wp2_with fail
  refine Calls.mono (S2.out w5) ?_
  rintro e w' ⟨rfl, rfl⟩
  go_wp2_with fail
  refine Calls.mono (T1.out w5) ?_
  rintro e w6 ⟨rfl, hb6⟩
  go_wp2_with fail
  refine Calls.mono (T2.out w6) ?_
  rintro e w' ⟨rfl, rfl⟩
  have hb16 := below_then (below_then hb14 hb5) hb6
  clear S1 S2 T1 T2 hb5 hb6 hb14
  go_wp2_with fail
  refine (Kept_yes go len co a cap l w6 hl hco (by omega) (ho167.later hb16) (hr1.later hb16)).mono ?_
  rintro e w' ⟨rfl, hw⟩
  obtain rfl := hw.symm
  clear hw
  go_wp2_with fail
  refine (known2_any _).mono ?_
  rintro e w7 ⟨rfl, hk⟩
  go_wp2
  go_ret
  exact ⟨rfl, below_then (below_then hb1 hb16) hk⟩
end Go.Proofs.Ytkajedabcedifab
