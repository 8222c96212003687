/- The walk of the law on sums and digests of any bytes. -/
import Derived.Test.YtkajedabcedifaaSumRef
import Derived.Test.YtkajedabcedifaaSumW3
import Derived.Test.YtkajedabcedifaaRightRow
import Derived.Deep.RegionHeldLaw
namespace Go.Proofs.Ytkajedabcedifaa
open Go.RowKit

/-- both Joins give one answer -/
theorem joins (a b : BitVec 32) (n : Int) : ∃ X E : Int, (∀ w, Calls Try.prog 10 #[.int .u32 (a.toNat : Int), .int .u32 (b.toNat : Int), .int .i64 n] w fun e w' => e = .returned (.tuple #[.int .u32 X, .int .i64 E]) ∧ w' = w) ∧
    (∀ w, Calls Try.prog 11 #[.int .u32 (a.toNat : Int), .int .u32 (b.toNat : Int), .int .i64 n] w fun e w' => e = .returned (.tuple #[.int .u32 X, .int .i64 E]) ∧ w = w') := by
  by_cases h : n < 0 ∨ 65536 < n
  · exact ⟨0, 1, fun w => join_no a b n w h, fun w => rjoin_no a b n w h⟩
  · obtain ⟨m, rfl⟩ := Int.eq_ofNat_of_zero_le (show 0 ≤ n by omega)
    exact ⟨_, 0, fun w => join_yes a b m w (by omega), fun w => rjoin_yes a b m w (by omega)⟩

set_option maxHeartbeats 2000000 in
theorem sumsTell_walk (a : Option Addr) (len cap : Nat) (l : List (BitVec 8)) (ad : Option Addr) (dlen dcap : Nat) (d : List (BitVec 8)) (s b : BitVec 32) (n : Int) (w : World)
    (A : Arg 140737488351232 w a len cap l) (D : Arg 140737488351232 w ad dlen dcap d) (hn : -9223372036854775808 ≤ n ∧ n ≤ 9223372036854775807) :
    Calls Try.prog 3 #[.slice a len cap, .slice ad dlen dcap, .int .u32 (s.toNat : Int), .int .u32 (b.toNat : Int), .int .i64 n] w fun e w' => e = .returned (.bool true) ∧ Below w.heap.size w w' := by
  obtain ⟨hn1, hn2⟩ := hn
  have A0 := A
  obtain ⟨hl, hle, hbd, hr, hnil⟩ := A
  obtain ⟨dl, dle, dbd, dr, dnil⟩ := D
  have hm : len ≤ maxLen := by unfold maxLen; omega
  obtain ⟨X, E, hj1, hj2⟩ := joins s b n
  have J1 : Hid _ := hj1
  have J2 : Hid _ := hj2
  clear hj1 hj2
  go_enter Try.func3, Try.ntmps3
  go_wp2_with fail
  refine (Lent_any a len cap l w A0).mono ?_
  rintro e w1 ⟨go, co, rfl, hown, hgo, hco, hcm, hb1⟩
  clear A0
  have ho167 : Row w1 (some ⟨go, 0, none⟩) (l ++ [167#8]) := by
    obtain ⟨a', c', hv, -, -, hr', -, -⟩ := hown.open
    rw [Value.slice.injEq] at hv
    rw [hv.1]; exact hr'
  have hol : Row w1 (some ⟨go, 0, none⟩) l := by
    rcases ho167 with h0 | ⟨b', o', hb', hc'⟩
    · simp at h0
    · exact .inr ⟨b', o', hb', fun i hi => by rw [hc' i (by simp; omega)]; unfold bt; rw [List.getD, List.getD, List.getElem?_append_left hi]⟩
  have R1 : ∀ p ∈ [(a, l), (some ⟨go, 0, none⟩, l), (some ⟨go, 0, none⟩, l ++ [167#8]), (ad, d)], Row w1 p.1 p.2 := by
    simp only [List.mem_cons, List.not_mem_nil, or_false, forall_eq_or_imp, forall_eq]
    exact ⟨hr.later hb1, hol, ho167, dr.later hb1⟩
  generalize hPs : [(a, l), (some ⟨go, 0, none⟩, l), (some ⟨go, 0, none⟩, l ++ [167#8]), (ad, d)] = Ps at *
  have m1 : (a, l) ∈ Ps := by rw [← hPs]; simp
  have m2 : (some ⟨go, 0, none⟩, l) ∈ Ps := by rw [← hPs]; simp
  have m3 : (some ⟨go, 0, none⟩, l ++ [167#8]) ∈ Ps := by rw [← hPs]; simp
  have m4 : (ad, d) ∈ Ps := by rw [← hPs]; simp
  clear hPs hown ho167 hol hr dr
  go_wp2_with fail
  refine (J1.out _).mono ?_
  rintro e w' ⟨rfl, hw⟩
  obtain rfl := hw.symm
  clear hw
  go_wp2_with fail
  refine (J2.out _).mono ?_
  rintro e w' ⟨rfl, rfl⟩
  clear J1 J2
  go_wp2_with fail
  refine (Digest_row (some ⟨go, 0, none⟩) len co l _ hl hm (R1 _ m2)).mono ?_
  rintro e w4 ⟨B, rfl, hB, hB', hb4, hrowB, hBlk⟩
  have R4 : ∀ p ∈ Ps, Row w4 p.1 p.2 := fun p hp => (R1 p hp).later hb4
  have S4 : Hold ((some ⟨B, 0, none⟩, Crc.bytes4 (Crc.sum l)) :: Ps) w4 w4.drew := Hold.start (fun p hp => by
    rcases List.mem_cons.1 hp with rfl | hp
    · exact hrowB
    · exact R4 p hp)
  have mB : (some ⟨B, 0, none⟩, Crc.bytes4 (Crc.sum l)) ∈ (some ⟨B, 0, none⟩, Crc.bytes4 (Crc.sum l)) :: Ps := by simp
  generalize hQs : (some ⟨B, 0, none⟩, Crc.bytes4 (Crc.sum l)) :: Ps = Qs at *
  have n1 : (a, l) ∈ Qs := by rw [← hQs]; exact List.mem_cons_of_mem _ m1
  have n2 : (some ⟨go, 0, none⟩, l) ∈ Qs := by rw [← hQs]; exact List.mem_cons_of_mem _ m2
  have hcB := fun (W : World) (h : Hold Qs w4 W) => (h.row _ _ mB).str 4 4 rfl
  clear hQs hrowB R4
  go_wp2_with fail
  go_region_held_law (fun W => Hold Qs w4 W) (first | exact S4 | assumption | exact Hold.later (by assumption) hbR)
    (first
      | (go_at_call 13; refine (sum_any _ len co l _ hl hm (Hold.row (by assumption) _ _ n2)).mono ?_; rintro e w' ⟨rfl, hw⟩; obtain rfl := hw.symm)
      | (go_at_call 14; refine (rsum_any _ len cap l _ hl hm (Hold.row (by assumption) _ _ n1)).mono ?_; rintro e w' ⟨rfl, rfl⟩)
      | (go_at_call 15; refine (more_any _ _ len co l _ hl hm (Hold.row (by assumption) _ _ n2)).mono ?_; rintro e w' ⟨rfl, hw⟩; obtain rfl := hw.symm)
      | (go_at_call 16; refine (rmore_any _ _ len cap l _ hl hm (Hold.row (by assumption) _ _ n1)).mono ?_; rintro e w' ⟨rfl, rfl⟩)
      | (go_at_call 17; refine (rdigest_any _ len cap l _ hl hm (Hold.row (by assumption) _ _ n1)).mono ?_; rintro e w' ⟨B2, rfl, hB2, hrow2, hbR⟩; have hc2 := hrow2.str 4 4 rfl)
      | (go_at_call 18; refine (pad_any _ _).mono ?_; rintro e w' ⟨rfl, hw⟩; obtain rfl := hw.symm)
      | (go_at_call 19; refine (rpad_any _ _ hn2).mono ?_; rintro e w' ⟨rfl, rfl⟩))
  go_wp2_with fail
  have hHeld : Hold Qs w4 w' := by assumption
  have hBk : Blk w' B 44 [.int .u8 (((Crc.sum l).toNat : Int) % 256), .int .u8 (((Crc.sum l).toNat : Int) / 256 % 256), .int .u8 (((Crc.sum l).toNat : Int) / 65536 % 256), .int .u8 (((Crc.sum l).toNat : Int) / 16777216)] := by
    unfold Blk; rw [hHeld.below.block B hB', hBlk]; rfl
  refine (Spoil_some B 0 4 4 44 _ w' hBk (by unfold maxLen; simp) (by simp) (by omega) (by omega)).mono ?_
  rintro e w6 ⟨rfl, hg6⟩
  have hb16 : Below w1.heap.size w1 w6 := (hb4.trans (hHeld.below.mono hb4.size)).trans (grown_below hg6 w1.heap.size hB (Nat.le_trans hb4.size hHeld.below.size))
  have R6 : ∀ p ∈ Ps, Row w6 p.1 p.2 := fun p hp => (R1 p hp).later hb16
  have hb6 : Below w.heap.size w w6 := hb1.trans (hb16.mono hb1.size)
  have S6 : Hold Ps w6 w6.drew := Hold.start R6
  have hcD := fun (W : World) (h : Hold Ps w6 W) => (h.row _ _ m4).str dlen dcap dl
  have hse := str_inj d (Crc.bytes4 (Crc.sum l))
  clear hHeld hBk hg6 hb16 hcB S4 R1 R6 hBlk hB hB' hb4 n1 n2 mB hc2 hrow2 hB2 hbR
  go_wp2_with fail
  go_region_held_law (fun W => Hold Ps w6 W) (first | exact S6 | assumption | exact Hold.later (by assumption) hbR)
    (first
      | (go_at_call_of 21 (Value.slice ad dlen dcap); refine (Right_row _ len co l ad dlen dcap d _ hl hm (Hold.row (by assumption) _ _ m2) dl (Hold.row (by assumption) _ _ m4)).mono ?_; rintro e w' ⟨rfl, hbR⟩)
      | (go_at_call 21; refine (Right_row _ len co l _ 4 4 (Crc.bytes4 (Crc.sum l)) _ hl hm (Hold.row (by assumption) _ _ m2) rfl hrow2).mono ?_; rintro e w' ⟨rfl, hbR⟩)
      | (go_at_call 17; refine (rdigest_any _ len cap l _ hl hm (Hold.row (by assumption) _ _ m1)).mono ?_; rintro e w' ⟨B2, rfl, hB2, hrow2, hbR⟩; have hc2 := hrow2.str 4 4 rfl)
      | (go_at_call 22; refine (Kept_yes go len co a cap l _ hl hco (by omega) (Hold.row (by assumption) _ _ m3) (Hold.row (by assumption) _ _ m1)).mono ?_; rintro e w' ⟨rfl, hw⟩; obtain rfl := hw.symm)
      | (go_at_call 23; refine (known_any _).mono ?_; rintro e w' ⟨rfl, hbR⟩))
  all_goals
    go_wp2
    go_ret
    exact ⟨rfl, below_then hb6 (Hold.below (Ps := Ps) (by assumption))⟩
end Go.Proofs.Ytkajedabcedifaa
