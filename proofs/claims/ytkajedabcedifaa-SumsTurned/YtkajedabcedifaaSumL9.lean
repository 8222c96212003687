/- The walk of the law on turned bits. -/
import Derived.Test.YtkajedabcedifaaAid
import Derived.Test.YtkajedabcedifaaRightRow
import Derived.Test.YtkajedabcedifaaSumT1
import Derived.Deep.RegionHeldLaw
import Derived.Deep.RegionHeld3
namespace Go.Proofs.Ytkajedabcedifaa
open Go.RowKit

theorem Own.row {w : World} {base : Nat} {v : Value} {l : List (BitVec 8)} (h : Own w base v l) (hl : 0 < l.length) :
    ∃ (g cap : Nat), v = .slice (some ⟨g, 0, none⟩) l.length cap ∧ base ≤ g ∧ l.length ≤ cap ∧ cap ≤ maxLen := by
  obtain ⟨h1, h2 | ⟨g, cap, cur, rfl, hb, hh, hc, hm, hs, ht⟩⟩ := h
  · omega
  · exact ⟨g, cap, rfl, hb, hc, hm⟩

set_option maxHeartbeats 400000 in
theorem Count_any (n : Int) (m : Nat) (w : World) (_h1 : -9223372036854775808 ≤ n ∧ n ≤ 9223372036854775807) (hm : 0 < m) (hm2 : m ≤ 1125899906842624) :
    Calls Try.prog 24 #[.int .i64 n, .int .i64 m] w fun e w' => ∃ k : Nat, e = .returned (.int .i64 k) ∧ k < m ∧ w = w' := by
  have hb := Int.tmod_lt_of_pos n (by omega : (0 : Int) < m)
  have hb2 : -(m : Int) < n.tmod m := by
    have := Int.tmod_lt_of_pos (-n) (by omega : (0 : Int) < m)
    rw [Int.neg_tmod] at this; omega
  by_cases h : n.tmod m < 0
  · go_enter Try.func24, Try.ntmps24
    go_wp2
    go_ret
    refine ⟨(n.tmod m + m).toNat, ret_int ?_, by omega, rfl⟩
    omega
  · go_enter Try.func24, Try.ntmps24
    go_wp2
    go_ret
    exact ⟨(n.tmod m).toNat, ret_int (by omega), by omega, rfl⟩

theorem bit32 (c : BitVec 32) (k : Nat) : bits .and .u32 ((c.toNat : Int) / 2 ^ k) 1 = if c.getLsbD k then 1 else 0 := by
  have e : (c.toNat : Int) / 2 ^ k = ((c >>> k).toNat : Int) := by
    rw [BitVec.toNat_ushiftRight, Nat.shiftRight_eq_div_pow, Int.natCast_ediv]; simp
  have hb : c.getLsbD k = (c >>> k).getLsbD 0 := by rw [BitVec.getLsbD_ushiftRight, Nat.add_zero]
  rw [e, show (1 : Int) = ((1 : Nat) : Int) from rfl, u32_and_nat _ _ (BitVec.isLt _) (by omega), and_one, hb, BitVec.getLsbD, Nat.testBit_zero]
  generalize (c >>> k).toNat = m
  by_cases h : m % 2 = 1
  · simp [h]
  · have : m % 2 = 0 := by omega
    simp [this]

theorem vals_set9 (l : List (BitVec 8)) (i : Nat) (c : BitVec 8) : (vals l).set i (.int .u8 (c.toNat : Int)) = vals (l.set i c) := by
  unfold vals; rw [List.map_set]
theorem two_pow9 (j : Nat) (h : j < 8) : (2 : Int) ^ j % 256 = ((1#8 <<< j).toNat : Int) := by
  have : ∀ j : Fin 8, (2 : Int) ^ j.val % 256 = ((1#8 <<< j.val).toNat : Int) := by decide
  exact this ⟨j, h⟩
theorem turn_val (L : List (BitVec 8)) (k : Nat) : bits .xor .u8 (bt L (k / 8)) (2 ^ (k % 8) % 256) = ((L.getD (k / 8) 0#8 ^^^ (1#8 <<< (k % 8))).toNat : Int) := by
  rw [two_pow9 _ (by omega)]
  unfold bt
  rw [u8_xor_nat _ _ (BitVec.isLt _) (BitVec.isLt _), ← BitVec.toNat_xor]
theorem bytes4_inj {a b : BitVec 32} (h : Crc.bytes4 a = Crc.bytes4 b) : a = b := by
  obtain ⟨a0, a1, a2, a3⟩ := bytes4_bt a
  obtain ⟨b0, b1, b2, b3⟩ := bytes4_bt b
  rw [h] at a0 a1 a2 a3
  apply BitVec.eq_of_toNat_eq
  omega

set_option maxHeartbeats 2000000 in
theorem sumsTurned_walk (a : Option Addr) (len cap : Nat) (l : List (BitVec 8)) (at' : Int) (x : BitVec 32) (w : World) (A : Arg 140737488351232 w a len cap l) (hat : -9223372036854775808 ≤ at' ∧ at' ≤ 9223372036854775807) :
    Calls Try.prog 5 #[.slice a len cap, .int .i64 at', .int .u32 (x.toNat : Int)] w fun e w' => e = .returned (.bool true) ∧ Below w.heap.size w w' := by
  obtain ⟨hl, hle, hbd, hr, hn⟩ := A
  have hm : len ≤ maxLen := by unfold maxLen; omega
  by_cases h0 : len = 0
  · subst h0
    go_enter Try.func5, Try.ntmps5
    go_wp2_with fail
    refine (known_any _).mono ?_
    rintro e w8 ⟨rfl, hk⟩
    go_wp2
    go_ret
    exact ⟨rfl, hk⟩
  have h0' : ¬ ((len : Int) = 0) := by omega
  go_enter Try.func5, Try.ntmps5
  go_wp2_with fail
  refine (Count_any at' (8 * len) w hat (by omega) (by omega)).mono ?_
  rintro e w' ⟨q, rfl, hq, rfl⟩
  go_wp2_with (at_builtin; refine wpList_append_bytes _ rfl _ _ rfl w.heap.size _ [] rfl (Own.nil _ _) a len cap l rfl hl hr hn hle (by simp; omega) (Nat.le_refl _) ?_)
  intro v w1 ho hg
  have hb1 : Below w.heap.size w w1 := (Below.refl _ _).grown hg (Nat.le_refl _) (by simp [Value.ownBlock])
  obtain ⟨g, cap1, hv, hg1, hc1, hc2⟩ := ho.row (by omega)
  rw [hl] at hv hc1
  subst hv
  clear hg
  go_wp2_with fail
  go_loopw [8, 9] (fun any i wr => ∃ (k : Nat) (L : List (BitVec 8)), k ≤ 32 ∧ i = .int .i64 k ∧ any = .bool (!decide (Crc.mask x k = 0#32)) ∧ L.length = len ∧ Crc.sum L = Crc.sum l ^^^ Crc.Sn (8 * len - q) (Crc.mask x k) ∧ Own wr w.heap.size (.slice (some ⟨g, 0, none⟩) len cap1) L ∧ Below w.heap.size w wr) (fun _ i _ => 32 - (intOf i).toNat)
  case atStart => exact ⟨0, l, by omega, rfl, rfl, hl, by rw [show Crc.mask x 0 = 0#32 from rfl, Crc.Sn_zero, BitVec.xor_zero], ho, hb1⟩
  case round =>
    obtain ⟨k, L, hk, rfl, rfl, hL, hS, hown, hbr⟩ := hrel
    by_cases hlt : k < 32 ∧ q + k < 8 * len
    · obtain ⟨hlt, hlt2⟩ := hlt
      have q0 : (q : Int) + (k : Int) < 8 * (len : Int) := by omega
      have q1 : (k : Int) < 32 := by omega
      have q2 : ((q : Int) + (k : Int)) / 8 < (len : Int) := by omega
      have hb32 := bit32 x k
      cases hb : x.getLsbD k with
      | false =>
        rw [hb] at hb32
        simp only [Bool.false_eq_true, if_false] at hb32
        go_wp2
        go_roundw
        case rel => exact ⟨k + 1, L, by omega, by go_num, by rw [Crc.mask_no x k hb], hL, by rw [Crc.mask_no x k hb]; exact hS, hown, hbr⟩
        case measure => simp [intOf]; omega
      | true =>
        rw [hb] at hb32
        simp only [if_true] at hb32
        have ho2 : wr.ownsRow w.heap.size 5 1 (.slice (some ⟨g, 0, none⟩) len cap1) len (vals L) := by
          have := hown; unfold Own at this; rw [hL] at this; exact this
        have hc := World.ownsRow.cellAt ho2 ((q + k) / 8) (by omega)
        rw [vals_at _ _ (by omega)] at hc
        have hf := World.ownsRow.frozenAt ho2 ((q + k) / 8)
        have hbd := bt_bd L ((q + k) / 8)
        have hst := Crc.sum_turn L q k hlt (by omega)
        have R := World.ownsRow.stored ho2 ((q + k) / 8) (.int .u8 ((L.getD ((q + k) / 8) 0#8 ^^^ (1#8 <<< ((q + k) % 8))).toNat : Int))
        rw [vals_set9, ← turn_val L] at R
        have R2 : Hid _ := And.intro R hst
        clear ho2 hown ho R hst
        go_wp2
        go_roundw
        case rel =>
          refine ⟨k + 1, _, by omega, by go_num, ?_, ?_, ?_, (by unfold Own; rw [List.length_set, hL]; exact R2.out.1.1), hbr.grown R2.out.1.2 hbr.size (by intro k' hk'; cases hk'; exact hg1)⟩
          · rw [decide_eq_false (Crc.mask_any x k hlt hb)]; rfl
          · rw [List.length_set, hL]
          · rw [R2.out.2, hS, Crc.mask_yes x k hb, Crc.Sn_xor, hL, BitVec.xor_assoc]
        case measure => simp [intOf]; omega
    · have hr1 := hr.later hbr
      obtain ⟨av, cv, hv, -, -, hrL, -, -⟩ := hown.open
      rw [Value.slice.injEq] at hv
      rw [← hv.1] at hrL
      have htd := Crc.turned (Crc.sum l) (Crc.sum L) _ _ hS
      generalize Crc.mask x k = mk at *
      have hd : decide (Crc.bytes4 (Crc.sum l) = Crc.bytes4 (Crc.sum L)) = decide (mk = 0#32) := by
        rw [← htd, decide_eq_decide]
        exact ⟨bytes4_inj, fun h => by rw [h]⟩
      have hne : (((Crc.sum l).toNat : Int) == ((Crc.sum L).toNat : Int)) = decide (mk = 0#32) := by
        rw [← htd, Bool.eq_iff_iff, beq_iff_eq, decide_eq_true_eq, Int.natCast_inj, BitVec.toNat_inj]
      have hstop : ¬ (k : Int) < 32 ∨ ((k : Int) < 32 ∧ ¬ ((q : Int) + (k : Int) < 8 * (len : Int))) := by omega
      have HD : Hid _ := hd
      clear hS htd hd hv hown ho hr
      rcases hstop with hstop | ⟨hst1, hstop⟩
      all_goals
        cases hmk : decide (mk = 0#32)
        all_goals
          rw [hmk] at hne HD
          first | replace hne := ne_of_beq_false hne | replace hne := eq_of_beq hne
          go_wp2_with fail
          refine (sum_any a len cap l wr hl hm hr1).mono ?_
          rintro e w' ⟨rfl, hw⟩
          obtain rfl := hw.symm
          clear hw
          go_wp2_with fail
          refine (sum_any (some ⟨g, 0, none⟩) len cap1 L wr hL hm hrL).mono ?_
          rintro e w' ⟨rfl, hw⟩
          obtain rfl := hw.symm
          clear hw
          go_wp2_with fail
          refine (Digest_row a len cap l wr hl hm hr1).mono ?_
          rintro e w4 ⟨B, rfl, -, -, hb4, hrowB, -⟩
          have hrL4 := hrL.later hb4
          go_wp2_with fail
          refine (Right_row (some ⟨g, 0, none⟩) len cap1 L (some ⟨B, 0, none⟩) 4 4 _ w4 hL hm hrL4 rfl hrowB).mono ?_
          rw [HD.out]
          rintro e w5 ⟨rfl, hb5⟩
          clear hrowB hrL4 
          go_wp2_with fail
          refine (known_any _).mono ?_
          rintro e w6 ⟨rfl, hb6⟩
          go_wp2
          go_ret
          exact ⟨(by first | rfl | exact ret_bool (bne_iff_ne.2 hne)), below_then (below_then (below_then hbr hb4) hb5) hb6⟩
end Go.Proofs.Ytkajedabcedifaa
