/- The walk of the law on a digest that is right for its bytes alone. -/
import Derived.Test.YtkajedabcedifabSumW2
import Derived.Test.YtkajedabcedifabMem
namespace Go.Proofs.Ytkajedabcedifab
open Go.RowKit

theorem Right_row (a : Option Addr) (len cap : Nat) (l : List (BitVec 8)) (ad : Option Addr) (dlen dcap : Nat) (d : List (BitVec 8)) (w : World) (hl : l.length = len) (hm : len ≤ maxLen) (hr : Row w a l) (hd : d.length = dlen) (hdr : Row w ad d) :
    Calls Try.prog 10 #[.slice a len cap, .slice ad dlen dcap] w fun e w' => e = .returned (.bool (decide (d = Crc.bytes4 (Crc.sum l)))) ∧ Below w.heap.size w w' := by
  by_cases h : dlen = 4
  · subst h
    rcases hdr with rfl | ⟨b, off, rfl, hc⟩
    · simp at hd
    · exact Right_yes a len cap l b off dcap d w hl hm hr hd hc
  · have e : decide (d = Crc.bytes4 (Crc.sum l)) = false := by
      rw [decide_eq_false_iff_not]
      intro h2
      rw [h2] at hd
      exact h hd.symm
    rw [e]
    exact Right_no a len cap ad dlen dcap w h

set_option maxHeartbeats 1000000 in
theorem sumsTwice_walk (a : Option Addr) (len cap : Nat) (l : List (BitVec 8)) (c : BitVec 8) (w : World) (A : Arg 140737488351232 w a len cap l) :
    Calls Try.prog 3 #[.slice a len cap, .int .u8 (c.toNat : Int)] w fun e w' => e = .returned (.bool true) ∧ Below w.heap.size w w' := by
  obtain ⟨hl, hle, hbd, hr, hn⟩ := A
  have hm : len ≤ maxLen := by unfold maxLen; omega
  go_enter Try.func3, Try.ntmps3
  go_wp2_with fail
  refine (Digest_row a len cap l w hl hm hr).mono ?_
  rintro e w1 ⟨B, rfl, hB, hB', hb, hrow, -⟩
  have hr1 := hr.later hb
  go_wp2_with (at_builtin; refine wpList_append_bytes _ rfl _ _ rfl w1.heap.size _ [] rfl (Own.nil _ _) a len cap l rfl hl hr1 hn hle (by simp; omega) (Nat.le_refl _) ?_)
  intro v2 w2 ho2 hg2
  have hb2 : Below w1.heap.size w1 w2 := (Below.refl _ _).grown hg2 (Nat.le_refl _) (by simp [Value.ownBlock])
  go_wp2_with (at_builtin; refine wpList_append_bytes _ rfl _ _ rfl w1.heap.size v2 l rfl (ho2.later ((Below.refl _ _).alloc (Nat.le_refl _) _)) (some ⟨w2.heap.size, 0, none⟩) 1 1 [c] rfl rfl (Row.newl _ _ _ _ _ rfl) (fun h => by cases h) (Nat.le_refl _) (by omega) (by have := hb2.size; simp; omega) ?_)
  intro v3 w3 ho3 hg3
  have hb3 : Below w1.heap.size w1 w3 := (hb2.alloc hb2.size _).grown hg3 (by have := hb2.size; simp; omega) (own_block ho2)
  obtain ⟨a3, cap3, hv3, hle3, hm3, hr3, -, -⟩ := ho3.open
  have hl3 : (l ++ [c]).length = len + 1 := by simp; omega
  have hb3' : Below w.heap.size w w3 := hb.trans (hb3.mono hb.size)
  rw [hl3] at hv3
  rw [hv3]
  clear ho3 hg3 hg2 ho2 hb2 hv3
  generalize l ++ [c] = l3 at *
  have hra := hr.later hb3'
  have hrd := hrow.later hb3
  clear hr hrow hr1
  have hm3 : len + 1 ≤ maxLen := by unfold maxLen; omega
  go_wp2_with fail
  refine (Digest_row a3 (len + 1) cap3 l3 w3 hl3 hm3 hr3).mono ?_
  rintro e w4 ⟨B2, rfl, hB2, hB2', hb4, hrow2, -⟩
  have ga := hra.later hb4
  have gd := hrd.later hb4
  have g3 := hr3.later hb4
  have hb4' := hb3'.trans (hb4.mono hb3'.size)
  clear hra hrd hr3 hb4 hb3 hb3' hb hB hB' hB2 hB2'
  have hse := str_inj (Crc.bytes4 (Crc.sum l)) (Crc.bytes4 (Crc.sum l3))
  generalize hd1 : Crc.bytes4 (Crc.sum l) = d1 at *
  generalize hd2 : Crc.bytes4 (Crc.sum l3) = d2 at *
  have h41 : d1.length = 4 := by rw [← hd1]; rfl
  have h42 : d2.length = 4 := by rw [← hd2]; rfl
  have H1 : Hid _ := hd1
  have H2 : Hid _ := hd2
  have hold : Hold [(a, l), (some ⟨B, 0, none⟩, d1), (a3, l3), (some ⟨B2, 0, none⟩, d2)] w4 w4.drew := Hold.start (by simp [ga, gd, g3, hrow2])
  generalize hPs : [(a, l), (some ⟨B, 0, none⟩, d1), (a3, l3), (some ⟨B2, 0, none⟩, d2)] = Ps at *
  have m1 : (a, l) ∈ Ps := by rw [← hPs]; simp
  have m2 : (some ⟨B, 0, none⟩, d1) ∈ Ps := by rw [← hPs]; simp
  have m3 : (a3, l3) ∈ Ps := by rw [← hPs]; simp
  have m4 : (some ⟨B2, 0, none⟩, d2) ∈ Ps := by rw [← hPs]; simp
  have hc1 := fun (W : World) (h : Hold Ps w4 W) => (h.row _ _ m2).str 4 4 h41
  have hc2 := fun (W : World) (h : Hold Ps w4 W) => (h.row _ _ m4).str 4 4 h42
  clear hPs ga gd g3 hrow2
  clear hd1 hd2
  go_wp2_with fail
  go_region_held3 (fun W => Hold Ps w4 W) (first | exact hold | exact Hold.later (by assumption) hbR)
    (first
      | (go_at_call_of 10 (Value.slice a len cap); refine (Right_row a len cap l (some ⟨B, 0, none⟩) 4 4 d1 _ hl hm (Hold.row (by assumption) _ _ m1) h41 (Hold.row (by assumption) _ _ m2)).mono ?_; rw [H1.out]; rintro e w' ⟨rfl, hbR⟩)
      | (go_at_call_of 10 (Value.slice (some ⟨B2, 0, none⟩) 4 4); refine (Right_row a3 (len + 1) cap3 l3 (some ⟨B2, 0, none⟩) 4 4 d2 _ hl3 hm3 (Hold.row (by assumption) _ _ m3) h42 (Hold.row (by assumption) _ _ m4)).mono ?_; rw [H2.out]; rintro e w' ⟨rfl, hbR⟩)
      | (go_at_call 10; refine (Right_row a3 (len + 1) cap3 l3 (some ⟨B, 0, none⟩) 4 4 d1 _ hl3 hm3 (Hold.row (by assumption) _ _ m3) h41 (Hold.row (by assumption) _ _ m2)).mono ?_; rw [H2.out]; rintro e w' ⟨rfl, hbR⟩)
      | (go_at_call 11; refine (known_any _).mono ?_; rintro e w' ⟨rfl, hbR⟩))
  all_goals
    go_wp2
    go_ret
    exact ⟨rfl, below_then hb4' (Hold.below (Ps := Ps) (by assumption))⟩
end Go.Proofs.Ytkajedabcedifab
