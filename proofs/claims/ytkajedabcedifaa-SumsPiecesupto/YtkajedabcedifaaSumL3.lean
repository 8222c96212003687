/- The walk of the law on sums in pieces. -/
import Derived.Test.YtkajedabcedifaaSumW3
import Derived.Test.YtkajedabcedifaaMem
namespace Go.Proofs.Ytkajedabcedifaa
open Go.RowKit

theorem more_none (s : BitVec 32) : Crc.more s [] = s := by
  unfold Crc.more Crc.run; simp

set_option maxHeartbeats 800000 in
theorem sumsPieces_walk (a : Option Addr) (len cap : Nat) (l : List (BitVec 8)) (a1 : Option Addr) (len1 cap1 : Nat) (l1 : List (BitVec 8)) (w : World) (A : Arg 1048576 w a len cap l) (A1 : Arg 1048576 w a1 len1 cap1 l1) :
    Calls Try.prog 4 #[.slice a len cap, .slice a1 len1 cap1] w fun e w' => e = .returned (.bool true) ∧ Below w.heap.size w w' := by
  obtain ⟨hl, hle, hbd, hr, hn⟩ := A
  obtain ⟨hl1, hle1, hbd1, hr1, hn1⟩ := A1
  have hm : len ≤ maxLen := by unfold maxLen; omega
  have hm1 : len1 ≤ maxLen := by unfold maxLen; omega
  by_cases hbig : 65536 < len1
  · have hbig' : (65536 : Int) < (len1 : Int) := by omega
    go_enter Try.func4, Try.ntmps4
    go_wp2_with (go_at_call 23; refine (known_any _).mono ?_; rintro e w' ⟨rfl, hk⟩)
    go_ret
    exact ⟨rfl, by assumption⟩
  have hbig' : ¬ (65536 : Int) < (len1 : Int) := by omega
  go_enter Try.func4, Try.ntmps4
  go_wp2_with (at_builtin; refine wpList_append_bytes _ rfl _ _ rfl w.heap.size _ [] rfl (Own.nil _ _) a len cap l rfl hl hr hn hle (by simp; omega) (Nat.le_refl _) ?_)
  intro v1 w1 ho1 hg1
  have hb1 : Below w.heap.size w w1 := (Below.refl _ _).grown hg1 (Nat.le_refl _) (by simp [Value.ownBlock])
  have hr1' := hr1.later hb1
  go_wp2_with (at_builtin; refine wpList_append_bytes _ rfl _ _ rfl w.heap.size v1 l rfl ho1 a1 len1 cap1 l1 rfl hl1 hr1' hn1 hle1 (by omega) hb1.size ?_)
  intro v2 w2 ho2 hg2
  have hb2 : Below w.heap.size w w2 := hb1.grown hg2 hb1.size (own_block ho1)
  obtain ⟨a2, cap2, rfl, hle2, hm2, hr2, -, -⟩ := ho2.open
  have hra := hr.later hb2
  have hrb := hr1.later hb2
  clear hr hr1 hr1' ho1 hg1 hg2 ho2 hb1
  go_wp2_with fail
  refine (sum_any a2 (len + len1) cap2 (l ++ l1) w2 (by simp; omega) (by unfold maxLen; omega) hr2).mono ?_
  rintro e w' ⟨rfl, rfl⟩
  go_wp2_with fail
  refine (sum_any a len cap l _ hl hm hra).mono ?_
  rintro e w' ⟨rfl, rfl⟩
  go_wp2_with fail
  refine (sum_any a1 len1 cap1 l1 _ hl1 hm1 hrb).mono ?_
  rintro e w' ⟨rfl, rfl⟩
  go_wp2_with fail
  refine (join_yes _ _ len1 _ (by omega)).mono ?_
  rintro e w' ⟨rfl, rfl⟩
  rw [show Crc.join (Crc.sum l) (Crc.sum l1) len1 = Crc.sum (l ++ l1) by rw [← hl1]; exact Crc.join_sum l l1]
  go_wp2_with fail
  refine (sum_any a len cap l _ hl hm hra).mono ?_
  rintro e w' ⟨rfl, rfl⟩
  go_wp2_with fail
  refine (more_any _ a1 len1 cap1 l1 _ hl1 hm1 hrb).mono ?_
  rintro e w' ⟨rfl, rfl⟩
  rw [Crc.more_sum]
  go_wp2_with fail
  refine (more_any _ none 0 0 [] _ rfl (by decide) (.inl rfl)).mono ?_
  rintro e w' ⟨rfl, rfl⟩
  rw [more_none]
  clear hra hrb hr2
  go_wp2_with fail
  refine (known_any _).mono ?_
  rintro e w3 ⟨rfl, hk⟩
  go_wp2
  go_ret
  exact ⟨rfl, hb2.trans (hk.mono hb2.size)⟩
end Go.Proofs.Ytkajedabcedifaa
