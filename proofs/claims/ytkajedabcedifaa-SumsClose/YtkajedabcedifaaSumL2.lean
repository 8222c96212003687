/- The walk of the law on closed digests. -/
import Derived.Test.YtkajedabcedifaaSumW2
import Derived.Test.YtkajedabcedifaaWrap
namespace Go.Proofs.Ytkajedabcedifaa
open Go.RowKit

set_option maxHeartbeats 400000 in
theorem sumsClose_walk (a : Option Addr) (len cap : Nat) (l : List (BitVec 8)) (w : World) (A : Arg 140737488351232 w a len cap l) :
    Calls Try.prog 6 #[.slice a len cap] w fun e w' => e = .returned (.bool true) ∧ Below w.heap.size w w' := by
  have hm : len ≤ maxLen := by have := A.le; have := A.bound; unfold maxLen; omega
  have hl := A.len_eq
  have hr := A.row
  clear A
  go_enter Try.func6, Try.ntmps6
  go_wp2_with fail
  refine (sum_any a len cap l _ hl hm hr).mono ?_
  rintro e w' ⟨rfl, rfl⟩
  go_wp2_with fail
  refine (Digest_row a len cap l _ hl hm hr).mono ?_
  rintro e w1 ⟨B, rfl, hB, hB', hb, hrow, -⟩
  go_wp2_with fail
  refine (more_any _ _ 4 4 _ w1 rfl (by decide) hrow).mono ?_
  rintro e w2 ⟨rfl, rfl⟩
  rw [Crc.close]
  clear hrow hr
  go_wp2_with fail
  refine (known_any _).mono ?_
  rintro e w3 ⟨rfl, hk⟩
  go_wp2
  go_ret
  exact ⟨rfl, hb.trans (hk.mono hb.size)⟩
end Go.Proofs.Ytkajedabcedifaa
