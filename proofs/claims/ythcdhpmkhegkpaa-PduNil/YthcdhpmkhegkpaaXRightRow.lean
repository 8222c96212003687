/- Right, whatever digest is handed to it. -/
import Derived.Test.YthcdhpmkhegkpaaXSumW2
import Derived.Test.YthcdhpmkhegkpaaXMem
namespace Go.Proofs.Ythcdhpmkhegkpaa
open Go.RowKit

theorem Right_row (a : Option Addr) (len cap : Nat) (l : List (BitVec 8)) (ad : Option Addr) (dlen dcap : Nat) (d : List (BitVec 8)) (w : World) (hl : l.length = len) (hm : len ≤ maxLen) (hr : Row w a l) (hd : d.length = dlen) (hdr : Row w ad d) :
    Calls Try.prog 71 #[.slice a len cap, .slice ad dlen dcap] w fun e w' => e = .returned (.bool (decide (d = Crc.bytes4 (Crc.sum l)))) ∧ Below w.heap.size w w' := by
  by_cases h : dlen = 4
  · subst h
    rcases hdr with rfl | ⟨b, off, rfl, hc⟩
    · simp at hd
    · exact Right_yes a len cap l b off dcap d w hl hm hr hd hc
  · have e : decide (d = Crc.bytes4 (Crc.sum l)) = false := by
      rw [decide_eq_false_iff_not]
      intro h2
      rw [h2] at hd
      exact h hd.symm
    rw [e]
    exact Right_no a len cap ad dlen dcap w h

end Go.Proofs.Ythcdhpmkhegkpaa

