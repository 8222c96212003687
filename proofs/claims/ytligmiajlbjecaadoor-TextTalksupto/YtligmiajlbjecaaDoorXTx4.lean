/- text: Digits. -/
import Derived.Test.YtligmiajlbjecaaDoorXTx2
import Derived.Test.YtligmiajlbjecaaDoorXTxShelf
import Derived.Lib.AppendIntMem
import Derived.Lib.QuietBelow
namespace Go.Proofs.YtligmiajlbjecaaDoor
open Go.RowKit
set_option linter.unusedVariables false
set_option linter.unusedSimpArgs false
set_option maxRecDepth 8000

/-- the library's table of powers of ten stands -/
def PowT (w : World) : Prop := Lib.TabIs Tryd.prog w "internal/strconv.uint64pow10" .u64 Lib.pow10Tab
theorem PowT.later {w w' : World} (h : PowT w) (hb : Below w.heap.size w w') : PowT w' := Lib.tabBelow_of_tabIs h w' hb
theorem below_grow2 (w : World) (k : Nat) (os : Array Obj) : Below w.heap.size w (Go.Sort.grow (w.drewN k) os) :=
  ⟨rfl, rfl, rfl, by simp [Go.Sort.grow, World.drewN], fun j hj => by simp [Go.Sort.grow, World.drewN, Array.getElem?_append, hj]⟩
/-- what Digits answers -/
def dgT (n : Int) : List UInt8 := if 0 ≤ n ∧ n ≤ 16777215 then Lib.decDigits n.toNat else []
theorem itoa_any (n : Int) (h : 0 ≤ n ∧ n ≤ 16777215) (w : World) (hT : PowT w) : Calls Tryd.prog 35 #[.int .i64 n] w fun e w' => e = .returned (.string ⟨(dgT n).toArray⟩) ∧ Below w.heap.size w w' := by
  refine (Tryd.strconv_Itoa n (by omega) (by omega) w hT).mono ?_
  rintro e w' ⟨rfl, k, os, rfl⟩
  refine ⟨?_, below_grow2 w k os⟩
  unfold dgT Lib.itoa
  rw [if_pos h, if_neg (by omega)]
set_option maxHeartbeats 2000000 in
theorem tDigits_any (n : Int) (w : World) (hT : PowT w) : Calls Tryd.prog 22 #[.int .i64 n] w fun e w' => e = .returned (.string ⟨(dgT n).toArray⟩) ∧ Below w.heap.size w w' := by
  by_cases h0 : n < 0
  · have F : Hid (dgT n = []) := (by unfold dgT; rw [if_neg (by omega)] : dgT n = [])
    clear hT
    go_enter Tryd.func22, Tryd.ntmps22
    go_wp2
    go_ret
    exact ⟨by first | (rw [F.out]; done) | (rw [F.out]; rfl), Below.refl _ _⟩
  · by_cases h1 : 16777215 < n
    · have F : Hid (dgT n = []) := (by unfold dgT; rw [if_neg (by omega)] : dgT n = [])
      clear hT
      go_enter Tryd.func22, Tryd.ntmps22
      go_wp2
      go_ret
      exact ⟨by first | (rw [F.out]; done) | (rw [F.out]; rfl), Below.refl _ _⟩
    · have HI : Hid _ := itoa_any n (by omega) w hT
      clear hT
      generalize (⟨(dgT n).toArray⟩ : ByteArray) = S at *
      go_enter Tryd.func22, Tryd.ntmps22
      go_wp2_with fail
      refine (Calls.mono HI.out) ?_
      rintro e w1 ⟨rfl, b1⟩
      have F : Hid _ := b1
      clear b1 HI
      go_wp2
      go_ret
      exact ⟨rfl, F.out⟩
end Go.Proofs.YtligmiajlbjecaaDoor

