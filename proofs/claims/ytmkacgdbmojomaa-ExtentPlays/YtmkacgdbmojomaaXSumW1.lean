/- Walks of the smallest functions of sums and of the verifier's own. -/
import Derived.Test.YtmkacgdbmojomaaRows
import Derived.Test.YtmkacgdbmojomaaXBits
import Derived.WalkKit
import Derived.WalkSpells
import Derived.WalkLawsBesides
namespace Go.Proofs.Ytmkacgdbmojomaa
open Go.RowKit


/-- how many bytes are missing to a multiple of four -/
def padOf (n : Int) : Int := if n < 0 then 0 else (4 - n % 4) % 4
theorem padOf_neg {n : Int} (h : n < 0) : padOf n = 0 := by unfold padOf; rw [if_pos h]
theorem padOf_pos {n : Int} (h : ¬ n < 0) : padOf n = (4 - n % 4) % 4 := by unfold padOf; rw [if_neg h]


/-- byte k of bytes, as a number -/
def bt (l : List (BitVec 8)) (k : Nat) : Int := ((l.getD k 0#8).toNat : Int)
theorem bt_bd (l : List (BitVec 8)) (k : Nat) : 0 ≤ bt l k ∧ bt l k ≤ 255 := by
  unfold bt; have := (l.getD k 0#8).isLt; omega

/-- bytes that lie in a row of memory -/
def Row (w : World) (a : Option Addr) (l : List (BitVec 8)) : Prop :=
  l = [] ∨ ∃ b off, a = some ⟨b, off, none⟩ ∧ ∀ i, i < l.length → w.cell? ⟨b, off + i, none⟩ = some (.int .u8 (bt l i))

theorem not32 (x : BitVec 32) : bits .xor .u32 IntKind.u32.max (x.toNat : Int) = ((~~~ x).toNat : Int) := by
  have : IntKind.u32.max = (((BitVec.allOnes 32)).toNat : Int) := by decide
  rw [this, xor32, BitVec.allOnes_xor]
/-- the register behind k bytes -/
def cur (x : BitVec 32) (l : List (BitVec 8)) (k : Nat) : BitVec 32 := Crc.run (~~~ x) (l.take k)
/-- the register behind k bytes and j bits of the next one -/
def mid (x : BitVec 32) (l : List (BitVec 8)) (k j : Nat) : BitVec 32 := Crc.Sn j (cur x l k ^^^ Crc.low (l.getD k 0#8))
theorem cur_0 (x : BitVec 32) (l : List (BitVec 8)) : bits .xor .u32 IntKind.u32.max (x.toNat : Int) = ((cur x l 0).toNat : Int) := by
  rw [not32]; rfl
theorem cur_end (x : BitVec 32) (l : List (BitVec 8)) (k : Nat) (h : l.length ≤ k) : bits .xor .u32 IntKind.u32.max ((cur x l k).toNat : Int) = ((Crc.more x l).toNat : Int) := by
  rw [not32]; unfold cur Crc.more; rw [List.take_of_length_le h]
theorem mid_0 (x : BitVec 32) (l : List (BitVec 8)) (k : Nat) : bits .xor .u32 ((cur x l k).toNat : Int) (bt l k) = ((mid x l k 0).toNat : Int) := by
  have h := (l.getD k 0#8).isLt
  have : bt l k = ((Crc.low (l.getD k 0#8)).toNat : Int) := by
    unfold bt Crc.low; rw [BitVec.toNat_setWidth, Nat.mod_eq_of_lt (by omega)]
  rw [this, xor32]; rfl
theorem mid_8 (x : BitVec 32) (l : List (BitVec 8)) (k : Nat) (h : k < l.length) : mid x l k 8 = cur x l (k + 1) := by
  unfold mid cur
  rw [List.take_succ_eq_append_getElem h, Crc.run_snoc]; simp [List.getD, h, Crc.step]
theorem val_int {k : IntKind} {a b : Int} (h : a = b) : Value.int k a = .int k b := by rw [h]



end Go.Proofs.Ytmkacgdbmojomaa

