/- Walks of the document's answer for field. -/
import Derived.Test.YtfiidcfpkodlpaaXFieldS
import Derived.Test.YtfiidcfpkodlpaaXAid
namespace Go.Proofs.Ytfiidcfpkodlpaa
open Go.RowKit

theorem fits_val (n : Nat) (h : n < 8) (x : BitVec 64) : decide ((x.toNat : Int) < IntKind.u64.wrap (2 ^ (8 * n))) = fitsB n x := by
  unfold fitsB
  rw [decide_eq_decide]
  match n, h with
  | 0, _ | 1, _ | 2, _ | 3, _ | 4, _ | 5, _ | 6, _ | 7, _ => rw [IntKind.wrap_u64]; omega



theorem be8_at (x : BitVec 64) (j : Nat) (h : j < 8) : (be8 x).getD j 0#8 = (x >>> (8 * (7 - j))).setWidth 8 := by
  match j, h with
  | 0, _ | 1, _ | 2, _ | 3, _ | 4, _ | 5, _ | 6, _ | 7, _ => simp [be8]
theorem be_at (x : BitVec 64) (size k : Nat) (h : size ≤ 8) (hk : k < size) : (be size x).getD k 0#8 = (x >>> (8 * (size - 1 - k))).setWidth 8 := by
  have e : (be size x).getD k 0#8 = (be8 x).getD (8 - size + k) 0#8 := by
    unfold be; rw [List.getD, List.getD, List.getElem?_drop]
  rw [e, be8_at x _ (by omega)]
  congr 2
  omega
theorem be_val (x : BitVec 64) (size k : Nat) (h : size ≤ 8) (hk : k < size) : (x.toNat : Int) / 2 ^ (8 * (size - 1 - k)) % 256 = (((be size x).getD k 0#8).toNat : Int) := by
  rw [be_at x size k h hk, BitVec.toNat_setWidth, BitVec.toNat_ushiftRight, Nat.shiftRight_eq_div_pow, Int.natCast_emod, Int.natCast_ediv]
  simp
theorem vals_set (l : List (BitVec 8)) (i : Nat) (c : BitVec 8) : (vals l).set i (.int .u8 (c.toNat : Int)) = vals (l.set i c) := by
  unfold vals; rw [List.map_set]
theorem over_get (l : List (BitVec 8)) (p : Nat) (b : List (BitVec 8)) (h : p + b.length ≤ l.length) (i : Nat) :
    (over l p b)[i]? = if i < p then l[i]? else if i < p + b.length then b[i - p]? else l[i]? := by
  have hp : (l.take p).length = p := by simp; omega
  unfold over
  by_cases h1 : i < p
  · rw [if_pos h1, List.getElem?_append_left (by omega), List.getElem?_take, if_pos h1]
  · rw [if_neg h1, List.getElem?_append_right (by omega), hp]
    by_cases h2 : i < p + b.length
    · rw [if_pos h2, List.getElem?_append_left (by omega)]
    · rw [if_neg h2, List.getElem?_append_right (by omega), List.getElem?_drop]
      congr 1
      omega
theorem over_set (l : List (BitVec 8)) (p k : Nat) (b : List (BitVec 8)) (h : p + b.length ≤ l.length) (hk : k < b.length) : (over l p (b.take k)).set (p + k) (b.getD k 0#8) = over l p (b.take (k + 1)) := by
  have b1 : (b.take k).length = k := by simp; omega
  have b2 : (b.take (k + 1)).length = k + 1 := by simp; omega
  apply List.ext_getElem?
  intro i
  rw [List.getElem?_set, over_get l p _ (by omega), over_get l p _ (by omega), b1, b2, over_length _ _ _ (by omega)]
  by_cases hik : p + k = i
  · subst hik
    rw [if_pos rfl, if_pos (by omega), if_neg (by omega), if_pos (by omega), List.getElem?_take, if_pos (by omega)]
    have : p + k - p = k := by omega
    rw [this, List.getD, List.getElem?_eq_getElem hk]; rfl
  · rw [if_neg hik]
    by_cases h1 : i < p
    · rw [if_pos h1, if_pos h1]
    · rw [if_neg h1, if_neg h1]
      by_cases h2 : i < p + k
      · rw [if_pos h2, if_pos (by omega), List.getElem?_take, List.getElem?_take, if_pos (by omega), if_pos (by omega)]
      · rw [if_neg h2, if_neg (by omega)]





end Go.Proofs.Ytfiidcfpkodlpaa

