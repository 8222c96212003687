/- Walks of the document's answer for field. -/
import Derived.Test.YthcdhpmkhegkpaaXFieldK
import Derived.Test.YthcdhpmkhegkpaaXAid
namespace Go.Proofs.Ythcdhpmkhegkpaa
open Go.RowKit

theorem fits_val (n : Nat) (h : n < 8) (x : BitVec 64) : decide ((x.toNat : Int) < IntKind.u64.wrap (2 ^ (8 * n))) = fitsB n x := by
  unfold fitsB
  rw [decide_eq_decide]
  match n, h with
  | 0, _ | 1, _ | 2, _ | 3, _ | 4, _ | 5, _ | 6, _ | 7, _ => rw [IntKind.wrap_u64]; omega


set_option maxHeartbeats 400000 in
theorem rGet_yes (b off len cap : Nat) (l : List (BitVec 8)) (p size : Nat) (w : World) (hl : l.length = len) (hlen : len ≤ 140737488355328) (hc : ∀ i, i < l.length → w.cell? ⟨b, off + i, none⟩ = some (.int .u8 (bt l i))) (h1 : 1 ≤ size) (h2 : size ≤ 8) (h3 : p + size ≤ len) :
    Calls Try.prog 64 #[.slice (some ⟨b, off, none⟩) len cap, .int .i64 p, .int .i64 size] w fun e w' => e = .returned (.tuple #[.int .u64 ((numTo l p size).toNat : Int), .int .i64 0]) ∧ w = w' := by
  have t1 : ¬ (size : Int) < 1 := by omega
  have t2 : ¬ (8 : Int) < (size : Int) := by omega
  have t3 : ¬ (p : Int) < 0 := by omega
  have t4 : ¬ (len : Int) - (size : Int) < (p : Int) := by omega
  go_enter Try.func64, Try.ntmps64
  go_wp2_with fail
  go_loop [8, 9] (fun n i => ∃ k : Nat, k ≤ size ∧ i = .int .i64 k ∧ n = .int .u64 ((numTo l p k).toNat : Int)) (fun _ i => size - (intOf i).toNat)
  case atStart => exact ⟨0, by omega, rfl, rfl⟩
  case round =>
    obtain ⟨k, hk, rfl, rfl⟩ := hrel
    by_cases hlt : k < size
    · have hck := hc (p + k) (by omega)
      have hbd := bt_bd l (p + k)
      have q1 : (p : Int) + (k : Int) < (len : Int) := by omega
      go_wp2
      go_round
      case rel => exact ⟨k + 1, by omega, by go_num, val_int (by rw [numTo_step l p k (by omega)]; exact num_val _ l _)⟩
      case measure => simp [intOf]; omega
    · have : k = size := by omega
      subst this
      go_wp2
      go_ret2
      exact ⟨rfl, rfl⟩

theorem be8_at (x : BitVec 64) (j : Nat) (h : j < 8) : (be8 x).getD j 0#8 = (x >>> (8 * (7 - j))).setWidth 8 := by
  match j, h with
  | 0, _ | 1, _ | 2, _ | 3, _ | 4, _ | 5, _ | 6, _ | 7, _ => simp [be8]
theorem be_at (x : BitVec 64) (size k : Nat) (h : size ≤ 8) (hk : k < size) : (be size x).getD k 0#8 = (x >>> (8 * (size - 1 - k))).setWidth 8 := by
  have e : (be size x).getD k 0#8 = (be8 x).getD (8 - size + k) 0#8 := by
    unfold be; rw [List.getD, List.getD, List.getElem?_drop]
  rw [e, be8_at x _ (by omega)]
  congr 2
  omega
theorem be_val (x : BitVec 64) (size k : Nat) (h : size ≤ 8) (hk : k < size) : (x.toNat : Int) / 2 ^ (8 * (size - 1 - k)) % 256 = (((be size x).getD k 0#8).toNat : Int) := by
  rw [be_at x size k h hk, BitVec.toNat_setWidth, BitVec.toNat_ushiftRight, Nat.shiftRight_eq_div_pow, Int.natCast_emod, Int.natCast_ediv]
  simp
theorem vals_set (l : List (BitVec 8)) (i : Nat) (c : BitVec 8) : (vals l).set i (.int .u8 (c.toNat : Int)) = vals (l.set i c) := by
  unfold vals; rw [List.map_set]
theorem over_get (l : List (BitVec 8)) (p : Nat) (b : List (BitVec 8)) (h : p + b.length ≤ l.length) (i : Nat) :
    (over l p b)[i]? = if i < p then l[i]? else if i < p + b.length then b[i - p]? else l[i]? := by
  have hp : (l.take p).length = p := by simp; omega
  unfold over
  by_cases h1 : i < p
  · rw [if_pos h1, List.getElem?_append_left (by omega), List.getElem?_take, if_pos h1]
  · rw [if_neg h1, List.getElem?_append_right (by omega), hp]
    by_cases h2 : i < p + b.length
    · rw [if_pos h2, List.getElem?_append_left (by omega)]
    · rw [if_neg h2, List.getElem?_append_right (by omega), List.getElem?_drop]
      congr 1
      omega
theorem over_set (l : List (BitVec 8)) (p k : Nat) (b : List (BitVec 8)) (h : p + b.length ≤ l.length) (hk : k < b.length) : (over l p (b.take k)).set (p + k) (b.getD k 0#8) = over l p (b.take (k + 1)) := by
  have b1 : (b.take k).length = k := by simp; omega
  have b2 : (b.take (k + 1)).length = k + 1 := by simp; omega
  apply List.ext_getElem?
  intro i
  rw [List.getElem?_set, over_get l p _ (by omega), over_get l p _ (by omega), b1, b2, over_length _ _ _ (by omega)]
  by_cases hik : p + k = i
  · subst hik
    rw [if_pos rfl, if_pos (by omega), if_neg (by omega), if_pos (by omega), List.getElem?_take, if_pos (by omega)]
    have : p + k - p = k := by omega
    rw [this, List.getD, List.getElem?_eq_getElem hk]; rfl
  · rw [if_neg hik]
    by_cases h1 : i < p
    · rw [if_pos h1, if_pos h1]
    · rw [if_neg h1, if_neg h1]
      by_cases h2 : i < p + k
      · rw [if_pos h2, if_pos (by omega), List.getElem?_take, List.getElem?_take, if_pos (by omega), if_pos (by omega)]
      · rw [if_neg h2, if_neg (by omega)]


set_option maxHeartbeats 400000 in
theorem rGet_no (a : Option Addr) (len cap : Nat) (p size : Int) (w : World) (hlen : len ≤ 140737488355328) (h : insideB len p size = false) :
    Calls Try.prog 64 #[.slice a len cap, .int .i64 p, .int .i64 size] w fun e w' => e = .returned (.tuple #[.int .u64 0, .int .i64 1]) ∧ w = w' := by
  unfold insideB at h
  rw [decide_eq_false_iff_not] at h
  by_cases g1 : size < 1
  · clear h
    go_enter Try.func64, Try.ntmps64
    go_wp2
    go_ret2
    exact ⟨rfl, rfl⟩
  by_cases g2 : 8 < size
  · clear h
    go_enter Try.func64, Try.ntmps64
    go_wp2
    go_ret2
    exact ⟨rfl, rfl⟩
  by_cases g3 : p < 0
  · clear h
    go_enter Try.func64, Try.ntmps64
    go_wp2
    go_ret2
    exact ⟨rfl, rfl⟩
  · have g4 : (len : Int) - size < p := by omega
    clear h
    go_enter Try.func64, Try.ntmps64
    go_wp2
    go_ret2
    exact ⟨rfl, rfl⟩



end Go.Proofs.Ythcdhpmkhegkpaa

