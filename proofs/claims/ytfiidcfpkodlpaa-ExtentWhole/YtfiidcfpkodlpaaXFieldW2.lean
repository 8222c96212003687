/- Walks of Put and Get. -/
import Derived.Test.YtfiidcfpkodlpaaXFieldW1
namespace Go.Proofs.Ytfiidcfpkodlpaa
open Go.RowKit

theorem insideB_yes (len p size : Nat) (h1 : 1 ≤ size) (h2 : size ≤ 8) (h3 : p + size ≤ len) : insideB len (p : Int) (size : Int) = true := by
  unfold insideB; rw [decide_eq_true_eq]; omega
theorem insideB_ex {len : Nat} {p size : Int} (h : insideB len p size = true) : ∃ q s : Nat, p = q ∧ size = s ∧ 1 ≤ s ∧ s ≤ 8 ∧ q + s ≤ len := by
  unfold insideB at h; rw [decide_eq_true_eq] at h
  exact ⟨p.toNat, size.toNat, by omega, by omega, by omega, by omega, by omega⟩

theorem Own.block {w : World} {base : Nat} {v : Value} {l : List (BitVec 8)} (h : Own w base v l) (hl : 0 < l.length) :
    ∃ (g cap : Nat) (cur : List Value), v = .slice (some ⟨g, 0, none⟩) l.length cap ∧ base ≤ g ∧ g < w.heap.size ∧ w.heap[g]? = some (.cells cur.toArray 5 (0, 0)) ∧ l.length ≤ cap ∧ cap ≤ maxLen ∧ cur.length = cap ∧ cur.take l.length = vals l := by
  obtain ⟨h1, h2 | ⟨g, cap, cur, rfl, hb, hh, hc, hm, hs, ht⟩⟩ := h
  · omega
  · refine ⟨g, cap, cur.toList, rfl, hb, ?_, by simpa using hh, hc, hm, by simpa using hs, by simpa using ht⟩
    rcases Nat.lt_or_ge g w.heap.size with h | h
    · exact h
    · rw [Array.getElem?_eq_none h] at hh; cases hh
theorem Own.ofBlock {w : World} {base g cap : Nat} {l : List (BitVec 8)} {cur : List Value} (hb : base ≤ g) (hh : w.heap[g]? = some (.cells cur.toArray 5 (0, 0))) (hc : l.length ≤ cap) (hm : cap ≤ maxLen) (hs : cur.length = cap) (ht : cur.take l.length = vals l) :
    Own w base (.slice (some ⟨g, 0, none⟩) l.length cap) l :=
  ⟨by rw [vals_length]; omega, .inr ⟨g, cap, cur.toArray, rfl, hb, hh, hc, hm, by simpa using hs, by simpa using ht⟩⟩

/-- bytes with others laid over them -/
def over (l : List (BitVec 8)) (p : Nat) (b : List (BitVec 8)) : List (BitVec 8) := l.take p ++ (b ++ l.drop (p + b.length))
theorem over_length (l : List (BitVec 8)) (p : Nat) (b : List (BitVec 8)) (h : p + b.length ≤ l.length) : (over l p b).length = l.length := by
  simp [over]; omega
theorem splice_over (cur : List Value) (l : List (BitVec 8)) (p : Nat) (b : List (BitVec 8)) (ht : cur.take l.length = vals l) (h : p + b.length ≤ l.length) :
    (splice cur p (vals b)).take l.length = vals (over l p b) := by
  have e : cur = vals l ++ cur.drop l.length := by rw [← ht, List.take_append_drop]
  unfold splice over
  rw [vals_append, vals_append, vals_length]
  have h1 : cur.take p = vals (l.take p) := by
    conv => lhs; rw [e]
    rw [List.take_append_of_le_length (by rw [vals_length]; omega)]
    unfold vals; rw [List.map_take]
  have h2 : cur.drop (p + b.length) = vals (l.drop (p + b.length)) ++ cur.drop l.length := by
    conv => lhs; rw [e]
    rw [List.drop_append_of_le_length (by rw [vals_length]; omega)]
    unfold vals; rw [List.map_drop]
  rw [h1, h2, ← List.append_assoc (vals b), ← List.append_assoc]
  exact List.take_left' (by simp [vals_length]; omega)



theorem X8_lit (x : BitVec 64) : ∃ b0 b1 b2 b3 b4 b5 b6 b7 : Int, X8 x = #[.int .u8 b0, .int .u8 b1, .int .u8 b2, .int .u8 b3, .int .u8 b4, .int .u8 b5, .int .u8 b6, .int .u8 b7] ∧ vals (be8 x) = [.int .u8 b0, .int .u8 b1, .int .u8 b2, .int .u8 b3, .int .u8 b4, .int .u8 b5, .int .u8 b6, .int .u8 b7] :=
  ⟨_, _, _, _, _, _, _, _, rfl, by rw [← X8_vals]; rfl⟩

theorem size_u8 : (Try.prog.info? 5).map (·.size) = some 1 := by kernel_rfl
theorem slice8_1 (B : Nat) (W : World) : (Instr.sliceAt 92 (.pointer (some ⟨B, 0, none⟩)) (some (.int .i64 7)) none none).run Try.prog W = .ok (.slice (some ⟨B, 7, none⟩) 1 1) W := by kernel_rfl
theorem slice8_2 (B : Nat) (W : World) : (Instr.sliceAt 92 (.pointer (some ⟨B, 0, none⟩)) (some (.int .i64 6)) none none).run Try.prog W = .ok (.slice (some ⟨B, 6, none⟩) 2 2) W := by kernel_rfl
theorem slice8_3 (B : Nat) (W : World) : (Instr.sliceAt 92 (.pointer (some ⟨B, 0, none⟩)) (some (.int .i64 5)) none none).run Try.prog W = .ok (.slice (some ⟨B, 5, none⟩) 3 3) W := by kernel_rfl
theorem slice8_4 (B : Nat) (W : World) : (Instr.sliceAt 92 (.pointer (some ⟨B, 0, none⟩)) (some (.int .i64 4)) none none).run Try.prog W = .ok (.slice (some ⟨B, 4, none⟩) 4 4) W := by kernel_rfl
theorem slice8_5 (B : Nat) (W : World) : (Instr.sliceAt 92 (.pointer (some ⟨B, 0, none⟩)) (some (.int .i64 3)) none none).run Try.prog W = .ok (.slice (some ⟨B, 3, none⟩) 5 5) W := by kernel_rfl
theorem slice8_6 (B : Nat) (W : World) : (Instr.sliceAt 92 (.pointer (some ⟨B, 0, none⟩)) (some (.int .i64 2)) none none).run Try.prog W = .ok (.slice (some ⟨B, 2, none⟩) 6 6) W := by kernel_rfl
theorem slice8_7 (B : Nat) (W : World) : (Instr.sliceAt 92 (.pointer (some ⟨B, 0, none⟩)) (some (.int .i64 1)) none none).run Try.prog W = .ok (.slice (some ⟨B, 1, none⟩) 7 7) W := by kernel_rfl
theorem slice8_8 (B : Nat) (W : World) : (Instr.sliceAt 92 (.pointer (some ⟨B, 0, none⟩)) (some (.int .i64 0)) none none).run Try.prog W = .ok (.slice (some ⟨B, 0, none⟩) 8 8) W := by kernel_rfl
theorem slice8 (B size : Nat) (h1 : 1 ≤ size) (h2 : size ≤ 8) (W : World) : (Instr.sliceAt 92 (.pointer (some ⟨B, 0, none⟩)) (some (.int .i64 (8 - (size : Int)))) none none).run Try.prog W = .ok (.slice (some ⟨B, 8 - size, none⟩) size size) W := by
  match size, h1, h2 with
  | 1, _, _ => exact slice8_1 B W
  | 2, _, _ => exact slice8_2 B W
  | 3, _, _ => exact slice8_3 B W
  | 4, _, _ => exact slice8_4 B W
  | 5, _, _ => exact slice8_5 B W
  | 6, _, _ => exact slice8_6 B W
  | 7, _, _ => exact slice8_7 B W
  | 8, _, _ => exact slice8_8 B W


/-- bytes as a number, the highest first -/
def num (l : List (BitVec 8)) : BitVec 64 := l.foldl (fun n c => (n <<< 8) ||| c.setWidth 64) 0#64
/-- the number of the first k bytes from p on -/
def numTo (l : List (BitVec 8)) (p k : Nat) : BitVec 64 := num ((l.drop p).take k)
theorem numTo_step (l : List (BitVec 8)) (p k : Nat) (h : p + k < l.length) : numTo l p (k + 1) = ((numTo l p k) <<< 8) ||| (l.getD (p + k) 0#8).setWidth 64 := by
  unfold numTo num
  have h1 : k < (l.drop p).length := by simp; omega
  rw [List.take_succ_eq_append_getElem h1, List.foldl_append]
  simp [List.getD, h]

theorem or64 (x y : BitVec 64) : bits .or .u64 (x.toNat : Int) (y.toNat : Int) = ((x ||| y).toNat : Int) := by
  rw [u64_or_nat _ _ x.isLt y.isLt, BitVec.toNat_or]

theorem num_val (n : BitVec 64) (l : List (BitVec 8)) (j : Nat) : bits .or .u64 (IntKind.u64.wrap ((n.toNat : Int) * 256)) (bt l j) = (((n <<< 8) ||| (l.getD j 0#8).setWidth 64).toNat : Int) := by
  have e1 : IntKind.u64.wrap ((n.toNat : Int) * 256) = ((n <<< 8).toNat : Int) := by
    rw [IntKind.wrap_u64, BitVec.toNat_shiftLeft, Nat.shiftLeft_eq]; omega
  have e2 : bt l j = (((l.getD j 0#8).setWidth 64).toNat : Int) := by
    have := (l.getD j 0#8).isLt
    unfold bt; rw [BitVec.toNat_setWidth, Nat.mod_eq_of_lt (by omega)]
  rw [e1, e2, or64]

set_option maxHeartbeats 400000 in
theorem numberAt_any (b off len cap : Nat) (l : List (BitVec 8)) (p size : Nat) (w : World) (hl : l.length = len) (hlen : len ≤ 140737488355328) (hc : ∀ i, i < l.length → w.cell? ⟨b, off + i, none⟩ = some (.int .u8 (bt l i))) (h2 : size ≤ 8) (h3 : p + size ≤ len) :
    Calls Try.prog 49 #[.slice (some ⟨b, off, none⟩) len cap, .int .i64 p, .int .i64 size] w fun e w' => e = .returned (.int .u64 ((numTo l p size).toNat : Int)) ∧ w' = w := by
  go_enter Try.func49, Try.ntmps49
  go_wp2_with fail
  go_loop [7, 10] (fun n i => ∃ k : Nat, k ≤ size ∧ i = .int .i64 k ∧ n = .int .u64 ((numTo l p k).toNat : Int)) (fun _ i => size - (intOf i).toNat)
  case atStart => exact ⟨0, by omega, rfl, rfl⟩
  case round =>
    obtain ⟨k, hk, rfl, rfl⟩ := hrel
    by_cases hlt : k < size
    · have hck := hc (p + k) (by omega)
      have hbd := bt_bd l (p + k)
      have q1 : (p : Int) + (k : Int) < (len : Int) := by omega
      go_wp2
      go_round
      case rel => exact ⟨k + 1, by omega, by go_num, val_int (by rw [numTo_step l p k (by omega)]; exact num_val _ l _)⟩
      case measure => simp [intOf]; omega
    · have : k = size := by omega
      subst this
      go_wp2
      go_ret
      exact ⟨rfl, rfl⟩

set_option maxHeartbeats 400000 in
theorem Get_no (a : Option Addr) (len cap : Nat) (p size : Int) (w : World) (hlen : len ≤ 140737488355328) (h : insideB len p size = false) :
    Calls Try.prog 42 #[.slice a len cap, .int .i64 p, .int .i64 size] w fun e w' => e = .returned (.tuple #[.int .u64 0, .int .i64 1]) ∧ w' = w := by
  go_enter Try.func42, Try.ntmps42
  go_wp2_with (go_at_call 48; refine (inside_any _ _ _ _ _ _ hlen).mono ?_; rintro e w' ⟨rfl, rfl⟩)
  go_ret2
  exact ⟨rfl, rfl⟩
set_option maxHeartbeats 400000 in
theorem Get_yes (a : Option Addr) (len cap : Nat) (l : List (BitVec 8)) (p size : Nat) (w : World) (hl : l.length = len) (hlen : len ≤ 140737488355328) (hr : Row w a l) (h1 : 1 ≤ size) (h2 : size ≤ 8) (h3 : p + size ≤ len) :
    Calls Try.prog 42 #[.slice a len cap, .int .i64 p, .int .i64 size] w fun e w' => e = .returned (.tuple #[.int .u64 ((numTo l p size).toNat : Int), .int .i64 0]) ∧ w' = w := by
  rcases hr with rfl | ⟨b, off, rfl, hc⟩
  · simp at hl; omega
  have hi := insideB_yes len p size h1 h2 h3
  go_enter Try.func42, Try.ntmps42
  go_wp2_with (first | (go_at_call 48; refine (inside_any _ _ _ _ _ _ hlen).mono ?_; rintro e w' ⟨rfl, rfl⟩) | (go_at_call 49; refine (numberAt_any b off len cap l p size _ hl hlen hc h2 h3).mono ?_; rintro e w' ⟨rfl, rfl⟩))
  go_ret2
  exact ⟨rfl, rfl⟩
end Go.Proofs.Ytfiidcfpkodlpaa

