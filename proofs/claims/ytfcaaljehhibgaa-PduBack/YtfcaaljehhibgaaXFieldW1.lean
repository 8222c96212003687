/- Walks of the smallest functions of field. -/
import Derived.Test.YtfcaaljehhibgaaXMem
import Derived.Laws.CopyOwn
namespace Go.Proofs.Ytfcaaljehhibgaa
open Go.RowKit

/-- the eight bytes of a number, the highest first -/
def be8 (x : BitVec 64) : List (BitVec 8) :=
  [(x >>> 56).setWidth 8, (x >>> 48).setWidth 8, (x >>> 40).setWidth 8, (x >>> 32).setWidth 8, (x >>> 24).setWidth 8, (x >>> 16).setWidth 8, (x >>> 8).setWidth 8, x.setWidth 8]
/-- a number in its last size bytes -/
def be (size : Nat) (x : BitVec 64) : List (BitVec 8) := (be8 x).drop (8 - size)
theorem be_length (size : Nat) (x : BitVec 64) (h : size ≤ 8) : (be size x).length = size := by
  unfold be; rw [List.length_drop]; show 8 - (8 - size) = size; omega
def X8 (x : BitVec 64) : Array Value := #[.int .u8 ((x.toNat : Int) / 72057594037927936), .int .u8 ((x.toNat : Int) / 281474976710656 % 256), .int .u8 ((x.toNat : Int) / 1099511627776 % 256), .int .u8 ((x.toNat : Int) / 4294967296 % 256),
  .int .u8 ((x.toNat : Int) / 16777216 % 256), .int .u8 ((x.toNat : Int) / 65536 % 256), .int .u8 ((x.toNat : Int) / 256 % 256), .int .u8 ((x.toNat : Int) % 256)]
theorem X8_vals (x : BitVec 64) : (X8 x).toList = vals (be8 x) := by
  have s : ∀ k, ((x >>> k).setWidth 8).toNat = x.toNat / 2 ^ k % 256 := by
    intro k; rw [BitVec.toNat_setWidth, BitVec.toNat_ushiftRight, Nat.shiftRight_eq_div_pow]
  have h := x.isLt
  unfold X8 vals be8
  simp only [List.map_cons, List.map_nil, s, BitVec.toNat_setWidth, List.cons.injEq, Value.int.injEq, true_and, and_true]
  refine ⟨?_, ?_, ?_, ?_, ?_, ?_, ?_, ?_⟩ <;> omega

/-- from 1 to 8 -/
def widthB (n : Int) : Bool := decide (1 ≤ n ∧ n ≤ 8)
set_option maxHeartbeats 400000 in
theorem isWidth_any (n : Int) (w : World) :
    Calls Try.prog 72 #[.int .i64 n] w fun e w' => e = .returned (.bool (widthB n)) ∧ w' = w := by
  by_cases h : 1 ≤ n
  · have H : Hid (decide (n ≤ 8) = widthB n) := by show decide _ = decide _; simp [h]
    go_enter Try.func72, Try.ntmps72
    go_wp2
    go_ret
    exact ⟨ret_bool H.out, rfl⟩
  · have H : Hid (false = widthB n) := by show false = decide _; simp [h]
    go_enter Try.func72, Try.ntmps72
    go_wp2
    go_ret
    exact ⟨ret_bool H.out, rfl⟩

set_option maxHeartbeats 400000 in
theorem bytesOf_any (x : BitVec 64) (w : World) :
    Calls Try.prog 74 #[.int .u64 (x.toNat : Int)] w fun e w' => e = .returned (.agg (X8 x)) ∧ (w.alloc (.cells (X8 x) 118)).alloc (.cells (X8 x) 118) = w' := by
  go_enter Try.func74, Try.ntmps74
  go_wp2_with fail
  refine wp_loop_rounds 9 ?_
  rw [rounds_succ]; go_wp2
  rw [rounds_succ]; go_wp2
  rw [rounds_succ]; go_wp2
  rw [rounds_succ]; go_wp2
  rw [rounds_succ]; go_wp2
  rw [rounds_succ]; go_wp2
  rw [rounds_succ]; go_wp2
  rw [rounds_succ]; go_wp2
  rw [rounds_succ]; go_wp2
  exact bodyPost_ret (v := .agg (X8 x)) (by simp [results, Try.results74, go_sem, X8]) rfl ⟨rfl, rfl⟩

/-- whether a number goes into so many bytes -/
def fitsB (size : Nat) (x : BitVec 64) : Bool := decide (x.toNat / 2 ^ (8 * size) = 0)

/-- whether size bytes from at on lie in len -/
def insideB (len : Nat) (at_ size : Int) : Bool := decide ((1 ≤ size ∧ size ≤ 8) ∧ 0 ≤ at_ ∧ at_ ≤ (len : Int) - size)
set_option maxHeartbeats 400000 in
theorem inside_any (a : Option Addr) (len cap : Nat) (p size : Int) (w : World) (hlen : len ≤ 140737488355328) :
    Calls Try.prog 65 #[.slice a len cap, .int .i64 p, .int .i64 size] w fun e w' => e = .returned (.bool (insideB len p size)) ∧ w' = w := by
  by_cases h1 : 1 ≤ size ∧ size ≤ 8
  · obtain ⟨h11, h12⟩ := h1
    by_cases h2 : 0 ≤ p
    · have H : Hid (decide (p ≤ (len : Int) - size) = insideB len p size) := by show decide _ = decide _; simp [h11, h12, h2]
      have hd : widthB size = true := by unfold widthB; simp [h11, h12]
      go_enter Try.func65, Try.ntmps65
      go_wp2_with (go_at_call 72; refine (isWidth_any _ _).mono ?_; rintro e w' ⟨rfl, rfl⟩)
      go_ret
      exact ⟨ret_bool H.out, rfl⟩
    · have H : Hid (false = insideB len p size) := by show false = decide _; simp [h2]
      have hd : widthB size = true := by unfold widthB; simp [h11, h12]
      go_enter Try.func65, Try.ntmps65
      go_wp2_with (go_at_call 72; refine (isWidth_any _ _).mono ?_; rintro e w' ⟨rfl, rfl⟩)
      go_ret
      exact ⟨ret_bool H.out, rfl⟩
  · have H : Hid (false = insideB len p size) := by show false = decide _; simp [h1]
    have hd : widthB size = false := by unfold widthB; simpa using h1
    clear h1
    go_enter Try.func65, Try.ntmps65
    go_wp2_with (go_at_call 72; refine (isWidth_any _ _).mono ?_; rintro e w' ⟨rfl, rfl⟩)
    go_ret
    exact ⟨ret_bool H.out, rfl⟩

theorem eql_nil (a : Option Addr) (n c : Nat) (wx : World) : (binOp .eql 34 (.slice a n c) (.slice none 0 0)).run Try.prog wx = .ok (.bool a.isNone) wx :=
  Lib.run_eql_slice_nil (P := Try.prog) wx 34 5 a n c 0 0 Try.underlying34
theorem Own.empty (w : World) : Own (w.alloc (.cells #[] 5)) w.heap.size (.slice (some ⟨w.heap.size, 0, none⟩) 0 0) [] :=
  ⟨rfl, .inr ⟨w.heap.size, 0, #[], rfl, Nat.le_refl _, heap_new _ _ _ rfl, Nat.le_refl _, by unfold maxLen; omega, rfl, rfl⟩⟩

set_option maxHeartbeats 400000 in
theorem clone_any (a : Option Addr) (len cap : Nat) (l : List (BitVec 8)) (w : World) (hl : l.length = len) (hle : len ≤ cap) (hr : Row w a l) (hn : a = none → cap = 0) (hlen : len ≤ 140737488355328) :
    Calls Try.prog 29 #[.slice a len cap] w fun e w' => ∃ v, e = .returned v ∧ Own w' w.heap.size v l ∧ Below w.heap.size w w' := by
  have hsn := eql_nil a len cap
  cases a with
  | none =>
    have hc := hn rfl
    have h0 : len = 0 := by omega
    subst hc; subst h0
    have : l = [] := List.eq_nil_of_length_eq_zero hl
    subst this
    go_enter Try.func29, Try.ntmps29
    go_wp2
    go_ret
    exact ⟨_, rfl, Own.nil _ _, Below.refl _ _⟩
  | some x =>
    simp only [Option.isNone_some] at hsn
    have hb0 : Below w.heap.size w (w.alloc (.cells #[] 5)) := (Below.refl _ _).alloc (Nat.le_refl _) _
    have hr' := hr.later hb0
    go_enter Try.func29, Try.ntmps29
    go_wp2_with (at_builtin; refine wpList_append_bytes _ rfl _ _ rfl w.heap.size _ [] rfl (Own.empty w) (some x) len cap l rfl hl hr' (fun h => by cases h) hle (by simp; omega) (by simp) ?_)
    intro v w' ho hg
    have hb := hb0.grown hg (by simp) (own_block (Own.empty w))
    clear hsn
    go_wp2
    go_ret
    exact ⟨_, rfl, ho, hb⟩
end Go.Proofs.Ytfcaaljehhibgaa

/- Walks of Put and Get. -/
namespace Go.Proofs.Ytfcaaljehhibgaa
open Go.RowKit

theorem insideB_yes (len p size : Nat) (h1 : 1 ≤ size) (h2 : size ≤ 8) (h3 : p + size ≤ len) : insideB len (p : Int) (size : Int) = true := by
  unfold insideB; rw [decide_eq_true_eq]; omega
theorem insideB_ex {len : Nat} {p size : Int} (h : insideB len p size = true) : ∃ q s : Nat, p = q ∧ size = s ∧ 1 ≤ s ∧ s ≤ 8 ∧ q + s ≤ len := by
  unfold insideB at h; rw [decide_eq_true_eq] at h
  exact ⟨p.toNat, size.toNat, by omega, by omega, by omega, by omega, by omega⟩

theorem Own.block {w : World} {base : Nat} {v : Value} {l : List (BitVec 8)} (h : Own w base v l) (hl : 0 < l.length) :
    ∃ (g cap : Nat) (cur : List Value), v = .slice (some ⟨g, 0, none⟩) l.length cap ∧ base ≤ g ∧ g < w.heap.size ∧ w.heap[g]? = some (.cells cur.toArray 5 (0, 0)) ∧ l.length ≤ cap ∧ cap ≤ maxLen ∧ cur.length = cap ∧ cur.take l.length = vals l := by
  obtain ⟨h1, h2 | ⟨g, cap, cur, rfl, hb, hh, hc, hm, hs, ht⟩⟩ := h
  · omega
  · refine ⟨g, cap, cur.toList, rfl, hb, ?_, by simpa using hh, hc, hm, by simpa using hs, by simpa using ht⟩
    rcases Nat.lt_or_ge g w.heap.size with h | h
    · exact h
    · rw [Array.getElem?_eq_none h] at hh; cases hh
theorem Own.ofBlock {w : World} {base g cap : Nat} {l : List (BitVec 8)} {cur : List Value} (hb : base ≤ g) (hh : w.heap[g]? = some (.cells cur.toArray 5 (0, 0))) (hc : l.length ≤ cap) (hm : cap ≤ maxLen) (hs : cur.length = cap) (ht : cur.take l.length = vals l) :
    Own w base (.slice (some ⟨g, 0, none⟩) l.length cap) l :=
  ⟨by rw [vals_length]; omega, .inr ⟨g, cap, cur.toArray, rfl, hb, hh, hc, hm, by simpa using hs, by simpa using ht⟩⟩

/-- bytes with others laid over them -/
def over (l : List (BitVec 8)) (p : Nat) (b : List (BitVec 8)) : List (BitVec 8) := l.take p ++ (b ++ l.drop (p + b.length))
theorem over_length (l : List (BitVec 8)) (p : Nat) (b : List (BitVec 8)) (h : p + b.length ≤ l.length) : (over l p b).length = l.length := by
  simp [over]; omega
theorem splice_over (cur : List Value) (l : List (BitVec 8)) (p : Nat) (b : List (BitVec 8)) (ht : cur.take l.length = vals l) (h : p + b.length ≤ l.length) :
    (splice cur p (vals b)).take l.length = vals (over l p b) := by
  have e : cur = vals l ++ cur.drop l.length := by rw [← ht, List.take_append_drop]
  unfold splice over
  rw [vals_append, vals_append, vals_length]
  have h1 : cur.take p = vals (l.take p) := by
    conv => lhs; rw [e]
    rw [List.take_append_of_le_length (by rw [vals_length]; omega)]
    unfold vals; rw [List.map_take]
  have h2 : cur.drop (p + b.length) = vals (l.drop (p + b.length)) ++ cur.drop l.length := by
    conv => lhs; rw [e]
    rw [List.drop_append_of_le_length (by rw [vals_length]; omega)]
    unfold vals; rw [List.map_drop]
  rw [h1, h2, ← List.append_assoc (vals b), ← List.append_assoc]
  exact List.take_left' (by simp [vals_length]; omega)



theorem X8_lit (x : BitVec 64) : ∃ b0 b1 b2 b3 b4 b5 b6 b7 : Int, X8 x = #[.int .u8 b0, .int .u8 b1, .int .u8 b2, .int .u8 b3, .int .u8 b4, .int .u8 b5, .int .u8 b6, .int .u8 b7] ∧ vals (be8 x) = [.int .u8 b0, .int .u8 b1, .int .u8 b2, .int .u8 b3, .int .u8 b4, .int .u8 b5, .int .u8 b6, .int .u8 b7] :=
  ⟨_, _, _, _, _, _, _, _, rfl, by rw [← X8_vals]; rfl⟩

theorem size_u8 : (Try.prog.info? 5).map (·.size) = some 1 := by kernel_rfl
theorem slice8_1 (B : Nat) (W : World) : (Instr.sliceAt 118 (.pointer (some ⟨B, 0, none⟩)) (some (.int .i64 7)) none none).run Try.prog W = .ok (.slice (some ⟨B, 7, none⟩) 1 1) W := by kernel_rfl
theorem slice8_2 (B : Nat) (W : World) : (Instr.sliceAt 118 (.pointer (some ⟨B, 0, none⟩)) (some (.int .i64 6)) none none).run Try.prog W = .ok (.slice (some ⟨B, 6, none⟩) 2 2) W := by kernel_rfl
theorem slice8_3 (B : Nat) (W : World) : (Instr.sliceAt 118 (.pointer (some ⟨B, 0, none⟩)) (some (.int .i64 5)) none none).run Try.prog W = .ok (.slice (some ⟨B, 5, none⟩) 3 3) W := by kernel_rfl
theorem slice8_4 (B : Nat) (W : World) : (Instr.sliceAt 118 (.pointer (some ⟨B, 0, none⟩)) (some (.int .i64 4)) none none).run Try.prog W = .ok (.slice (some ⟨B, 4, none⟩) 4 4) W := by kernel_rfl
theorem slice8_5 (B : Nat) (W : World) : (Instr.sliceAt 118 (.pointer (some ⟨B, 0, none⟩)) (some (.int .i64 3)) none none).run Try.prog W = .ok (.slice (some ⟨B, 3, none⟩) 5 5) W := by kernel_rfl
theorem slice8_6 (B : Nat) (W : World) : (Instr.sliceAt 118 (.pointer (some ⟨B, 0, none⟩)) (some (.int .i64 2)) none none).run Try.prog W = .ok (.slice (some ⟨B, 2, none⟩) 6 6) W := by kernel_rfl
theorem slice8_7 (B : Nat) (W : World) : (Instr.sliceAt 118 (.pointer (some ⟨B, 0, none⟩)) (some (.int .i64 1)) none none).run Try.prog W = .ok (.slice (some ⟨B, 1, none⟩) 7 7) W := by kernel_rfl
theorem slice8_8 (B : Nat) (W : World) : (Instr.sliceAt 118 (.pointer (some ⟨B, 0, none⟩)) (some (.int .i64 0)) none none).run Try.prog W = .ok (.slice (some ⟨B, 0, none⟩) 8 8) W := by kernel_rfl
theorem slice8 (B size : Nat) (h1 : 1 ≤ size) (h2 : size ≤ 8) (W : World) : (Instr.sliceAt 118 (.pointer (some ⟨B, 0, none⟩)) (some (.int .i64 (8 - (size : Int)))) none none).run Try.prog W = .ok (.slice (some ⟨B, 8 - size, none⟩) size size) W := by
  match size, h1, h2 with
  | 1, _, _ => exact slice8_1 B W
  | 2, _, _ => exact slice8_2 B W
  | 3, _, _ => exact slice8_3 B W
  | 4, _, _ => exact slice8_4 B W
  | 5, _, _ => exact slice8_5 B W
  | 6, _, _ => exact slice8_6 B W
  | 7, _, _ => exact slice8_7 B W
  | 8, _, _ => exact slice8_8 B W


/-- bytes as a number, the highest first -/
def num (l : List (BitVec 8)) : BitVec 64 := l.foldl (fun n c => (n <<< 8) ||| c.setWidth 64) 0#64
/-- the number of the first k bytes from p on -/
def numTo (l : List (BitVec 8)) (p k : Nat) : BitVec 64 := num ((l.drop p).take k)
theorem numTo_step (l : List (BitVec 8)) (p k : Nat) (h : p + k < l.length) : numTo l p (k + 1) = ((numTo l p k) <<< 8) ||| (l.getD (p + k) 0#8).setWidth 64 := by
  unfold numTo num
  have h1 : k < (l.drop p).length := by simp; omega
  rw [List.take_succ_eq_append_getElem h1, List.foldl_append]
  simp [List.getD, h]

theorem or64 (x y : BitVec 64) : bits .or .u64 (x.toNat : Int) (y.toNat : Int) = ((x ||| y).toNat : Int) := by
  rw [u64_or_nat _ _ x.isLt y.isLt, BitVec.toNat_or]

theorem num_val (n : BitVec 64) (l : List (BitVec 8)) (j : Nat) : bits .or .u64 (IntKind.u64.wrap ((n.toNat : Int) * 256)) (bt l j) = (((n <<< 8) ||| (l.getD j 0#8).setWidth 64).toNat : Int) := by
  have e1 : IntKind.u64.wrap ((n.toNat : Int) * 256) = ((n <<< 8).toNat : Int) := by
    rw [IntKind.wrap_u64, BitVec.toNat_shiftLeft, Nat.shiftLeft_eq]; omega
  have e2 : bt l j = (((l.getD j 0#8).setWidth 64).toNat : Int) := by
    have := (l.getD j 0#8).isLt
    unfold bt; rw [BitVec.toNat_setWidth, Nat.mod_eq_of_lt (by omega)]
  rw [e1, e2, or64]

set_option maxHeartbeats 400000 in
theorem numberAt_any (b off len cap : Nat) (l : List (BitVec 8)) (p size : Nat) (w : World) (hl : l.length = len) (hlen : len ≤ 140737488355328) (hc : ∀ i, i < l.length → w.cell? ⟨b, off + i, none⟩ = some (.int .u8 (bt l i))) (h2 : size ≤ 8) (h3 : p + size ≤ len) :
    Calls Try.prog 64 #[.slice (some ⟨b, off, none⟩) len cap, .int .i64 p, .int .i64 size] w fun e w' => e = .returned (.int .u64 ((numTo l p size).toNat : Int)) ∧ w' = w := by
  go_enter Try.func64, Try.ntmps64
  go_wp2_with fail
  go_loop [7, 10] (fun n i => ∃ k : Nat, k ≤ size ∧ i = .int .i64 k ∧ n = .int .u64 ((numTo l p k).toNat : Int)) (fun _ i => size - (intOf i).toNat)
  case atStart => exact ⟨0, by omega, rfl, rfl⟩
  case round =>
    obtain ⟨k, hk, rfl, rfl⟩ := hrel
    by_cases hlt : k < size
    · have hck := hc (p + k) (by omega)
      have hbd := bt_bd l (p + k)
      have q1 : (p : Int) + (k : Int) < (len : Int) := by omega
      go_wp2
      go_round
      case rel => exact ⟨k + 1, by omega, by go_num, val_int (by rw [numTo_step l p k (by omega)]; exact num_val _ l _)⟩
      case measure => simp [intOf]; omega
    · have : k = size := by omega
      subst this
      go_wp2
      go_ret
      exact ⟨rfl, rfl⟩

set_option maxHeartbeats 400000 in
theorem Get_no (a : Option Addr) (len cap : Nat) (p size : Int) (w : World) (hlen : len ≤ 140737488355328) (h : insideB len p size = false) :
    Calls Try.prog 49 #[.slice a len cap, .int .i64 p, .int .i64 size] w fun e w' => e = .returned (.tuple #[.int .u64 0, .int .i64 1]) ∧ w' = w := by
  go_enter Try.func49, Try.ntmps49
  go_wp2_with (go_at_call 65; refine (inside_any _ _ _ _ _ _ hlen).mono ?_; rintro e w' ⟨rfl, rfl⟩)
  go_ret2
  exact ⟨rfl, rfl⟩
set_option maxHeartbeats 400000 in
theorem Get_yes (a : Option Addr) (len cap : Nat) (l : List (BitVec 8)) (p size : Nat) (w : World) (hl : l.length = len) (hlen : len ≤ 140737488355328) (hr : Row w a l) (h1 : 1 ≤ size) (h2 : size ≤ 8) (h3 : p + size ≤ len) :
    Calls Try.prog 49 #[.slice a len cap, .int .i64 p, .int .i64 size] w fun e w' => e = .returned (.tuple #[.int .u64 ((numTo l p size).toNat : Int), .int .i64 0]) ∧ w' = w := by
  rcases hr with rfl | ⟨b, off, rfl, hc⟩
  · simp at hl; omega
  have hi := insideB_yes len p size h1 h2 h3
  go_enter Try.func49, Try.ntmps49
  go_wp2_with (first | (go_at_call 65; refine (inside_any _ _ _ _ _ _ hlen).mono ?_; rintro e w' ⟨rfl, rfl⟩) | (go_at_call 64; refine (numberAt_any b off len cap l p size _ hl hlen hc h2 h3).mono ?_; rintro e w' ⟨rfl, rfl⟩))
  go_ret2
  exact ⟨rfl, rfl⟩
end Go.Proofs.Ytfcaaljehhibgaa
