/- Walks of the smallest functions of field. -/
import Derived.Test.YtfiidcfpkodlpaaXMem
import Derived.Laws.CopyOwn
namespace Go.Proofs.Ytfiidcfpkodlpaa
open Go.RowKit

/-- the eight bytes of a number, the highest first -/
def be8 (x : BitVec 64) : List (BitVec 8) :=
  [(x >>> 56).setWidth 8, (x >>> 48).setWidth 8, (x >>> 40).setWidth 8, (x >>> 32).setWidth 8, (x >>> 24).setWidth 8, (x >>> 16).setWidth 8, (x >>> 8).setWidth 8, x.setWidth 8]
/-- a number in its last size bytes -/
def be (size : Nat) (x : BitVec 64) : List (BitVec 8) := (be8 x).drop (8 - size)
theorem be_length (size : Nat) (x : BitVec 64) (h : size ≤ 8) : (be size x).length = size := by
  unfold be; rw [List.length_drop]; show 8 - (8 - size) = size; omega
def X8 (x : BitVec 64) : Array Value := #[.int .u8 ((x.toNat : Int) / 72057594037927936), .int .u8 ((x.toNat : Int) / 281474976710656 % 256), .int .u8 ((x.toNat : Int) / 1099511627776 % 256), .int .u8 ((x.toNat : Int) / 4294967296 % 256),
  .int .u8 ((x.toNat : Int) / 16777216 % 256), .int .u8 ((x.toNat : Int) / 65536 % 256), .int .u8 ((x.toNat : Int) / 256 % 256), .int .u8 ((x.toNat : Int) % 256)]
theorem X8_vals (x : BitVec 64) : (X8 x).toList = vals (be8 x) := by
  have s : ∀ k, ((x >>> k).setWidth 8).toNat = x.toNat / 2 ^ k % 256 := by
    intro k; rw [BitVec.toNat_setWidth, BitVec.toNat_ushiftRight, Nat.shiftRight_eq_div_pow]
  have h := x.isLt
  unfold X8 vals be8
  simp only [List.map_cons, List.map_nil, s, BitVec.toNat_setWidth, List.cons.injEq, Value.int.injEq, true_and, and_true]
  refine ⟨?_, ?_, ?_, ?_, ?_, ?_, ?_, ?_⟩ <;> omega

/-- from 1 to 8 -/
def widthB (n : Int) : Bool := decide (1 ≤ n ∧ n ≤ 8)
set_option maxHeartbeats 400000 in
theorem isWidth_any (n : Int) (w : World) :
    Calls Try.prog 46 #[.int .i64 n] w fun e w' => e = .returned (.bool (widthB n)) ∧ w' = w := by
  by_cases h : 1 ≤ n
  · have H : Hid (decide (n ≤ 8) = widthB n) := by show decide _ = decide _; simp [h]
    go_enter Try.func46, Try.ntmps46
    go_wp2
    go_ret
    exact ⟨ret_bool H.out, rfl⟩
  · have H : Hid (false = widthB n) := by show false = decide _; simp [h]
    go_enter Try.func46, Try.ntmps46
    go_wp2
    go_ret
    exact ⟨ret_bool H.out, rfl⟩

set_option maxHeartbeats 400000 in
theorem bytesOf_any (x : BitVec 64) (w : World) :
    Calls Try.prog 47 #[.int .u64 (x.toNat : Int)] w fun e w' => e = .returned (.agg (X8 x)) ∧ (w.alloc (.cells (X8 x) 92)).alloc (.cells (X8 x) 92) = w' := by
  go_enter Try.func47, Try.ntmps47
  go_wp2_with fail
  refine wp_loop_rounds 9 ?_
  rw [rounds_succ]; go_wp2
  rw [rounds_succ]; go_wp2
  rw [rounds_succ]; go_wp2
  rw [rounds_succ]; go_wp2
  rw [rounds_succ]; go_wp2
  rw [rounds_succ]; go_wp2
  rw [rounds_succ]; go_wp2
  rw [rounds_succ]; go_wp2
  rw [rounds_succ]; go_wp2
  exact bodyPost_ret (v := .agg (X8 x)) (by simp [results, Try.results47, go_sem, X8]) rfl ⟨rfl, rfl⟩

/-- whether a number goes into so many bytes -/
def fitsB (size : Nat) (x : BitVec 64) : Bool := decide (x.toNat / 2 ^ (8 * size) = 0)

/-- whether size bytes from at on lie in len -/
def insideB (len : Nat) (at_ size : Int) : Bool := decide ((1 ≤ size ∧ size ≤ 8) ∧ 0 ≤ at_ ∧ at_ ≤ (len : Int) - size)
set_option maxHeartbeats 400000 in
theorem inside_any (a : Option Addr) (len cap : Nat) (p size : Int) (w : World) (hlen : len ≤ 140737488355328) :
    Calls Try.prog 48 #[.slice a len cap, .int .i64 p, .int .i64 size] w fun e w' => e = .returned (.bool (insideB len p size)) ∧ w' = w := by
  by_cases h1 : 1 ≤ size ∧ size ≤ 8
  · obtain ⟨h11, h12⟩ := h1
    by_cases h2 : 0 ≤ p
    · have H : Hid (decide (p ≤ (len : Int) - size) = insideB len p size) := by show decide _ = decide _; simp [h11, h12, h2]
      have hd : widthB size = true := by unfold widthB; simp [h11, h12]
      go_enter Try.func48, Try.ntmps48
      go_wp2_with (go_at_call 46; refine (isWidth_any _ _).mono ?_; rintro e w' ⟨rfl, rfl⟩)
      go_ret
      exact ⟨ret_bool H.out, rfl⟩
    · have H : Hid (false = insideB len p size) := by show false = decide _; simp [h2]
      have hd : widthB size = true := by unfold widthB; simp [h11, h12]
      go_enter Try.func48, Try.ntmps48
      go_wp2_with (go_at_call 46; refine (isWidth_any _ _).mono ?_; rintro e w' ⟨rfl, rfl⟩)
      go_ret
      exact ⟨ret_bool H.out, rfl⟩
  · have H : Hid (false = insideB len p size) := by show false = decide _; simp [h1]
    have hd : widthB size = false := by unfold widthB; simpa using h1
    clear h1
    go_enter Try.func48, Try.ntmps48
    go_wp2_with (go_at_call 46; refine (isWidth_any _ _).mono ?_; rintro e w' ⟨rfl, rfl⟩)
    go_ret
    exact ⟨ret_bool H.out, rfl⟩

theorem eql_nil (a : Option Addr) (n c : Nat) (wx : World) : (binOp .eql 34 (.slice a n c) (.slice none 0 0)).run Try.prog wx = .ok (.bool a.isNone) wx :=
  Lib.run_eql_slice_nil (P := Try.prog) wx 34 5 a n c 0 0 Try.underlying34
theorem Own.empty (w : World) : Own (w.alloc (.cells #[] 5)) w.heap.size (.slice (some ⟨w.heap.size, 0, none⟩) 0 0) [] :=
  ⟨rfl, .inr ⟨w.heap.size, 0, #[], rfl, Nat.le_refl _, heap_new _ _ _ rfl, Nat.le_refl _, by unfold maxLen; omega, rfl, rfl⟩⟩

set_option maxHeartbeats 400000 in
theorem clone_any (a : Option Addr) (len cap : Nat) (l : List (BitVec 8)) (w : World) (hl : l.length = len) (hle : len ≤ cap) (hr : Row w a l) (hn : a = none → cap = 0) (hlen : len ≤ 140737488355328) :
    Calls Try.prog 43 #[.slice a len cap] w fun e w' => ∃ v, e = .returned v ∧ Own w' w.heap.size v l ∧ Below w.heap.size w w' := by
  have hsn := eql_nil a len cap
  cases a with
  | none =>
    have hc := hn rfl
    have h0 : len = 0 := by omega
    subst hc; subst h0
    have : l = [] := List.eq_nil_of_length_eq_zero hl
    subst this
    go_enter Try.func43, Try.ntmps43
    go_wp2
    go_ret
    exact ⟨_, rfl, Own.nil _ _, Below.refl _ _⟩
  | some x =>
    simp only [Option.isNone_some] at hsn
    have hb0 : Below w.heap.size w (w.alloc (.cells #[] 5)) := (Below.refl _ _).alloc (Nat.le_refl _) _
    have hr' := hr.later hb0
    go_enter Try.func43, Try.ntmps43
    go_wp2_with (at_builtin; refine wpList_append_bytes _ rfl _ _ rfl w.heap.size _ [] rfl (Own.empty w) (some x) len cap l rfl hl hr' (fun h => by cases h) hle (by simp; omega) (by simp) ?_)
    intro v w' ho hg
    have hb := hb0.grown hg (by simp) (own_block (Own.empty w))
    clear hsn
    go_wp2
    go_ret
    exact ⟨_, rfl, ho, hb⟩
end Go.Proofs.Ytfiidcfpkodlpaa

