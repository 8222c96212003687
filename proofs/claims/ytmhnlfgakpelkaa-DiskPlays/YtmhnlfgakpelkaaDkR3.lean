/- The document's disk, made. -/
import Derived.Test.YtmhnlfgakpelkaaDkR2
namespace Go.Proofs.Ytmhnlfgakpelkaa
open Go.RowKit
set_option linter.unusedVariables false

theorem chs_flat (l : List (BitVec 8)) (k : Nat) (h : k ≤ secs l.length) : (chs l k).flatten = (pad l).take (k * 256) := by
  induction k with
  | zero => simp [chs]
  | succ k ih =>
    rw [chs_succ, List.flatten_append, ih (by omega)]
    have hp := pad_length l
    unfold secAt
    rw [List.flatten_singleton, Nat.succ_mul, List.take_add]
theorem chs_all (l : List (BitVec 8)) : (chs l (secs l.length)).flatten = pad l := by
  rw [chs_flat l _ (Nat.le_refl _), ← pad_length, List.take_length]
theorem pad_whole (l : List (BitVec 8)) (n : Nat) (h : l.length = n * 256) : pad l = l := by
  unfold pad
  have : secs l.length * 256 - l.length = 0 := by unfold secs; omega
  rw [this]; simp
theorem chs_each (l : List (BitVec 8)) : ∀ s ∈ chs l (secs l.length), s.length = 256 := by
  intro s hs
  unfold chs at hs
  obtain ⟨k, hk, rfl⟩ := List.mem_map.1 hs
  exact secAt_length l k (List.mem_range.1 hk)

theorem rdk_new {v : Value} {V : List Nat} {l : List (BitVec 8)} {n : Nat} {w w' : World} (hl : l.length = n * 256) (h1 : 1 ≤ n) (ok : (stOb v V (chs l (secs l.length))).Ok w) (hb : Below w.heap.size w w') (hB : Blk w' w.heap.size 39 [v, .slice none 0 0, .bool false, .bool false]) :
    (rdk w.heap.size v.ownBlock none V ⟨l, [], false, false⟩).Ok w' := by
  obtain ⟨vs, h2, h3⟩ := ok.holds
  have lt := ok.lt
  have z := hb.size
  have zl := hB.lt
  refine rdk_ok ⟨?_, v, .slice none 0 0, chs l (secs l.length), vs, [], rfl, rfl, hB, ownsRow_same h2 (fun k hk => hb.block k (lt k (.inl (by simp [stOb, hk])))), h3.same (fun k hk => hb.block k (lt k (.inr hk))) (fun k hk => hk), ?_, chs_each l, World.ownsRow_nil _ _ _ _, trivial⟩ ?_ ?_
  · simp only [Option.toList_none, List.append_nil, List.nodup_cons, Option.mem_toList]
    refine ⟨fun e => ?_, by cases v.ownBlock <;> simp⟩
    have := lt w.heap.size (.inl (by simp [stOb, e])); omega
  · rw [chs_all, pad_whole l n hl]
  · intro k hk
    simp only [Option.toList_none, List.append_nil, List.mem_cons, Option.mem_toList] at hk
    rcases hk with (rfl | hk) | hk
    · exact zl
    · have := lt k (.inl (by simp [stOb, hk])); omega
    · have := lt k (.inr hk); omega
  · intro k hk hv
    simp only [Option.toList_none, List.append_nil, List.mem_cons, Option.mem_toList] at hk
    rcases hk with rfl | hk
    · have := lt w.heap.size (.inr hv); omega
    · exact ok.apart k (by simp [stOb, hk]) hv

set_option maxHeartbeats 400000 in
theorem rNew_no (n : Int) (w : World) (h : n < 1 ∨ 4096 < n) :
    Calls Try.prog 8 #[.int .i64 n] w fun e w' => e = .returned (.tuple #[.pointer none, .int .i64 1]) ∧ w = w' := by
  by_cases h1 : n < 1
  · go_enter Try.func8, Try.ntmps8
    go_wp2
    go_ret2
    exact ⟨rfl, rfl⟩
  · have h2 : 4096 < n := by omega
    go_enter Try.func8, Try.ntmps8
    go_wp2
    go_ret2
    exact ⟨rfl, rfl⟩
set_option maxHeartbeats 400000 in
theorem rNew_yes (n : Nat) (w : World) (h1 : 1 ≤ n) (h2 : n ≤ 4096) :
    Calls Try.prog 8 #[.int .i64 n] w fun e w' => ∃ g, e = .returned (.tuple #[.pointer (some ⟨g, 0, none⟩), .int .i64 0]) ∧ Below w.heap.size w w' := by
  have hmk := make_bytes (n * 256) ((n : Int) * 256) (by omega) (by omega)
  have q1 : ¬ (n : Int) < 1 := by omega
  have q2 : ¬ 4096 < (n : Int) := by omega
  have hb : Below w.heap.size w (w.alloc (.cells (madeCells #[.int .u8 0] (n * 256)) 5)) := (Below.refl _ _).alloc (Nat.le_refl _) _
  obtain ⟨a0, cap0, hv0, hle0, _, hr0, -, -⟩ := (made_own w (n * 256) (by unfold maxLen; omega)).open
  simp only [Value.slice.injEq] at hv0
  obtain ⟨rfl, -, rfl⟩ := hv0
  have HS : Hid _ := rsectors_any (some ⟨w.heap.size, 0, none⟩) (n * 256) (n * 256) (List.replicate (n * 256) 0#8) _ (by simp) (Nat.le_refl _) (by omega) hr0
  have HB : Hid _ := hb
  clear hr0 hle0 hb
  go_enter Try.func8, Try.ntmps8
  go_wp2_with fail
  refine (Calls.mono HS.out) ?_
  rintro e w1 ⟨v, V, rfl, ok, hnew, b1⟩
  obtain ⟨qa, qc, rfl⟩ : ∃ qa qc, v = .slice qa _ qc := by obtain ⟨vs, h, _⟩ := ok.holds; exact own_form h
  have F : Hid _ := (below_then HB.out b1).trans (((Below.refl w1.heap.size w1).alloc (Nat.le_refl _) (.cells #[.slice qa (chs (List.replicate (n * 256) 0#8) (secs (n * 256))).length qc, .slice none 0 0, .bool false, .bool false] 39)).mono (below_then HB.out b1).size)
  clear ok hnew b1 HS HB hmk
  go_wp2
  go_ret2
  exact ⟨_, rfl, F.out⟩
set_option maxHeartbeats 400000 in
theorem rLoad_no (a : Option Addr) (len cap : Nat) (w : World) (hm : len ≤ 140737488351232) (h : isImage len = false) :
    Calls Try.prog 11 #[.slice a len cap] w fun e w' => e = .returned (.tuple #[.pointer none, .int .i64 1]) ∧ w = w' := by
  have h' : ¬ (len % 256 = 0 ∧ 256 ≤ len ∧ len ≤ 1048576) := of_decide_eq_false h
  have hl : (len : Int) ≤ 140737488351232 := by omega
  by_cases c1 : len % 256 = 0
  · have q1 : ((len : Int) % 256 != 0) = false := by rw [bne_eq_false_iff_eq]; omega
    by_cases c2 : len < 256
    · have q2 : (len : Int) < 256 := by omega
      clear h h'
      go_enter Try.func11, Try.ntmps11
      go_wp2
      go_ret2
      exact ⟨rfl, rfl⟩
    · have q2 : ¬ (len : Int) < 256 := by omega
      have q3 : 1048576 < (len : Int) := by omega
      clear h h'
      go_enter Try.func11, Try.ntmps11
      go_wp2
      go_ret2
      exact ⟨rfl, rfl⟩
  · have q1 : ((len : Int) % 256 != 0) = true := by rw [bne_iff_ne]; omega
    clear h h'
    go_enter Try.func11, Try.ntmps11
    go_wp2
    go_ret2
    exact ⟨rfl, rfl⟩
set_option maxHeartbeats 400000 in
theorem rLoad_yes (a : Option Addr) (len cap : Nat) (l : List (BitVec 8)) (w : World) (hl : l.length = len) (hle : len ≤ cap) (hr : Row w a l) (h : isImage len = true) :
    Calls Try.prog 11 #[.slice a len cap] w fun e w' => ∃ g q V, e = .returned (.tuple #[.pointer (some ⟨g, 0, none⟩), .int .i64 0]) ∧ (rdk g q none V ⟨l, [], false, false⟩).Ok w' ∧ (∀ k, k ∈ (rdk g q none V ⟨l, [], false, false⟩).W ∨ k ∈ V → w.heap.size ≤ k) ∧ Below w.heap.size w w' := by
  obtain ⟨p1, p2, p3⟩ : len % 256 = 0 ∧ 256 ≤ len ∧ len ≤ 1048576 := of_decide_eq_true h
  have q1 : ((len : Int) % 256 != 0) = false := by rw [bne_eq_false_iff_eq]; omega
  have q2 : ¬ (len : Int) < 256 := by omega
  have q3 : ¬ 1048576 < (len : Int) := by omega
  have HS : Hid _ := rsectors_any a len cap l w hl hle p3 hr
  have HL : Hid _ := hl
  clear h hr hl
  go_enter Try.func11, Try.ntmps11
  go_wp2_with fail
  refine (Calls.mono HS.out) ?_
  rintro e w1 ⟨v, V, rfl, ok, hnew, b1⟩
  have hl := HL.out
  rw [← hl] at ok hnew
  obtain ⟨qa, qc, rfl⟩ : ∃ qa qc, v = .slice qa _ qc := by obtain ⟨vs, h, _⟩ := ok.holds; exact own_form h
  have b2 : Below w1.heap.size w1 (w1.alloc (.cells #[.slice qa (chs l (secs l.length)).length qc, .slice none 0 0, .bool false, .bool false] 39)) := (Below.refl _ _).alloc (Nat.le_refl _) _
  have okr := rdk_new (n := len / 256) (by omega) (by omega) ok b2 (Blk.new' w1 39 [.slice qa (chs l (secs l.length)).length qc, .slice none 0 0, .bool false, .bool false])
  have z1 := b1.size
  have hn2 : ∀ k, k ∈ (rdk w1.heap.size (Value.slice qa (chs l (secs l.length)).length qc).ownBlock none V ⟨l, [], false, false⟩).W ∨ k ∈ V → w.heap.size ≤ k := by
    intro k hk
    rcases hk with hk | hk
    · simp only [rdk, Option.toList_none, List.append_nil, List.mem_cons] at hk
      rcases hk with rfl | hk
      · exact z1
      · exact hnew k (.inl hk)
    · exact hnew k (.inr hk)
  have F : Hid _ := And.intro okr (And.intro hn2 (below_then b1 b2))
  clear okr hn2 ok hnew b1 b2 HS hl z1
  go_wp2
  go_ret2
  exact ⟨_, _, V, rfl, F.out.1, F.out.2.1, F.out.2.2⟩
end Go.Proofs.Ytmhnlfgakpelkaa
