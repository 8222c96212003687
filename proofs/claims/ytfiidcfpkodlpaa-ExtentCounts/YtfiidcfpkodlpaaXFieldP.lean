/- Walks of Add and Cut. -/
import Derived.Test.YtfiidcfpkodlpaaXFieldRef
namespace Go.Proofs.Ytfiidcfpkodlpaa
open Go.RowKit

/-- one, two or four -/
def lwB (n : Int) : Bool := decide (n = 1 ∨ n = 2 ∨ n = 4)

/-- the error of an Add -/
def addE (size : Int) (n : Nat) : Int := if lwB size = false then 1 else if 65536 < n ∨ fitsB size.toNat (BitVec.ofNat 64 n) = false then 3 else 0
theorem lwB_ex {n : Int} (h : lwB n = true) : ∃ s : Nat, n = s ∧ (s = 1 ∨ s = 2 ∨ s = 4) := by
  unfold lwB at h; rw [decide_eq_true_eq] at h
  exact ⟨n.toNat, by omega, by omega⟩
theorem lenU (n : Nat) (h : n ≤ 140737488355328) : ((BitVec.ofNat 64 n).toNat : Int) = (n : Int) := by
  rw [BitVec.toNat_ofNat, Nat.mod_eq_of_lt (by omega)]


theorem Row.drop {w : World} {b off : Nat} {l : List (BitVec 8)} (h : Row w (some ⟨b, off, none⟩) l) (k : Nat) : Row w (some ⟨b, off + k, none⟩) (l.drop k) := by
  rcases h with rfl | ⟨b', off', hb, hc⟩
  · exact .inl (by simp)
  · cases hb
    refine .inr ⟨b, off + k, rfl, fun i hi => ?_⟩
    simp at hi
    rw [Nat.add_assoc, hc (k + i) (by omega)]; unfold bt; rw [List.getD, List.getD, List.getElem?_drop]

/-- the block that bytesOf hands over, as it lies behind numberTo's own variable -/
theorem be_row (w : World) (x : BitVec 64) (size : Nat) : Row (((w.alloc (.cells (X8 x) 92)).alloc (.cells (X8 x) 92)).alloc (.cells (X8 x) 92)) (some ⟨w.heap.size + 1 + 1, 8 - size, none⟩) (be size x) := by
  have h := Row.newl ((w.alloc (.cells (X8 x) 92)).alloc (.cells (X8 x) 92)) (X8 x) 92 (0, 0) (be8 x) (X8_vals x)
  have e : ((w.alloc (.cells (X8 x) 92)).alloc (.cells (X8 x) 92)).heap.size = w.heap.size + 1 + 1 := by simp
  rw [e] at h
  have := h.drop (8 - size)
  rw [Nat.zero_add] at this
  exact this

set_option maxHeartbeats 400000 in
theorem numberTo_any (v : Value) (base : Nat) (l : List (BitVec 8)) (size : Nat) (x : BitVec 64) (w : World) (ho : Own w base v l) (hbase : base ≤ w.heap.size) (hl : l.length ≤ 140737488351232) (h1 : 1 ≤ size) (h2 : size ≤ 8) :
    Calls Try.prog 41 #[v, .int .i64 size, .int .u64 (x.toNat : Int)] w fun e w' => ∃ v', e = .returned v' ∧ Own w' base v' (l ++ be size x) ∧ w.grownBy w' v.ownBlock := by
  have q3 := slice8 (w.heap.size + 1 + 1) size h1 h2
  have hrow := be_row w x size
  have hbl := be_length size x h2
  obtain ⟨b0, b1, b2, b3, b4, b5, b6, b7, hX, hV⟩ := X8_lit x
  rw [hX] at hrow
  have hb3 : Below w.heap.size w (((w.alloc (.cells #[.int .u8 b0, .int .u8 b1, .int .u8 b2, .int .u8 b3, .int .u8 b4, .int .u8 b5, .int .u8 b6, .int .u8 b7] 92)).alloc (.cells #[.int .u8 b0, .int .u8 b1, .int .u8 b2, .int .u8 b3, .int .u8 b4, .int .u8 b5, .int .u8 b6, .int .u8 b7] 92)).alloc (.cells #[.int .u8 b0, .int .u8 b1, .int .u8 b2, .int .u8 b3, .int .u8 b4, .int .u8 b5, .int .u8 b6, .int .u8 b7] 92)) := (((Below.refl _ _).alloc (Nat.le_refl _) _).alloc (by simp) _).alloc (by simp; omega) _
  have hg3 : w.grownBy (((w.alloc (.cells #[.int .u8 b0, .int .u8 b1, .int .u8 b2, .int .u8 b3, .int .u8 b4, .int .u8 b5, .int .u8 b6, .int .u8 b7] 92)).alloc (.cells #[.int .u8 b0, .int .u8 b1, .int .u8 b2, .int .u8 b3, .int .u8 b4, .int .u8 b5, .int .u8 b6, .int .u8 b7] 92)).alloc (.cells #[.int .u8 b0, .int .u8 b1, .int .u8 b2, .int .u8 b3, .int .u8 b4, .int .u8 b5, .int .u8 b6, .int .u8 b7] 92)) v.ownBlock := grown_trans (grown_trans (World.grownBy_alloc _ _ _) (World.grownBy_alloc _ _ _)) (World.grownBy_alloc _ _ _)
  have ho3 := ho.later hb3
  have R : Hid _ := And.intro hrow (And.intro ho3 (And.intro hbl (And.intro hg3 hb3.size)))
  have H8 : Hid _ := hX
  clear hV hX hrow hb3 ho3 hbl hg3
  go_enter Try.func41, Try.ntmps41
  go_wp2_with fail
  refine (bytesOf_any x _).mono ?_
  rintro e w2 ⟨rfl, rfl⟩
  rw [H8.out]
  go_wp2_with (at_builtin; refine wpList_append_bytes _ rfl _ _ rfl base v l rfl R.out.2.1 (some ⟨w.heap.size + 1 + 1, 8 - size, none⟩) size size (be size x) rfl R.out.2.2.1 R.out.1 (fun h => by cases h) (Nat.le_refl _) (by omega) (Nat.le_trans hbase R.out.2.2.2.2) ?_)
  intro v' w' ho' hg'
  have F : Hid _ := And.intro ho' (grown_trans R.out.2.2.2.1 hg')
  clear ho' hg' R q3
  go_wp2
  go_ret
  exact ⟨v', rfl, F.out.1, F.out.2⟩


theorem addE_0 {size : Int} {n : Nat} (h : addE size n = 0) : ∃ s : Nat, size = s ∧ (s = 1 ∨ s = 2 ∨ s = 4) ∧ n ≤ 65536 ∧ fitsB s (BitVec.ofNat 64 n) = true := by
  unfold addE at h
  cases hb : lwB size with
  | false => rw [hb] at h; simp at h
  | true =>
    obtain ⟨s, rfl, hs⟩ := lwB_ex hb
    rw [hb] at h
    simp only [Bool.true_eq_false, if_false, Int.toNat_natCast] at h
    by_cases hc : 65536 < n ∨ fitsB s (BitVec.ofNat 64 n) = false
    · rw [if_pos hc] at h; cases h
    · refine ⟨s, rfl, hs, by omega, ?_⟩
      cases hf : fitsB s (BitVec.ofNat 64 n) with
      | true => rfl
      | false => exact absurd (.inr hf) hc
theorem addE_ne {size : Int} {n : Nat} (h : addE size n ≠ 0) : (addE size n == 0) = false := by simpa using h
theorem info_u8' : ∃ i0, Try.prog.info? 5 = some i0 ∧ i0.zero = some (.int .u8 0) ∧ i0.size = 1 ∧ i0.bytes = 1 := info_parts info_u8
theorem made_size (N : Nat) : (madeCells #[Value.int .u8 0] N).size = N := by simp [madeCells]
theorem makeN (N : Nat) (C : Int) (hC : C = N) (hN : N ≤ 281474976710656) (u : World) : (Instr.makeSlice 34 (.int .i64 0) (.int .i64 C)).run Try.prog u =
    .ok (.slice (some ⟨u.heap.size, 0, none⟩) 0 N) (u.alloc (.cells (madeCells #[.int .u8 0] N) 5)) := by
  obtain ⟨i0, hi, hz0, hz1, hz2⟩ := info_u8'
  have h := run_make (P := Try.prog) u 34 5 i0 (.int .u8 0) Try.underlying34 hi hz0 .i64 .i64 0 C (by omega) (by omega) (by rw [hz2]; omega) (by omega)
  subst hC
  rw [hz1] at h
  simpa [Value.cells] using h



/-- the error of a Cut, and where what is cut ends -/
def cutE (l : List (BitVec 8)) (size : Int) : Int :=
  if lwB size = false then 1 else if l.length < size.toNat then 10 else if 65536 < (numTo l 0 size.toNat).toNat then 3 else if l.length < size.toNat + (numTo l 0 size.toNat).toNat then 10 else 0
def cutN (l : List (BitVec 8)) (size : Int) : Nat := if cutE l size = 0 then size.toNat + (numTo l 0 size.toNat).toNat else 0


end Go.Proofs.Ytfiidcfpkodlpaa

