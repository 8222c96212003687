/- Walks of the document's answer for field. -/
import Derived.Test.YtfcaaljehhibgaaXFieldK
import Derived.Test.YtfcaaljehhibgaaXAid
namespace Go.Proofs.Ytfcaaljehhibgaa
open Go.RowKit

theorem fits_val (n : Nat) (h : n < 8) (x : BitVec 64) : decide ((x.toNat : Int) < IntKind.u64.wrap (2 ^ (8 * n))) = fitsB n x := by
  unfold fitsB
  rw [decide_eq_decide]
  match n, h with
  | 0, _ | 1, _ | 2, _ | 3, _ | 4, _ | 5, _ | 6, _ | 7, _ => rw [IntKind.wrap_u64]; omega


set_option maxHeartbeats 400000 in
theorem rGet_yes (b off len cap : Nat) (l : List (BitVec 8)) (p size : Nat) (w : World) (hl : l.length = len) (hlen : len ≤ 140737488355328) (hc : ∀ i, i < l.length → w.cell? ⟨b, off + i, none⟩ = some (.int .u8 (bt l i))) (h1 : 1 ≤ size) (h2 : size ≤ 8) (h3 : p + size ≤ len) :
    Calls Try.prog 51 #[.slice (some ⟨b, off, none⟩) len cap, .int .i64 p, .int .i64 size] w fun e w' => e = .returned (.tuple #[.int .u64 ((numTo l p size).toNat : Int), .int .i64 0]) ∧ w = w' := by
  have t1 : ¬ (size : Int) < 1 := by omega
  have t2 : ¬ (8 : Int) < (size : Int) := by omega
  have t3 : ¬ (p : Int) < 0 := by omega
  have t4 : ¬ (len : Int) - (size : Int) < (p : Int) := by omega
  go_enter Try.func51, Try.ntmps51
  go_wp2_with fail
  go_loop [8, 9] (fun n i => ∃ k : Nat, k ≤ size ∧ i = .int .i64 k ∧ n = .int .u64 ((numTo l p k).toNat : Int)) (fun _ i => size - (intOf i).toNat)
  case atStart => exact ⟨0, by omega, rfl, rfl⟩
  case round =>
    obtain ⟨k, hk, rfl, rfl⟩ := hrel
    by_cases hlt : k < size
    · have hck := hc (p + k) (by omega)
      have hbd := bt_bd l (p + k)
      have q1 : (p : Int) + (k : Int) < (len : Int) := by omega
      go_wp2
      go_round
      case rel => exact ⟨k + 1, by omega, by go_num, val_int (by rw [numTo_step l p k (by omega)]; exact num_val _ l _)⟩
      case measure => simp [intOf]; omega
    · have : k = size := by omega
      subst this
      go_wp2
      go_ret2
      exact ⟨rfl, rfl⟩

theorem be8_at (x : BitVec 64) (j : Nat) (h : j < 8) : (be8 x).getD j 0#8 = (x >>> (8 * (7 - j))).setWidth 8 := by
  match j, h with
  | 0, _ | 1, _ | 2, _ | 3, _ | 4, _ | 5, _ | 6, _ | 7, _ => simp [be8]
theorem be_at (x : BitVec 64) (size k : Nat) (h : size ≤ 8) (hk : k < size) : (be size x).getD k 0#8 = (x >>> (8 * (size - 1 - k))).setWidth 8 := by
  have e : (be size x).getD k 0#8 = (be8 x).getD (8 - size + k) 0#8 := by
    unfold be; rw [List.getD, List.getD, List.getElem?_drop]
  rw [e, be8_at x _ (by omega)]
  congr 2
  omega
theorem be_val (x : BitVec 64) (size k : Nat) (h : size ≤ 8) (hk : k < size) : (x.toNat : Int) / 2 ^ (8 * (size - 1 - k)) % 256 = (((be size x).getD k 0#8).toNat : Int) := by
  rw [be_at x size k h hk, BitVec.toNat_setWidth, BitVec.toNat_ushiftRight, Nat.shiftRight_eq_div_pow, Int.natCast_emod, Int.natCast_ediv]
  simp
theorem vals_set (l : List (BitVec 8)) (i : Nat) (c : BitVec 8) : (vals l).set i (.int .u8 (c.toNat : Int)) = vals (l.set i c) := by
  unfold vals; rw [List.map_set]
theorem over_get (l : List (BitVec 8)) (p : Nat) (b : List (BitVec 8)) (h : p + b.length ≤ l.length) (i : Nat) :
    (over l p b)[i]? = if i < p then l[i]? else if i < p + b.length then b[i - p]? else l[i]? := by
  have hp : (l.take p).length = p := by simp; omega
  unfold over
  by_cases h1 : i < p
  · rw [if_pos h1, List.getElem?_append_left (by omega), List.getElem?_take, if_pos h1]
  · rw [if_neg h1, List.getElem?_append_right (by omega), hp]
    by_cases h2 : i < p + b.length
    · rw [if_pos h2, List.getElem?_append_left (by omega)]
    · rw [if_neg h2, List.getElem?_append_right (by omega), List.getElem?_drop]
      congr 1
      omega
theorem over_set (l : List (BitVec 8)) (p k : Nat) (b : List (BitVec 8)) (h : p + b.length ≤ l.length) (hk : k < b.length) : (over l p (b.take k)).set (p + k) (b.getD k 0#8) = over l p (b.take (k + 1)) := by
  have b1 : (b.take k).length = k := by simp; omega
  have b2 : (b.take (k + 1)).length = k + 1 := by simp; omega
  apply List.ext_getElem?
  intro i
  rw [List.getElem?_set, over_get l p _ (by omega), over_get l p _ (by omega), b1, b2, over_length _ _ _ (by omega)]
  by_cases hik : p + k = i
  · subst hik
    rw [if_pos rfl, if_pos (by omega), if_neg (by omega), if_pos (by omega), List.getElem?_take, if_pos (by omega)]
    have : p + k - p = k := by omega
    rw [this, List.getD, List.getElem?_eq_getElem hk]; rfl
  · rw [if_neg hik]
    by_cases h1 : i < p
    · rw [if_pos h1, if_pos h1]
    · rw [if_neg h1, if_neg h1]
      by_cases h2 : i < p + k
      · rw [if_pos h2, if_pos (by omega), List.getElem?_take, List.getElem?_take, if_pos (by omega), if_pos (by omega)]
      · rw [if_neg h2, if_neg (by omega)]


set_option maxHeartbeats 400000 in
theorem rGet_no (a : Option Addr) (len cap : Nat) (p size : Int) (w : World) (hlen : len ≤ 140737488355328) (h : insideB len p size = false) :
    Calls Try.prog 51 #[.slice a len cap, .int .i64 p, .int .i64 size] w fun e w' => e = .returned (.tuple #[.int .u64 0, .int .i64 1]) ∧ w = w' := by
  unfold insideB at h
  rw [decide_eq_false_iff_not] at h
  by_cases g1 : size < 1
  · clear h
    go_enter Try.func51, Try.ntmps51
    go_wp2
    go_ret2
    exact ⟨rfl, rfl⟩
  by_cases g2 : 8 < size
  · clear h
    go_enter Try.func51, Try.ntmps51
    go_wp2
    go_ret2
    exact ⟨rfl, rfl⟩
  by_cases g3 : p < 0
  · clear h
    go_enter Try.func51, Try.ntmps51
    go_wp2
    go_ret2
    exact ⟨rfl, rfl⟩
  · have g4 : (len : Int) - size < p := by omega
    clear h
    go_enter Try.func51, Try.ntmps51
    go_wp2
    go_ret2
    exact ⟨rfl, rfl⟩



end Go.Proofs.Ytfcaaljehhibgaa

/- Walks of Add and Cut. -/
namespace Go.Proofs.Ytfcaaljehhibgaa
open Go.RowKit

/-- one, two or four -/
def lwB (n : Int) : Bool := decide (n = 1 ∨ n = 2 ∨ n = 4)

/-- the error of an Add -/
def addE (size : Int) (n : Nat) : Int := if lwB size = false then 1 else if 65536 < n ∨ fitsB size.toNat (BitVec.ofNat 64 n) = false then 3 else 0
theorem lwB_ex {n : Int} (h : lwB n = true) : ∃ s : Nat, n = s ∧ (s = 1 ∨ s = 2 ∨ s = 4) := by
  unfold lwB at h; rw [decide_eq_true_eq] at h
  exact ⟨n.toNat, by omega, by omega⟩
theorem lenU (n : Nat) (h : n ≤ 140737488355328) : ((BitVec.ofNat 64 n).toNat : Int) = (n : Int) := by
  rw [BitVec.toNat_ofNat, Nat.mod_eq_of_lt (by omega)]


theorem Row.drop {w : World} {b off : Nat} {l : List (BitVec 8)} (h : Row w (some ⟨b, off, none⟩) l) (k : Nat) : Row w (some ⟨b, off + k, none⟩) (l.drop k) := by
  rcases h with rfl | ⟨b', off', hb, hc⟩
  · exact .inl (by simp)
  · cases hb
    refine .inr ⟨b, off + k, rfl, fun i hi => ?_⟩
    simp at hi
    rw [Nat.add_assoc, hc (k + i) (by omega)]; unfold bt; rw [List.getD, List.getD, List.getElem?_drop]

/-- the block that bytesOf hands over, as it lies behind numberTo's own variable -/
theorem be_row (w : World) (x : BitVec 64) (size : Nat) : Row (((w.alloc (.cells (X8 x) 118)).alloc (.cells (X8 x) 118)).alloc (.cells (X8 x) 118)) (some ⟨w.heap.size + 1 + 1, 8 - size, none⟩) (be size x) := by
  have h := Row.newl ((w.alloc (.cells (X8 x) 118)).alloc (.cells (X8 x) 118)) (X8 x) 118 (0, 0) (be8 x) (X8_vals x)
  have e : ((w.alloc (.cells (X8 x) 118)).alloc (.cells (X8 x) 118)).heap.size = w.heap.size + 1 + 1 := by simp
  rw [e] at h
  have := h.drop (8 - size)
  rw [Nat.zero_add] at this
  exact this

set_option maxHeartbeats 400000 in
theorem numberTo_any (v : Value) (base : Nat) (l : List (BitVec 8)) (size : Nat) (x : BitVec 64) (w : World) (ho : Own w base v l) (hbase : base ≤ w.heap.size) (hl : l.length ≤ 140737488351232) (h1 : 1 ≤ size) (h2 : size ≤ 8) :
    Calls Try.prog 69 #[v, .int .i64 size, .int .u64 (x.toNat : Int)] w fun e w' => ∃ v', e = .returned v' ∧ Own w' base v' (l ++ be size x) ∧ w.grownBy w' v.ownBlock := by
  have q3 := slice8 (w.heap.size + 1 + 1) size h1 h2
  have hrow := be_row w x size
  have hbl := be_length size x h2
  obtain ⟨b0, b1, b2, b3, b4, b5, b6, b7, hX, hV⟩ := X8_lit x
  rw [hX] at hrow
  have hb3 : Below w.heap.size w (((w.alloc (.cells #[.int .u8 b0, .int .u8 b1, .int .u8 b2, .int .u8 b3, .int .u8 b4, .int .u8 b5, .int .u8 b6, .int .u8 b7] 118)).alloc (.cells #[.int .u8 b0, .int .u8 b1, .int .u8 b2, .int .u8 b3, .int .u8 b4, .int .u8 b5, .int .u8 b6, .int .u8 b7] 118)).alloc (.cells #[.int .u8 b0, .int .u8 b1, .int .u8 b2, .int .u8 b3, .int .u8 b4, .int .u8 b5, .int .u8 b6, .int .u8 b7] 118)) := (((Below.refl _ _).alloc (Nat.le_refl _) _).alloc (by simp) _).alloc (by simp; omega) _
  have hg3 : w.grownBy (((w.alloc (.cells #[.int .u8 b0, .int .u8 b1, .int .u8 b2, .int .u8 b3, .int .u8 b4, .int .u8 b5, .int .u8 b6, .int .u8 b7] 118)).alloc (.cells #[.int .u8 b0, .int .u8 b1, .int .u8 b2, .int .u8 b3, .int .u8 b4, .int .u8 b5, .int .u8 b6, .int .u8 b7] 118)).alloc (.cells #[.int .u8 b0, .int .u8 b1, .int .u8 b2, .int .u8 b3, .int .u8 b4, .int .u8 b5, .int .u8 b6, .int .u8 b7] 118)) v.ownBlock := grown_trans (grown_trans (World.grownBy_alloc _ _ _) (World.grownBy_alloc _ _ _)) (World.grownBy_alloc _ _ _)
  have ho3 := ho.later hb3
  have R : Hid _ := And.intro hrow (And.intro ho3 (And.intro hbl (And.intro hg3 hb3.size)))
  have H8 : Hid _ := hX
  clear hV hX hrow hb3 ho3 hbl hg3
  go_enter Try.func69, Try.ntmps69
  go_wp2_with fail
  refine (bytesOf_any x _).mono ?_
  rintro e w2 ⟨rfl, rfl⟩
  rw [H8.out]
  go_wp2_with (at_builtin; refine wpList_append_bytes _ rfl _ _ rfl base v l rfl R.out.2.1 (some ⟨w.heap.size + 1 + 1, 8 - size, none⟩) size size (be size x) rfl R.out.2.2.1 R.out.1 (fun h => by cases h) (Nat.le_refl _) (by omega) (Nat.le_trans hbase R.out.2.2.2.2) ?_)
  intro v' w' ho' hg'
  have F : Hid _ := And.intro ho' (grown_trans R.out.2.2.2.1 hg')
  clear ho' hg' R q3
  go_wp2
  go_ret
  exact ⟨v', rfl, F.out.1, F.out.2⟩


theorem addE_0 {size : Int} {n : Nat} (h : addE size n = 0) : ∃ s : Nat, size = s ∧ (s = 1 ∨ s = 2 ∨ s = 4) ∧ n ≤ 65536 ∧ fitsB s (BitVec.ofNat 64 n) = true := by
  unfold addE at h
  cases hb : lwB size with
  | false => rw [hb] at h; simp at h
  | true =>
    obtain ⟨s, rfl, hs⟩ := lwB_ex hb
    rw [hb] at h
    simp only [Bool.true_eq_false, if_false, Int.toNat_natCast] at h
    by_cases hc : 65536 < n ∨ fitsB s (BitVec.ofNat 64 n) = false
    · rw [if_pos hc] at h; cases h
    · refine ⟨s, rfl, hs, by omega, ?_⟩
      cases hf : fitsB s (BitVec.ofNat 64 n) with
      | true => rfl
      | false => exact absurd (.inr hf) hc
theorem addE_ne {size : Int} {n : Nat} (h : addE size n ≠ 0) : (addE size n == 0) = false := by simpa using h
theorem info_u8' : ∃ i0, Try.prog.info? 5 = some i0 ∧ i0.zero = some (.int .u8 0) ∧ i0.size = 1 ∧ i0.bytes = 1 := info_parts info_u8
theorem made_size (N : Nat) : (madeCells #[Value.int .u8 0] N).size = N := by simp [madeCells]
theorem makeN (N : Nat) (C : Int) (hC : C = N) (hN : N ≤ 281474976710656) (u : World) : (Instr.makeSlice 34 (.int .i64 0) (.int .i64 C)).run Try.prog u =
    .ok (.slice (some ⟨u.heap.size, 0, none⟩) 0 N) (u.alloc (.cells (madeCells #[.int .u8 0] N) 5)) := by
  obtain ⟨i0, hi, hz0, hz1, hz2⟩ := info_u8'
  have h := run_make (P := Try.prog) u 34 5 i0 (.int .u8 0) Try.underlying34 hi hz0 .i64 .i64 0 C (by omega) (by omega) (by rw [hz2]; omega) (by omega)
  subst hC
  rw [hz1] at h
  simpa [Value.cells] using h



/-- the error of a Cut, and where what is cut ends -/
def cutE (l : List (BitVec 8)) (size : Int) : Int :=
  if lwB size = false then 1 else if l.length < size.toNat then 10 else if 65536 < (numTo l 0 size.toNat).toNat then 3 else if l.length < size.toNat + (numTo l 0 size.toNat).toNat then 10 else 0
def cutN (l : List (BitVec 8)) (size : Int) : Nat := if cutE l size = 0 then size.toNat + (numTo l 0 size.toNat).toNat else 0


end Go.Proofs.Ytfcaaljehhibgaa
