/- Walks of Put and Get. -/
import Derived.Test.YtncplnejoppekaaDoorFieldW1
namespace Go.Proofs.YtncplnejoppekaaDoor
open Go.RowKit

theorem insideB_yes (len p size : Nat) (h1 : 1 ≤ size) (h2 : size ≤ 8) (h3 : p + size ≤ len) : insideB len (p : Int) (size : Int) = true := by
  unfold insideB; rw [decide_eq_true_eq]; omega
theorem insideB_ex {len : Nat} {p size : Int} (h : insideB len p size = true) : ∃ q s : Nat, p = q ∧ size = s ∧ 1 ≤ s ∧ s ≤ 8 ∧ q + s ≤ len := by
  unfold insideB at h; rw [decide_eq_true_eq] at h
  exact ⟨p.toNat, size.toNat, by omega, by omega, by omega, by omega, by omega⟩

theorem Own.block {w : World} {base : Nat} {v : Value} {l : List (BitVec 8)} (h : Own w base v l) (hl : 0 < l.length) :
    ∃ (g cap : Nat) (cur : List Value), v = .slice (some ⟨g, 0, none⟩) l.length cap ∧ base ≤ g ∧ g < w.heap.size ∧ w.heap[g]? = some (.cells cur.toArray 5 (0, 0)) ∧ l.length ≤ cap ∧ cap ≤ maxLen ∧ cur.length = cap ∧ cur.take l.length = vals l := by
  obtain ⟨h1, h2 | ⟨g, cap, cur, rfl, hb, hh, hc, hm, hs, ht⟩⟩ := h
  · omega
  · refine ⟨g, cap, cur.toList, rfl, hb, ?_, by simpa using hh, hc, hm, by simpa using hs, by simpa using ht⟩
    rcases Nat.lt_or_ge g w.heap.size with h | h
    · exact h
    · rw [Array.getElem?_eq_none h] at hh; cases hh
theorem Own.ofBlock {w : World} {base g cap : Nat} {l : List (BitVec 8)} {cur : List Value} (hb : base ≤ g) (hh : w.heap[g]? = some (.cells cur.toArray 5 (0, 0))) (hc : l.length ≤ cap) (hm : cap ≤ maxLen) (hs : cur.length = cap) (ht : cur.take l.length = vals l) :
    Own w base (.slice (some ⟨g, 0, none⟩) l.length cap) l :=
  ⟨by rw [vals_length]; omega, .inr ⟨g, cap, cur.toArray, rfl, hb, hh, hc, hm, by simpa using hs, by simpa using ht⟩⟩

/-- bytes with others laid over them -/
def over (l : List (BitVec 8)) (p : Nat) (b : List (BitVec 8)) : List (BitVec 8) := l.take p ++ (b ++ l.drop (p + b.length))
theorem over_length (l : List (BitVec 8)) (p : Nat) (b : List (BitVec 8)) (h : p + b.length ≤ l.length) : (over l p b).length = l.length := by
  simp [over]; omega
theorem splice_over (cur : List Value) (l : List (BitVec 8)) (p : Nat) (b : List (BitVec 8)) (ht : cur.take l.length = vals l) (h : p + b.length ≤ l.length) :
    (splice cur p (vals b)).take l.length = vals (over l p b) := by
  have e : cur = vals l ++ cur.drop l.length := by rw [← ht, List.take_append_drop]
  unfold splice over
  rw [vals_append, vals_append, vals_length]
  have h1 : cur.take p = vals (l.take p) := by
    conv => lhs; rw [e]
    rw [List.take_append_of_le_length (by rw [vals_length]; omega)]
    unfold vals; rw [List.map_take]
  have h2 : cur.drop (p + b.length) = vals (l.drop (p + b.length)) ++ cur.drop l.length := by
    conv => lhs; rw [e]
    rw [List.drop_append_of_le_length (by rw [vals_length]; omega)]
    unfold vals; rw [List.map_drop]
  rw [h1, h2, ← List.append_assoc (vals b), ← List.append_assoc]
  exact List.take_left' (by simp [vals_length]; omega)

set_option maxHeartbeats 400000 in
theorem Put_no1 (a : Option Addr) (len cap : Nat) (p size : Int) (x : BitVec 64) (w : World) (hlen : len ≤ 140737488355328) (h : insideB len p size = false) :
    Calls Tryd.prog 15 #[.slice a len cap, .int .i64 p, .int .i64 size, .int .u64 (x.toNat : Int)] w fun e w' => e = .returned (.tuple #[.slice none 0 0, .int .i64 1]) ∧ w' = w := by
  go_enter Tryd.func15, Tryd.ntmps15
  go_wp2_with (go_at_call 20; refine (inside_any _ _ _ _ _ _ hlen).mono ?_; rintro e w' ⟨rfl, rfl⟩)
  go_ret2
  exact ⟨rfl, rfl⟩
set_option maxHeartbeats 400000 in
theorem Put_no2 (a : Option Addr) (len cap : Nat) (p size : Nat) (x : BitVec 64) (w : World) (hlen : len ≤ 140737488355328) (h1 : 1 ≤ size) (h2 : size ≤ 8) (h3 : p + size ≤ len) (h : fitsB size x = false) :
    Calls Tryd.prog 15 #[.slice a len cap, .int .i64 p, .int .i64 size, .int .u64 (x.toNat : Int)] w fun e w' => e = .returned (.tuple #[.slice none 0 0, .int .i64 3]) ∧ w' = w := by
  have hi := insideB_yes len p size h1 h2 h3
  go_enter Tryd.func15, Tryd.ntmps15
  go_wp2_with (first | (go_at_call 20; refine (inside_any _ _ _ _ _ _ hlen).mono ?_; rintro e w' ⟨rfl, rfl⟩) | (go_at_call 21; refine (goesInto_any _ _ _ h2).mono ?_; rintro e w' ⟨rfl, rfl⟩))
  go_ret2
  exact ⟨rfl, rfl⟩

theorem X8_lit (x : BitVec 64) : ∃ b0 b1 b2 b3 b4 b5 b6 b7 : Int, X8 x = #[.int .u8 b0, .int .u8 b1, .int .u8 b2, .int .u8 b3, .int .u8 b4, .int .u8 b5, .int .u8 b6, .int .u8 b7] ∧ vals (be8 x) = [.int .u8 b0, .int .u8 b1, .int .u8 b2, .int .u8 b3, .int .u8 b4, .int .u8 b5, .int .u8 b6, .int .u8 b7] :=
  ⟨_, _, _, _, _, _, _, _, rfl, by rw [← X8_vals]; rfl⟩

theorem size_u8 : (Tryd.prog.info? 5).map (·.size) = some 1 := by kernel_rfl
theorem slice8_1 (B : Nat) (W : World) : (Instr.sliceAt 48 (.pointer (some ⟨B, 0, none⟩)) (some (.int .i64 7)) none none).run Tryd.prog W = .ok (.slice (some ⟨B, 7, none⟩) 1 1) W := by kernel_rfl
theorem slice8_2 (B : Nat) (W : World) : (Instr.sliceAt 48 (.pointer (some ⟨B, 0, none⟩)) (some (.int .i64 6)) none none).run Tryd.prog W = .ok (.slice (some ⟨B, 6, none⟩) 2 2) W := by kernel_rfl
theorem slice8_3 (B : Nat) (W : World) : (Instr.sliceAt 48 (.pointer (some ⟨B, 0, none⟩)) (some (.int .i64 5)) none none).run Tryd.prog W = .ok (.slice (some ⟨B, 5, none⟩) 3 3) W := by kernel_rfl
theorem slice8_4 (B : Nat) (W : World) : (Instr.sliceAt 48 (.pointer (some ⟨B, 0, none⟩)) (some (.int .i64 4)) none none).run Tryd.prog W = .ok (.slice (some ⟨B, 4, none⟩) 4 4) W := by kernel_rfl
theorem slice8_5 (B : Nat) (W : World) : (Instr.sliceAt 48 (.pointer (some ⟨B, 0, none⟩)) (some (.int .i64 3)) none none).run Tryd.prog W = .ok (.slice (some ⟨B, 3, none⟩) 5 5) W := by kernel_rfl
theorem slice8_6 (B : Nat) (W : World) : (Instr.sliceAt 48 (.pointer (some ⟨B, 0, none⟩)) (some (.int .i64 2)) none none).run Tryd.prog W = .ok (.slice (some ⟨B, 2, none⟩) 6 6) W := by kernel_rfl
theorem slice8_7 (B : Nat) (W : World) : (Instr.sliceAt 48 (.pointer (some ⟨B, 0, none⟩)) (some (.int .i64 1)) none none).run Tryd.prog W = .ok (.slice (some ⟨B, 1, none⟩) 7 7) W := by kernel_rfl
theorem slice8_8 (B : Nat) (W : World) : (Instr.sliceAt 48 (.pointer (some ⟨B, 0, none⟩)) (some (.int .i64 0)) none none).run Tryd.prog W = .ok (.slice (some ⟨B, 0, none⟩) 8 8) W := by kernel_rfl
theorem slice8 (B size : Nat) (h1 : 1 ≤ size) (h2 : size ≤ 8) (W : World) : (Instr.sliceAt 48 (.pointer (some ⟨B, 0, none⟩)) (some (.int .i64 (8 - (size : Int)))) none none).run Tryd.prog W = .ok (.slice (some ⟨B, 8 - size, none⟩) size size) W := by
  match size, h1, h2 with
  | 1, _, _ => exact slice8_1 B W
  | 2, _, _ => exact slice8_2 B W
  | 3, _, _ => exact slice8_3 B W
  | 4, _, _ => exact slice8_4 B W
  | 5, _, _ => exact slice8_5 B W
  | 6, _, _ => exact slice8_6 B W
  | 7, _, _ => exact slice8_7 B W
  | 8, _, _ => exact slice8_8 B W

set_option maxHeartbeats 300000 in
theorem Put_yes (a : Option Addr) (len cap : Nat) (l : List (BitVec 8)) (p size : Nat) (x : BitVec 64) (w : World) (hl : l.length = len) (hle : len ≤ cap) (hr : Row w a l) (hn : a = none → cap = 0) (hlen : len ≤ 140737488355328)
    (h1 : 1 ≤ size) (h2 : size ≤ 8) (h3 : p + size ≤ len) (h : fitsB size x = true) :
    Calls Tryd.prog 15 #[.slice a len cap, .int .i64 p, .int .i64 size, .int .u64 (x.toNat : Int)] w fun e w' => ∃ v, e = .returned (.tuple #[v, .int .i64 0]) ∧ Own w' w.heap.size v (over l p (be size x)) ∧ Below w.heap.size w w' := by
  have hi := insideB_yes len p size h1 h2 h3
  go_enter Tryd.func15, Tryd.ntmps15
  go_wp2_with fail
  refine (inside_any _ _ _ _ _ _ hlen).mono ?_
  rintro e w' ⟨rfl, hw⟩
  obtain rfl := hw.symm
  rw [hi]
  go_wp2_with fail
  refine (goesInto_any _ _ _ h2).mono ?_
  rintro e w' ⟨rfl, hw⟩
  obtain rfl := hw.symm
  rw [h]
  go_wp2_with fail
  refine (clone_any a len cap l _ hl hle hr hn hlen).mono ?_
  rintro e w1 ⟨v, rfl, ho, hb⟩
  obtain ⟨g, cap1, cur, hv, hg1, hg2, hh, hc1, hc2, hc3, hc4⟩ := ho.block (by omega)
  rw [hl] at hv hc1 hc4
  rw [hv]
  clear ho hv hi h hr
  go_wp2_with fail
  refine (bytesOf_any x _).mono ?_
  rintro e w2 ⟨rfl, rfl⟩
  obtain ⟨b0, b1, b2, b3, b4, b5, b6, b7, hX, hV⟩ := X8_lit x
  rw [hX]
  have HV : Hid _ := hV
  clear hV hX
  go_wp2_with fail
  have hb3 : Below w1.heap.size w1 (((w1.alloc (.cells #[.int .u8 b0, .int .u8 b1, .int .u8 b2, .int .u8 b3, .int .u8 b4, .int .u8 b5, .int .u8 b6, .int .u8 b7] 48)).alloc (.cells #[.int .u8 b0, .int .u8 b1, .int .u8 b2, .int .u8 b3, .int .u8 b4, .int .u8 b5, .int .u8 b6, .int .u8 b7] 48)).alloc (.cells #[.int .u8 b0, .int .u8 b1, .int .u8 b2, .int .u8 b3, .int .u8 b4, .int .u8 b5, .int .u8 b6, .int .u8 b7] 48)) :=
    (((Below.refl _ _).alloc (Nat.le_refl _) _).alloc (by simp) _).alloc (by simp; omega) _
  have hrow := Row.newl ((w1.alloc (.cells #[.int .u8 b0, .int .u8 b1, .int .u8 b2, .int .u8 b3, .int .u8 b4, .int .u8 b5, .int .u8 b6, .int .u8 b7] 48)).alloc (.cells #[.int .u8 b0, .int .u8 b1, .int .u8 b2, .int .u8 b3, .int .u8 b4, .int .u8 b5, .int .u8 b6, .int .u8 b7] 48)) #[.int .u8 b0, .int .u8 b1, .int .u8 b2, .int .u8 b3, .int .u8 b4, .int .u8 b5, .int .u8 b6, .int .u8 b7] 48 (0, 0) (be8 x) HV.out.symm
  have hsz3 : ((w1.alloc (.cells #[.int .u8 b0, .int .u8 b1, .int .u8 b2, .int .u8 b3, .int .u8 b4, .int .u8 b5, .int .u8 b6, .int .u8 b7] 48)).alloc (.cells #[.int .u8 b0, .int .u8 b1, .int .u8 b2, .int .u8 b3, .int .u8 b4, .int .u8 b5, .int .u8 b6, .int .u8 b7] 48)).heap.size = w1.heap.size + 1 + 1 := by simp
  rw [hsz3] at hrow
  clear hsz3 HV
  generalize hW : (((w1.alloc (.cells #[.int .u8 b0, .int .u8 b1, .int .u8 b2, .int .u8 b3, .int .u8 b4, .int .u8 b5, .int .u8 b6, .int .u8 b7] 48)).alloc (.cells #[.int .u8 b0, .int .u8 b1, .int .u8 b2, .int .u8 b3, .int .u8 b4, .int .u8 b5, .int .u8 b6, .int .u8 b7] 48)).alloc (.cells #[.int .u8 b0, .int .u8 b1, .int .u8 b2, .int .u8 b3, .int .u8 b4, .int .u8 b5, .int .u8 b6, .int .u8 b7] 48)) = W3 at *
  clear hW
  have hh3 : W3.heap[g]? = some (.cells cur.toArray 5 (0, 0)) := by rw [hb3.block g hg2]; exact hh
  generalize hB3 : w1.heap.size + 1 + 1 = B3 at *
  have q1 : (p : Int) ≤ (len : Int) := by omega
  have q2 : (p : Int) < (cap1 : Int) := by omega
  have q3 := slice8 B3 size h1 h2
  have q4 : IntKind.i64.wrap (8 - (size : Int)) = 8 - (size : Int) := by simp [IntKind.wrap, IntKind.bits, IntKind.signed]; split <;> omega
  have q5 : ¬ cap1 = p := by omega
  have f1 : (vals (be size x)).length = Nat.min size (len - p) := by rw [vals_length, be_length size x h2]; exact (Nat.min_eq_left (by omega)).symm
  have f2 : 0 < (vals (be size x)).length → some (⟨g, p, none⟩ : Addr) = some ⟨g, p, none⟩ ∧ ∃ ad, some (⟨B3, 8 - size, none⟩ : Addr) = some ad ∧ ∀ j v, (vals (be size x))[j]? = some v → W3.drew.cell? (ad.add j) = some v := by
    intro _
    refine ⟨rfl, _, rfl, ?_⟩
    intro j v hj
    have hjl : j < (be size x).length := by
      rcases Nat.lt_or_ge j (be size x).length with h | h
      · exact h
      · rw [List.getElem?_eq_none (by rw [vals_length]; exact h)] at hj; cases hj
    have e : (⟨B3, 8 - size, none⟩ : Addr).add j = ⟨B3, 8 - size + j, none⟩ := by unfold Addr.add; split <;> simp_all
    rw [be_length size x h2] at hjl
    rcases hrow with hr0 | ⟨bb, oo, hbo, hcc⟩
    · cases hr0
    · cases hbo
      have := hcc (8 - size + j) (by show _ < 8; omega)
      rw [Nat.zero_add] at this
      rw [e]
      show W3.cell? _ = _
      rw [this, ← vals_at _ _ (by show _ < 8; omega), ← hj]
      unfold be vals
      rw [List.map_drop, List.getElem?_drop]
  have f3 : p + (vals (be size x)).length ≤ cur.length := by rw [vals_length, be_length size x h2]; omega
  have f4 : Below w.heap.size w W3.drew := (hb.trans (hb3.mono hb.size)).drew
  have f5 := splice_over cur l p (be size x) (by rw [hl]; exact hc4) (by rw [be_length size x h2]; omega)
  rw [hl] at f5
  have f6 : (over l p (be size x)).length = len := by rw [over_length _ _ _ (by rw [be_length size x h2]; omega), hl]
  have hh3' : W3.drew.heap[g]? = some (.cells cur.toArray 5 (0, 0)) := hh3
  have HH : Hid _ := hh3'
  have F : Hid _ := And.intro f1 (And.intro f2 (And.intro f3 (And.intro f4 (And.intro f5 (And.intro f6 (vals_one (be size x)))))))
  clear hh hh3 hh3' hrow hB3 f1 f2 f3 f4 f5 f6 hb3 hc4 hb hl
  generalize vals (be size x) = cs at *
  go_region_law (refine step_copy_splice rfl (.tmp 27) (.tmp 30) 22 22 rfl 5 Tryd.underlying22 size_u8 (some ⟨g, p, none⟩) (some ⟨B3, 8 - size, none⟩) (len - p) (cap1 - p) size size (by simp [Act.eval, Act.put]) (by simp [Act.eval, Act.put]) g p cur 5 HH.out cs F.out.1 F.out.2.1 F.out.2.2.1 F.out.2.2.2.2.2.2 w.heap.size w F.out.2.2.2.1 hg1 ?_; intro w5 hh5 hb5)
  clear HH q1 q2 q3 q4 q5
  go_wp2
  go_ret2
  refine ⟨.slice (some ⟨g, 0, none⟩) len cap1, rfl, ?_, hb5⟩
  have := Own.ofBlock (w := w5) (base := w.heap.size) (g := g) (cap := cap1) (l := over l p (be size x)) (cur := splice cur p cs) hg1 hh5.out (by rw [F.out.2.2.2.2.2.1]; exact hc1) hc2 (by rw [length_splice _ _ _ F.out.2.2.1]; exact hc3) (by rw [F.out.2.2.2.2.2.1]; exact F.out.2.2.2.2.1)
  rw [F.out.2.2.2.2.2.1] at this
  exact this

/-- bytes as a number, the highest first -/
def num (l : List (BitVec 8)) : BitVec 64 := l.foldl (fun n c => (n <<< 8) ||| c.setWidth 64) 0#64
/-- the number of the first k bytes from p on -/
def numTo (l : List (BitVec 8)) (p k : Nat) : BitVec 64 := num ((l.drop p).take k)
theorem numTo_step (l : List (BitVec 8)) (p k : Nat) (h : p + k < l.length) : numTo l p (k + 1) = ((numTo l p k) <<< 8) ||| (l.getD (p + k) 0#8).setWidth 64 := by
  unfold numTo num
  have h1 : k < (l.drop p).length := by simp; omega
  rw [List.take_succ_eq_append_getElem h1, List.foldl_append]
  simp [List.getD, h]

theorem or64 (x y : BitVec 64) : bits .or .u64 (x.toNat : Int) (y.toNat : Int) = ((x ||| y).toNat : Int) := by
  rw [u64_or_nat _ _ x.isLt y.isLt, BitVec.toNat_or]

theorem num_val (n : BitVec 64) (l : List (BitVec 8)) (j : Nat) : bits .or .u64 (IntKind.u64.wrap ((n.toNat : Int) * 256)) (bt l j) = (((n <<< 8) ||| (l.getD j 0#8).setWidth 64).toNat : Int) := by
  have e1 : IntKind.u64.wrap ((n.toNat : Int) * 256) = ((n <<< 8).toNat : Int) := by
    rw [IntKind.wrap_u64, BitVec.toNat_shiftLeft, Nat.shiftLeft_eq]; omega
  have e2 : bt l j = (((l.getD j 0#8).setWidth 64).toNat : Int) := by
    have := (l.getD j 0#8).isLt
    unfold bt; rw [BitVec.toNat_setWidth, Nat.mod_eq_of_lt (by omega)]
  rw [e1, e2, or64]




end Go.Proofs.YtncplnejoppekaaDoor
