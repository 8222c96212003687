/- slices.Concat of bytes; zeros appended. -/
import Derived.Test.YtfcaaljehhibgaaXBs1
import Derived.Lib.AppendZeros
import Derived.Lib.AppendZerosOnto
namespace Go.Proofs.Ytfcaaljehhibgaa
open Go.RowKit
set_option linter.unusedVariables false
set_option linter.unusedSimpArgs false
set_option maxRecDepth 4000

theorem info_byte : (Try.prog.info? 5).map (fun i => (i.zero, i.size, i.bytes)) = some (some (.int .u8 0), 1, 1) := by kernel_rfl
theorem zeros_byte (n : Nat) : (Builtin.zeroCells (Value.int .u8 0).cells n).size = n := by simp [Builtin.zeroCells, Value.cells]
set_option maxHeartbeats 2000000 in
theorem growN_any (n : Nat) (w : World) (hn : n ≤ 1000000) :
    Calls Try.prog 57 #[.slice none 0 0, .int .i64 n] w fun e w' => ∃ z, e = .returned z ∧ Own w' w.heap.size z [] ∧ Below w.heap.size w w' := by
  by_cases h0 : 0 < n
  · obtain ⟨i0, hi, hz0, hz1, hz2⟩ := info_parts info_byte
    have R := fun ty => Lib.run_append_nil_zeros (P := Try.prog) w 34 3 ty 5 i0 (.int .u8 0) .i64 .i64 Try.underlying34 Try.underlying3 hi hz0 n h0 (by rw [hz1]; omega) (by omega) (by rw [hz2]; omega)
    have hge := grownCap_ge w n 0 5
    have hle := grownCap_le_maxLen w n 0 5 (by unfold maxLen; omega)
    generalize grownCap w n 0 5 = G at *
    have b1 : Below w.heap.size w (w.drew.alloc (.cells (Builtin.zeroCells (Value.int .u8 0).cells n ++ Builtin.zeroCells (Value.int .u8 0).cells (G - n)) 5)) := (Below.refl _ _).drew.alloc (Nat.le_refl _) _
    have o1 : Own (w.drew.alloc (.cells (Builtin.zeroCells (Value.int .u8 0).cells n ++ Builtin.zeroCells (Value.int .u8 0).cells (G - n)) 5)) w.heap.size (.slice (some ⟨w.heap.size, 0, none⟩) 0 G) [] := by
      have hb := Blk.new' w.drew 5 (Builtin.zeroCells (Value.int .u8 0).cells n ++ Builtin.zeroCells (Value.int .u8 0).cells (G - n)).toList
      unfold Blk at hb
      rw [Array.toArray_toList] at hb
      refine ⟨rfl, .inr ⟨w.heap.size, G, _, rfl, Nat.le_refl _, hb, Nat.zero_le _, hle, ?_, rfl⟩⟩
      rw [Array.size_append, zeros_byte, zeros_byte]; omega
    have HR : Hid _ := And.intro R (And.intro o1 b1)
    clear R o1 b1 hle
    have q1 : (0 : Int) < (n : Int) := by omega
    have q2 : ¬ (G = 0) := by omega
    have q3 : (n : Int) ≤ 1000000 := by omega
    go_enter Try.func57, Try.ntmps57
    go_wp2_with (at_builtin; refine Lib.wpList_append_run _ rfl _ _ _ _ rfl _ _ rfl rfl _ _ (HR.out.1 _) ?_)
    go_wp2
    go_ret
    exact ⟨_, rfl, HR.out.2⟩
  · obtain rfl : n = 0 := by omega
    go_enter Try.func57, Try.ntmps57
    go_wp2
    go_ret
    exact ⟨_, rfl, Own.nil _ _, Below.refl _ _⟩
def nulls (k : Nat) : List (BitVec 8) := List.replicate k 0#8
theorem nulls_cells (k : Nat) : (Builtin.zeroCells (Value.int .u8 0).cells k).toList = vals (nulls k) := by
  unfold nulls vals
  simp [Builtin.zeroCells, Value.cells]
  rw [show (fun i => ([Value.int IntKind.u8 0][i % 1]?).getD default) = fun _ : Nat => Value.int IntKind.u8 0 from funext (fun i => by rw [Nat.mod_one]; rfl)]
  rw [List.map_const', List.length_range]
theorem grownNew {w w' : World} (b : Below w.heap.size w w') (row : Option Nat) : w.grownBy w' row := ⟨b.os, b.tape, b.output, b.size, fun k hk _ => b.block k hk⟩
theorem row_of_own {w : World} {base g n c : Nat} {l : List (BitVec 8)} (h : Own w base (.slice (some ⟨g, 0, none⟩) n c) l) : Row w (some ⟨g, 0, none⟩) l := by
  obtain ⟨a, c', e, -, -, hr, -⟩ := h.open
  cases e
  exact hr
/-- zeros behind bytes of the call's own -/
theorem append_zeros {w : World} {base : Nat} {v : Value} {l : List (BitVec 8)} (h : Own w base v l) (k : Nat) (hk : k ≤ 3) (hl : l.length ≤ 1000000) (hb : base ≤ w.heap.size) (ty : TypeId) :
    ∃ v' w', (Builtin.append_ #[34, 3] ty #[v, .int .i64 (k : Int)]).run Try.prog w = .ok v' w' ∧ Own w' base v' (l ++ nulls k) ∧ w.grownBy w' v.ownBlock := by
  obtain ⟨i0, hi, hz0, hz1, hz2⟩ := info_parts info_byte
  have hw : IntKind.i64.wrap (k : Int) = k := by rw [IntKind.wrap_i64]; omega
  have hneg : ¬ ((k : Int) < 0) := by omega
  have h0 := h
  obtain ⟨h1, ⟨rfl, h3⟩ | ⟨g, cap, cur, rfl, hg, hh, hc, hm, hs, ht⟩⟩ := h
  · have : l = [] := List.eq_nil_of_length_eq_zero h3
    subst this
    by_cases hk0 : k = 0
    · subst hk0
      refine ⟨.slice none 0 0, w, ?_, by simpa [nulls] using h0, ⟨rfl, rfl, rfl, Nat.le_refl _, fun _ _ _ => rfl⟩⟩
      simp [Builtin.append_, run_underlying Try.underlying34, run_underlying Try.underlying3, sizeOf, typeInfo, zeroValue, hi, hz0, hz1, hz2, asInt, asIntOf, IntKind.wrap_i64]
    · have R := Lib.run_append_nil_zeros (P := Try.prog) w 34 3 ty 5 i0 (.int .u8 0) .i64 .i64 Try.underlying34 Try.underlying3 hi hz0 k (by omega) (by rw [hz1]; omega) (by omega) (by rw [hz2]; omega)
      have hge := grownCap_ge w k 0 5
      have hle := grownCap_le_maxLen w k 0 5 (by unfold maxLen; omega)
      refine ⟨_, _, R, ?_, grownNew ((Below.refl _ _).drew.alloc (Nat.le_refl _) _) _⟩
      have hb' := Blk.new' w.drew 5 (Builtin.zeroCells (Value.int .u8 0).cells k ++ Builtin.zeroCells (Value.int .u8 0).cells (grownCap w k 0 5 - k)).toList
      unfold Blk at hb'
      rw [Array.toArray_toList] at hb'
      have hlen : (nulls k).length = k := by unfold nulls; simp
      refine ⟨by rw [List.nil_append, vals_length, hlen]; omega, .inr ⟨w.heap.size, _, _, by rw [List.nil_append, hlen], hb, hb', by rw [List.nil_append, hlen]; exact hge, hle, ?_, ?_⟩⟩
      · rw [Array.size_append, zeros_byte, zeros_byte]; omega
      · rw [List.nil_append, hlen, Array.toList_append, nulls_cells, Nat.mul_one, List.take_append_of_le_length (by rw [vals_length, hlen]; omega), List.take_of_length_le (by rw [vals_length, hlen]; omega)]
  · have hlen : (nulls k).length = k := by unfold nulls; simp
    have hB : Blk w g 5 cur.toList := by unfold Blk; simpa using hh
    have hcl : cur.toList.length = cap := by simp; omega
    have hold := row_of_own h0
    by_cases hroom : l.length + k ≤ cap
    · have hst := run_storeCells_cells (P := Try.prog) g l.length (vals (nulls k)) 0 w (fun j hj => by rw [vals_length, hlen] at hj; rw [Nat.add_zero, blk_at hB, List.getElem?_eq_getElem (by omega)]; rfl) (fun j hj => blk_frozen hB _) (vals_one _)
      obtain ⟨B1, g1⟩ := Blk.setCells (vals (nulls k)) l.length w cur.toList hB (by rw [vals_length, hlen]; omega)
      refine ⟨.slice (some ⟨g, 0, none⟩) (l.length + k) cap, w.setCells g l.length (vals (nulls k)), ?_, ?_, g1⟩
      · have e : (⟨g, 0, none⟩ : Addr).add l.length = ⟨g, l.length, none⟩ := by unfold Addr.add; split <;> simp_all
        by_cases hk0 : k = 0
        · subst hk0
          simp [Builtin.append_, run_underlying Try.underlying34, run_underlying Try.underlying3, sizeOf, typeInfo, zeroValue, hi, hz0, hz1, hz2, asInt, asIntOf, IntKind.wrap_i64, hc, storeCells, nulls, vals, World.setCells]
        · have hz : (Builtin.zeroCells (Value.int .u8 0).cells k).toList = vals (nulls k) := nulls_cells k
          have h48 : ¬ (281474976710656 < (k : Int)) := by omega
          simp [Builtin.append_, run_underlying Try.underlying34, run_underlying Try.underlying3, sizeOf, typeInfo, zeroValue, hi, hz0, hz1, hz2, asInt, asIntOf, hw, hneg, hroom, hk0, h48, e, hz]
          rw [Nat.add_zero] at hst
          rw [hst]
          rfl
      · unfold Blk at B1
        refine ⟨by rw [vals_append, List.length_append, List.length_append, vals_length, vals_length]; omega, .inr ⟨g, cap, _, by rw [List.length_append, hlen], hg, B1, by rw [List.length_append, hlen]; exact hroom, hm, ?_, ?_⟩⟩
        · rw [List.size_toArray, length_splice _ _ _ (by rw [vals_length, hlen]; omega), hcl]; omega
        · rw [List.length_append, hlen, Nat.mul_one, vals_append]
          simp only [List.toList_toArray]
          unfold splice
          have hA : List.take l.length cur.toList = vals l := by rw [← Nat.mul_one l.length]; exact ht
          rw [hA, ← List.append_assoc, List.take_append_of_le_length (by simp [vals_length, hlen]), List.take_of_length_le (by simp [vals_length, hlen])]
    · have hk0 : k ≠ 0 := by omega
      have hfc : (Builtin.firstCells i0.size l.length (.slice (some ⟨g, 0, none⟩) l.length cap)).run Try.prog w.drew = .ok (vals l).toArray w.drew := run_firstCells_some w.drew i0.size l.length ⟨g, 0, none⟩ l.length cap (vals l) (by rw [hz1, vals_length]; omega) (by simpa using row_cells hold)
      have hfit : Builtin.nextslicecap (l.length + k) cap * i0.bytes ≤ 281474976710656 := growslice_fits (by omega) (by rw [hz2]; omega)
      have R := Lib.run_append_grow_zeros (P := Try.prog) w 34 3 ty 5 i0 (.int .u8 0) .i64 .i64 Try.underlying34 Try.underlying3 hi hz0 (some ⟨g, 0, none⟩) l.length cap (vals l) hfc k (by omega) (by rw [hz1]; omega) (by omega) (by omega) (by rw [hz2]; omega) hfit
      have hge := grownCap_ge w (l.length + k) cap 5
      have hle := grownCap_le_maxLen w (l.length + k) cap 5 (by unfold maxLen; omega)
      refine ⟨_, _, R, ?_, grownNew ((Below.refl _ _).drew.alloc (Nat.le_refl _) _) _⟩
      have hb' := Blk.new' w.drew 5 ((vals l).toArray ++ Builtin.zeroCells (Value.int .u8 0).cells k ++ Builtin.zeroCells (Value.int .u8 0).cells (grownCap w (l.length + k) cap 5 - (l.length + k))).toList
      unfold Blk at hb'
      rw [Array.toArray_toList] at hb'
      refine ⟨by rw [vals_append, List.length_append, List.length_append, vals_length, vals_length]; omega, .inr ⟨w.heap.size, _, _, by rw [List.length_append, hlen], hb, hb', by rw [List.length_append, hlen]; exact hge, hle, ?_, ?_⟩⟩
      · rw [Array.size_append, Array.size_append, zeros_byte, zeros_byte, List.size_toArray, vals_length]; omega
      · rw [List.length_append, hlen, Nat.mul_one, vals_append, Array.toList_append, Array.toList_append, nulls_cells]
        rw [List.take_append_of_le_length (by simp [vals_length, hlen]), List.take_of_length_le (by simp [vals_length, hlen])]
theorem flat_take {α : Type} (ls : List (List α)) (k : Nat) (h : k < ls.length) : (ls.take (k + 1)).flatten = (ls.take k).flatten ++ ls[k] := by
  rw [List.take_succ_eq_append_getElem h, List.flatten_append]; simp
theorem flat_take_le {α : Type} (ls : List (List α)) (k : Nat) : (ls.take k).flatten.length ≤ ls.flatten.length := by
  have : ls.flatten = (ls.take k).flatten ++ (ls.drop k).flatten := by rw [← List.flatten_append, List.take_append_drop]
  rw [this, List.length_append]; omega
/-- how many bytes the first k have -/
def flen (ls : List (List (BitVec 8))) (k : Nat) : Nat := (ls.take k).flatten.length
set_option maxHeartbeats 4000000 in
theorem concat_any {T : TypeId} (d : Nat) (ls : List (List (BitVec 8))) (vs : List Value) (w : World) (hD : Blk w d T vs) (hE : ∀ (k : Nat) (h : k < ls.length), ∃ a c, vs[k]? = some (.slice a ls[k].length c) ∧ Row w a ls[k] ∧ (a = none → c = 0) ∧ ls[k].length ≤ c) (hl : ls.length ≤ 1000) (hm : ls.flatten.length ≤ 1000000) :
    Calls Try.prog 41 #[.slice (some ⟨d, 0, none⟩) ls.length ls.length] w fun e w' => ∃ z, e = .returned z ∧ Own w' w.heap.size z ls.flatten ∧ Below w.heap.size w w' := by
  have HE : Hid (∀ (k : Nat) (h : k < ls.length), ∃ a c, w.cell? ⟨d, k, none⟩ = some (.slice a ls[k].length c) ∧ Row w a ls[k] ∧ (a = none → c = 0) ∧ ls[k].length ≤ c) := fun k h => by
    obtain ⟨a, c, hv, h2, h3, h1⟩ := hE k h
    exact ⟨a, c, by rw [blk_at hD k, hv], h2, h3, h1⟩
  have HD : Hid _ := And.intro hD trivial
  clear hE hD
  have HG : Hid (∀ n W, n ≤ 1000000 → Calls Try.prog 57 #[.slice none 0 0, .int .i64 ((n : Nat) : Int)] W fun e w' => ∃ z, e = .returned z ∧ Own w' W.heap.size z [] ∧ Below W.heap.size W w') := fun n W h => growN_any n W h
  go_enter Try.func41, Try.ntmps41
  go_wp2_with fail
  go_loopw [3, 11] (fun sv i wr => ∃ k : Nat, k ≤ ls.length ∧ i = .int .i64 k ∧ sv = .int .i64 (flen ls k : Nat) ∧ wr = w) (fun _ i _ => ls.length - (intOf i).toNat)
  case atStart => exact ⟨0, by omega, rfl, rfl, rfl⟩
  case round =>
    obtain ⟨k, hk, rfl, rfl, hwr⟩ := hrel
    obtain rfl := hwr.symm
    (try clear hwr)
    by_cases hlt : k < ls.length
    · obtain ⟨a, c, c1, -, -, -⟩ := HE.out k hlt
      have hfl := flat_take ls k hlt
      have hle1 := flat_take_le ls (k + 1)
      rw [hfl, List.length_append] at hle1
      have hln : flen ls (k + 1) = flen ls k + ls[k].length := by unfold flen; rw [hfl, List.length_append]
      have hle2 : flen ls k + ls[k].length ≤ 1000000 := by unfold flen; omega
      clear hle1
      have q1 : (k : Int) < (ls.length : Int) := by omega
      have HF : Hid _ := And.intro hln trivial
      clear hfl hln
      generalize ls[k] = lk at *
      generalize flen ls k = acc at *
      have q2 : (acc : Int) + (lk.length : Int) ≤ 1000000 := by omega
      have q3 : ¬ ((acc : Int) + (lk.length : Int) < 0) := by omega
      clear hle2
      go_wp2
      go_roundw
      case rel => exact ⟨k + 1, by omega, by go_num, by rw [HF.out.1]; go_num, by first | rfl | trivial⟩
      case measure => simp [intOf]; omega
    · obtain rfl : k = ls.length := by omega
      have hfe : flen ls ls.length ≤ 1000000 := by unfold flen; rw [List.take_length]; exact hm
      have NG : Hid _ := HG.out (flen ls ls.length) w hfe
      generalize flen ls ls.length = T at *
      go_wp2_with fail
      refine (Calls.mono NG.out) ?_
      rintro e w2 ⟨z, rfl, o2, b2⟩
      have O2 : Hid _ := And.intro o2 b2
      clear NG HG o2 b2
      go_wp2_with fail
      go_loopw [6, 27] (fun ov i wr => ∃ k : Nat, k ≤ ls.length ∧ i = .int .i64 k ∧ Own wr w.heap.size ov (ls.take k).flatten ∧ Below w.heap.size w wr) (fun _ i _ => ls.length - (intOf i).toNat)
      case atStart => exact ⟨0, by omega, rfl, O2.out.1, O2.out.2⟩
      case round =>
        clear O2
        obtain ⟨k, hk, rfl, ho, hb⟩ := hrel
        by_cases hlt : k < ls.length
        · obtain ⟨a, c, c0, g3, hnil, g2⟩ := HE.out k hlt
          have c1 : wr.cell? ⟨d, k, none⟩ = some (.slice a ls[k].length c) := by
            rw [blk_at (HD.out.1.laterB hb) k, ← blk_at HD.out.1 k]
            exact c0
          have hr := g3.later hb
          have hfl := flat_take ls k hlt
          have hle1 := flat_take_le ls (k + 1)
          rw [hfl, List.length_append] at hle1
          have q1 : (k : Int) < (ls.length : Int) := by omega
          have HF : Hid _ := And.intro ho (And.intro hr (And.intro hb hfl))
          clear ho hr hb hfl g3 HE c0 HD
          generalize ls[k] = lk at *
          generalize (ls.take k).flatten = acc at *
          go_wp2_with (at_builtin; refine wpList_append_bytes _ rfl _ _ rfl w.heap.size u6 acc rfl HF.out.1 a lk.length c lk rfl rfl HF.out.2.1 hnil g2 (by omega) (Below.size HF.out.2.2.1) ?_)
          intro v' w' ho' hg'
          have hb' : Below w.heap.size w w' := (HF.out.2.2.1).grown hg' (Below.size HF.out.2.2.1) (own_block HF.out.1)
          have F : Hid _ := And.intro ho' hb'
          rw [← HF.out.2.2.2] at F
          clear ho' hg' hb' HF c1
          go_wp2
          go_roundw
          case rel => exact ⟨k + 1, by omega, by go_num, F.out.1, F.out.2⟩
          case measure => simp [intOf]; omega
        · obtain rfl : k = ls.length := by omega
          rw [List.take_length] at ho
          have F : Hid _ := And.intro ho hb
          clear ho hb HE
          go_wp2
          go_ret
          exact ⟨_, rfl, F.out.1, F.out.2⟩
end Go.Proofs.Ytfcaaljehhibgaa

