/- The fences as bits. -/
import Derived.Test.YtlopkfenbeahgaaXRv25
import Derived.Lib.EndianBits
namespace Go.Proofs.Ytlopkfenbeahgaa
open Go.RowKit Go.Shelf
set_option linter.unusedVariables false
set_option linter.unusedSimpArgs false
set_option maxRecDepth 4000
attribute [local go_sem] Oper.semAt_some

def bvs (l : List Bool) : List Value := l.map Value.bool
def abv (l : List Bool) : Value := .agg (bvs l).toArray
theorem bvs_len (l : List Bool) : (bvs l).length = l.length := by unfold bvs; rw [List.length_map]
theorem bvs_at (l : List Bool) (i : Nat) (h : i < l.length) : (bvs l)[i]? = some (.bool l[i]) := by unfold bvs; rw [List.getElem?_map, List.getElem?_eq_getElem h]; rfl
theorem load_arrB {T E : TypeId} (hs : (Try.prog.info? T).map (·.size) = some 16) (hu : Try.prog.underlying T = some (.array 16 E)) {w : World} {c off : Nat} {l : List Bool} (hl : l.length = 16) (hc : ∀ j (h : j < l.length), w.cell? ⟨c, off + j, none⟩ = some (.bool l[j])) :
    (Instr.loadAt T (.pointer (some ⟨c, off, none⟩))).run Try.prog w = .ok (abv l) w := by
  have h2 : (loadCells ⟨c, off, none⟩ (bvs l).length).run Try.prog w = .ok (bvs l).toArray w := run_loadCells_list (P := Try.prog) w ⟨c, off, none⟩ (bvs l) (fun j v hj => by
    have hadd : (⟨c, off, none⟩ : Addr).add j = ⟨c, off + j, none⟩ := by unfold Addr.add; split <;> simp_all
    have hjl : j < l.length := by
      rcases Nat.lt_or_ge j l.length with h | h
      · exact h
      · rw [List.getElem?_eq_none (by rw [bvs_len]; exact h)] at hj; cases hj
    rw [hadd, hc j hjl, ← bvs_at l j hjl, hj])
  rw [bvs_len, hl] at h2
  obtain ⟨i, hi, hz⟩ := Option.map_eq_some_iff.1 hs
  have hagg : (isAgg T).run Try.prog w = .ok true w := by
    unfold isAgg
    rw [Sem.run_bind, run_underlying hu w]
    rfl
  simp [Instr.loadAt, Instr.sureAddr, loadVar, Sem.run_bind, hagg, sizeOf, typeInfo, hi, hz, h2, abv]
theorem size_fs : (Try.prog.info? 51).map (·.size) = some 16 := by kernel_rfl
theorem und_fs : Try.prog.underlying 51 = some (.array 16 4) := by kernel_rfl
theorem index_fs (l : List Bool) (hl : l.length = 16) (j : Nat) (hj : j < l.length) (w : World) : (Instr.index 51 (abv l) (.int .i64 j)).run Try.prog w = .ok (.bool l[j]) w := by
  have hb : (0 : Int) ≤ (j : Int) ∧ (j : Int) < 16 := by omega
  have ha := bvs_at l j hj
  simp [Instr.index, abv, run_underlying und_fs, asIntOf, hb, go_sem]
  rw [if_pos (by omega), ha]
  rfl
theorem fs_cells {m : Rs} (h : m.Wf) {w : World} {g : Nat} (hB : Blk w g 54 (rsC m)) : ∀ j (hj : j < m.f.length), w.cell? ⟨g, 3 + j, none⟩ = some (.bool m.f[j]) := fun j hj => by
  rw [h.flag hB j (by rw [← h.fl]; exact hj), List.getD, List.getElem?_eq_getElem hj]; rfl
def fnM (l : List Bool) : Nat → Int
  | 0 => 0
  | k + 1 => fnM l k + (if l.getD k false then (2 : Int) ^ k else 0)
theorem fnM_lt (l : List Bool) (k : Nat) : 0 ≤ fnM l k ∧ fnM l k < (2 : Int) ^ k := by
  induction k with
  | zero => exact ⟨Int.le_refl _, by show (0 : Int) < 2 ^ 0; decide⟩
  | succ k ih =>
    unfold fnM
    rw [Int.pow_succ]
    have hp : (0 : Int) < (2 : Int) ^ k := Int.pow_pos (by decide)
    generalize (2 : Int) ^ k = p at *
    split <;> omega
theorem or_step {x : Int} {k : Nat} (hk : k < 16) (h0 : 0 ≤ x) (h1 : x < (2 : Int) ^ k) : bits .or .i64 x (wrap64 ((2 : Int) ^ k)) = x + (2 : Int) ^ k := by
  have hp : (2 : Int) ^ k < 65536 := by
    have h : (2 : Nat) ^ k < 65536 := Nat.lt_of_lt_of_le (Nat.pow_lt_pow_right (by omega) hk) (by decide)
    have e : ((2 ^ k : Nat) : Int) = (2 : Int) ^ k := Int.natCast_pow 2 k
    omega
  have hp0 : (0 : Int) < (2 : Int) ^ k := Int.pow_pos (by decide)
  have hw : wrap64 ((2 : Int) ^ k) = (2 : Int) ^ k := by
    generalize (2 : Int) ^ k = p at *
    unfold wrap64; omega
  rw [hw]
  refine bits_join_low .i64 62 (by decide) (fun n h0 h1 => ?_) k x _ h0 h1 (by omega) (by omega) (Int.emod_self) (by omega)
  rw [IntKind.wrap_i64]
  have h1' : n < 4611686018427387904 := h1
  omega
set_option maxHeartbeats 2000000 in
theorem fences_any (g : Nat) (m : Rs) (w : World) (h : (rv g m).Ok w) : Calls Try.prog 17 #[.pointer (some ⟨g, 0, none⟩)] w fun e w' => e = .returned (.int .i64 (fnM m.f 16)) ∧ w = w' := by
  obtain ⟨hB, hW⟩ := h.holds
  have hld := load_arrB size_fs und_fs hW.fl (fs_cells hW hB)
  have hl := hW.fl
  have hav : abv m.f = .agg (bvs m.f).toArray := rfl
  rw [hav] at hld
  have HL : Hid _ := hl
  clear h hB hW hl
  go_enter Try.func17, Try.ntmps17
  go_wp2_with (refine wpList_value rfl (exec_load rfl rfl hld) ?_)
  clear hld
  go_loopw [3, 10] (fun bv iv wr => ∃ k : Nat, k ≤ 16 ∧ iv = .int .i64 k ∧ bv = .int .i64 (fnM m.f k) ∧ wr = w) (fun _ iv _ => 16 - (intOf iv).toNat)
  case atStart => exact ⟨0, by omega, rfl, rfl, rfl⟩
  case round =>
    obtain ⟨k, hk, rfl, rfl, hwr⟩ := hrel
    obtain rfl := hwr.symm
    clear hwr
    by_cases hlt : k < 16
    · have hix := index_fs m.f HL.out k (by rw [HL.out]; exact hlt) w
      rw [hav] at hix
      have q1 : (k : Int) < 16 := by omega
      have hst : fnM m.f (k + 1) = fnM m.f k + (if m.f.getD k false then (2 : Int) ^ k else 0) := rfl
      have hor := or_step hlt (fnM_lt m.f k).1 (fnM_lt m.f k).2
      have hg : m.f.getD k false = m.f[k]'(by rw [HL.out]; exact hlt) := by rw [List.getD, List.getElem?_eq_getElem (by rw [HL.out]; exact hlt)]; rfl
      rw [hg] at hst
      clear hg
      generalize fnM m.f k = x at *
      cases hfk : m.f[k]'(by rw [HL.out]; exact hlt) with
      | false =>
        rw [hfk] at hix hst
        have HS : Hid _ := hst
        clear hfk hst hor
        go_wp2_with (refine wpList_value rfl (exec_index rfl rfl rfl hix) ?_)
        go_roundw
        case rel => exact ⟨k + 1, by omega, by go_num, by rw [HS.out]; simp, by trivial⟩
        case measure => simp [intOf]; omega
      | true =>
        rw [hfk] at hix hst
        have HS : Hid _ := And.intro hst hor
        clear hfk hst hor
        go_wp2_with (refine wpList_value rfl (exec_index rfl rfl rfl hix) ?_)
        refine ⟨⟨k + 1, by omega, by go_num, by rw [HS.out.1, HS.out.2]; simp, by trivial⟩, ?_⟩
        simp [intOf]; omega
    · obtain rfl : k = 16 := by omega
      rw [show ((16 : Nat) : Int) = 16 from rfl]
      go_wp2
      go_ret
      exact ⟨rfl, rfl⟩
end Go.Proofs.Ytlopkfenbeahgaa

