/- Walks of Cut, and of the document's Add and Cut. -/
import Derived.Test.YtfiidcfpkodlpaaXFieldP
import Derived.Deep.RegionHeldLaw
namespace Go.Proofs.Ytfiidcfpkodlpaa
open Go.RowKit

theorem cutE_0 {l : List (BitVec 8)} {size : Int} (h : cutE l size = 0) : ∃ s n : Nat, size = s ∧ (s = 1 ∨ s = 2 ∨ s = 4) ∧ n = (numTo l 0 s).toNat ∧ n ≤ 65536 ∧ s + n ≤ l.length ∧ cutN l size = s + n := by
  have h' := h
  unfold cutE at h
  cases hb : lwB size with
  | false => rw [hb] at h; simp at h
  | true =>
    obtain ⟨s, rfl, hs⟩ := lwB_ex hb
    rw [hb] at h
    simp only [Bool.true_eq_false, if_false, Int.toNat_natCast] at h
    by_cases h2 : l.length < s
    · rw [if_pos h2] at h; cases h
    rw [if_neg h2] at h
    by_cases h3 : 65536 < (numTo l 0 s).toNat
    · rw [if_pos h3] at h; cases h
    rw [if_neg h3] at h
    by_cases h4 : l.length < s + (numTo l 0 s).toNat
    · rw [if_pos h4] at h; cases h
    exact ⟨s, _, rfl, hs, rfl, by omega, by omega, by unfold cutN; rw [if_pos h']; simp⟩

theorem Row.takes {w : World} {a : Option Addr} {l : List (BitVec 8)} (h : Row w a l) (k : Nat) : Row w a (l.take k) := by
  rcases h with rfl | ⟨b, off, rfl, hc⟩
  · exact .inl (by simp)
  · refine .inr ⟨b, off, rfl, fun i hi => ?_⟩
    simp at hi
    rw [hc i (by omega)]; unfold bt; rw [List.getD, List.getD, List.getElem?_take, if_pos (by omega)]



theorem Own.lower {w : World} {base base' : Nat} {v : Value} {l : List (BitVec 8)} (h : Own w base v l) (hb : base' ≤ base) : Own w base' v l := by
  obtain ⟨h1, h2 | ⟨g, cap, cur, hv, hg, r⟩⟩ := h
  · exact ⟨h1, .inl h2⟩
  · exact ⟨h1, .inr ⟨g, cap, cur, hv, Nat.le_trans hb hg, r⟩⟩

theorem make_1 (w : World) : (Instr.makeSlice 34 (.int .i64 1) (.int .i64 1)).run Try.prog w = .ok (.slice (some ⟨w.heap.size, 0, none⟩) 1 1) (w.alloc (.cells (Array.replicate 1 (.int .u8 0)) 5)) := by kernel_rfl

theorem make_2 (w : World) : (Instr.makeSlice 34 (.int .i64 2) (.int .i64 2)).run Try.prog w = .ok (.slice (some ⟨w.heap.size, 0, none⟩) 2 2) (w.alloc (.cells (Array.replicate 2 (.int .u8 0)) 5)) := by kernel_rfl

theorem make_4 (w : World) : (Instr.makeSlice 34 (.int .i64 4) (.int .i64 4)).run Try.prog w = .ok (.slice (some ⟨w.heap.size, 0, none⟩) 4 4) (w.alloc (.cells (Array.replicate 4 (.int .u8 0)) 5)) := by kernel_rfl


end Go.Proofs.Ytfiidcfpkodlpaa

