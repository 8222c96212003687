/- A disk that is made; what is told of it. -/
import Derived.Test.YtclpedjjboblpaaDoorXDkW4
namespace Go.Proofs.YtclpedjjboblpaaDoor
open Go.RowKit
set_option linter.unusedVariables false

theorem Own.some {w : World} {base : Nat} {v : Value} {l : List (BitVec 8)} (h : Own w base v l) (h1 : 1 ≤ l.length) : ∃ m cap, v = .slice (some ⟨m, 0, none⟩) l.length cap ∧ base ≤ m ∧ m < w.heap.size := by
  have hl := World.ownsRow.lt h
  obtain ⟨_, h2 | ⟨g, cap, cur, rfl, hb, _⟩⟩ := h
  · omega
  · exact ⟨g, cap, rfl, hb, (hl g rfl).2⟩
theorem Own.low {w : World} {base base' : Nat} {v : Value} {l : List (BitVec 8)} (h : Own w base v l) (hb : base' ≤ base) : Own w base' v l := by
  obtain ⟨h1, h2 | ⟨g, cap, cur, hv, hg, r⟩⟩ := h
  · exact ⟨h1, .inl h2⟩
  · exact ⟨h1, .inr ⟨g, cap, cur, hv, by omega, r⟩⟩


theorem make_bytes (N : Nat) (C : Int) (hC : C = N) (hN : N ≤ 281474976710656) (u : World) : (Instr.makeSlice 23 (.int .i64 C) (.int .i64 C)).run Tryd.prog u =
    .ok (.slice (some ⟨u.heap.size, 0, none⟩) N N) (u.alloc (.cells (madeCells #[.int .u8 0] N) 5)) := by
  obtain ⟨i0, hi, hz0, hz1, hz2⟩ := info_parts info_u8
  have h := run_make (P := Tryd.prog) u 23 5 i0 (.int .u8 0) Tryd.underlying23 hi hz0 .i64 .i64 C C (by omega) (by omega) (by rw [hz2]; omega) (by omega)
  subst hC
  rw [hz1] at h
  simpa [Value.cells] using h
theorem made_own (u : World) (N : Nat) (hN : N ≤ maxLen) : Own (u.alloc (.cells (madeCells #[.int .u8 0] N) 5)) u.heap.size (.slice (some ⟨u.heap.size, 0, none⟩) N N) (List.replicate N 0#8) := by
  have e : (madeCells #[Value.int .u8 0] N) = (List.replicate N (Value.int .u8 0)).toArray := by
    apply Array.ext
    · simp [madeCells]
    · intro i h1 h2; simp [madeCells, Nat.mod_one]
  have hB : Blk (u.alloc (.cells (madeCells #[.int .u8 0] N) 5)) u.heap.size 5 (List.replicate N (.int .u8 0)) := by rw [e]; exact Blk.new' u _ _
  have := blk_own (base := u.heap.size) (cap := N) (l := List.replicate N 0#8) hB (by simp) (by rw [vals_zeros]; simp) (by simp) hN (Nat.le_refl _)
  simpa using this



/-- can these bytes be an image? -/
def isImage (n : Nat) : Bool := decide (n % 256 = 0 ∧ 256 ≤ n ∧ n ≤ 1048576)






end Go.Proofs.YtclpedjjboblpaaDoor

