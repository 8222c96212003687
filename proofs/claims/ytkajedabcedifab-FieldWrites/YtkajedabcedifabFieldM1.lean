/- The walk of the law on reads one behind the other. -/
import Derived.Test.YtkajedabcedifabFieldQ4
import Derived.Test.YtkajedabcedifabFieldOps
namespace Go.Proofs.Ytkajedabcedifab
open Go.RowKit

theorem Spoil_lent {w : World} {base g c len : Nat} {l : List (BitVec 8)} (ho : Own w base (.slice (some ⟨g, 0, none⟩) (len + 1) c) l) (hlen : len ≤ 140737488351232) (hc : len + 1 ≤ c) :
    Calls Try.prog 17 #[.slice (some ⟨g, 0, none⟩) len c] w fun e w' => e = .returned (.tuple #[]) ∧ w.grownBy w' (some g) := by
  obtain ⟨h1, h2 | ⟨g', cap, cur, hv, hb, hh, hc', hm, hs, ht⟩⟩ := ho
  · simp at h2
  · simp only [Value.slice.injEq, Option.some.injEq, Addr.mk.injEq] at hv
    obtain ⟨⟨rfl, _, _⟩, _, rfl⟩ := hv
    exact Spoil_some g 0 len c 5 cur.toList w (by unfold Blk; simpa using hh) (by simp; omega) (by simp; omega) (by omega) hlen

theorem cell_later {w w' : World} {x : Addr} {v : Value} (h : w.cell? x = some v) (hb : Below w.heap.size w w') : w'.cell? x = some v := by
  have hx : x.block < w.heap.size := by
    rcases Nat.lt_or_ge x.block w.heap.size with h1 | h1
    · exact h1
    · unfold World.cell? at h
      rw [Array.getElem?_eq_none h1] at h
      simp at h
  rw [World.cell?_of_block (w := w) (hb.block _ hx)]
  exact h
theorem OpAt.later {w w' : World} {b off : Nat} {k s n : Int} {p : Value} (h : OpAt w b off k s n p) (hb : Below w.heap.size w w') : OpAt w' b off k s n p :=
  ⟨cell_later h.kind hb, cell_later h.size hb, cell_later h.num hb, cell_later h.part hb, h.kinds, h.sizes, h.nums⟩

theorem op_cells {W : World} {go T : Nat} {x p : Value} {S N : Int} (h : Blk W go T [x, .int .i64 S, .int .i64 N, p]) : W.cell? ⟨go, 1, none⟩ = some (.int .i64 S) ∧ W.cell? ⟨go, 2, none⟩ = some (.int .i64 N) :=
  ⟨h.cell (by simp [maxLen]) 1 (by simp), h.cell (by simp [maxLen]) 2 (by simp)⟩
theorem Blk.drew {W : World} {g T : Nat} {xs : List Value} (h : Blk W g T xs) : Blk W.drew g T xs := h
theorem Rd.drew {w : World} {F : List Nat} {g T : Nat} {L : List (BitVec 8)} {E : Int} (h : Rd w F g T L E) : Rd w.drew F g T L E := h.later (Below.refl _ _).drew

theorem rdBytes_len (L : List (BitVec 8)) (E size : Int) : (rdBytes L E size).2.2.length ≤ 65536 := by
  unfold rdBytes
  split
  · split
    · rename_i h
      obtain ⟨s, n, rfl, hs, hn, hn6, hsn, hN⟩ := cutE_0 h
      simp only [hN, Int.toNat_natCast, List.length_take, List.length_drop]
      omega
    · simp
  · simp
theorem Rd.mores {w : World} {F : List Nat} {g T : Nat} {L : List (BitVec 8)} {E : Int} (h : Rd w F g T L E) (F' : List Nat) (hF : ∀ k ∈ F', w.heap.size ≤ k) : Rd w (F' ++ F) g T L E := by
  obtain ⟨a, len, cap, l, h⟩ := h
  exact ⟨a, len, cap, l, h.mores F' hF⟩


end Go.Proofs.Ytkajedabcedifab
