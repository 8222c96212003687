/- A reader's Bytes, Count and End; a new reader; none at all. -/
import Derived.Test.YtfiidcfpkodlpaaXFieldQ1
namespace Go.Proofs.Ytfiidcfpkodlpaa
open Go.RowKit

theorem below_grown {w w' : World} (hb : Below w.heap.size w w') : w.grownBy w' none := ⟨hb.os, hb.tape, hb.output, hb.size, fun k hk _ => hb.block k hk⟩
/-- new blocks are none of the reader's -/
theorem RdAt.mores {w : World} {F : List Nat} {g T : Nat} {L : List (BitVec 8)} {E : Int} {a : Option Addr} {len cap : Nat} {l : List (BitVec 8)} (h : RdAt w F g T L E a len cap l) (F' : List Nat) (hF : ∀ k ∈ F', w.heap.size ≤ k) : RdAt w (F' ++ F) g T L E a len cap l :=
  ⟨h.blk, h.len_eq, h.le, h.bound, h.row, h.isNil, h.lt, fun x hx => ⟨(h.off x hx).1, fun hm => by
    rcases List.mem_append.1 hm with h1 | h1
    · have := hF _ h1; have := h.lt x hx; omega
    · exact (h.off x hx).2 h1⟩, h.ok⟩
/-- bytes that a call owns stay where another block turns -/
theorem Own.keep {w w' : World} {base : Nat} {v : Value} {l : List (BitVec 8)} {row : Option Nat} (h : Own w base v l) (hg : w.grownBy w' row) (hn : ∀ k, v.ownBlock = some k → some k ≠ row) : Own w' base v l := by
  obtain ⟨h1, h2 | ⟨g, cap, cur, rfl, hb, hh, r⟩⟩ := h
  · exact ⟨h1, .inl h2⟩
  · refine ⟨h1, .inr ⟨g, cap, cur, rfl, hb, ?_, r⟩⟩
    have hlt : g < w.heap.size := by
      rcases Nat.lt_or_ge g w.heap.size with h | h
      · exact h
      · rw [Array.getElem?_eq_none h] at hh; cases hh
    rw [hg.block g hlt (hn g rfl)]; exact hh

/-- what a read of bytes does: what is left, the error, the bytes -/
def rdBytes (L : List (BitVec 8)) (E : Int) (size : Int) : List (BitVec 8) × Int × List (BitVec 8) :=
  if E = 0 then (if cutE L size = 0 then (L.drop (cutN L size), 0, (L.drop size.toNat).take (cutN L size - size.toNat)) else ([], cutE L size, [])) else ([], E, [])
/-- what a read of a count does -/
def rdCount (L : List (BitVec 8)) (E : Int) (size most : Int) : List (BitVec 8) × Int × Int :=
  if (rdNum L E size).2.1 = 0 then (if (rdNum L E size).2.2 < 0 ∨ most < (rdNum L E size).2.2 then ([], 3, 0) else if ((rdNum L E size).1.length : Int) < (rdNum L E size).2.2 then ([], 10, 0) else rdNum L E size) else ([], (rdNum L E size).2.1, 0)
/-- what a reader's end tells -/
def rdEnd (L : List (BitVec 8)) (E : Int) : Int := if E = 0 then (if 0 < L.length then 11 else 0) else E






theorem Rd.any_blk {w : World} {F : List Nat} {g T : Nat} {L : List (BitVec 8)} {E : Int} (h : Rd w F g T L E) : ∃ a len cap, Blk w g T [.slice a len cap, .int .i64 E] ∧ (E = 0 → L.length = len) := by
  obtain ⟨a, len, cap, l, h⟩ := h
  exact ⟨a, len, cap, h.blk, fun e => by rw [← h.ok e]; exact h.len_eq⟩


end Go.Proofs.Ytfiidcfpkodlpaa

