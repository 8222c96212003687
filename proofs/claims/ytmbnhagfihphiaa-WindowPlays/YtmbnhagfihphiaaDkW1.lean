/- Walks of the disk's inner functions. -/
import Derived.Test.YtmbnhagfihphiaaSep
import Derived.Laws.CopyOwn
import Derived.Deep.RegionHeldLaw
namespace Go.Proofs.Ytmbnhagfihphiaa
open Go.RowKit

theorem ret_val {a b : Value} (h : a = b) : Ending.returned a = .returned b := by rw [h]
/-- how many sectors so many bytes take -/
def secs (n : Nat) : Nat := (n + 255) / 256



theorem zeros_u8 (n : Nat) : (Builtin.zeroCells #[.int .u8 0] n).toList = List.replicate n (.int .u8 0) := by
  apply List.ext_getElem
  · simp [Builtin.zeroCells]
  · intro i h1 h2
    simp [Builtin.zeroCells, Nat.mod_one]


theorem vals_splice (l : List (BitVec 8)) (off : Nat) (b : List (BitVec 8)) : vals (splice l off b) = splice (vals l) off (vals b) := by
  unfold splice vals; simp
theorem vals_zeros (n : Nat) : vals (List.replicate n 0#8) = List.replicate n (.int .u8 0) := by unfold vals; simp


theorem splice_length {α : Type} (L : List α) (off : Nat) (cs : List α) (h : off + cs.length ≤ L.length) : (splice L off cs).length = L.length := length_splice L off cs h
theorem splice_two {α : Type} (L : List α) (off : Nat) (a b : List α) (h : off + a.length + b.length ≤ L.length) : splice (splice L off a) (off + a.length) b = splice L off (a ++ b) := by
  unfold splice
  have e1 : (L.take off ++ (a ++ L.drop (off + a.length))).take (off + a.length) = L.take off ++ a := by
    rw [← List.append_assoc, List.take_append_of_le_length (by simp; omega)]
    exact List.take_of_length_le (by simp; omega)
  have e2 : (L.take off ++ (a ++ L.drop (off + a.length))).drop (off + a.length + b.length) = L.drop (off + a.length + b.length) := by
    rw [← List.append_assoc, List.drop_append]
    simp only [List.length_append, List.length_take]
    rw [List.drop_eq_nil_of_le (by simp; omega), List.nil_append, List.drop_drop]
    congr 1; omega
  rw [e1, e2]
  simp [Nat.add_assoc]


/-- bytes with 0 behind them in the last sector -/
def pad (b : List (BitVec 8)) : List (BitVec 8) := b ++ List.replicate (secs b.length * 256 - b.length) 0#8
theorem secs_le (n : Nat) : n ≤ secs n * 256 := by unfold secs; omega
theorem secs_pos (n : Nat) (h : 1 ≤ n) : 1 ≤ secs n := by unfold secs; omega
theorem pad_length (b : List (BitVec 8)) : (pad b).length = secs b.length * 256 := by unfold pad; have := secs_le b.length; simp; omega

theorem box_cells (w : World) (x y : Value) (T : TypeId) : (w.alloc (.cells #[x, y] T)).cell? ⟨w.heap.size, 0, none⟩ = some x ∧ (w.alloc (.cells #[x, y] T)).cell? ⟨w.heap.size, 1, none⟩ = some y := by
  have h : Blk (w.alloc (.cells #[x, y] T)) w.heap.size T [x, y] := Blk.new' w T [x, y]
  exact ⟨h.cell (by simp [maxLen]) 0 (by simp), h.cell (by simp [maxLen]) 1 (by simp)⟩


theorem Blk.laterB {w w' : World} {g : Nat} {t : TypeId} {xs : List Value} (h : Blk w g t xs) (hb : Below w.heap.size w w') : Blk w' g t xs := by
  have hl := h.lt
  unfold Blk at *; rw [hb.block g hl]; exact h
theorem cell_keep {w w' : World} {x : Addr} {v : Value} {row : Option Nat} (h : w.cell? x = some v) (hg : w.grownBy w' row) (hr : some x.block ≠ row) : w'.cell? x = some v := by
  have hx : x.block < w.heap.size := by
    rcases Nat.lt_or_ge x.block w.heap.size with h1 | h1
    · exact h1
    · unfold World.cell? at h
      rw [Array.getElem?_eq_none h1] at h
      simp at h
  rw [World.cell?_of_block (w := w) (hg.block _ hx hr)]
  exact h


end Go.Proofs.Ytmbnhagfihphiaa
