/- Walks of the disk's inner functions. -/
import Derived.Test.YtgjcgnmomdanaaaXAid
import Derived.Laws.CopyOwn
import Derived.Deep.RegionHeldLaw
namespace Go.Proofs.Ytgjcgnmomdanaaa
open Go.RowKit

theorem ret_val {a b : Value} (h : a = b) : Ending.returned a = .returned b := by rw [h]
/-- how many sectors so many bytes take -/
def secs (n : Nat) : Nat := (n + 255) / 256



theorem zeros_u8 (n : Nat) : (Builtin.zeroCells #[.int .u8 0] n).toList = List.replicate n (.int .u8 0) := by
  apply List.ext_getElem
  · simp [Builtin.zeroCells]
  · intro i h1 h2
    simp [Builtin.zeroCells, Nat.mod_one]

/-- clear of bytes that lie in a row that is known whole -/
theorem run_clear_bytes (w : World) (ty : TypeId) (ap : Option Addr) (n c g off : Nat) (cur : List Value) (t : TypeId) (hg : Blk w g t cur) (hpos : 0 < n → ap = some ⟨g, off, none⟩) (hfit : off + n ≤ cur.length) :
    ∃ w', (Builtin.clear_ #[23] ty #[.slice ap n c]).run Try.prog w = .ok (.tuple #[]) w' ∧ Blk w' g t (splice cur off (List.replicate n (.int .u8 0))) ∧ w.grownBy w' (some g) := by
  obtain ⟨i0, hi, hz0, hz1, hz2⟩ := info_parts info_u8
  by_cases h0 : n = 0
  · subst h0
    refine ⟨w, ?_, by simpa [splice] using hg, ⟨rfl, rfl, rfl, Nat.le_refl _, fun _ _ _ => rfl⟩⟩
    cases ap <;> simp [Builtin.clear_, run_underlying Try.underlying23]
  · have hp := hpos (by omega)
    subst hp
    have hst := run_storeCells_at Try.prog g off t (List.replicate n (.int .u8 0)) 0 cur.toArray w hg (by simpa using hfit) (fun v hv => by rw [List.eq_of_mem_replicate hv]; rfl)
    refine ⟨w.setRow g (splice cur off (List.replicate n (.int .u8 0))).toArray, ?_, setRow_heap w g _ _ t _ hg, ⟨rfl, rfl, rfl, by simp [World.setRow], fun k hk hr => setRow_other w g k _ (by intro e; subst e; exact hr rfl)⟩⟩
    have hz : (zeroValue 5).run Try.prog w = .ok (.int .u8 0) w := by simp [zeroValue, typeInfo, hi, hz0]
    cases n with
    | zero => exact absurd rfl h0
    | succ n =>
      simp only [Builtin.clear_, run_underlying Try.underlying23, Sem.run_bind, Result.andThen_ok, hz, List.getElem?_toArray, List.getElem?_cons_zero]
      simp only [Value.cells, zeros_u8, hst, Result.andThen_ok, Sem.run_pure, Nat.add_zero]
      simp [splice]

theorem vals_splice (l : List (BitVec 8)) (off : Nat) (b : List (BitVec 8)) : vals (splice l off b) = splice (vals l) off (vals b) := by
  unfold splice vals; simp
theorem vals_zeros (n : Nat) : vals (List.replicate n 0#8) = List.replicate n (.int .u8 0) := by unfold vals; simp

/-- copy of bytes into a row that is known whole -/
theorem run_copy_bytes (w : World) (ty : TypeId) (dp sp : Option Addr) (dLen dCap sLen sCap g off : Nat) (cur : List Value) (t : TypeId) (hg : Blk w g t cur) (lb : List (BitVec 8)) (hn : lb.length = Nat.min sLen dLen) (hpos : 0 < lb.length → dp = some ⟨g, off, none⟩) (hr : Row w sp lb) (hfit : off + lb.length ≤ cur.length) :
    ∃ w', (Builtin.copy_ #[23, 23] ty #[.slice dp dLen dCap, .slice sp sLen sCap]).run Try.prog w = .ok (.int .i64 lb.length) w' ∧ Blk w' g t (splice cur off (vals lb)) ∧ w.grownBy w' (some g) := by
  have hsz : (Try.prog.info? 5).map (·.size) = some 1 := by
    obtain ⟨i0, hi, hz0, hz1, hz2⟩ := info_parts info_u8
    rw [hi]; simp [hz1]
  by_cases h0 : lb.length = 0
  · obtain rfl : lb = [] := List.eq_nil_of_length_eq_zero h0
    exact ⟨w, run_copy_none (P := Try.prog) w 23 23 ty 5 dp sp dLen dCap sLen sCap Try.underlying23 hsz (by simpa using hn.symm), by simpa [splice, vals] using hg, ⟨rfl, rfl, rfl, Nat.le_refl _, fun _ _ _ => rfl⟩⟩
  · have hp := hpos (by omega)
    subst hp
    rcases hr with rfl | ⟨b, bo, rfl, hc⟩
    · simp at h0
    have hrun := run_copy_row (P := Try.prog) w 23 23 ty 5 g off dLen dCap ⟨b, bo, none⟩ sLen sCap cur.toArray t (vals lb) Try.underlying23 hsz hg (by rw [vals_length]; exact hn) (fun j v hj => by
      have hjl : j < lb.length := by
        rcases Nat.lt_or_ge j lb.length with h | h
        · exact h
        · rw [List.getElem?_eq_none (by rw [vals_length]; exact h)] at hj; cases hj
      have e : (⟨b, bo, none⟩ : Addr).add j = ⟨b, bo + j, none⟩ := by unfold Addr.add; split <;> simp_all
      rw [e, hc j hjl, ← vals_at lb j hjl, hj]) (by rw [vals_length]; simpa using hfit) (vals_one lb)
    refine ⟨w.setRow g (splice cur off (vals lb)).toArray, ?_, setRow_heap w g _ _ t _ hg, ⟨rfl, rfl, rfl, by simp [World.setRow], fun k hk hr => setRow_other w g k _ (by intro e; subst e; exact hr rfl)⟩⟩
    rw [hrun]
    simp [splice, goInt, vals_length]

theorem splice_length {α : Type} (L : List α) (off : Nat) (cs : List α) (h : off + cs.length ≤ L.length) : (splice L off cs).length = L.length := length_splice L off cs h
theorem splice_two {α : Type} (L : List α) (off : Nat) (a b : List α) (h : off + a.length + b.length ≤ L.length) : splice (splice L off a) (off + a.length) b = splice L off (a ++ b) := by
  unfold splice
  have e1 : (L.take off ++ (a ++ L.drop (off + a.length))).take (off + a.length) = L.take off ++ a := by
    rw [← List.append_assoc, List.take_append_of_le_length (by simp; omega)]
    exact List.take_of_length_le (by simp; omega)
  have e2 : (L.take off ++ (a ++ L.drop (off + a.length))).drop (off + a.length + b.length) = L.drop (off + a.length + b.length) := by
    rw [← List.append_assoc, List.drop_append]
    simp only [List.length_append, List.length_take]
    rw [List.drop_eq_nil_of_le (by simp; omega), List.nil_append, List.drop_drop]
    congr 1; omega
  rw [e1, e2]
  simp [Nat.add_assoc]


/-- bytes with 0 behind them in the last sector -/
def pad (b : List (BitVec 8)) : List (BitVec 8) := b ++ List.replicate (secs b.length * 256 - b.length) 0#8
theorem secs_le (n : Nat) : n ≤ secs n * 256 := by unfold secs; omega
theorem secs_pos (n : Nat) (h : 1 ≤ n) : 1 ≤ secs n := by unfold secs; omega
theorem pad_length (b : List (BitVec 8)) : (pad b).length = secs b.length * 256 := by unfold pad; have := secs_le b.length; simp; omega

theorem box_cells (w : World) (x y : Value) (T : TypeId) : (w.alloc (.cells #[x, y] T)).cell? ⟨w.heap.size, 0, none⟩ = some x ∧ (w.alloc (.cells #[x, y] T)).cell? ⟨w.heap.size, 1, none⟩ = some y := by
  have h : Blk (w.alloc (.cells #[x, y] T)) w.heap.size T [x, y] := Blk.new' w T [x, y]
  exact ⟨h.cell (by simp [maxLen]) 0 (by simp), h.cell (by simp [maxLen]) 1 (by simp)⟩


theorem Blk.laterB {w w' : World} {g : Nat} {t : TypeId} {xs : List Value} (h : Blk w g t xs) (hb : Below w.heap.size w w') : Blk w' g t xs := by
  have hl := h.lt
  unfold Blk at *; rw [hb.block g hl]; exact h
theorem cell_keep {w w' : World} {x : Addr} {v : Value} {row : Option Nat} (h : w.cell? x = some v) (hg : w.grownBy w' row) (hr : some x.block ≠ row) : w'.cell? x = some v := by
  have hx : x.block < w.heap.size := by
    rcases Nat.lt_or_ge x.block w.heap.size with h1 | h1
    · exact h1
    · unfold World.cell? at h
      rw [Array.getElem?_eq_none h1] at h
      simp at h
  rw [World.cell?_of_block (w := w) (hg.block _ hx hr)]
  exact h


end Go.Proofs.Ytgjcgnmomdanaaa

