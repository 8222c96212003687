/- Walks of the disk's inner functions. -/
import Derived.Test.YtfcaaljehhibgaaXAid
import Derived.Laws.CopyOwn
import Derived.Deep.RegionHeldLaw
namespace Go.Proofs.Ytfcaaljehhibgaa
open Go.RowKit

theorem ret_val {a b : Value} (h : a = b) : Ending.returned a = .returned b := by rw [h]
/-- how many sectors so many bytes take -/
def secs (n : Nat) : Nat := (n + 255) / 256



theorem zeros_u8 (n : Nat) : (Builtin.zeroCells #[.int .u8 0] n).toList = List.replicate n (.int .u8 0) := by
  apply List.ext_getElem
  · simp [Builtin.zeroCells]
  · intro i h1 h2
    simp [Builtin.zeroCells, Nat.mod_one]

/-- clear of bytes that lie in a row that is known whole -/
theorem run_clear_bytes (w : World) (ty : TypeId) (ap : Option Addr) (n c g off : Nat) (cur : List Value) (t : TypeId) (hg : Blk w g t cur) (hpos : 0 < n → ap = some ⟨g, off, none⟩) (hfit : off + n ≤ cur.length) :
    ∃ w', (Builtin.clear_ #[34] ty #[.slice ap n c]).run Try.prog w = .ok (.tuple #[]) w' ∧ Blk w' g t (splice cur off (List.replicate n (.int .u8 0))) ∧ w.grownBy w' (some g) := by
  obtain ⟨i0, hi, hz0, hz1, hz2⟩ := info_parts info_u8
  by_cases h0 : n = 0
  · subst h0
    refine ⟨w, ?_, by simpa [splice] using hg, ⟨rfl, rfl, rfl, Nat.le_refl _, fun _ _ _ => rfl⟩⟩
    cases ap <;> simp [Builtin.clear_, run_underlying Try.underlying34]
  · have hp := hpos (by omega)
    subst hp
    have hst := run_storeCells_at Try.prog g off t (List.replicate n (.int .u8 0)) 0 cur.toArray w hg (by simpa using hfit) (fun v hv => by rw [List.eq_of_mem_replicate hv]; rfl)
    refine ⟨w.setRow g (splice cur off (List.replicate n (.int .u8 0))).toArray, ?_, setRow_heap w g _ _ t _ hg, ⟨rfl, rfl, rfl, by simp [World.setRow], fun k hk hr => setRow_other w g k _ (by intro e; subst e; exact hr rfl)⟩⟩
    have hz : (zeroValue 5).run Try.prog w = .ok (.int .u8 0) w := by simp [zeroValue, typeInfo, hi, hz0]
    cases n with
    | zero => exact absurd rfl h0
    | succ n =>
      simp only [Builtin.clear_, run_underlying Try.underlying34, Sem.run_bind, Result.andThen_ok, hz, List.getElem?_toArray, List.getElem?_cons_zero]
      simp only [Value.cells, zeros_u8, hst, Result.andThen_ok, Sem.run_pure, Nat.add_zero]
      simp [splice]

theorem vals_splice (l : List (BitVec 8)) (off : Nat) (b : List (BitVec 8)) : vals (splice l off b) = splice (vals l) off (vals b) := by
  unfold splice vals; simp
theorem vals_zeros (n : Nat) : vals (List.replicate n 0#8) = List.replicate n (.int .u8 0) := by unfold vals; simp

/-- copy of bytes into a row that is known whole -/
theorem run_copy_bytes (w : World) (ty : TypeId) (dp sp : Option Addr) (dLen dCap sLen sCap g off : Nat) (cur : List Value) (t : TypeId) (hg : Blk w g t cur) (lb : List (BitVec 8)) (hn : lb.length = Nat.min sLen dLen) (hpos : 0 < lb.length → dp = some ⟨g, off, none⟩) (hr : Row w sp lb) (hfit : off + lb.length ≤ cur.length) :
    ∃ w', (Builtin.copy_ #[34, 34] ty #[.slice dp dLen dCap, .slice sp sLen sCap]).run Try.prog w = .ok (.int .i64 lb.length) w' ∧ Blk w' g t (splice cur off (vals lb)) ∧ w.grownBy w' (some g) := by
  have hsz : (Try.prog.info? 5).map (·.size) = some 1 := by
    obtain ⟨i0, hi, hz0, hz1, hz2⟩ := info_parts info_u8
    rw [hi]; simp [hz1]
  by_cases h0 : lb.length = 0
  · obtain rfl : lb = [] := List.eq_nil_of_length_eq_zero h0
    exact ⟨w, run_copy_none (P := Try.prog) w 34 34 ty 5 dp sp dLen dCap sLen sCap Try.underlying34 hsz (by simpa using hn.symm), by simpa [splice, vals] using hg, ⟨rfl, rfl, rfl, Nat.le_refl _, fun _ _ _ => rfl⟩⟩
  · have hp := hpos (by omega)
    subst hp
    rcases hr with rfl | ⟨b, bo, rfl, hc⟩
    · simp at h0
    have hrun := run_copy_row (P := Try.prog) w 34 34 ty 5 g off dLen dCap ⟨b, bo, none⟩ sLen sCap cur.toArray t (vals lb) Try.underlying34 hsz hg (by rw [vals_length]; exact hn) (fun j v hj => by
      have hjl : j < lb.length := by
        rcases Nat.lt_or_ge j lb.length with h | h
        · exact h
        · rw [List.getElem?_eq_none (by rw [vals_length]; exact h)] at hj; cases hj
      have e : (⟨b, bo, none⟩ : Addr).add j = ⟨b, bo + j, none⟩ := by unfold Addr.add; split <;> simp_all
      rw [e, hc j hjl, ← vals_at lb j hjl, hj]) (by rw [vals_length]; simpa using hfit) (vals_one lb)
    refine ⟨w.setRow g (splice cur off (vals lb)).toArray, ?_, setRow_heap w g _ _ t _ hg, ⟨rfl, rfl, rfl, by simp [World.setRow], fun k hk hr => setRow_other w g k _ (by intro e; subst e; exact hr rfl)⟩⟩
    rw [hrun]
    simp [splice, goInt, vals_length]

theorem splice_length {α : Type} (L : List α) (off : Nat) (cs : List α) (h : off + cs.length ≤ L.length) : (splice L off cs).length = L.length := length_splice L off cs h
theorem splice_two {α : Type} (L : List α) (off : Nat) (a b : List α) (h : off + a.length + b.length ≤ L.length) : splice (splice L off a) (off + a.length) b = splice L off (a ++ b) := by
  unfold splice
  have e1 : (L.take off ++ (a ++ L.drop (off + a.length))).take (off + a.length) = L.take off ++ a := by
    rw [← List.append_assoc, List.take_append_of_le_length (by simp; omega)]
    exact List.take_of_length_le (by simp; omega)
  have e2 : (L.take off ++ (a ++ L.drop (off + a.length))).drop (off + a.length + b.length) = L.drop (off + a.length + b.length) := by
    rw [← List.append_assoc, List.drop_append]
    simp only [List.length_append, List.length_take]
    rw [List.drop_eq_nil_of_le (by simp; omega), List.nil_append, List.drop_drop]
    congr 1; omega
  rw [e1, e2]
  simp [Nat.add_assoc]


/-- bytes with 0 behind them in the last sector -/
def pad (b : List (BitVec 8)) : List (BitVec 8) := b ++ List.replicate (secs b.length * 256 - b.length) 0#8
theorem secs_le (n : Nat) : n ≤ secs n * 256 := by unfold secs; omega
theorem secs_pos (n : Nat) (h : 1 ≤ n) : 1 ≤ secs n := by unfold secs; omega
theorem pad_length (b : List (BitVec 8)) : (pad b).length = secs b.length * 256 := by unfold pad; have := secs_le b.length; simp; omega

theorem box_cells (w : World) (x y : Value) (T : TypeId) : (w.alloc (.cells #[x, y] T)).cell? ⟨w.heap.size, 0, none⟩ = some x ∧ (w.alloc (.cells #[x, y] T)).cell? ⟨w.heap.size, 1, none⟩ = some y := by
  have h : Blk (w.alloc (.cells #[x, y] T)) w.heap.size T [x, y] := Blk.new' w T [x, y]
  exact ⟨h.cell (by simp [maxLen]) 0 (by simp), h.cell (by simp [maxLen]) 1 (by simp)⟩


theorem Blk.laterB {w w' : World} {g : Nat} {t : TypeId} {xs : List Value} (h : Blk w g t xs) (hb : Below w.heap.size w w') : Blk w' g t xs := by
  have hl := h.lt
  unfold Blk at *; rw [hb.block g hl]; exact h
theorem cell_keep {w w' : World} {x : Addr} {v : Value} {row : Option Nat} (h : w.cell? x = some v) (hg : w.grownBy w' row) (hr : some x.block ≠ row) : w'.cell? x = some v := by
  have hx : x.block < w.heap.size := by
    rcases Nat.lt_or_ge x.block w.heap.size with h1 | h1
    · exact h1
    · unfold World.cell? at h
      rw [Array.getElem?_eq_none h1] at h
      simp at h
  rw [World.cell?_of_block (w := w) (hg.block _ hx hr)]
  exact h


end Go.Proofs.Ytfcaaljehhibgaa

/- What a disk is: its bytes as they are safe, the groups behind them; no Go. -/
namespace Go.Proofs.Ytfcaaljehhibgaa
open Go.RowKit

theorem splice_at {α : Type} (L : List α) (off : Nat) (cs : List α) (j : Nat) (h : off + cs.length ≤ L.length) : (splice L off cs)[j]? = if off ≤ j ∧ j < off + cs.length then cs[j - off]? else L[j]? := by
  unfold splice
  have h1 : (L.take off).length = off := by simp; omega
  by_cases c1 : j < off
  · rw [if_neg (by omega), List.getElem?_append_left (by omega), List.getElem?_take, if_pos c1]
  · rw [List.getElem?_append_right (by omega), h1]
    by_cases c2 : j < off + cs.length
    · rw [if_pos (by omega), List.getElem?_append_left (by omega)]
    · rw [if_neg (by omega), List.getElem?_append_right (by omega), List.getElem?_drop]
      congr 1; omega

/-- a group laid over an image -/
def layG (im : List (BitVec 8)) (g : Nat × List (BitVec 8)) : List (BitVec 8) := splice im (g.1 * 256) (pad g.2)
/-- what is read -/
def nowOf (safe : List (BitVec 8)) (gs : List (Nat × List (BitVec 8))) : List (BitVec 8) := gs.foldl layG safe
/-- does the bit say that the sector is kept? -/
def bitOf (n : Int) (k : Nat) : Bool := decide (n / 2 ^ (k % 16) % 2 = 1)
/-- a sector of a group -/
def secAt (b : List (BitVec 8)) (k : Nat) : List (BitVec 8) := ((pad b).drop (k * 256)).take 256
/-- the first k sectors of a group, those that are kept -/
def keepTo (im : List (BitVec 8)) (g : Nat × List (BitVec 8)) (n : Int) : Nat → List (BitVec 8)
  | 0 => im
  | k + 1 => if bitOf n k then splice (keepTo im g n k) ((g.1 + k) * 256) (secAt g.2 k) else keepTo im g n k
def keepG (im : List (BitVec 8)) (g : Nat × List (BitVec 8)) (n : Int) : List (BitVec 8) := keepTo im g n (secs g.2.length)
/-- the first i groups, kept as the list says -/
def crashTo (safe : List (BitVec 8)) (gs : List (Nat × List (BitVec 8))) (kept : List Int) : Nat → List (BitVec 8)
  | 0 => safe
  | i + 1 => keepG (crashTo safe gs kept i) (gs.getD i (0, [])) (kept.getD i 0)
def crashed (safe : List (BitVec 8)) (gs : List (Nat × List (BitVec 8))) (kept : List Int) : List (BitVec 8) := crashTo safe gs kept gs.length

structure Dm where
  safe : List (BitVec 8)
  gs : List (Nat × List (BitVec 8))
  bad : Bool
  gone : Bool
/-- a group that fits -/
def Fits (n : Nat) (g : Nat × List (BitVec 8)) : Prop := 1 ≤ g.2.length ∧ (g.1 + secs g.2.length) * 256 ≤ n
structure Dm.Wf (d : Dm) : Prop where
  size : ∃ n, 1 ≤ n ∧ n ≤ 4096 ∧ d.safe.length = n * 256
  fits : ∀ g ∈ d.gs, Fits d.safe.length g

theorem layG_length {im : List (BitVec 8)} {g : Nat × List (BitVec 8)} (h : Fits im.length g) : (layG im g).length = im.length := by
  unfold layG; exact splice_length _ _ _ (by rw [pad_length, ← Nat.add_mul]; exact h.2)
theorem nowOf_length {safe : List (BitVec 8)} {gs : List (Nat × List (BitVec 8))} (h : ∀ g ∈ gs, Fits safe.length g) : (nowOf safe gs).length = safe.length := by
  induction gs generalizing safe with
  | nil => rfl
  | cons g r ih =>
    have h1 := layG_length (h g (by simp))
    show (nowOf (layG safe g) r).length = _
    rw [ih (fun x hx => by rw [h1]; exact h x (List.mem_cons_of_mem _ hx)), h1]
theorem nowOf_snoc (safe : List (BitVec 8)) (gs : List (Nat × List (BitVec 8))) (g : Nat × List (BitVec 8)) : nowOf safe (gs ++ [g]) = layG (nowOf safe gs) g := by unfold nowOf; simp
theorem nowOf_nil (safe : List (BitVec 8)) : nowOf safe [] = safe := rfl
theorem secAt_length (b : List (BitVec 8)) (k : Nat) (h : k < secs b.length) : (secAt b k).length = 256 := by
  unfold secAt
  rw [List.length_take, List.length_drop, pad_length]
  generalize secs b.length = s at *; omega
theorem secAt_at (b : List (BitVec 8)) (k j : Nat) (h : j < 256) : (secAt b k)[j]? = (pad b)[k * 256 + j]? := by
  unfold secAt; rw [List.getElem?_take, if_pos h, List.getElem?_drop]
set_option maxRecDepth 4000 in
theorem keepTo_length {im : List (BitVec 8)} {g : Nat × List (BitVec 8)} (h : Fits im.length g) (n : Int) (k : Nat) (hk : k ≤ secs g.2.length) : (keepTo im g n k).length = im.length := by
  induction k with
  | zero => rfl
  | succ k ih =>
    unfold keepTo
    have h0 := ih (by omega)
    split
    · rw [splice_length _ _ _ ?_, h0]
      rw [secAt_length _ _ (by omega), h0]
      have := h.2
      generalize secs g.2.length = s at *
      generalize g.1 = a at *
      have e : (a + k + 1) * 256 ≤ (a + s) * 256 := Nat.mul_le_mul_right _ (by omega)
      omega
    · exact h0
theorem keepG_length {im : List (BitVec 8)} {g : Nat × List (BitVec 8)} (h : Fits im.length g) (n : Int) : (keepG im g n).length = im.length := keepTo_length h n _ (Nat.le_refl _)
theorem crashTo_length {safe : List (BitVec 8)} {gs : List (Nat × List (BitVec 8))} (h : ∀ g ∈ gs, Fits safe.length g) (kept : List Int) (i : Nat) (hi : i ≤ gs.length) : (crashTo safe gs kept i).length = safe.length := by
  induction i with
  | zero => rfl
  | succ i ih =>
    unfold crashTo
    have h0 := ih (by omega)
    have hm : gs.getD i (0, []) ∈ gs := by rw [List.getD, List.getElem?_eq_getElem (by omega)]; exact List.getElem_mem _
    rw [keepG_length (by rw [h0]; exact h _ hm), h0]

set_option maxRecDepth 4000 in
/-- a byte of a group that is kept -/
theorem keepTo_at {im : List (BitVec 8)} {g : Nat × List (BitVec 8)} (h : Fits im.length g) (n : Int) (k : Nat) (hk : k ≤ secs g.2.length) (j : Nat) :
    (keepTo im g n k)[j]? = if g.1 * 256 ≤ j ∧ j < (g.1 + k) * 256 ∧ bitOf n ((j - g.1 * 256) / 256) = true then (pad g.2)[j - g.1 * 256]? else im[j]? := by
  induction k with
  | zero => unfold keepTo; rw [if_neg (by omega)]
  | succ k ih =>
    have h0 := ih (by omega)
    have hlen := keepTo_length h n k (by omega)
    have hsl := secAt_length g.2 k (by omega)
    have hf : (g.1 + k) * 256 + (secAt g.2 k).length ≤ (keepTo im g n k).length := by
      rw [hsl, hlen]
      have := h.2
      generalize secs g.2.length = s at *
      generalize g.1 = a at *
      have e : (a + k + 1) * 256 ≤ (a + s) * 256 := Nat.mul_le_mul_right _ (by omega)
      omega
    unfold keepTo
    generalize hA : g.1 = A at *
    by_cases hb : bitOf n k = true
    · rw [if_pos hb, splice_at _ _ _ _ hf, hsl, h0]
      by_cases hin : (A + k) * 256 ≤ j ∧ j < (A + k) * 256 + 256
      · have e1 : (j - A * 256) / 256 = k := by omega
        rw [if_pos hin, if_pos ⟨by omega, by omega, by rw [e1]; exact hb⟩, secAt_at _ _ _ (by omega)]
        congr 1; omega
      · rw [if_neg hin]
        by_cases c : A * 256 ≤ j ∧ j < (A + k) * 256 ∧ bitOf n ((j - A * 256) / 256) = true
        · rw [if_pos c, if_pos ⟨c.1, by omega, c.2.2⟩]
        · rw [if_neg c, if_neg (fun c' => c ⟨c'.1, by omega, c'.2.2⟩)]
    · rw [if_neg hb, h0]
      by_cases c : A * 256 ≤ j ∧ j < (A + k) * 256 ∧ bitOf n ((j - A * 256) / 256) = true
      · rw [if_pos c, if_pos ⟨c.1, by omega, c.2.2⟩]
      · rw [if_neg c, if_neg (fun c' => ?_)]
        by_cases hj : j < (A + k) * 256
        · exact c ⟨c'.1, hj, c'.2.2⟩
        · have e1 : (j - A * 256) / 256 = k := by omega
          rw [e1] at c'
          exact hb c'.2.2
theorem keepG_at {im : List (BitVec 8)} {g : Nat × List (BitVec 8)} (h : Fits im.length g) (n : Int) (j : Nat) :
    (keepG im g n)[j]? = if g.1 * 256 ≤ j ∧ j < (g.1 + secs g.2.length) * 256 ∧ bitOf n ((j - g.1 * 256) / 256) = true then (pad g.2)[j - g.1 * 256]? else im[j]? := keepTo_at h n _ (Nat.le_refl _) j
theorem layG_at {im : List (BitVec 8)} {g : Nat × List (BitVec 8)} (h : Fits im.length g) (j : Nat) :
    (layG im g)[j]? = if g.1 * 256 ≤ j ∧ j < (g.1 + secs g.2.length) * 256 then (pad g.2)[j - g.1 * 256]? else im[j]? := by
  unfold layG
  rw [splice_at _ _ _ _ (by rw [pad_length, ← Nat.add_mul]; exact h.2), pad_length, ← Nat.add_mul]
theorem bit_all (k : Nat) : bitOf (-1) k = true := by
  unfold bitOf
  have h : k % 16 < 16 := Nat.mod_lt _ (by omega)
  generalize k % 16 = m at *
  have : m = 0 ∨ m = 1 ∨ m = 2 ∨ m = 3 ∨ m = 4 ∨ m = 5 ∨ m = 6 ∨ m = 7 ∨ m = 8 ∨ m = 9 ∨ m = 10 ∨ m = 11 ∨ m = 12 ∨ m = 13 ∨ m = 14 ∨ m = 15 := by omega
  rcases this with rfl | rfl | rfl | rfl | rfl | rfl | rfl | rfl | rfl | rfl | rfl | rfl | rfl | rfl | rfl | rfl <;> decide
theorem bit_none (k : Nat) : bitOf 0 k = false := by unfold bitOf; simp
theorem keepG_all {im : List (BitVec 8)} {g : Nat × List (BitVec 8)} (h : Fits im.length g) : keepG im g (-1) = layG im g := by
  apply List.ext_getElem?
  intro j
  rw [keepG_at h, layG_at h]
  simp only [bit_all, and_true]
theorem keepG_none {im : List (BitVec 8)} {g : Nat × List (BitVec 8)} (h : Fits im.length g) : keepG im g 0 = im := by
  apply List.ext_getElem?
  intro j
  rw [keepG_at h]
  simp [bit_none]
end Go.Proofs.Ytfcaaljehhibgaa
