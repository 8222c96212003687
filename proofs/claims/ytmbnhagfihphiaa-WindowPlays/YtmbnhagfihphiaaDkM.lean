/- What a disk is: its bytes as they are safe, the groups behind them; no Go. -/
import Derived.Test.YtmbnhagfihphiaaDkW1
namespace Go.Proofs.Ytmbnhagfihphiaa
open Go.RowKit

theorem splice_at {α : Type} (L : List α) (off : Nat) (cs : List α) (j : Nat) (h : off + cs.length ≤ L.length) : (splice L off cs)[j]? = if off ≤ j ∧ j < off + cs.length then cs[j - off]? else L[j]? := by
  unfold splice
  have h1 : (L.take off).length = off := by simp; omega
  by_cases c1 : j < off
  · rw [if_neg (by omega), List.getElem?_append_left (by omega), List.getElem?_take, if_pos c1]
  · rw [List.getElem?_append_right (by omega), h1]
    by_cases c2 : j < off + cs.length
    · rw [if_pos (by omega), List.getElem?_append_left (by omega)]
    · rw [if_neg (by omega), List.getElem?_append_right (by omega), List.getElem?_drop]
      congr 1; omega

/-- a group laid over an image -/
def layG (im : List (BitVec 8)) (g : Nat × List (BitVec 8)) : List (BitVec 8) := splice im (g.1 * 256) (pad g.2)
/-- what is read -/
def nowOf (safe : List (BitVec 8)) (gs : List (Nat × List (BitVec 8))) : List (BitVec 8) := gs.foldl layG safe
/-- does the bit say that the sector is kept? -/
def bitOf (n : Int) (k : Nat) : Bool := decide (n / 2 ^ (k % 16) % 2 = 1)
/-- a sector of a group -/
def secAt (b : List (BitVec 8)) (k : Nat) : List (BitVec 8) := ((pad b).drop (k * 256)).take 256
/-- the first k sectors of a group, those that are kept -/
def keepTo (im : List (BitVec 8)) (g : Nat × List (BitVec 8)) (n : Int) : Nat → List (BitVec 8)
  | 0 => im
  | k + 1 => if bitOf n k then splice (keepTo im g n k) ((g.1 + k) * 256) (secAt g.2 k) else keepTo im g n k
def keepG (im : List (BitVec 8)) (g : Nat × List (BitVec 8)) (n : Int) : List (BitVec 8) := keepTo im g n (secs g.2.length)
/-- the first i groups, kept as the list says -/
def crashTo (safe : List (BitVec 8)) (gs : List (Nat × List (BitVec 8))) (kept : List Int) : Nat → List (BitVec 8)
  | 0 => safe
  | i + 1 => keepG (crashTo safe gs kept i) (gs.getD i (0, [])) (kept.getD i 0)
def crashed (safe : List (BitVec 8)) (gs : List (Nat × List (BitVec 8))) (kept : List Int) : List (BitVec 8) := crashTo safe gs kept gs.length

structure Dm where
  safe : List (BitVec 8)
  gs : List (Nat × List (BitVec 8))
  bad : Bool
  gone : Bool
/-- a group that fits -/
def Fits (n : Nat) (g : Nat × List (BitVec 8)) : Prop := 1 ≤ g.2.length ∧ (g.1 + secs g.2.length) * 256 ≤ n
structure Dm.Wf (d : Dm) : Prop where
  size : ∃ n, 1 ≤ n ∧ n ≤ 4096 ∧ d.safe.length = n * 256
  fits : ∀ g ∈ d.gs, Fits d.safe.length g

theorem layG_length {im : List (BitVec 8)} {g : Nat × List (BitVec 8)} (h : Fits im.length g) : (layG im g).length = im.length := by
  unfold layG; exact splice_length _ _ _ (by rw [pad_length, ← Nat.add_mul]; exact h.2)
theorem nowOf_length {safe : List (BitVec 8)} {gs : List (Nat × List (BitVec 8))} (h : ∀ g ∈ gs, Fits safe.length g) : (nowOf safe gs).length = safe.length := by
  induction gs generalizing safe with
  | nil => rfl
  | cons g r ih =>
    have h1 := layG_length (h g (by simp))
    show (nowOf (layG safe g) r).length = _
    rw [ih (fun x hx => by rw [h1]; exact h x (List.mem_cons_of_mem _ hx)), h1]
theorem nowOf_snoc (safe : List (BitVec 8)) (gs : List (Nat × List (BitVec 8))) (g : Nat × List (BitVec 8)) : nowOf safe (gs ++ [g]) = layG (nowOf safe gs) g := by unfold nowOf; simp
theorem nowOf_nil (safe : List (BitVec 8)) : nowOf safe [] = safe := rfl
theorem secAt_length (b : List (BitVec 8)) (k : Nat) (h : k < secs b.length) : (secAt b k).length = 256 := by
  unfold secAt
  rw [List.length_take, List.length_drop, pad_length]
  generalize secs b.length = s at *; omega
theorem secAt_at (b : List (BitVec 8)) (k j : Nat) (h : j < 256) : (secAt b k)[j]? = (pad b)[k * 256 + j]? := by
  unfold secAt; rw [List.getElem?_take, if_pos h, List.getElem?_drop]
set_option maxRecDepth 4000 in
theorem keepTo_length {im : List (BitVec 8)} {g : Nat × List (BitVec 8)} (h : Fits im.length g) (n : Int) (k : Nat) (hk : k ≤ secs g.2.length) : (keepTo im g n k).length = im.length := by
  induction k with
  | zero => rfl
  | succ k ih =>
    unfold keepTo
    have h0 := ih (by omega)
    split
    · rw [splice_length _ _ _ ?_, h0]
      rw [secAt_length _ _ (by omega), h0]
      have := h.2
      generalize secs g.2.length = s at *
      generalize g.1 = a at *
      have e : (a + k + 1) * 256 ≤ (a + s) * 256 := Nat.mul_le_mul_right _ (by omega)
      omega
    · exact h0
theorem keepG_length {im : List (BitVec 8)} {g : Nat × List (BitVec 8)} (h : Fits im.length g) (n : Int) : (keepG im g n).length = im.length := keepTo_length h n _ (Nat.le_refl _)
theorem crashTo_length {safe : List (BitVec 8)} {gs : List (Nat × List (BitVec 8))} (h : ∀ g ∈ gs, Fits safe.length g) (kept : List Int) (i : Nat) (hi : i ≤ gs.length) : (crashTo safe gs kept i).length = safe.length := by
  induction i with
  | zero => rfl
  | succ i ih =>
    unfold crashTo
    have h0 := ih (by omega)
    have hm : gs.getD i (0, []) ∈ gs := by rw [List.getD, List.getElem?_eq_getElem (by omega)]; exact List.getElem_mem _
    rw [keepG_length (by rw [h0]; exact h _ hm), h0]

set_option maxRecDepth 4000 in
/-- a byte of a group that is kept -/
theorem keepTo_at {im : List (BitVec 8)} {g : Nat × List (BitVec 8)} (h : Fits im.length g) (n : Int) (k : Nat) (hk : k ≤ secs g.2.length) (j : Nat) :
    (keepTo im g n k)[j]? = if g.1 * 256 ≤ j ∧ j < (g.1 + k) * 256 ∧ bitOf n ((j - g.1 * 256) / 256) = true then (pad g.2)[j - g.1 * 256]? else im[j]? := by
  induction k with
  | zero => unfold keepTo; rw [if_neg (by omega)]
  | succ k ih =>
    have h0 := ih (by omega)
    have hlen := keepTo_length h n k (by omega)
    have hsl := secAt_length g.2 k (by omega)
    have hf : (g.1 + k) * 256 + (secAt g.2 k).length ≤ (keepTo im g n k).length := by
      rw [hsl, hlen]
      have := h.2
      generalize secs g.2.length = s at *
      generalize g.1 = a at *
      have e : (a + k + 1) * 256 ≤ (a + s) * 256 := Nat.mul_le_mul_right _ (by omega)
      omega
    unfold keepTo
    generalize hA : g.1 = A at *
    by_cases hb : bitOf n k = true
    · rw [if_pos hb, splice_at _ _ _ _ hf, hsl, h0]
      by_cases hin : (A + k) * 256 ≤ j ∧ j < (A + k) * 256 + 256
      · have e1 : (j - A * 256) / 256 = k := by omega
        rw [if_pos hin, if_pos ⟨by omega, by omega, by rw [e1]; exact hb⟩, secAt_at _ _ _ (by omega)]
        congr 1; omega
      · rw [if_neg hin]
        by_cases c : A * 256 ≤ j ∧ j < (A + k) * 256 ∧ bitOf n ((j - A * 256) / 256) = true
        · rw [if_pos c, if_pos ⟨c.1, by omega, c.2.2⟩]
        · rw [if_neg c, if_neg (fun c' => c ⟨c'.1, by omega, c'.2.2⟩)]
    · rw [if_neg hb, h0]
      by_cases c : A * 256 ≤ j ∧ j < (A + k) * 256 ∧ bitOf n ((j - A * 256) / 256) = true
      · rw [if_pos c, if_pos ⟨c.1, by omega, c.2.2⟩]
      · rw [if_neg c, if_neg (fun c' => ?_)]
        by_cases hj : j < (A + k) * 256
        · exact c ⟨c'.1, hj, c'.2.2⟩
        · have e1 : (j - A * 256) / 256 = k := by omega
          rw [e1] at c'
          exact hb c'.2.2
theorem keepG_at {im : List (BitVec 8)} {g : Nat × List (BitVec 8)} (h : Fits im.length g) (n : Int) (j : Nat) :
    (keepG im g n)[j]? = if g.1 * 256 ≤ j ∧ j < (g.1 + secs g.2.length) * 256 ∧ bitOf n ((j - g.1 * 256) / 256) = true then (pad g.2)[j - g.1 * 256]? else im[j]? := keepTo_at h n _ (Nat.le_refl _) j
theorem layG_at {im : List (BitVec 8)} {g : Nat × List (BitVec 8)} (h : Fits im.length g) (j : Nat) :
    (layG im g)[j]? = if g.1 * 256 ≤ j ∧ j < (g.1 + secs g.2.length) * 256 then (pad g.2)[j - g.1 * 256]? else im[j]? := by
  unfold layG
  rw [splice_at _ _ _ _ (by rw [pad_length, ← Nat.add_mul]; exact h.2), pad_length, ← Nat.add_mul]
theorem bit_all (k : Nat) : bitOf (-1) k = true := by
  unfold bitOf
  have h : k % 16 < 16 := Nat.mod_lt _ (by omega)
  generalize k % 16 = m at *
  have : m = 0 ∨ m = 1 ∨ m = 2 ∨ m = 3 ∨ m = 4 ∨ m = 5 ∨ m = 6 ∨ m = 7 ∨ m = 8 ∨ m = 9 ∨ m = 10 ∨ m = 11 ∨ m = 12 ∨ m = 13 ∨ m = 14 ∨ m = 15 := by omega
  rcases this with rfl | rfl | rfl | rfl | rfl | rfl | rfl | rfl | rfl | rfl | rfl | rfl | rfl | rfl | rfl | rfl <;> decide
theorem bit_none (k : Nat) : bitOf 0 k = false := by unfold bitOf; simp
theorem keepG_all {im : List (BitVec 8)} {g : Nat × List (BitVec 8)} (h : Fits im.length g) : keepG im g (-1) = layG im g := by
  apply List.ext_getElem?
  intro j
  rw [keepG_at h, layG_at h]
  simp only [bit_all, and_true]
theorem keepG_none {im : List (BitVec 8)} {g : Nat × List (BitVec 8)} (h : Fits im.length g) : keepG im g 0 = im := by
  apply List.ext_getElem?
  intro j
  rw [keepG_at h]
  simp [bit_none]
end Go.Proofs.Ytmbnhagfihphiaa
