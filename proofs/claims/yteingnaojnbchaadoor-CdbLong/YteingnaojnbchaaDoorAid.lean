/- Walks of the verifier's own helpers: bytes that are lent, looked at, and spoilt. -/
import Derived.Test.YteingnaojnbchaaDoorMem
import Derived.ArgAppend
namespace Go.Proofs.YteingnaojnbchaaDoor
open Go.RowKit

theorem grown_trans {a b c : World} {row : Option Nat} (h : a.grownBy b row) (k : b.grownBy c row) : a.grownBy c row :=
  ⟨k.os.trans h.os, k.tape.trans h.tape, k.output.trans h.output, Nat.le_trans h.size k.size, fun i hi hr => (k.block i (Nat.lt_of_lt_of_le hi h.size) hr).trans (h.block i hi hr)⟩
theorem grown_none {a b : World} (h : a.grownBy b none) (row : Option Nat) : a.grownBy b row := ⟨h.os, h.tape, h.output, h.size, fun i hi _ => h.block i hi (by simp)⟩
theorem grown_new {a b c : World} {row : Option Nat} {g : Nat} (h : a.grownBy b row) (hg : a.heap.size ≤ g) (k : b.grownBy c (some g)) : a.grownBy c row :=
  ⟨k.os.trans h.os, k.tape.trans h.tape, k.output.trans h.output, Nat.le_trans h.size k.size, fun i hi hr => (k.block i (Nat.lt_of_lt_of_le hi h.size) (by intro e; cases e; omega)).trans (h.block i hi hr)⟩
theorem grown_set (w : World) (g i : Nat) (v : Value) : w.grownBy (w.setCell ⟨g, i, none⟩ v) (some g) :=
  ⟨rfl, rfl, rfl, by simp [World.setCell], fun k _ hr => Below.heap_setCell _ _ _ _ (by intro e; exact hr (by rw [e]))⟩
theorem grown_below {w w' : World} {g : Nat} (h : w.grownBy w' (some g)) (B : Nat) (hB : B ≤ g) (hB' : B ≤ w.heap.size) : Below B w w' :=
  ⟨h.os, h.tape, h.output, h.size, fun k hk => h.block k (by omega) (by intro e; cases e; omega)⟩
theorem grown_all {w w' : World} (h : w.grownBy w' none) : Below w.heap.size w w' := ⟨h.os, h.tape, h.output, h.size, fun k hk => h.block k hk (by simp)⟩

/-- a row of memory, known whole -/
def Blk (w : World) (g : Nat) (t : TypeId) (xs : List Value) : Prop := w.heap[g]? = some (.cells xs.toArray t (0, 0))
theorem Blk.owns {w : World} {g : Nat} {t : TypeId} {xs : List Value} (h : Blk w g t xs) (hm : xs.length ≤ maxLen) : w.ownsRow g t 1 (.slice (some ⟨g, 0, none⟩) xs.length xs.length) xs.length xs :=
  ⟨by omega, .inr ⟨g, xs.length, xs.toArray, rfl, Nat.le_refl _, h, Nat.le_refl _, hm, by simp, by simp⟩⟩
theorem Blk.cell {w : World} {g : Nat} {t : TypeId} {xs : List Value} (h : Blk w g t xs) (hm : xs.length ≤ maxLen) (i : Nat) (hi : i < xs.length) : w.cell? ⟨g, i, none⟩ = xs[i]? :=
  World.ownsRow.cellAt (h.owns hm) i (by omega)
theorem Blk.frozen {w : World} {g : Nat} {t : TypeId} {xs : List Value} (h : Blk w g t xs) (hm : xs.length ≤ maxLen) (i : Nat) : w.frozen? ⟨g, i, none⟩ = false :=
  World.ownsRow.frozenAt (h.owns hm) i
theorem Blk.lt {w : World} {g : Nat} {t : TypeId} {xs : List Value} (h : Blk w g t xs) : g < w.heap.size := by
  rcases Nat.lt_or_ge g w.heap.size with h' | h'
  · exact h'
  · unfold Blk at h; rw [Array.getElem?_eq_none h'] at h; cases h
theorem Blk.set {w : World} {g : Nat} {t : TypeId} {xs : List Value} (h : Blk w g t xs) (i : Nat) (u : Value) : Blk (w.setCell ⟨g, i, none⟩ u) g t (xs.set i u) := by
  have hl := h.lt
  unfold Blk at *
  simp only [World.setCell, Array.getElem?_modify, if_pos, h]
  simp
theorem Blk.grown {w w' : World} {g : Nat} {t : TypeId} {xs : List Value} (h : Blk w g t xs) {row : Option Nat} (hg : w.grownBy w' row) (hr : some g ≠ row) : Blk w' g t xs := by
  have hl := h.lt
  unfold Blk at *; rw [hg.block g hl hr]; exact h

set_option maxHeartbeats 400000 in
theorem Lent_any (a : Option Addr) (len cap : Nat) (l : List (BitVec 8)) (w : World) (A : Arg 140737488351232 w a len cap l) :
    Calls Tryd.prog 9 #[.slice a len cap] w fun e w' => ∃ g c, e = .returned (.slice (some ⟨g, 0, none⟩) len c) ∧ Own w' w.heap.size (.slice (some ⟨g, 0, none⟩) (len + 1) c) (l ++ [167#8]) ∧ w.heap.size ≤ g ∧ len + 1 ≤ c ∧ c ≤ maxLen ∧ Below w.heap.size w w' := by
  obtain ⟨hl, hle, hbd, hr, hn⟩ := A
  go_enter Tryd.func9, Tryd.ntmps9
  go_wp2_with (at_builtin; refine wpList_append_bytes _ rfl _ _ rfl w.heap.size _ [] rfl (Own.nil _ _) a len cap l rfl hl hr hn hle (by simp; omega) (Nat.le_refl _) ?_)
  intro v2 w2 ho2 hg2
  have hb2 : Below w.heap.size w w2 := (Below.refl _ _).grown hg2 (Nat.le_refl _) (by simp [Value.ownBlock])
  go_wp2_with (at_builtin; refine wpList_append_bytes _ rfl _ _ rfl w.heap.size v2 l rfl (ho2.later ((Below.refl _ _).alloc (Nat.le_refl _) _)) (some ⟨w2.heap.size, 0, none⟩) 1 1 [167#8] rfl rfl (Row.newl _ _ _ _ _ rfl) (fun h => by cases h) (Nat.le_refl _) (by omega) (by have := hb2.size; simp; omega) ?_)
  intro v3 w3 ho3 hg3
  have hb3 : Below w.heap.size w w3 := (hb2.alloc hb2.size _).grown hg3 (by have := hb2.size; simp; omega) (own_block ho2)
  have hl3 : (l ++ [167#8]).length = len + 1 := by simp; omega
  obtain ⟨a3, cap3, hv3, hle3, hm3, hr3, hn3, hg3'⟩ := ho3.open
  cases a3 with
  | none => have := hn3 rfl; omega
  | some x =>
    obtain ⟨g, rfl, hgg⟩ := hg3' x rfl
    rw [hl3] at hv3 hle3
    subst hv3
    have q1 : (len : Int) ≤ (cap3 : Int) := by omega
    have q2 : (0 : Int) ≤ (len : Int) := by omega
    have HO : Hid _ := ho3
    clear ho3 ho2 hg2 hg3 hr3 hr
    go_wp2
    go_ret
    exact ⟨g, cap3, rfl, HO.out, hgg, hle3, hm3, hb3⟩

set_option maxHeartbeats 400000 in
theorem Kept_yes (g len c : Nat) (a1 : Option Addr) (cap1 : Nat) (l : List (BitVec 8)) (w : World) (hl : l.length = len) (hc : len + 1 ≤ c) (hm : len ≤ 140737488351232) (hr : Row w (some ⟨g, 0, none⟩) (l ++ [167#8])) (hr1 : Row w a1 l) :
    Calls Tryd.prog 14 #[.slice (some ⟨g, 0, none⟩) len c, .slice a1 len cap1] w fun e w' => e = .returned (.bool true) ∧ w' = w := by
  rcases hr with h0 | ⟨b, off, hb, hcell⟩
  · simp at h0
  cases hb
  have hr0 : Row w (some ⟨g, 0, none⟩) l := .inr ⟨g, 0, rfl, fun i hi => by
    rw [hcell i (by simp; omega)]; unfold bt; rw [List.getD, List.getD, List.getElem?_append_left hi]⟩
  have hs := hr0.str len c hl
  have hs1 := hr1.str len cap1 hl
  have hk := hcell len (by simp; omega)
  have e : bt (l ++ [167#8]) len = 167 := by unfold bt; rw [List.getD, List.getElem?_append_right (by omega)]; simp [hl]
  rw [e, Nat.zero_add] at hk
  have q1 : (len : Int) + 1 ≤ (c : Int) := by omega
  clear hcell hr0 hr1 e
  go_enter Tryd.func14, Tryd.ntmps14
  go_wp2
  go_ret
  exact ⟨rfl, rfl⟩

/-- the first k cells from off on are 90 -/
def Spoilt (ys : List Value) (off k : Nat) : Prop := ∀ i, i < k → ys[off + i]? = some (.int .u8 90)
theorem Spoilt.step {ys : List Value} {off k : Nat} (h : Spoilt ys off k) (hk : off + k < ys.length) : Spoilt (ys.set (off + k) (.int .u8 90)) off (k + 1) := by
  intro i hi
  by_cases e : i = k
  · subst e; rw [List.getElem?_set_self hk]
  · rw [List.getElem?_set_ne (by omega)]; exact h i (by omega)




end Go.Proofs.YteingnaojnbchaaDoor
