/- Walks of the verifier's own helpers: bytes that are lent, looked at, and spoilt. -/
import Derived.Test.YtncplnejoppekaaDoorMem
import Derived.ArgAppend
namespace Go.Proofs.YtncplnejoppekaaDoor
open Go.RowKit

theorem grown_trans {a b c : World} {row : Option Nat} (h : a.grownBy b row) (k : b.grownBy c row) : a.grownBy c row :=
  ⟨k.os.trans h.os, k.tape.trans h.tape, k.output.trans h.output, Nat.le_trans h.size k.size, fun i hi hr => (k.block i (Nat.lt_of_lt_of_le hi h.size) hr).trans (h.block i hi hr)⟩
theorem grown_none {a b : World} (h : a.grownBy b none) (row : Option Nat) : a.grownBy b row := ⟨h.os, h.tape, h.output, h.size, fun i hi _ => h.block i hi (by simp)⟩
theorem grown_new {a b c : World} {row : Option Nat} {g : Nat} (h : a.grownBy b row) (hg : a.heap.size ≤ g) (k : b.grownBy c (some g)) : a.grownBy c row :=
  ⟨k.os.trans h.os, k.tape.trans h.tape, k.output.trans h.output, Nat.le_trans h.size k.size, fun i hi hr => (k.block i (Nat.lt_of_lt_of_le hi h.size) (by intro e; cases e; omega)).trans (h.block i hi hr)⟩
theorem grown_set (w : World) (g i : Nat) (v : Value) : w.grownBy (w.setCell ⟨g, i, none⟩ v) (some g) :=
  ⟨rfl, rfl, rfl, by simp [World.setCell], fun k _ hr => Below.heap_setCell _ _ _ _ (by intro e; exact hr (by rw [e]))⟩
theorem grown_below {w w' : World} {g : Nat} (h : w.grownBy w' (some g)) (B : Nat) (hB : B ≤ g) (hB' : B ≤ w.heap.size) : Below B w w' :=
  ⟨h.os, h.tape, h.output, h.size, fun k hk => h.block k (by omega) (by intro e; cases e; omega)⟩
theorem grown_all {w w' : World} (h : w.grownBy w' none) : Below w.heap.size w w' := ⟨h.os, h.tape, h.output, h.size, fun k hk => h.block k hk (by simp)⟩

/-- a row of memory, known whole -/
def Blk (w : World) (g : Nat) (t : TypeId) (xs : List Value) : Prop := w.heap[g]? = some (.cells xs.toArray t (0, 0))
theorem Blk.owns {w : World} {g : Nat} {t : TypeId} {xs : List Value} (h : Blk w g t xs) (hm : xs.length ≤ maxLen) : w.ownsRow g t 1 (.slice (some ⟨g, 0, none⟩) xs.length xs.length) xs.length xs :=
  ⟨by omega, .inr ⟨g, xs.length, xs.toArray, rfl, Nat.le_refl _, h, Nat.le_refl _, hm, by simp, by simp⟩⟩
theorem Blk.cell {w : World} {g : Nat} {t : TypeId} {xs : List Value} (h : Blk w g t xs) (hm : xs.length ≤ maxLen) (i : Nat) (hi : i < xs.length) : w.cell? ⟨g, i, none⟩ = xs[i]? :=
  World.ownsRow.cellAt (h.owns hm) i (by omega)
theorem Blk.frozen {w : World} {g : Nat} {t : TypeId} {xs : List Value} (h : Blk w g t xs) (hm : xs.length ≤ maxLen) (i : Nat) : w.frozen? ⟨g, i, none⟩ = false :=
  World.ownsRow.frozenAt (h.owns hm) i
theorem Blk.lt {w : World} {g : Nat} {t : TypeId} {xs : List Value} (h : Blk w g t xs) : g < w.heap.size := by
  rcases Nat.lt_or_ge g w.heap.size with h' | h'
  · exact h'
  · unfold Blk at h; rw [Array.getElem?_eq_none h'] at h; cases h
theorem Blk.set {w : World} {g : Nat} {t : TypeId} {xs : List Value} (h : Blk w g t xs) (i : Nat) (u : Value) : Blk (w.setCell ⟨g, i, none⟩ u) g t (xs.set i u) := by
  have hl := h.lt
  unfold Blk at *
  simp only [World.setCell, Array.getElem?_modify, if_pos, h]
  simp
theorem Blk.grown {w w' : World} {g : Nat} {t : TypeId} {xs : List Value} (h : Blk w g t xs) {row : Option Nat} (hg : w.grownBy w' row) (hr : some g ≠ row) : Blk w' g t xs := by
  have hl := h.lt
  unfold Blk at *; rw [hg.block g hl hr]; exact h



/-- the first k cells from off on are 90 -/
def Spoilt (ys : List Value) (off k : Nat) : Prop := ∀ i, i < k → ys[off + i]? = some (.int .u8 90)
theorem Spoilt.step {ys : List Value} {off k : Nat} (h : Spoilt ys off k) (hk : off + k < ys.length) : Spoilt (ys.set (off + k) (.int .u8 90)) off (k + 1) := by
  intro i hi
  by_cases e : i = k
  · subst e; rw [List.getElem?_set_self hk]
  · rw [List.getElem?_set_ne (by omega)]; exact h i (by omega)

set_option maxHeartbeats 1000000 in
theorem Spoil_some (g off len cap : Nat) (t : TypeId) (xs : List Value) (w : World) (hB : Blk w g t xs) (hm : xs.length ≤ maxLen) (hoff : off + cap ≤ xs.length) (hle : len ≤ cap) (hlen : len ≤ 140737488351232) :
    Calls Tryd.prog 7 #[.slice (some ⟨g, off, none⟩) len cap] w fun e w' => e = .returned (.tuple #[]) ∧ w.grownBy w' (some g) := by
  obtain ⟨i0, hi, hz0, hz1, hz2⟩ := info_parts info_u8
  go_enter Tryd.func7, Tryd.ntmps7
  go_wp2_with fail
  go_loopw [2] (fun i wr => ∃ (k : Nat) (ys : List Value), k ≤ len ∧ i = .int .i64 k ∧ ys.length = xs.length ∧ Blk wr g t ys ∧ Spoilt ys off k ∧ w.grownBy wr (some g)) (fun i _ => len - (intOf i).toNat)
  case atStart => exact ⟨0, xs, by omega, rfl, rfl, hB, (fun i hi => by omega), ⟨rfl, rfl, rfl, Nat.le_refl _, fun _ _ _ => rfl⟩⟩
  case round =>
    obtain ⟨k, ys, hk, rfl, hyl, hBr, hS, hgr⟩ := hrel
    by_cases hlt : k < len
    · have hc : wr.cell? ⟨g, off + k, none⟩ = some (ys[off + k]'(by omega)) := by rw [hBr.cell (by omega) _ (by omega), List.getElem?_eq_getElem]
      have hf : wr.frozen? ⟨g, off + k, none⟩ = false := hBr.frozen (by omega) _
      generalize ys[off + k]'(by omega) = old at hc
      have R : Hid _ := And.intro (hBr.set (off + k) (.int .u8 90)) (And.intro (hS.step (by omega)) (grown_trans hgr (grown_set wr g (off + k) (.int .u8 90))))
      clear hBr hS hgr
      go_wp2
      go_roundw
      case rel => exact ⟨k + 1, _, by omega, by go_num, by simpa using hyl, R.out.1, R.out.2.1, R.out.2.2⟩
      case measure => simp [intOf]; omega
    · have : k = len := by omega
      subst this
      have hB1 : Blk (wr.alloc (.cells #[.int .u8 91] 5)) g t ys := hBr.grown (World.grownBy_alloc _ _ none) (by simp)
      have hg1 : w.grownBy (wr.alloc (.cells #[.int .u8 91] 5)) (some g) := grown_trans hgr (World.grownBy_alloc _ _ _)
      have c1 : ∀ (j : Nat) (u : Value), (List.replicate k (Value.int .u8 90))[j]? = some u → (wr.alloc (.cells #[.int .u8 91] 5)).cell? ⟨g, off + j, none⟩ = some u := by
        intro j u hj
        have hjk : j < k := by
          rcases Nat.lt_or_ge j k with h | h
          · exact h
          · rw [List.getElem?_eq_none (by simpa using h)] at hj; cases hj
        rw [hB1.cell (by omega) _ (by omega), hS j hjk]
        rw [List.getElem?_replicate, if_pos hjk] at hj
        exact hj
      have c2 : ∀ (j : Nat) (u : Value), [Value.int .u8 91][j]? = some u → (wr.alloc (.cells #[.int .u8 91] 5)).cell? ((⟨wr.heap.size, 0, none⟩ : Addr).add j) = some u := by
        intro j u hj
        match j, hj with
        | 0, hj => simp at hj; subst hj; simp [Addr.add]
      have c3 : k + 1 ≤ cap → ∀ j, j < [Value.int .u8 91].length → ((wr.alloc (.cells #[.int .u8 91] 5)).cell? ⟨g, off + k * 1 + j, none⟩).isSome = true ∧ (wr.alloc (.cells #[.int .u8 91] 5)).frozen? ⟨g, off + k * 1 + j, none⟩ = false := by
        intro hroom j hj
        have hj0 : j = 0 := by simpa using hj
        subst hj0
        refine ⟨?_, hB1.frozen (by omega) _⟩
        rw [hB1.cell (by omega) _ (by omega), List.getElem?_eq_getElem (by omega)]; rfl
      have R : Hid _ := And.intro c1 (And.intro c2 (And.intro c3 (And.intro hB1 hg1)))
      clear c1 c2 c3 hB1 hg1 hBr hS hgr hB
      go_wp2_with (at_builtin; refine wpList_append_arg _ rfl (.tmp 12) (.tmp 13) 22 rfl 5 i0 (.int .u8 0) 1 1 Tryd.underlying22 hi hz0 hz1 hz2 rfl (by decide) g off k cap (List.replicate k (.int .u8 90)) rfl (by simp) R.out.1 ⟨wr.heap.size, 0, none⟩ 1 1 [.int .u8 91] rfl rfl R.out.2.1 (by simp [Value.oneCell']) R.out.2.2.1 (by unfold maxLen; omega) (by omega) ?_ ?_)
      · intro hroom
        have hB2 : Blk ((wr.alloc (.cells #[.int .u8 91] 5)).setCells g (off + k) [.int .u8 91]) g t (ys.set (off + k) (.int .u8 91)) := R.out.2.2.2.1.set _ _
        have hg2 : w.grownBy ((wr.alloc (.cells #[.int .u8 91] 5)).setCells g (off + k) [.int .u8 91]) (some g) := grown_trans R.out.2.2.2.2 (grown_set _ _ _ _)
        generalize hW2 : (wr.alloc (.cells #[.int .u8 91] 5)).setCells g (off + k) [.int .u8 91] = W2 at *
        clear hW2 R
        have hl2 : (ys.set (off + k) (Value.int .u8 91)).length = xs.length := by simpa using hyl
        have hc2 : W2.cell? ⟨g, off + k, none⟩ = some (.int .u8 91) := by rw [hB2.cell (by omega) _ (by omega), List.getElem?_set_self (by omega)]
        have hf2 : W2.frozen? ⟨g, off + k, none⟩ = false := hB2.frozen (by omega) _
        have F : Hid _ := grown_trans hg2 (grown_set W2 g (off + k) (.int .u8 92))
        clear hB2 hg2
        go_wp2
        go_end0
        exact ⟨rfl, F.out⟩
      · intro hroom v' w' hown hgrow
        obtain ⟨hlen', h' | ⟨g', cap', cur', rfl, hbase, hh', hc', hm', hs', ht'⟩⟩ := id hown
        · omega
        have hc2 : w'.cell? ⟨g', k, none⟩ = some (.int .u8 91) := by
          rw [World.ownsRow.cellAt hown k (by omega), List.getElem?_append_right (by simp)]; simp
        have hf2 : w'.frozen? ⟨g', k, none⟩ = false := World.ownsRow.frozenAt hown k
        have F : Hid _ := grown_new (grown_trans R.out.2.2.2.2 (grown_none hgrow _)) (Nat.le_trans R.out.2.2.2.2.size (by simpa using hbase)) (grown_set w' g' k (.int .u8 92))
        clear R hgrow hown hh' ht' hs'
        go_wp2
        go_end0
        exact ⟨rfl, F.out⟩

set_option maxHeartbeats 400000 in
theorem Spoil_nil (w : World) :
    Calls Tryd.prog 7 #[.slice none 0 0] w fun e w' => e = .returned (.tuple #[]) ∧ w.grownBy w' none := by
  go_enter Tryd.func7, Tryd.ntmps7
  go_wp2_with fail
  refine wp_loop_rounds 1 ?_
  rw [rounds_succ]
  go_wp2_with (at_builtin; refine wpList_append_bytes _ rfl _ _ rfl w.heap.size _ [] rfl (Own.nil _ _) (some ⟨w.heap.size, 0, none⟩) 1 1 [91#8] rfl rfl (Row.newl _ _ _ _ _ rfl) (fun h => by cases h) (Nat.le_refl _) (by simp) (by simp) ?_)
  intro v w1 ho hg
  obtain ⟨hlen', h' | ⟨g', cap', cur', rfl, hbase, hh', hc', hm', hs', ht'⟩⟩ := id ho
  · simp at h'
  have hc2 : w1.cell? ⟨g', 0, none⟩ = some (.int .u8 91) := by
    have := World.ownsRow.cellAt ho 0 (by simp)
    rw [this]; rfl
  have hf2 : w1.frozen? ⟨g', 0, none⟩ = false := World.ownsRow.frozenAt ho 0
  have F : Hid _ := grown_new (grown_trans (World.grownBy_alloc w (.cells #[.int .u8 91] 5) none) (grown_none hg none)) hbase (grown_set w1 g' 0 (.int .u8 92))
  clear hg ho hh' ht' hs'
  go_wp2
  go_end0
  exact ⟨rfl, F.out⟩

/-- bytes that the call owns are spoilt: nothing but their row turns -/
theorem Spoil_own (v : Value) (base : Nat) (l : List (BitVec 8)) (w : World) (ho : Own w base v l) (hlen : l.length ≤ 140737488351232) :
    Calls Tryd.prog 7 #[v] w fun e w' => e = .returned (.tuple #[]) ∧ w.grownBy w' v.ownBlock := by
  obtain ⟨h1, h2 | ⟨g, cap, cur, rfl, hb, hh, hc, hm, hs, ht⟩⟩ := ho
  · obtain ⟨rfl, _⟩ := h2
    exact Spoil_nil w
  · exact Spoil_some g 0 l.length cap 5 cur.toList w (by unfold Blk; simpa using hh) (by simp; omega) (by simp; omega) hc hlen
end Go.Proofs.YtncplnejoppekaaDoor
