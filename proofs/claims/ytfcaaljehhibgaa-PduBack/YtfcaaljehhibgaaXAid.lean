/- Walks of the verifier's own helpers: bytes that are lent, looked at, and spoilt. -/
import Derived.Test.YtfcaaljehhibgaaXMem
import Derived.ArgAppend
namespace Go.Proofs.Ytfcaaljehhibgaa
open Go.RowKit

theorem grown_trans {a b c : World} {row : Option Nat} (h : a.grownBy b row) (k : b.grownBy c row) : a.grownBy c row :=
  ⟨k.os.trans h.os, k.tape.trans h.tape, k.output.trans h.output, Nat.le_trans h.size k.size, fun i hi hr => (k.block i (Nat.lt_of_lt_of_le hi h.size) hr).trans (h.block i hi hr)⟩
theorem grown_none {a b : World} (h : a.grownBy b none) (row : Option Nat) : a.grownBy b row := ⟨h.os, h.tape, h.output, h.size, fun i hi _ => h.block i hi (by simp)⟩
theorem grown_new {a b c : World} {row : Option Nat} {g : Nat} (h : a.grownBy b row) (hg : a.heap.size ≤ g) (k : b.grownBy c (some g)) : a.grownBy c row :=
  ⟨k.os.trans h.os, k.tape.trans h.tape, k.output.trans h.output, Nat.le_trans h.size k.size, fun i hi hr => (k.block i (Nat.lt_of_lt_of_le hi h.size) (by intro e; cases e; omega)).trans (h.block i hi hr)⟩
theorem grown_set (w : World) (g i : Nat) (v : Value) : w.grownBy (w.setCell ⟨g, i, none⟩ v) (some g) :=
  ⟨rfl, rfl, rfl, by simp [World.setCell], fun k _ hr => Below.heap_setCell _ _ _ _ (by intro e; exact hr (by rw [e]))⟩
theorem grown_below {w w' : World} {g : Nat} (h : w.grownBy w' (some g)) (B : Nat) (hB : B ≤ g) (hB' : B ≤ w.heap.size) : Below B w w' :=
  ⟨h.os, h.tape, h.output, h.size, fun k hk => h.block k (by omega) (by intro e; cases e; omega)⟩
theorem grown_all {w w' : World} (h : w.grownBy w' none) : Below w.heap.size w w' := ⟨h.os, h.tape, h.output, h.size, fun k hk => h.block k hk (by simp)⟩

/-- a row of memory, known whole -/
def Blk (w : World) (g : Nat) (t : TypeId) (xs : List Value) : Prop := w.heap[g]? = some (.cells xs.toArray t (0, 0))
theorem Blk.owns {w : World} {g : Nat} {t : TypeId} {xs : List Value} (h : Blk w g t xs) (hm : xs.length ≤ maxLen) : w.ownsRow g t 1 (.slice (some ⟨g, 0, none⟩) xs.length xs.length) xs.length xs :=
  ⟨by omega, .inr ⟨g, xs.length, xs.toArray, rfl, Nat.le_refl _, h, Nat.le_refl _, hm, by simp, by simp⟩⟩
theorem Blk.cell {w : World} {g : Nat} {t : TypeId} {xs : List Value} (h : Blk w g t xs) (hm : xs.length ≤ maxLen) (i : Nat) (hi : i < xs.length) : w.cell? ⟨g, i, none⟩ = xs[i]? :=
  World.ownsRow.cellAt (h.owns hm) i (by omega)
theorem Blk.frozen {w : World} {g : Nat} {t : TypeId} {xs : List Value} (h : Blk w g t xs) (hm : xs.length ≤ maxLen) (i : Nat) : w.frozen? ⟨g, i, none⟩ = false :=
  World.ownsRow.frozenAt (h.owns hm) i
theorem Blk.lt {w : World} {g : Nat} {t : TypeId} {xs : List Value} (h : Blk w g t xs) : g < w.heap.size := by
  rcases Nat.lt_or_ge g w.heap.size with h' | h'
  · exact h'
  · unfold Blk at h; rw [Array.getElem?_eq_none h'] at h; cases h
theorem Blk.set {w : World} {g : Nat} {t : TypeId} {xs : List Value} (h : Blk w g t xs) (i : Nat) (u : Value) : Blk (w.setCell ⟨g, i, none⟩ u) g t (xs.set i u) := by
  have hl := h.lt
  unfold Blk at *
  simp only [World.setCell, Array.getElem?_modify, if_pos, h]
  simp
theorem Blk.grown {w w' : World} {g : Nat} {t : TypeId} {xs : List Value} (h : Blk w g t xs) {row : Option Nat} (hg : w.grownBy w' row) (hr : some g ≠ row) : Blk w' g t xs := by
  have hl := h.lt
  unfold Blk at *; rw [hg.block g hl hr]; exact h

set_option maxHeartbeats 400000 in
theorem Lent_any (a : Option Addr) (len cap : Nat) (l : List (BitVec 8)) (w : World) (A : Arg 140737488351232 w a len cap l) :
    Calls Try.prog 9 #[.slice a len cap] w fun e w' => ∃ g c, e = .returned (.slice (some ⟨g, 0, none⟩) len c) ∧ Own w' w.heap.size (.slice (some ⟨g, 0, none⟩) (len + 1) c) (l ++ [167#8]) ∧ w.heap.size ≤ g ∧ len + 1 ≤ c ∧ c ≤ maxLen ∧ Below w.heap.size w w' := by
  obtain ⟨hl, hle, hbd, hr, hn⟩ := A
  go_enter Try.func9, Try.ntmps9
  go_wp2_with (at_builtin; refine wpList_append_bytes _ rfl _ _ rfl w.heap.size _ [] rfl (Own.nil _ _) a len cap l rfl hl hr hn hle (by simp; omega) (Nat.le_refl _) ?_)
  intro v2 w2 ho2 hg2
  have hb2 : Below w.heap.size w w2 := (Below.refl _ _).grown hg2 (Nat.le_refl _) (by simp [Value.ownBlock])
  go_wp2_with (at_builtin; refine wpList_append_bytes _ rfl _ _ rfl w.heap.size v2 l rfl (ho2.later ((Below.refl _ _).alloc (Nat.le_refl _) _)) (some ⟨w2.heap.size, 0, none⟩) 1 1 [167#8] rfl rfl (Row.newl _ _ _ _ _ rfl) (fun h => by cases h) (Nat.le_refl _) (by omega) (by have := hb2.size; simp; omega) ?_)
  intro v3 w3 ho3 hg3
  have hb3 : Below w.heap.size w w3 := (hb2.alloc hb2.size _).grown hg3 (by have := hb2.size; simp; omega) (own_block ho2)
  have hl3 : (l ++ [167#8]).length = len + 1 := by simp; omega
  obtain ⟨a3, cap3, hv3, hle3, hm3, hr3, hn3, hg3'⟩ := ho3.open
  cases a3 with
  | none => have := hn3 rfl; omega
  | some x =>
    obtain ⟨g, rfl, hgg⟩ := hg3' x rfl
    rw [hl3] at hv3 hle3
    subst hv3
    have q1 : (len : Int) ≤ (cap3 : Int) := by omega
    have q2 : (0 : Int) ≤ (len : Int) := by omega
    have HO : Hid _ := ho3
    clear ho3 ho2 hg2 hg3 hr3 hr
    go_wp2
    go_ret
    exact ⟨g, cap3, rfl, HO.out, hgg, hle3, hm3, hb3⟩

set_option maxHeartbeats 400000 in
theorem Kept_yes (g len c : Nat) (a1 : Option Addr) (cap1 : Nat) (l : List (BitVec 8)) (w : World) (hl : l.length = len) (hc : len + 1 ≤ c) (hm : len ≤ 140737488351232) (hr : Row w (some ⟨g, 0, none⟩) (l ++ [167#8])) (hr1 : Row w a1 l) :
    Calls Try.prog 12 #[.slice (some ⟨g, 0, none⟩) len c, .slice a1 len cap1] w fun e w' => e = .returned (.bool true) ∧ w' = w := by
  rcases hr with h0 | ⟨b, off, hb, hcell⟩
  · simp at h0
  cases hb
  have hr0 : Row w (some ⟨g, 0, none⟩) l := .inr ⟨g, 0, rfl, fun i hi => by
    rw [hcell i (by simp; omega)]; unfold bt; rw [List.getD, List.getD, List.getElem?_append_left hi]⟩
  have hs := hr0.str len c hl
  have hs1 := hr1.str len cap1 hl
  have hk := hcell len (by simp; omega)
  have e : bt (l ++ [167#8]) len = 167 := by unfold bt; rw [List.getD, List.getElem?_append_right (by omega)]; simp [hl]
  rw [e, Nat.zero_add] at hk
  have q1 : (len : Int) + 1 ≤ (c : Int) := by omega
  clear hcell hr0 hr1 e
  go_enter Try.func12, Try.ntmps12
  go_wp2
  go_ret
  exact ⟨rfl, rfl⟩

/-- the first k cells from off on are 90 -/
def Spoilt (ys : List Value) (off k : Nat) : Prop := ∀ i, i < k → ys[off + i]? = some (.int .u8 90)
theorem Spoilt.step {ys : List Value} {off k : Nat} (h : Spoilt ys off k) (hk : off + k < ys.length) : Spoilt (ys.set (off + k) (.int .u8 90)) off (k + 1) := by
  intro i hi
  by_cases e : i = k
  · subst e; rw [List.getElem?_set_self hk]
  · rw [List.getElem?_set_ne (by omega)]; exact h i (by omega)

set_option maxHeartbeats 1000000 in
theorem Spoil_some (g off len cap : Nat) (t : TypeId) (xs : List Value) (w : World) (hB : Blk w g t xs) (hm : xs.length ≤ maxLen) (hoff : off + cap ≤ xs.length) (hle : len ≤ cap) (hlen : len ≤ 140737488351232) :
    Calls Try.prog 13 #[.slice (some ⟨g, off, none⟩) len cap] w fun e w' => e = .returned (.tuple #[]) ∧ w.grownBy w' (some g) := by
  obtain ⟨i0, hi, hz0, hz1, hz2⟩ := info_parts info_u8
  go_enter Try.func13, Try.ntmps13
  go_wp2_with fail
  go_loopw [2] (fun i wr => ∃ (k : Nat) (ys : List Value), k ≤ len ∧ i = .int .i64 k ∧ ys.length = xs.length ∧ Blk wr g t ys ∧ Spoilt ys off k ∧ w.grownBy wr (some g)) (fun i _ => len - (intOf i).toNat)
  case atStart => exact ⟨0, xs, by omega, rfl, rfl, hB, (fun i hi => by omega), ⟨rfl, rfl, rfl, Nat.le_refl _, fun _ _ _ => rfl⟩⟩
  case round =>
    obtain ⟨k, ys, hk, rfl, hyl, hBr, hS, hgr⟩ := hrel
    by_cases hlt : k < len
    · have hc : wr.cell? ⟨g, off + k, none⟩ = some (ys[off + k]'(by omega)) := by rw [hBr.cell (by omega) _ (by omega), List.getElem?_eq_getElem]
      have hf : wr.frozen? ⟨g, off + k, none⟩ = false := hBr.frozen (by omega) _
      generalize ys[off + k]'(by omega) = old at hc
      have R : Hid _ := And.intro (hBr.set (off + k) (.int .u8 90)) (And.intro (hS.step (by omega)) (grown_trans hgr (grown_set wr g (off + k) (.int .u8 90))))
      clear hBr hS hgr
      go_wp2
      go_roundw
      case rel => exact ⟨k + 1, _, by omega, by go_num, by simpa using hyl, R.out.1, R.out.2.1, R.out.2.2⟩
      case measure => simp [intOf]; omega
    · have : k = len := by omega
      subst this
      have hB1 : Blk (wr.alloc (.cells #[.int .u8 91] 5)) g t ys := hBr.grown (World.grownBy_alloc _ _ none) (by simp)
      have hg1 : w.grownBy (wr.alloc (.cells #[.int .u8 91] 5)) (some g) := grown_trans hgr (World.grownBy_alloc _ _ _)
      have c1 : ∀ (j : Nat) (u : Value), (List.replicate k (Value.int .u8 90))[j]? = some u → (wr.alloc (.cells #[.int .u8 91] 5)).cell? ⟨g, off + j, none⟩ = some u := by
        intro j u hj
        have hjk : j < k := by
          rcases Nat.lt_or_ge j k with h | h
          · exact h
          · rw [List.getElem?_eq_none (by simpa using h)] at hj; cases hj
        rw [hB1.cell (by omega) _ (by omega), hS j hjk]
        rw [List.getElem?_replicate, if_pos hjk] at hj
        exact hj
      have c2 : ∀ (j : Nat) (u : Value), [Value.int .u8 91][j]? = some u → (wr.alloc (.cells #[.int .u8 91] 5)).cell? ((⟨wr.heap.size, 0, none⟩ : Addr).add j) = some u := by
        intro j u hj
        match j, hj with
        | 0, hj => simp at hj; subst hj; simp [Addr.add]
      have c3 : k + 1 ≤ cap → ∀ j, j < [Value.int .u8 91].length → ((wr.alloc (.cells #[.int .u8 91] 5)).cell? ⟨g, off + k * 1 + j, none⟩).isSome = true ∧ (wr.alloc (.cells #[.int .u8 91] 5)).frozen? ⟨g, off + k * 1 + j, none⟩ = false := by
        intro hroom j hj
        have hj0 : j = 0 := by simpa using hj
        subst hj0
        refine ⟨?_, hB1.frozen (by omega) _⟩
        rw [hB1.cell (by omega) _ (by omega), List.getElem?_eq_getElem (by omega)]; rfl
      have R : Hid _ := And.intro c1 (And.intro c2 (And.intro c3 (And.intro hB1 hg1)))
      clear c1 c2 c3 hB1 hg1 hBr hS hgr hB
      go_wp2_with (at_builtin; refine wpList_append_arg _ rfl (.tmp 12) (.tmp 13) 34 rfl 5 i0 (.int .u8 0) 1 1 Try.underlying34 hi hz0 hz1 hz2 rfl (by decide) g off k cap (List.replicate k (.int .u8 90)) rfl (by simp) R.out.1 ⟨wr.heap.size, 0, none⟩ 1 1 [.int .u8 91] rfl rfl R.out.2.1 (by simp [Value.oneCell']) R.out.2.2.1 (by unfold maxLen; omega) (by omega) ?_ ?_)
      · intro hroom
        have hB2 : Blk ((wr.alloc (.cells #[.int .u8 91] 5)).setCells g (off + k) [.int .u8 91]) g t (ys.set (off + k) (.int .u8 91)) := R.out.2.2.2.1.set _ _
        have hg2 : w.grownBy ((wr.alloc (.cells #[.int .u8 91] 5)).setCells g (off + k) [.int .u8 91]) (some g) := grown_trans R.out.2.2.2.2 (grown_set _ _ _ _)
        generalize hW2 : (wr.alloc (.cells #[.int .u8 91] 5)).setCells g (off + k) [.int .u8 91] = W2 at *
        clear hW2 R
        have hl2 : (ys.set (off + k) (Value.int .u8 91)).length = xs.length := by simpa using hyl
        have hc2 : W2.cell? ⟨g, off + k, none⟩ = some (.int .u8 91) := by rw [hB2.cell (by omega) _ (by omega), List.getElem?_set_self (by omega)]
        have hf2 : W2.frozen? ⟨g, off + k, none⟩ = false := hB2.frozen (by omega) _
        have F : Hid _ := grown_trans hg2 (grown_set W2 g (off + k) (.int .u8 92))
        clear hB2 hg2
        go_wp2
        go_end0
        exact ⟨rfl, F.out⟩
      · intro hroom v' w' hown hgrow
        obtain ⟨hlen', h' | ⟨g', cap', cur', rfl, hbase, hh', hc', hm', hs', ht'⟩⟩ := id hown
        · omega
        have hc2 : w'.cell? ⟨g', k, none⟩ = some (.int .u8 91) := by
          rw [World.ownsRow.cellAt hown k (by omega), List.getElem?_append_right (by simp)]; simp
        have hf2 : w'.frozen? ⟨g', k, none⟩ = false := World.ownsRow.frozenAt hown k
        have F : Hid _ := grown_new (grown_trans R.out.2.2.2.2 (grown_none hgrow _)) (Nat.le_trans R.out.2.2.2.2.size (by simpa using hbase)) (grown_set w' g' k (.int .u8 92))
        clear R hgrow hown hh' ht' hs'
        go_wp2
        go_end0
        exact ⟨rfl, F.out⟩

set_option maxHeartbeats 400000 in
theorem Spoil_nil (w : World) :
    Calls Try.prog 13 #[.slice none 0 0] w fun e w' => e = .returned (.tuple #[]) ∧ w.grownBy w' none := by
  go_enter Try.func13, Try.ntmps13
  go_wp2_with fail
  refine wp_loop_rounds 1 ?_
  rw [rounds_succ]
  go_wp2_with (at_builtin; refine wpList_append_bytes _ rfl _ _ rfl w.heap.size _ [] rfl (Own.nil _ _) (some ⟨w.heap.size, 0, none⟩) 1 1 [91#8] rfl rfl (Row.newl _ _ _ _ _ rfl) (fun h => by cases h) (Nat.le_refl _) (by simp) (by simp) ?_)
  intro v w1 ho hg
  obtain ⟨hlen', h' | ⟨g', cap', cur', rfl, hbase, hh', hc', hm', hs', ht'⟩⟩ := id ho
  · simp at h'
  have hc2 : w1.cell? ⟨g', 0, none⟩ = some (.int .u8 91) := by
    have := World.ownsRow.cellAt ho 0 (by simp)
    rw [this]; rfl
  have hf2 : w1.frozen? ⟨g', 0, none⟩ = false := World.ownsRow.frozenAt ho 0
  have F : Hid _ := grown_new (grown_trans (World.grownBy_alloc w (.cells #[.int .u8 91] 5) none) (grown_none hg none)) hbase (grown_set w1 g' 0 (.int .u8 92))
  clear hg ho hh' ht' hs'
  go_wp2
  go_end0
  exact ⟨rfl, F.out⟩

/-- bytes that the call owns are spoilt: nothing but their row turns -/
theorem Spoil_own (v : Value) (base : Nat) (l : List (BitVec 8)) (w : World) (ho : Own w base v l) (hlen : l.length ≤ 140737488351232) :
    Calls Try.prog 13 #[v] w fun e w' => e = .returned (.tuple #[]) ∧ w.grownBy w' v.ownBlock := by
  obtain ⟨h1, h2 | ⟨g, cap, cur, rfl, hb, hh, hc, hm, hs, ht⟩⟩ := ho
  · obtain ⟨rfl, _⟩ := h2
    exact Spoil_nil w
  · exact Spoil_some g 0 l.length cap 5 cur.toList w (by unfold Blk; simpa using hh) (by simp; omega) (by simp; omega) hc hlen
end Go.Proofs.Ytfcaaljehhibgaa

/- What turns, and what stays. -/
namespace Go.Proofs.Ytfcaaljehhibgaa
open Go.RowKit

/-- nothing turns but blocks of R, and new ones -/
structure Turned (R : Nat → Prop) (w w' : World) : Prop where
  os : w'.os = w.os
  tape : w'.tape = w.tape
  output : w'.output = w.output
  size : w.heap.size ≤ w'.heap.size
  block : ∀ k, k < w.heap.size → ¬ R k → w'.heap[k]? = w.heap[k]?
theorem turned_grown {w w' : World} {row : Option Nat} {R : Nat → Prop} (h : w.grownBy w' row) (hr : ∀ k, row = some k → R k) : Turned R w w' :=
  ⟨h.os, h.tape, h.output, h.size, fun k hk hn => h.block k hk (fun e => hn (hr k e.symm))⟩
theorem Turned.trans {R : Nat → Prop} {a b c : World} (h : Turned R a b) (k : Turned (fun i => R i ∨ a.heap.size ≤ i) b c) : Turned R a c :=
  ⟨k.os.trans h.os, k.tape.trans h.tape, k.output.trans h.output, Nat.le_trans h.size k.size, fun i hi hn => (k.block i (Nat.lt_of_lt_of_le hi h.size) (fun e => by rcases e with e | e; exact hn e; omega)).trans (h.block i hi hn)⟩
theorem Turned.mono {R R' : Nat → Prop} {a b : World} (h : Turned R a b) (hr : ∀ k, R k → R' k) : Turned R' a b := ⟨h.os, h.tape, h.output, h.size, fun i hi hn => h.block i hi (fun e => hn (hr i e))⟩
theorem Turned.below {R : Nat → Prop} {a b : World} (h : Turned R a b) (B : Nat) (hB : B ≤ a.heap.size) (hr : ∀ k, R k → B ≤ k) : Below B a b :=
  ⟨h.os, h.tape, h.output, h.size, fun i hi => h.block i (by omega) (fun e => by have := hr i e; omega)⟩
theorem Blk.turned {w w' : World} {g : Nat} {t : TypeId} {xs : List Value} {R : Nat → Prop} (h : Blk w g t xs) (ht : Turned R w w') (hr : ¬ R g) : Blk w' g t xs := by
  have hl := h.lt
  unfold Blk at *; rw [ht.block g hl hr]; exact h
theorem Own.turned {w w' : World} {base : Nat} {v : Value} {l : List (BitVec 8)} {R : Nat → Prop} (h : Own w base v l) (ht : Turned R w w') (hn : ∀ k, v.ownBlock = some k → ¬ R k) : Own w' base v l := by
  obtain ⟨h1, h2 | ⟨g, cap, cur, rfl, hb, hh, r⟩⟩ := h
  · exact ⟨h1, .inl h2⟩
  · refine ⟨h1, .inr ⟨g, cap, cur, rfl, hb, ?_, r⟩⟩
    have hlt : g < w.heap.size := by
      rcases Nat.lt_or_ge g w.heap.size with h | h
      · exact h
      · rw [Array.getElem?_eq_none h] at hh; cases hh
    rw [ht.block g hlt (hn g rfl)]; exact hh

theorem Blk.new' (w : World) (T : Nat) (xs : List Value) : Blk (w.alloc (.cells xs.toArray T)) w.heap.size T xs := by
  unfold Blk World.alloc
  simp
end Go.Proofs.Ytfcaaljehhibgaa

/- Objects in memory that do not meet. -/
namespace Go.Proofs.Ytfcaaljehhibgaa
open Go.RowKit

/-- an object: the blocks that it may turn, those that it only reads, and what it says -/
structure Ob where
  W : List Nat
  V : List Nat
  P : World → Prop
structure Ob.Ok (o : Ob) (w : World) : Prop where
  holds : o.P w
  lt : ∀ k, k ∈ o.W ∨ k ∈ o.V → k < w.heap.size
  apart : ∀ k ∈ o.W, k ∉ o.V
  stable : ∀ w1 w2 : World, (∀ k, k ∈ o.W ∨ k ∈ o.V → w2.heap[k]? = w1.heap[k]?) → o.P w1 → o.P w2
theorem Ob.Ok.turned {o : Ob} {w w' : World} {R : Nat → Prop} (h : o.Ok w) (ht : Turned R w w') (hr : ∀ k, k ∈ o.W ∨ k ∈ o.V → ¬ R k) : o.Ok w' :=
  ⟨h.stable w w' (fun k hk => ht.block k (h.lt k hk) (hr k hk)) h.holds, fun k hk => Nat.lt_of_lt_of_le (h.lt k hk) ht.size, h.apart, h.stable⟩
theorem turned_below {w w' : World} (hb : Below w.heap.size w w') : Turned (fun _ => False) w w' := ⟨hb.os, hb.tape, hb.output, hb.size, fun k hk _ => hb.block k hk⟩
theorem Ob.Ok.later {o : Ob} {w w' : World} (h : o.Ok w) (hb : Below w.heap.size w w') : o.Ok w' := h.turned (turned_below hb) (fun _ _ h => h)
theorem Ob.Ok.drew {o : Ob} {w : World} (h : o.Ok w) : o.Ok w.drew := h.later (Below.refl _ _).drew

def Clear (a b : Ob) : Prop := (∀ k ∈ a.W, k ∉ b.W ∧ k ∉ b.V) ∧ ∀ k ∈ b.W, k ∉ a.V
theorem Clear.symm {a b : Ob} (h : Clear a b) : Clear b a := ⟨fun k hk => ⟨fun e => (h.1 k e).1 hk, h.2 k hk⟩, fun k hk => (h.1 k hk).2⟩

/-- objects that do not meet, and what they may turn lies behind B -/
structure Sep (B : Nat) (l : List Ob) (w : World) : Prop where
  each : ∀ o ∈ l, o.Ok w
  new : ∀ o ∈ l, ∀ k ∈ o.W, B ≤ k
  pair : l.Pairwise Clear
  base : B ≤ w.heap.size

/-- what a call of an object does -/
structure Step (w w' : World) (o o' : Ob) : Prop where
  turned : Turned (· ∈ o.W) w w'
  ok : o'.Ok w'
  writes : ∀ k ∈ o'.W, k ∈ o.W ∨ w.heap.size ≤ k
  reads : ∀ k ∈ o'.V, k ∈ o.W ∨ k ∈ o.V ∨ w.heap.size ≤ k

theorem Step.refl {w : World} {o : Ob} (h : o.Ok w) : Step w w o o := ⟨⟨rfl, rfl, rfl, Nat.le_refl _, fun _ _ _ => rfl⟩, h, fun _ h => .inl h, fun _ h => .inr (.inl h)⟩
theorem Step.quiet {w w' : World} {o : Ob} (h : o.Ok w) (hb : Below w.heap.size w w') : Step w w' o o :=
  ⟨(turned_below hb).mono (fun _ h => h.elim), h.later hb, fun _ h => .inl h, fun _ h => .inr (.inl h)⟩
theorem Step.trans {a b c : World} {o p q : Ob} (h : Step a b o p) (k : Step b c p q) : Step a c o q :=
  ⟨h.turned.trans (k.turned.mono (fun i hi => h.writes i hi)), k.ok,
   fun i hi => by
    rcases k.writes i hi with e | e
    · exact h.writes i e
    · have := h.turned.size; exact .inr (by omega),
   fun i hi => by
    rcases k.reads i hi with e | e | e
    · rcases h.writes i e with e | e
      · exact .inl e
      · exact .inr (.inr e)
    · exact h.reads i e
    · have := h.turned.size; exact .inr (.inr (by omega))⟩
theorem Step.below {w w' : World} {o o' : Ob} (h : Step w w' o o') (B : Nat) (hB : B ≤ w.heap.size) (hw : ∀ k ∈ o.W, B ≤ k) : Below B w w' := h.turned.below B hB hw

theorem Sep.head {B : Nat} {l : List Ob} {o : Ob} {w : World} (h : Sep B (o :: l) w) : o.Ok w := h.each o (by simp)
theorem Sep.tail {B : Nat} {l : List Ob} {o : Ob} {w : World} (h : Sep B (o :: l) w) : Sep B l w :=
  ⟨fun p hp => h.each p (List.mem_cons_of_mem _ hp), fun p hp => h.new p (List.mem_cons_of_mem _ hp), (List.pairwise_cons.1 h.pair).2, h.base⟩
theorem Sep.later {B : Nat} {l : List Ob} {w w' : World} (h : Sep B l w) (hb : Below w.heap.size w w') : Sep B l w' :=
  ⟨fun p hp => (h.each p hp).later hb, h.new, h.pair, Nat.le_trans h.base hb.size⟩
theorem Sep.drew {B : Nat} {l : List Ob} {w : World} (h : Sep B l w) : Sep B l w.drew := h.later (Below.refl _ _).drew
theorem Sep.perm {B : Nat} {l l' : List Ob} {w : World} (h : Sep B l w) (hp : l.Perm l') : Sep B l' w :=
  ⟨fun p hp' => h.each p (hp.mem_iff.2 hp'), fun p hp' => h.new p (hp.mem_iff.2 hp'), (hp.pairwise_iff (fun h => Clear.symm h)).1 h.pair, h.base⟩
theorem Sep.swap {B : Nat} {l : List Ob} {a b : Ob} {w : World} (h : Sep B (a :: b :: l) w) : Sep B (b :: a :: l) w := h.perm (List.Perm.swap _ _ _)
theorem Sep.third {B : Nat} {l : List Ob} {a b c : Ob} {w : World} (h : Sep B (a :: b :: c :: l) w) : Sep B (c :: a :: b :: l) w :=
  h.perm ((List.Perm.cons a (List.Perm.swap c b l)).trans (List.Perm.swap c a _))
theorem Sep.step {B : Nat} {l : List Ob} {o o' : Ob} {w w' : World} (h : Sep B (o :: l) w) (s : Step w w' o o') : Sep B (o' :: l) w' := by
  have hp := List.pairwise_cons.1 h.pair
  refine ⟨fun p hp' => ?_, fun p hp' => ?_, List.pairwise_cons.2 ⟨fun p hp' => ?_, hp.2⟩, Nat.le_trans h.base s.turned.size⟩
  · rcases List.mem_cons.1 hp' with rfl | hp'
    · exact s.ok
    · refine (h.each p (List.mem_cons_of_mem _ hp')).turned s.turned (fun k hk hr => ?_)
      rcases hk with hk | hk
      · exact ((hp.1 p hp').1 k hr).1 hk
      · exact ((hp.1 p hp').1 k hr).2 hk
  · rcases List.mem_cons.1 hp' with rfl | hp'
    · intro k hk
      rcases s.writes k hk with e | e
      · exact h.new o (by simp) k e
      · have := h.base; omega
    · exact h.new p (List.mem_cons_of_mem _ hp')
  · have hl := (h.each p (List.mem_cons_of_mem _ hp')).lt
    have hc := hp.1 p hp'
    refine ⟨fun k hk => ?_, fun k hk hv => ?_⟩
    · rcases s.writes k hk with e | e
      · exact hc.1 k e
      · exact ⟨fun e' => by have := hl k (.inl e'); omega, fun e' => by have := hl k (.inr e'); omega⟩
    · rcases s.reads k hv with e | e | e
      · exact (hc.1 k e).1 hk
      · exact hc.2 k hk e
      · have := hl k (.inl hk); omega
theorem Sep.below {B : Nat} {l : List Ob} {o o' : Ob} {w w' : World} (h : Sep B (o :: l) w) (s : Step w w' o o') : Below B w w' := s.below B h.base (h.new o (by simp))
/-- a new object -/
theorem Sep.add {B : Nat} {l : List Ob} {o : Ob} {w w' : World} (h : Sep B l w) (hb : Below w.heap.size w w') (ho : o.Ok w') (hw : ∀ k ∈ o.W, w.heap.size ≤ k) (hv : ∀ k ∈ o.V, ∀ p ∈ l, k ∉ p.W) : Sep B (o :: l) w' := by
  have h' := h.later hb
  refine ⟨fun p hp => ?_, fun p hp => ?_, List.pairwise_cons.2 ⟨fun p hp => ⟨fun k hk => ?_, fun k hk e => hv k e p hp hk⟩, h'.pair⟩, h'.base⟩
  · rcases List.mem_cons.1 hp with rfl | hp
    · exact ho
    · exact h'.each p hp
  · rcases List.mem_cons.1 hp with rfl | hp
    · intro k hk; have := hw k hk; have := h.base; omega
    · exact h'.new p hp
  · have hl := (h.each p hp).lt
    have := hw k hk
    exact ⟨fun e => by have := hl k (.inl e); omega, fun e => by have := hl k (.inr e); omega⟩
/-- a new object whose blocks are all new -/
theorem Sep.fresh {B : Nat} {l : List Ob} {o : Ob} {w w' : World} (h : Sep B l w) (hb : Below w.heap.size w w') (ho : o.Ok w') (hw : ∀ k, k ∈ o.W ∨ k ∈ o.V → w.heap.size ≤ k) : Sep B (o :: l) w' :=
  h.add hb ho (fun k hk => hw k (.inl hk)) (fun k hk p hp e => by have := hw k (.inr hk); have := (h.each p hp).lt k (.inl e); omega)
/-- what only is read: bytes that came in -/
def roOb (V : List Nat) (P : World → Prop) : Ob := ⟨[], V, P⟩
theorem Sep.nil {w : World} : Sep w.heap.size [] w := ⟨(fun o h => by cases h), (fun o h => by cases h), .nil, Nat.le_refl _⟩
/-- bytes of the call's own -/
def byOb (v : Value) (base : Nat) (l : List (BitVec 8)) : Ob := ⟨v.ownBlock.toList, [], fun w => Own w base v l⟩
theorem Own.same {w w' : World} {base : Nat} {v : Value} {l : List (BitVec 8)} (h : Own w base v l) (hb : ∀ k, v.ownBlock = some k → w'.heap[k]? = w.heap[k]?) : Own w' base v l := by
  obtain ⟨h1, h2 | ⟨g, cap, cur, rfl, hg, hh, r⟩⟩ := h
  · exact ⟨h1, .inl h2⟩
  · exact ⟨h1, .inr ⟨g, cap, cur, rfl, hg, by rw [hb g rfl]; exact hh, r⟩⟩
theorem byOb_ok {w : World} {base : Nat} {v : Value} {l : List (BitVec 8)} (h : Own w base v l) : (byOb v base l).Ok w := by
  refine ⟨h, fun k hk => ?_, (fun k _ hv => by cases hv), fun w1 w2 hs h => Own.same h (fun k hk => hs k (.inl (by simp [byOb, hk])))⟩
  rcases hk with hk | hk
  · exact (World.ownsRow.lt h k (by simpa [byOb] using hk)).2
  · cases hk
end Go.Proofs.Ytfcaaljehhibgaa
