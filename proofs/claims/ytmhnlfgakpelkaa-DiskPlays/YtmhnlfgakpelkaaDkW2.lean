/- Walks of the disk's groups and of what is cloned. -/
import Derived.Test.YtmhnlfgakpelkaaDkM
import Derived.Maps.AppendAt
namespace Go.Proofs.Ytmhnlfgakpelkaa
open Go.RowKit
set_option linter.unusedVariables false

theorem own_blk {w : World} {base g n cap : Nat} {l : List (BitVec 8)} (h : Own w base (.slice (some ⟨g, 0, none⟩) n cap) l) :
    ∃ cur, Blk w g 5 cur ∧ cur.length = cap ∧ cur.take l.length = vals l ∧ l.length ≤ cap ∧ cap ≤ maxLen ∧ base ≤ g := by
  obtain ⟨h1, h2 | ⟨g', cap', cur, hv, hb, hh, hc, hm, hs, ht⟩⟩ := h
  · simp at h2
  · simp only [Value.slice.injEq, Option.some.injEq, Addr.mk.injEq] at hv
    obtain ⟨⟨rfl, _, _⟩, _, rfl⟩ := hv
    exact ⟨cur.toList, by unfold Blk; simpa using hh, by simpa using hs, by simpa using ht, hc, hm, hb⟩
theorem blk_own {w : World} {base g cap : Nat} {l : List (BitVec 8)} {cur : List Value} (hB : Blk w g 5 cur) (h1 : cur.length = cap) (h2 : cur.take l.length = vals l) (h3 : l.length ≤ cap) (h4 : cap ≤ maxLen) (h5 : base ≤ g) : Own w base (.slice (some ⟨g, 0, none⟩) l.length cap) l :=
  ⟨by rw [vals_length]; omega, .inr ⟨g, cap, cur.toArray, rfl, h5, hB, h3, h4, by simpa using h1, by simpa using h2⟩⟩
theorem take_splice {α : Type} (L : List α) (n off : Nat) (x : List α) (h : off + x.length ≤ n) (hn : n ≤ L.length) : (splice L off x).take n = splice (L.take n) off x := by
  apply List.ext_getElem?
  intro j
  rw [List.getElem?_take, splice_at _ _ _ _ (by omega), splice_at _ _ _ _ (by rw [List.length_take]; omega), List.getElem?_take]
  by_cases hj : j < n
  · rw [if_pos hj, if_pos hj]
  · rw [if_neg hj, if_neg (by omega), if_neg hj]

set_option maxRecDepth 4000 in
theorem layOver_own (at' : Nat) (ab : Option Addr) (bcap : Nat) (lb : List (BitVec 8)) (base g cap : Nat) (im : List (BitVec 8)) (w : World) (hO : Own w base (.slice (some ⟨g, 0, none⟩) im.length cap) im) (hm : im.length ≤ 140737488355328)
    (hf : Fits im.length (at', lb)) (hr : Row w ab lb) :
    Calls Try.prog 41 #[.agg #[.int .i64 at', .slice ab lb.length bcap], .slice (some ⟨g, 0, none⟩) im.length cap] w fun e w' => e = .returned (.tuple #[]) ∧ Own w' base (.slice (some ⟨g, 0, none⟩) im.length cap) (layG im (at', lb)) ∧ w.grownBy w' (some g) := by
  obtain ⟨cur, hB, hl, ht, hle, hmx, hbs⟩ := own_blk hO
  refine (layOver_any at' ab lb.length bcap lb g im.length cap cur _ w hB (by omega) (Nat.le_trans hf.2 hm) rfl hf.1 (Nat.le_trans hf.2 hle) hr).mono ?_
  rintro e w' ⟨rfl, hB', hg⟩
  refine ⟨rfl, ?_, hg⟩
  have hL := layG_length hf
  have h2 := hf.2
  have hp : at' * 256 + (pad lb).length ≤ im.length := by rw [pad_length, ← Nat.add_mul]; exact h2
  rw [← hL]
  refine blk_own hB' ?_ ?_ (by omega) hmx hbs
  · rw [splice_length _ _ _ (by rw [vals_length]; omega)]; exact hl
  · rw [hL, take_splice _ _ _ _ (by rw [vals_length]; exact hp) (by omega), ht, ← vals_splice]; rfl

set_option maxRecDepth 4000 in
set_option maxHeartbeats 1000000 in
theorem part_any (at' : Int) (ab : Option Addr) (bcap : Nat) (lb : List (BitVec 8)) (k : Nat) (w : World) (hk : k < secs lb.length) (hcap : lb.length ≤ bcap) (hm : lb.length ≤ 140737488355328) (hr : Row w ab lb) :
    Calls Try.prog 48 #[.agg #[.int .i64 at', .slice ab lb.length bcap], .int .i64 k] w fun e w' => ∃ a' n', e = .returned (.slice a' n' n') ∧ n' = min ((k + 1) * 256) lb.length - k * 256 ∧ Row w' a' ((lb.drop (k * 256)).take n') ∧ w.alloc (.cells #[.int .i64 at', .slice ab lb.length bcap] 68) = w' := by
  have hkl : k * 256 < lb.length := by unfold secs at hk; omega
  have hr' := hr.later ((Below.refl w.heap.size w).alloc (Nat.le_refl _) (.cells #[.int .i64 at', .slice ab lb.length bcap] 68))
  rcases hr' with rfl | ⟨b, off, rfl, hc⟩
  · simp at hkl
  clear hr hk
  have hR : ∀ n', n' ≤ lb.length - k * 256 → Row (w.alloc (.cells #[.int .i64 at', .slice (some ⟨b, off, none⟩) lb.length bcap] 68)) (some ⟨b, off + k * 256, none⟩) ((lb.drop (k * 256)).take n') := by
    intro n' hn'
    refine .inr ⟨b, off + k * 256, rfl, fun i hi => ?_⟩
    have hi' : i < n' ∧ i < lb.length - k * 256 := by simp at hi; omega
    rw [Nat.add_assoc, hc _ (by omega)]
    unfold bt
    rw [List.getD, List.getD, List.getElem?_take, if_pos hi'.1, List.getElem?_drop]
  have HR : Hid _ := hR
  clear hR hc
  generalize hLb : lb.length = len at *
  have q3 : (0 : Int) ≤ (k : Int) * 256 := by omega
  by_cases hle : (k + 1) * 256 ≤ len
  · have q1 : ((k : Int) + 1) * 256 ≤ (len : Int) := by omega
    have q2 : ((k : Int) + 1) * 256 ≤ (bcap : Int) := by omega
    have q4 : (k : Int) * 256 ≤ ((k : Int) + 1) * 256 := by omega
    go_enter Try.func48, Try.ntmps48
    go_wp2
    go_ret
    exact ⟨_, _, rfl, by rw [Nat.min_eq_left hle], HR.out _ (by omega), rfl⟩
  · have q1 : ¬ ((k : Int) + 1) * 256 ≤ (len : Int) := by omega
    have q2 : (len : Int) ≤ (bcap : Int) := by omega
    have q4 : (k : Int) * 256 ≤ (len : Int) := by omega
    go_enter Try.func48, Try.ntmps48
    go_wp2
    go_ret
    exact ⟨_, _, rfl, by rw [Nat.min_eq_right (by omega)], HR.out _ (by omega), rfl⟩

set_option maxRecDepth 4000 in
theorem part_pad (lb : List (BitVec 8)) (k n' : Nat) (hk : k < secs lb.length) (hn : n' = min ((k + 1) * 256) lb.length - k * 256) : n' ≤ 256 ∧ ((lb.drop (k * 256)).take n').length = n' ∧ (lb.drop (k * 256)).take n' ++ List.replicate (256 - n') 0#8 = secAt lb k := by
  have hkl : k * 256 < lb.length := by unfold secs at hk; omega
  have h1 : n' ≤ 256 := by omega
  have h2 : ((lb.drop (k * 256)).take n').length = n' := by simp; omega
  refine ⟨h1, h2, ?_⟩
  apply List.ext_getElem?
  intro j
  by_cases hj : j < 256
  · rw [secAt_at _ _ _ hj]
    unfold pad
    by_cases hjn : j < n'
    · rw [List.getElem?_append_left (by omega), List.getElem?_take, if_pos hjn, List.getElem?_drop, List.getElem?_append_left (by omega)]
    · rw [List.getElem?_append_right (by omega), h2, List.getElem?_replicate, if_pos (by omega), List.getElem?_append_right (by omega), List.getElem?_replicate, if_pos]
      have : (k + 1) ≤ secs lb.length := hk
      have h3 : (k + 1) * 256 ≤ secs lb.length * 256 := Nat.mul_le_mul_right _ this
      omega
  · rw [List.getElem?_eq_none (by simp; omega), List.getElem?_eq_none (by rw [secAt_length _ _ hk]; omega)]

theorem span_one (g n cap at' k : Nat) (w : World) (hc : (at' + k + 1) * 256 ≤ cap) (hm : (at' + k + 1) * 256 ≤ 140737488355328) :
    Calls Try.prog 43 #[.slice (some ⟨g, 0, none⟩) n cap, .int .i64 (IntKind.i64.wrap ((at' : Int) + k)), .int .i64 1] w fun e w' => e = .returned (.slice (some ⟨g, (at' + k) * 256, none⟩) 256 256) ∧ w = w' := by
  have h := span_any g n cap (at' + k) 1 w (Nat.le_refl _) hc hm
  rw [wrap_i64_small _ (by omega) (by omega)]
  rw [Int.natCast_add] at h
  exact h
theorem box_any {w w' : World} {x y : Value} {T : TypeId} (h : w.alloc (.cells #[x, y] T) = w') : Below w.heap.size w w' := h ▸ (Below.refl _ _).alloc (Nat.le_refl _) _

set_option maxRecDepth 4000 in
set_option maxHeartbeats 1000000 in
theorem layKept_any (at' : Nat) (ab : Option Addr) (bcap : Nat) (lb : List (BitVec 8)) (base g cap : Nat) (im : List (BitVec 8)) (kept : Int) (w : World) (hO : Own w base (.slice (some ⟨g, 0, none⟩) im.length cap) im) (hm : im.length ≤ 140737488355328)
    (hf : Fits im.length (at', lb)) (hcap : lb.length ≤ bcap) (hr : Row w ab lb) (hne : ∀ x, ab = some x → x.block ≠ g) (hk : -9223372036854775808 ≤ kept ∧ kept ≤ 9223372036854775807) :
    Calls Try.prog 42 #[.agg #[.int .i64 at', .slice ab lb.length bcap], .slice (some ⟨g, 0, none⟩) im.length cap, .int .i64 kept] w fun e w' => e = .returned (.tuple #[]) ∧ Own w' base (.slice (some ⟨g, 0, none⟩) im.length cap) (keepG im (at', lb) kept) ∧ w.grownBy w' (some g) := by
  have hs1 := secs_pos lb.length hf.1
  have hsl := secs_le lb.length
  have hgl := (World.ownsRow.lt hO g rfl).2
  have hf2 : (at' + secs lb.length) * 256 ≤ im.length := hf.2
  have hll : lb.length ≤ 140737488355328 := by generalize secs lb.length = s at *; omega
  have S0 := box_cells w (.int .i64 at') (.slice ab lb.length bcap) 68
  have b0 : Below w.heap.size w (w.alloc (.cells #[.int .i64 at', .slice ab lb.length bcap] 68)) := (Below.refl _ _).alloc (Nat.le_refl _) _
  have hz0 : w.heap.size < (w.alloc (.cells #[.int .i64 at', .slice ab lb.length bcap] 68)).heap.size := by simp
  go_enter Try.func42, Try.ntmps42
  go_wp2_with fail
  generalize w.alloc (.cells #[.int .i64 at', .slice ab lb.length bcap] 68) = w0 at *
  refine (gsectors_any at' ab lb.length bcap _ hll).mono ?_
  rintro e w1 ⟨rfl, hw1⟩
  have b1 := box_any hw1
  have S1 : w1.cell? ⟨w.heap.size, 0, none⟩ = some (.int .i64 at') ∧ w1.cell? ⟨w.heap.size, 1, none⟩ = some (.slice ab lb.length bcap) := ⟨cell_later b1 S0.1, cell_later b1 S0.2⟩
  have b01 := below_then b0 b1
  have f4 : some w.heap.size ≠ some g := by simp; omega
  have f5 : 256 ≤ 140737488355328 := by omega
  clear S0 hw1
  go_wp2_with fail
  go_loopw [9] (fun i wr => ∃ k : Nat, k ≤ secs lb.length ∧ i = .int .i64 k ∧ Own wr base (.slice (some ⟨g, 0, none⟩) im.length cap) (keepTo im (at', lb) kept k) ∧ w1.grownBy wr (some g)) (fun i _ => secs lb.length - (intOf i).toNat)
  case atStart => exact ⟨0, by omega, rfl, hO.later b01, ⟨rfl, rfl, rfl, Nat.le_refl _, fun _ _ _ => rfl⟩⟩
  case round =>
    obtain ⟨k, hk1, rfl, hOr, hgr⟩ := hrel
    by_cases hlt : k < secs lb.length
    · have q1 : (k : Int) < (secs lb.length : Int) := by omega
      have hbit : (bits .and .i64 (kept / 2 ^ (k % 16)) 1 == 1) = bitOf kept k := by rw [and1_i64]; unfold bitOf; exact Bool.beq_eq_decide_eq _ _
      cases hb : bitOf kept k with
      | false =>
        rw [hb] at hbit
        have hk2 : Hid (keepTo im (at', lb) kept (k + 1) = keepTo im (at', lb) kept k) := by show _ = _; rw [keepTo, hb]; rfl
        go_wp2_with fail
        exact ⟨⟨k + 1, by omega, by go_num, by rw [hk2.out]; exact hOr, hgr⟩, by simp [intOf]; omega⟩
      | true =>
        rw [hb] at hbit
        have hk2 : keepTo im (at', lb) kept (k + 1) = splice (keepTo im (at', lb) kept k) ((at' + k) * 256) (secAt lb k) := by rw [keepTo, hb]; rfl
        have hkl := keepTo_length hf kept k hk1
        have hfk : (at' + k + 1) * 256 ≤ im.length := Nat.le_trans (Nat.mul_le_mul_right _ (by omega)) hf2
        have hsl1 := secAt_length lb k hlt
        generalize keepTo im (at', lb) kept k = im1 at *
        obtain ⟨cur, hB, hcl, hct, hcle, hcm, hcb⟩ := own_blk hOr
        have f1 : (at' + k) * 256 + 256 ≤ cur.length := by omega
        have f2 : (at' + k + 1) * 256 ≤ cap := by omega
        have f3 : (at' + k + 1) * 256 ≤ 140737488355328 := by omega
        have q5 : (at' : Int) + k ≤ 140737488355328 := by omega
        have q6 : (0 : Int) ≤ (at' : Int) + k := by omega
        have hgrd : w1.grownBy wr.drew (some g) := ⟨hgr.os, hgr.tape, hgr.output, hgr.size, hgr.block⟩
        have Sr : wr.drew.cell? ⟨w.heap.size, 0, none⟩ = some (.int .i64 at') ∧ wr.drew.cell? ⟨w.heap.size, 1, none⟩ = some (.slice ab lb.length bcap) := ⟨cell_keep S1.1 hgrd f4, cell_keep S1.2 hgrd f4⟩
        have hBd : Blk wr.drew g 5 cur := hB
        have hrr : Row wr.drew ab lb := by
          have := hr.later b01
          rcases this with h | ⟨b, off, h1, h2⟩
          · exact .inl h
          · exact .inr ⟨b, off, h1, fun i hi => cell_keep (h2 i hi) hgrd (by have := hne _ h1; simpa using this)⟩
        have K : Hid _ := And.intro hBd (And.intro hrr (And.intro hk2 (And.intro hgrd (And.intro hcl (And.intro hct (And.intro hcm hcb))))))
        clear hB hBd hrr hk2 hgr hgrd hcl hct hcm hcb hOr hO hr S1
        go_wp2_with fail
        go_region_held_law (fun W => W.cell? ⟨w.heap.size, 0, none⟩ = some (.int .i64 at') ∧ W.cell? ⟨w.heap.size, 1, none⟩ = some (.slice ab lb.length bcap)) (first | exact Sr | assumption)
          (first
            | (go_at_call 43; refine (span_one g im.length cap at' k _ f2 f3).mono ?_; rintro e w2 ⟨rfl, hw2⟩; obtain rfl := hw2.symm)
            | (go_at_call 48; refine (part_any at' ab bcap lb k _ hlt hcap hll K.out.2.1).mono ?_; rintro e w3 ⟨a', n', rfl, hn', hr3, hw3⟩; have b3 := box_any hw3; have S3 : w3.cell? ⟨w.heap.size, 0, none⟩ = some (.int .i64 at') ∧ w3.cell? ⟨w.heap.size, 1, none⟩ = some (.slice ab lb.length bcap) := ⟨cell_later b3 Sr.1, cell_later b3 Sr.2⟩; obtain ⟨p1, p2, p3⟩ := part_pad lb k n' hlt hn'; clear hn')
            | (go_at_call 47; refine (lay_any g ((at' + k) * 256) 256 256 cur 5 a' n' n' ((lb.drop (k * 256)).take n') _ (K.out.1.laterB b3) f1 (Nat.le_refl _) f5 p2 p1 hr3).mono ?_; rintro e w4 ⟨rfl, hB4, hg4⟩; have S4 : w4.cell? ⟨w.heap.size, 0, none⟩ = some (.int .i64 at') ∧ w4.cell? ⟨w.heap.size, 1, none⟩ = some (.slice ab lb.length bcap) := ⟨cell_keep S3.1 hg4 f4, cell_keep S3.2 hg4 f4⟩))
        obtain ⟨_, _, hk2, hgrd, hcl, hct, hcm, hcb⟩ := K.out
        have hO4 : Own w4 base (.slice (some ⟨g, 0, none⟩) im.length cap) (splice im1 ((at' + k) * 256) (secAt lb k)) := by
          rw [p3] at hB4
          have hL : (splice im1 ((at' + k) * 256) (secAt lb k)).length = im.length := by rw [splice_length _ _ _ (by rw [hsl1]; omega)]; exact hkl
          rw [← hL]
          refine blk_own hB4 ?_ ?_ (by omega) hcm hcb
          · rw [splice_length _ _ _ (by rw [vals_length, hsl1]; exact f1)]; exact hcl
          · rw [hL, take_splice _ _ _ _ (by rw [vals_length, hsl1]; omega) (by omega), ← hkl, hct, ← vals_splice]
        have F : Hid _ := And.intro hO4 (grown_trans (grown_trans hgrd ⟨b3.os, b3.tape, b3.output, b3.size, fun k hk _ => b3.block k hk⟩) hg4)
        rw [← hk2] at F
        clear hB4 hg4 S4 S3 b3 hw3 Sr K hr3 hO4 p1 p2 p3 hk2 hgrd hct
        go_wp2_with fail
        exact ⟨⟨k + 1, by omega, by go_num, F.out.1, F.out.2⟩, by simp [intOf]; omega⟩
    · have hke : k = secs lb.length := by omega
      have F : Hid _ := And.intro hOr (grown_trans (⟨b01.os, b01.tape, b01.output, b01.size, fun k hk _ => b01.block k hk⟩ : w.grownBy w1 (some g)) hgr)
      have hx : Hid (keepTo im (at', lb) kept k = keepG im (at', lb) kept) := by show _ = _; rw [hke]; rfl
      rw [hx.out] at F
      clear hOr hgr hO hr hx
      go_wp2
      go_end0
      exact ⟨rfl, F.out.1, F.out.2⟩
end Go.Proofs.Ytmhnlfgakpelkaa
