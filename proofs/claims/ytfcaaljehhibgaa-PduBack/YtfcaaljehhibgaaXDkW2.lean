/- Walks of the disk's groups and of what is cloned. -/
import Derived.Test.YtfcaaljehhibgaaXDkW1
import Derived.Maps.AppendAt
namespace Go.Proofs.Ytfcaaljehhibgaa
open Go.RowKit
set_option linter.unusedVariables false

theorem own_blk {w : World} {base g n cap : Nat} {l : List (BitVec 8)} (h : Own w base (.slice (some ⟨g, 0, none⟩) n cap) l) :
    ∃ cur, Blk w g 5 cur ∧ cur.length = cap ∧ cur.take l.length = vals l ∧ l.length ≤ cap ∧ cap ≤ maxLen ∧ base ≤ g := by
  obtain ⟨h1, h2 | ⟨g', cap', cur, hv, hb, hh, hc, hm, hs, ht⟩⟩ := h
  · simp at h2
  · simp only [Value.slice.injEq, Option.some.injEq, Addr.mk.injEq] at hv
    obtain ⟨⟨rfl, _, _⟩, _, rfl⟩ := hv
    exact ⟨cur.toList, by unfold Blk; simpa using hh, by simpa using hs, by simpa using ht, hc, hm, hb⟩
theorem blk_own {w : World} {base g cap : Nat} {l : List (BitVec 8)} {cur : List Value} (hB : Blk w g 5 cur) (h1 : cur.length = cap) (h2 : cur.take l.length = vals l) (h3 : l.length ≤ cap) (h4 : cap ≤ maxLen) (h5 : base ≤ g) : Own w base (.slice (some ⟨g, 0, none⟩) l.length cap) l :=
  ⟨by rw [vals_length]; omega, .inr ⟨g, cap, cur.toArray, rfl, h5, hB, h3, h4, by simpa using h1, by simpa using h2⟩⟩
theorem take_splice {α : Type} (L : List α) (n off : Nat) (x : List α) (h : off + x.length ≤ n) (hn : n ≤ L.length) : (splice L off x).take n = splice (L.take n) off x := by
  apply List.ext_getElem?
  intro j
  rw [List.getElem?_take, splice_at _ _ _ _ (by omega), splice_at _ _ _ _ (by rw [List.length_take]; omega), List.getElem?_take]
  by_cases hj : j < n
  · rw [if_pos hj, if_pos hj]
  · rw [if_neg hj, if_neg (by omega), if_neg hj]



set_option maxRecDepth 4000 in
theorem part_pad (lb : List (BitVec 8)) (k n' : Nat) (hk : k < secs lb.length) (hn : n' = min ((k + 1) * 256) lb.length - k * 256) : n' ≤ 256 ∧ ((lb.drop (k * 256)).take n').length = n' ∧ (lb.drop (k * 256)).take n' ++ List.replicate (256 - n') 0#8 = secAt lb k := by
  have hkl : k * 256 < lb.length := by unfold secs at hk; omega
  have h1 : n' ≤ 256 := by omega
  have h2 : ((lb.drop (k * 256)).take n').length = n' := by simp; omega
  refine ⟨h1, h2, ?_⟩
  apply List.ext_getElem?
  intro j
  by_cases hj : j < 256
  · rw [secAt_at _ _ _ hj]
    unfold pad
    by_cases hjn : j < n'
    · rw [List.getElem?_append_left (by omega), List.getElem?_take, if_pos hjn, List.getElem?_drop, List.getElem?_append_left (by omega)]
    · rw [List.getElem?_append_right (by omega), h2, List.getElem?_replicate, if_pos (by omega), List.getElem?_append_right (by omega), List.getElem?_replicate, if_pos]
      have : (k + 1) ≤ secs lb.length := hk
      have h3 : (k + 1) * 256 ≤ secs lb.length * 256 := Nat.mul_le_mul_right _ this
      omega
  · rw [List.getElem?_eq_none (by simp; omega), List.getElem?_eq_none (by rw [secAt_length _ _ hk]; omega)]


theorem box_any {w w' : World} {x y : Value} {T : TypeId} (h : w.alloc (.cells #[x, y] T) = w') : Below w.heap.size w w' := h ▸ (Below.refl _ _).alloc (Nat.le_refl _) _


end Go.Proofs.Ytfcaaljehhibgaa

/- Walks of what is cloned, and what a disk is in memory. -/
namespace Go.Proofs.Ytfcaaljehhibgaa
open Go.RowKit
set_option linter.unusedVariables false

theorem nil_slice (W : World) (a : Option Addr) (l c : Nat) : (binOp .eql 34 (.slice a l c) (.slice none 0 0)).run Try.prog W = .ok (.bool a.isNone) W :=
  Lib.run_eql_slice_nil W 34 5 a l c 0 0 Try.underlying34
theorem own_empty (w : World) : Own (w.alloc (.cells #[] 5)) w.heap.size (.slice (some ⟨w.heap.size, 0, none⟩) 0 0) [] :=
  ⟨by simp [vals], .inr ⟨w.heap.size, 0, #[], rfl, Nat.le_refl _, (show Blk _ _ _ [] from Blk.new' w _ []), Nat.le_refl _, by simp, by simp, by simp [vals]⟩⟩

set_option maxHeartbeats 400000 in
theorem Clone_any (a : Option Addr) (len cap : Nat) (l : List (BitVec 8)) (w : World) (hl : l.length = len) (hle : len ≤ cap) (hm : len ≤ 140737488351232) (hr : Row w a l) (hn : a = none → cap = 0) :
    Calls Try.prog 29 #[.slice a len cap] w fun e w' => ∃ v, e = .returned v ∧ Own w' w.heap.size v l ∧ Below w.heap.size w w' := by
  cases a with
  | none =>
    have hq : ∀ W : World, (binOp .eql 34 (.slice none 0 0) (.slice none 0 0)).run Try.prog W = .ok (.bool true) W := fun W => by rw [nil_slice]; rfl
    have hc0 := hn rfl
    subst hc0
    obtain rfl : len = 0 := by omega
    obtain rfl : l = [] := List.eq_nil_of_length_eq_zero hl
    go_enter Try.func29, Try.ntmps29
    go_wp2
    go_ret
    exact ⟨_, rfl, Own.nil _ _, Below.refl _ _⟩
  | some x =>
    have hb : Below w.heap.size w (w.alloc (.cells #[] 5)) := (Below.refl _ _).alloc (Nat.le_refl _) _
    have hr' := hr.later hb
    have hq : ∀ W : World, (binOp .eql 34 (.slice (some x) len cap) (.slice none 0 0)).run Try.prog W = .ok (.bool false) W := fun W => by rw [nil_slice]; rfl
    have ho := own_empty w
    go_enter Try.func29, Try.ntmps29
    go_wp2_with (at_builtin; refine wpList_append_bytes _ rfl _ _ rfl w.heap.size _ [] rfl ho (some x) len cap l rfl hl hr' hn hle (by simp; omega) (by simp) ?_)
    intro v' w' ho' hg'
    have hb' : Below w.heap.size w w' := hb.grown hg' hb.size (fun k hk => by simp [Value.ownBlock] at hk; omega)
    have F : Hid _ := And.intro ho' hb'
    clear ho' hg' hb' ho hr hr' hb
    go_wp2
    go_ret
    exact ⟨_, rfl, by simpa using F.out.1, F.out.2⟩
end Go.Proofs.Ytfcaaljehhibgaa
