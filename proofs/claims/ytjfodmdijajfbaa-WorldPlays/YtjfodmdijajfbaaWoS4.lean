/- One call of both worlds: Take. -/
import Derived.Test.YtjfodmdijajfbaaWoS2
namespace Go.Proofs.Ytjfodmdijajfbaa
open Go.RowKit
set_option linter.unusedVariables false
set_option maxRecDepth 4000

/-- letters, in variables of their own -/
def letOb (t : Nat) (k : Nat) (xs : List Value) : Ob := ⟨[], [k], fun w => Blk w k t xs⟩
theorem letOb_ok {t : Nat} {w : World} {k : Nat} {xs : List Value} (h : Blk w k t xs) : (letOb t k xs).Ok w :=
  ⟨h, fun j hj => by rcases hj with hj | hj; cases hj; rw [List.mem_singleton.1 hj]; exact h.lt, (fun j hj => by cases hj), fun w1 w2 hs h => by
    show w2.heap[k]? = _
    rw [hs k (.inr (by simp [letOb]))]; exact h⟩
theorem Sep.letter {B : Nat} {L : List Ob} {w : World} (h : Sep B L w) (t : Nat) (xs : List Value) : Sep B (letOb t w.heap.size xs :: L) (w.alloc (.cells xs.toArray t)) :=
  Sep.fresh h ((Below.refl _ _).alloc (Nat.le_refl _) _) (letOb_ok (Blk.new' w t xs)) (fun k hk => by rcases hk with hk | hk; cases hk; rw [List.mem_singleton.1 hk]; exact Nat.le_refl _)
theorem Sep.join {B n : Nat} {L : List Ob} {o : Ob} {w : World} (h : Sep B L w) (ho : o.Ok w) (hn : ∀ k, k ∈ o.W ∨ k ∈ o.V → n ≤ k) (hB : B ≤ n) (hL : ∀ p ∈ L, ∀ k, k ∈ p.W ∨ k ∈ p.V → k < n) : Sep B (o :: L) w := by
  refine ⟨fun p hp => ?_, fun p hp => ?_, List.pairwise_cons.2 ⟨fun p hp => ⟨fun k hk => ⟨fun e => ?_, fun e => ?_⟩, fun k hk e => ?_⟩, h.pair⟩, h.base⟩
  · rcases List.mem_cons.1 hp with rfl | hp
    · exact ho
    · exact h.each p hp
  · rcases List.mem_cons.1 hp with rfl | hp
    · exact fun k hk => Nat.le_trans hB (hn k (.inl hk))
    · exact h.new p hp
  · have := hn k (.inl hk); have := hL p hp k (.inl e); omega
  · have := hn k (.inl hk); have := hL p hp k (.inr e); omega
  · have := hn k (.inr e); have := hL p hp k (.inl hk); omega
theorem Sep.sub {B : Nat} {L L' : List Ob} {w : World} (h : Sep B L w) (hs : L'.Sublist L) : Sep B L' w :=
  ⟨fun o ho => h.each o (hs.subset ho), fun o ho => h.new o (hs.subset ho), h.pair.sublist hs, h.base⟩
def restOb (v : Value) : Ob := ⟨v.ownBlock.toList, [], fun _ => True⟩
theorem own_rest {w w' : World} {v : Value} {base : Nat} {l : List (BitVec 8)} (ho : Own w base v l) (hg : w.grownBy w' v.ownBlock) : Step w w' (byOb v base l) (restOb v) :=
  ⟨turned_grown hg (fun j hj => by simp [byOb, hj]), ⟨trivial, fun j hj => Nat.lt_of_lt_of_le ((byOb_ok ho).lt j hj) hg.size, (fun j _ hj => by cases hj), fun _ _ _ _ => trivial⟩, fun j hj => .inl hj, fun j hj => by cases hj⟩
/-- the first Take's leavings: the data beside the worlds, and the letter in its variable -/
theorem took1 {B g g' ob : Nat} {p p' : Wp} {m m1 : Wm} {xs ys : List Value} {v : Value} {l : List (BitVec 8)} {t : Nat} {w w1 : World} (h : Sep B [wo g p m, rw8 g' p' m, opOb ob xs] w) (s : Step w w1 (wo g p m) (wo g p m1)) (ho : Own w1 w.heap.size v l) :
    Sep B [letOb t w1.heap.size ys, byOb v w.heap.size l, wo g p m1, rw8 g' p' m, opOb ob xs] (w1.alloc (.cells ys.toArray t)) := by
  refine Sep.letter (Sep.join (n := w.heap.size) (h.step s) (byOb_ok ho) (fun k hk => ?_) h.base (fun o hm k hk => ?_)) t ys
  · rcases hk with hk | hk
    · exact (World.ownsRow.lt ho k (by simpa [byOb] using hk)).1
    · cases hk
  · simp only [List.mem_cons, List.not_mem_nil, or_false] at hm
    rcases hm with rfl | rfl | rfl
    · exact h.head.lt k hk
    · exact (h.each (rw8 g' p' m) (by simp)).lt k hk
    · exact (h.each (opOb ob xs) (by simp)).lt k hk
theorem Sep.fourth {B : Nat} {a b c d e : Ob} {w : World} (h : Sep B [a, b, c, d, e] w) : Sep B [d, a, b, c] w :=
  (h.sub (by simp : [a, b, c, d].Sublist [a, b, c, d, e])).perm (List.perm_append_comm (l₁ := [a, b, c]) (l₂ := [d]))
theorem Sep.thirdF {B : Nat} {a b c d : Ob} {w : World} (h : Sep B [a, b, c, d] w) : Sep B [c, a, b, d] w := h.third
theorem Sep.pickF {B : Nat} {a b c d : Ob} {w : World} (h : Sep B [a, b, c, d] w) : Sep B [d, b] w :=
  (h.sub (by simp : [b, d].Sublist [a, b, c, d])).swap
theorem own_row2 {w : World} {base len c : Nat} {a : Option Addr} {l : List (BitVec 8)} (h : Own w base (.slice a len c) l) : Row w a l := by
  obtain ⟨a', c', hv, -, -, hr, -, -⟩ := h.open
  simp only [Value.slice.injEq] at hv
  obtain ⟨rfl, -, rfl⟩ := hv
  exact hr
theorem let6 {w w' : World} {A1 A2 A3 A4 A5 A6 : Addr} {v1 v2 v3 v4 v5 v6 : Value} (h : w.cell? A1 = some v1 ∧ w.cell? A2 = some v2 ∧ w.cell? A3 = some v3 ∧ w.cell? A4 = some v4 ∧ w.cell? A5 = some v5 ∧ w.cell? A6 = some v6) (hb : Below w.heap.size w w') :
    w'.cell? A1 = some v1 ∧ w'.cell? A2 = some v2 ∧ w'.cell? A3 = some v3 ∧ w'.cell? A4 = some v4 ∧ w'.cell? A5 = some v5 ∧ w'.cell? A6 = some v6 :=
  ⟨cell_later hb h.1, cell_later hb h.2.1, cell_later hb h.2.2.1, cell_later hb h.2.2.2.1, cell_later hb h.2.2.2.2.1, cell_later hb h.2.2.2.2.2⟩
set_option maxHeartbeats 4000000 in
theorem st_take3 (B g g' : Nat) (p p' : Wp) (m m1 : Wm) (F N : Int) (xa : Option Addr) (xl xc : Nat) (W : World) (x y c : Int) (l : List (BitVec 8)) (h : Both B g g' p p' m W) (hl : l.length ≤ 140737488351232)
    (h1 : ∀ X, (wo g p m).Ok X → Calls Try.prog 16 #[.pointer (some ⟨g, 0, none⟩), .int .i64 N] X fun e w' => ∃ v, e = .returned (.tuple #[.agg #[.int .i64 x, .int .i64 y, v], .int .i64 c]) ∧ Own w' X.heap.size v l ∧ Step X w' (wo g p m) (wo g p m1))
    (h2 : ∀ X, (rw8 g' p' m).Ok X → Calls Try.prog 53 #[.pointer (some ⟨g', 0, none⟩), .int .i64 N] X fun e w' => ∃ q a cap, e = .returned (.tuple #[.agg #[.int .i64 x, .int .i64 y, .slice a l.length cap], .int .i64 c]) ∧ Row w' a l ∧ Step X w' (rw8 g' p' m) (rw8 g' q m1)) :
    Calls Try.prog 12 #[.pointer (some ⟨g, 0, none⟩), .pointer (some ⟨g', 0, none⟩), .agg #[.int .i64 3, .int .i64 F, .int .i64 N, .slice xa xl xc]] W (After B g g' m1 W) := by
  have h0 := both_box h [.int .i64 3, .int .i64 F, .int .i64 N, .slice xa xl xc]
  have BO := h0.opAt
  have x0 := BO.cell (by simp [maxLen]) 0 (by simp)
  have x2 := BO.cell (by simp [maxLen]) 2 (by simp)
  simp only [List.getElem?_cons_succ, List.getElem?_cons_zero] at x0 x2
  have b0 : Below B W (W.alloc (.cells #[.int .i64 3, .int .i64 F, .int .i64 N, .slice xa xl xc] 34)) := (Below.refl _ _).alloc h.base _
  have HC1 : Hid _ := h1
  have HC2 : Hid _ := h2
  have HK : Hid _ := And.intro h0 b0
  clear h h0 b0 BO h1 h2
  go_enter Try.func12, Try.ntmps12
  go_wp2_with fail
  generalize W.alloc (.cells #[.int .i64 3, .int .i64 F, .int .i64 N, .slice xa xl xc] 34) = wk at *
  generalize W.heap.size = ob at *
  refine (Calls.mono (HC1.out _ HK.out.1.head)) ?_
  rintro e w1 ⟨v, rfl, ho, s1⟩
  have hv1 := ho.open
  obtain ⟨va, vc, rfl, hvc, hvm, -, -, -⟩ := hv1
  have j1 := took1 (t := 41) (ys := [.int .i64 x, .int .i64 y, .slice va l.length vc]) HK.out.1 s1 ho
  have jb : Below B W (w1.alloc (.cells #[.int .i64 x, .int .i64 y, .slice va l.length vc] 41)) := (HK.out.2.trans (HK.out.1.below s1)).alloc (Nat.le_trans HK.out.1.base s1.turned.size) _
  obtain ⟨-, n2, -⟩ := op_cells (j1.each (opOb ob [.int .i64 3, .int .i64 F, .int .i64 N, .slice xa xl xc]) (by simp)).holds
  have K1 : Hid _ := And.intro j1.fourth jb
  clear j1 jb ho s1 HC1 HK x0 x2
  go_wp2_with fail
  generalize w1.alloc (.cells #[.int .i64 x, .int .i64 y, .slice va l.length vc] 41) = wx at *
  generalize w1.heap.size = bx at *
  refine (Calls.mono (HC2.out _ K1.out.1.head)) ?_
  rintro e w2 ⟨q, a, cap, rfl, hr, s2⟩
  have b3 : Below w2.heap.size w2 (w2.alloc (.cells #[.int .i64 x, .int .i64 y, .slice a l.length cap] 51)) := (Below.refl _ _).alloc (Nat.le_refl _) _
  have j2 := (K1.out.1.step s2).later b3
  have jb := K1.out.2.trans ((K1.out.1.below s2).alloc (Nat.le_trans K1.out.1.base s2.turned.size) (.cells #[.int .i64 x, .int .i64 y, .slice a l.length cap] 51))
  obtain ⟨⟨y0, y1, y2⟩, -⟩ := wblk3 (Blk.new' w2 51 [.int .i64 x, .int .i64 y, .slice a l.length cap])
  obtain ⟨⟨z0, z1, z2⟩, -⟩ := wblk3 (j2.each (letOb 41 bx [.int .i64 x, .int .i64 y, .slice va l.length vc]) (by simp)).holds
  have hr3 := hr.later b3
  have K2 : Hid _ := And.intro j2 (And.intro jb hr3)
  clear j2 jb hr hr3 s2 b3 HC2 K1
  go_upto_region 13 with fail
  generalize w2.alloc (.cells #[.int .i64 x, .int .i64 y, .slice a l.length cap] 51) = w3 at *
  generalize w2.heap.size = byy at *
  have S0 : w3.drew.cell? ⟨bx, 0, none⟩ = some (.int .i64 x) ∧ w3.drew.cell? ⟨bx, 1, none⟩ = some (.int .i64 y) ∧ w3.drew.cell? ⟨bx, 2, none⟩ = some (.slice va l.length vc) ∧ w3.drew.cell? ⟨byy, 0, none⟩ = some (.int .i64 x) ∧ w3.drew.cell? ⟨byy, 1, none⟩ = some (.int .i64 y) ∧ w3.drew.cell? ⟨byy, 2, none⟩ = some (.slice a l.length cap) := ⟨z0, z1, z2, y0, y1, y2⟩
  have K3 : Hid _ := And.intro K2.out.1.drew (And.intro K2.out.2.1.drew (Row.later K2.out.2.2 (Below.refl _ _).drew))
  clear z0 z1 z2 y0 y1 y2 n2 K2
  go_region_held_law (fun X => X.cell? ⟨bx, 0, none⟩ = some (.int .i64 x) ∧ X.cell? ⟨bx, 1, none⟩ = some (.int .i64 y) ∧ X.cell? ⟨bx, 2, none⟩ = some (.slice va l.length vc) ∧ X.cell? ⟨byy, 0, none⟩ = some (.int .i64 x) ∧ X.cell? ⟨byy, 1, none⟩ = some (.int .i64 y) ∧ X.cell? ⟨byy, 2, none⟩ = some (.slice a l.length cap)) (first | exact S0 | assumption)
    (first
      | (go_at_call 26; refine (Calls.mono (as_any x y va l.length vc _)) ?_; rintro e w4 ⟨rfl, b4⟩; have K4 : Hid _ := And.intro (K3.out.1.later b4) (And.intro (K3.out.2.1.trans (b4.mono K3.out.1.base)) (K3.out.2.2.later b4)); have S4 : w4.cell? ⟨bx, 0, none⟩ = some (.int .i64 x) ∧ w4.cell? ⟨bx, 1, none⟩ = some (.int .i64 y) ∧ w4.cell? ⟨bx, 2, none⟩ = some (.slice va l.length vc) ∧ w4.cell? ⟨byy, 0, none⟩ = some (.int .i64 x) ∧ w4.cell? ⟨byy, 1, none⟩ = some (.int .i64 y) ∧ w4.cell? ⟨byy, 2, none⟩ = some (.slice a l.length cap) := let6 S0 b4; clear b4)
      | (go_at_call 25; refine (Calls.mono (same8_yes x y va a l.length vc cap l w4 rfl (own_row2 (K4.out.1.each (byOb (.slice va l.length vc) wk.heap.size l) (by simp)).holds) K4.out.2.2)) ?_; rintro e w5 ⟨rfl, b5⟩; have K5 : Hid _ := And.intro (K4.out.1.later b5) (K4.out.2.1.trans (b5.mono K4.out.1.base)); have S5 : w5.cell? ⟨bx, 0, none⟩ = some (.int .i64 x) ∧ w5.cell? ⟨bx, 1, none⟩ = some (.int .i64 y) ∧ w5.cell? ⟨bx, 2, none⟩ = some (.slice va l.length vc) ∧ w5.cell? ⟨byy, 0, none⟩ = some (.int .i64 x) ∧ w5.cell? ⟨byy, 1, none⟩ = some (.int .i64 y) ∧ w5.cell? ⟨byy, 2, none⟩ = some (.slice a l.length cap) := let6 S4 b5; clear b5))
  all_goals
    have oo : Own w5 wk.heap.size (.slice va l.length vc) l := (K5.out.1.each (byOb (.slice va l.length vc) wk.heap.size l) (by simp)).holds
    have HS : Hid _ := And.intro (Spoil_own _ _ l w5 oo hl) oo
    obtain ⟨z0, z1, z2, y0, y1, y2⟩ := S5
    clear oo
    go_wp2_with fail
    refine (Calls.mono HS.out.1) ?_
    rintro e w6 ⟨rfl, hg6⟩
    have st := own_rest HS.out.2 hg6
    have F : Hid _ := And.intro (K5.out.1.thirdF.step st).pickF (K5.out.2.trans (K5.out.1.thirdF.below st))
    clear st hg6 HS K5
    go_wp2
    go_ret
    exact ⟨ret_bool (by simp), _, _, F.out.1, F.out.2⟩
set_option maxHeartbeats 4000000 in
theorem st_take4 (B g g' : Nat) (p p' : Wp) (m m1 : Wm) (F N : Int) (xa : Option Addr) (xl xc : Nat) (W : World) (x y c : Int) (l : List (BitVec 8)) (h : Both B g g' p p' m W) (hl : l.length ≤ 140737488351232)
    (h1 : ∀ X, (wo g p m).Ok X → Calls Try.prog 16 #[.pointer (some ⟨g, 0, none⟩), .int .i64 N] X fun e w' => ∃ v, e = .returned (.tuple #[.agg #[.int .i64 x, .int .i64 y, v], .int .i64 c]) ∧ Own w' X.heap.size v l ∧ Step X w' (wo g p m) (wo g p m1))
    (h2 : ∀ X, (rw8 g' p' m).Ok X → Calls Try.prog 53 #[.pointer (some ⟨g', 0, none⟩), .int .i64 N] X fun e w' => ∃ q a cap, e = .returned (.tuple #[.agg #[.int .i64 x, .int .i64 y, .slice a l.length cap], .int .i64 c]) ∧ Row w' a l ∧ Step X w' (rw8 g' p' m) (rw8 g' q m1)) :
    Calls Try.prog 12 #[.pointer (some ⟨g, 0, none⟩), .pointer (some ⟨g', 0, none⟩), .agg #[.int .i64 4, .int .i64 F, .int .i64 N, .slice xa xl xc]] W (After B g g' m1 W) := by
  have h0 := both_box h [.int .i64 4, .int .i64 F, .int .i64 N, .slice xa xl xc]
  have BO := h0.opAt
  have x0 := BO.cell (by simp [maxLen]) 0 (by simp)
  have x2 := BO.cell (by simp [maxLen]) 2 (by simp)
  simp only [List.getElem?_cons_succ, List.getElem?_cons_zero] at x0 x2
  have b0 : Below B W (W.alloc (.cells #[.int .i64 4, .int .i64 F, .int .i64 N, .slice xa xl xc] 34)) := (Below.refl _ _).alloc h.base _
  have HC1 : Hid _ := h1
  have HC2 : Hid _ := h2
  have HK : Hid _ := And.intro h0 b0
  clear h h0 b0 BO h1 h2
  go_enter Try.func12, Try.ntmps12
  go_wp2_with fail
  generalize W.alloc (.cells #[.int .i64 4, .int .i64 F, .int .i64 N, .slice xa xl xc] 34) = wk at *
  generalize W.heap.size = ob at *
  refine (Calls.mono (HC1.out _ HK.out.1.head)) ?_
  rintro e w1 ⟨v, rfl, ho, s1⟩
  have hv1 := ho.open
  obtain ⟨va, vc, rfl, hvc, hvm, -, -, -⟩ := hv1
  have j1 := took1 (t := 41) (ys := [.int .i64 x, .int .i64 y, .slice va l.length vc]) HK.out.1 s1 ho
  have jb : Below B W (w1.alloc (.cells #[.int .i64 x, .int .i64 y, .slice va l.length vc] 41)) := (HK.out.2.trans (HK.out.1.below s1)).alloc (Nat.le_trans HK.out.1.base s1.turned.size) _
  obtain ⟨-, n2, -⟩ := op_cells (j1.each (opOb ob [.int .i64 4, .int .i64 F, .int .i64 N, .slice xa xl xc]) (by simp)).holds
  have K1 : Hid _ := And.intro j1.fourth jb
  clear j1 jb ho s1 HC1 HK x0 x2
  go_wp2_with fail
  generalize w1.alloc (.cells #[.int .i64 x, .int .i64 y, .slice va l.length vc] 41) = wx at *
  generalize w1.heap.size = bx at *
  refine (Calls.mono (HC2.out _ K1.out.1.head)) ?_
  rintro e w2 ⟨q, a, cap, rfl, hr, s2⟩
  have b3 : Below w2.heap.size w2 (w2.alloc (.cells #[.int .i64 x, .int .i64 y, .slice a l.length cap] 51)) := (Below.refl _ _).alloc (Nat.le_refl _) _
  have j2 := (K1.out.1.step s2).later b3
  have jb := K1.out.2.trans ((K1.out.1.below s2).alloc (Nat.le_trans K1.out.1.base s2.turned.size) (.cells #[.int .i64 x, .int .i64 y, .slice a l.length cap] 51))
  obtain ⟨⟨y0, y1, y2⟩, -⟩ := wblk3 (Blk.new' w2 51 [.int .i64 x, .int .i64 y, .slice a l.length cap])
  obtain ⟨⟨z0, z1, z2⟩, -⟩ := wblk3 (j2.each (letOb 41 bx [.int .i64 x, .int .i64 y, .slice va l.length vc]) (by simp)).holds
  have hr3 := hr.later b3
  have K2 : Hid _ := And.intro j2 (And.intro jb hr3)
  clear j2 jb hr hr3 s2 b3 HC2 K1
  go_upto_region 13 with fail
  generalize w2.alloc (.cells #[.int .i64 x, .int .i64 y, .slice a l.length cap] 51) = w3 at *
  generalize w2.heap.size = byy at *
  have S0 : w3.drew.cell? ⟨bx, 0, none⟩ = some (.int .i64 x) ∧ w3.drew.cell? ⟨bx, 1, none⟩ = some (.int .i64 y) ∧ w3.drew.cell? ⟨bx, 2, none⟩ = some (.slice va l.length vc) ∧ w3.drew.cell? ⟨byy, 0, none⟩ = some (.int .i64 x) ∧ w3.drew.cell? ⟨byy, 1, none⟩ = some (.int .i64 y) ∧ w3.drew.cell? ⟨byy, 2, none⟩ = some (.slice a l.length cap) := ⟨z0, z1, z2, y0, y1, y2⟩
  have K3 : Hid _ := And.intro K2.out.1.drew (And.intro K2.out.2.1.drew (Row.later K2.out.2.2 (Below.refl _ _).drew))
  clear z0 z1 z2 y0 y1 y2 n2 K2
  go_region_held_law (fun X => X.cell? ⟨bx, 0, none⟩ = some (.int .i64 x) ∧ X.cell? ⟨bx, 1, none⟩ = some (.int .i64 y) ∧ X.cell? ⟨bx, 2, none⟩ = some (.slice va l.length vc) ∧ X.cell? ⟨byy, 0, none⟩ = some (.int .i64 x) ∧ X.cell? ⟨byy, 1, none⟩ = some (.int .i64 y) ∧ X.cell? ⟨byy, 2, none⟩ = some (.slice a l.length cap)) (first | exact S0 | assumption)
    (first
      | (go_at_call 26; refine (Calls.mono (as_any x y va l.length vc _)) ?_; rintro e w4 ⟨rfl, b4⟩; have K4 : Hid _ := And.intro (K3.out.1.later b4) (And.intro (K3.out.2.1.trans (b4.mono K3.out.1.base)) (K3.out.2.2.later b4)); have S4 : w4.cell? ⟨bx, 0, none⟩ = some (.int .i64 x) ∧ w4.cell? ⟨bx, 1, none⟩ = some (.int .i64 y) ∧ w4.cell? ⟨bx, 2, none⟩ = some (.slice va l.length vc) ∧ w4.cell? ⟨byy, 0, none⟩ = some (.int .i64 x) ∧ w4.cell? ⟨byy, 1, none⟩ = some (.int .i64 y) ∧ w4.cell? ⟨byy, 2, none⟩ = some (.slice a l.length cap) := let6 S0 b4; clear b4)
      | (go_at_call 25; refine (Calls.mono (same8_yes x y va a l.length vc cap l w4 rfl (own_row2 (K4.out.1.each (byOb (.slice va l.length vc) wk.heap.size l) (by simp)).holds) K4.out.2.2)) ?_; rintro e w5 ⟨rfl, b5⟩; have K5 : Hid _ := And.intro (K4.out.1.later b5) (K4.out.2.1.trans (b5.mono K4.out.1.base)); have S5 : w5.cell? ⟨bx, 0, none⟩ = some (.int .i64 x) ∧ w5.cell? ⟨bx, 1, none⟩ = some (.int .i64 y) ∧ w5.cell? ⟨bx, 2, none⟩ = some (.slice va l.length vc) ∧ w5.cell? ⟨byy, 0, none⟩ = some (.int .i64 x) ∧ w5.cell? ⟨byy, 1, none⟩ = some (.int .i64 y) ∧ w5.cell? ⟨byy, 2, none⟩ = some (.slice a l.length cap) := let6 S4 b5; clear b5))
  all_goals
    have oo : Own w5 wk.heap.size (.slice va l.length vc) l := (K5.out.1.each (byOb (.slice va l.length vc) wk.heap.size l) (by simp)).holds
    have HS : Hid _ := And.intro (Spoil_own _ _ l w5 oo hl) oo
    obtain ⟨z0, z1, z2, y0, y1, y2⟩ := S5
    clear oo
    go_wp2_with fail
    refine (Calls.mono HS.out.1) ?_
    rintro e w6 ⟨rfl, hg6⟩
    have st := own_rest HS.out.2 hg6
    have F : Hid _ := And.intro (K5.out.1.thirdF.step st).pickF (K5.out.2.trans (K5.out.1.thirdF.below st))
    clear st hg6 HS K5
    go_wp2
    go_ret
    exact ⟨ret_bool (by simp), _, _, F.out.1, F.out.2⟩
theorem step_quiet8 {w w' : World} {o : Ob} (h : o.Ok w) (hb : Below w.heap.size w w') : Step w w' o o := Step.quiet h hb
/-- what Take leaves -/
def Wm.took (m : Wm) (N : Int) : Wm := if h : 0 ≤ N ∧ N < m.fl.length then (if m.apart ((m.fl[N.toNat]'(by omega)).1 : Nat) ((m.fl[N.toNat]'(by omega)).2.1 : Nat) = true then m.lose N.toNat else m.come N.toNat) else m
theorem own_none (w : World) (b : Nat) : Own w b (.slice none 0 0) [] := ⟨by simp [vals], .inl ⟨rfl, rfl⟩⟩
theorem st_take3_any (B g g' : Nat) (p p' : Wp) (m : Wm) (F N : Int) (xa : Option Addr) (xl xc : Nat) (W : World) (h : Both B g g' p p' m W) (hw : m.Wf) (hN : I64 N) (hlo : m.lo ≤ 1000000000) (htk : m.tk ≤ 1000000000) :
    Calls Try.prog 12 #[.pointer (some ⟨g, 0, none⟩), .pointer (some ⟨g', 0, none⟩), .agg #[.int .i64 3, .int .i64 F, .int .i64 N, .slice xa xl xc]] W (After B g g' (m.took N) W) := by
  unfold Wm.took
  by_cases hn : 0 ≤ N ∧ N < (m.fl.length : Int)
  · rw [dif_pos hn]
    obtain ⟨k, rfl⟩ : ∃ k : Nat, N = k := ⟨N.toNat, by omega⟩
    have hk : k < m.fl.length := by omega
    simp only [Int.toNat_natCast]
    by_cases hap : m.apart (m.fl[k].1 : Nat) (m.fl[k].2.1 : Nat) = true
    · rw [if_pos hap]
      refine st_take3 B g g' p p' m (m.lose k) F k xa xl xc W 0 0 5 [] h (by simp) (fun X hX => (woTake_apart g p m k X hX hw hk hlo hap).mono ?_) (fun X hX => (rwTake_apart g' p' m k X hX hw hk hlo hap).mono ?_)
      · rintro e w' ⟨rfl, s⟩
        exact ⟨.slice none 0 0, rfl, own_none _ _, s⟩
      · rintro e w' ⟨q, rfl, s⟩
        exact ⟨_, none, 0, rfl, .inl rfl, s⟩
    · have hapf : m.apart (m.fl[k].1 : Nat) (m.fl[k].2.1 : Nat) = false := by simpa using hap
      rw [if_neg hap]
      have hsz := hw.each _ (List.getElem_mem hk)
      refine st_take3 B g g' p p' m (m.come k) F k xa xl xc W m.fl[k].1 m.fl[k].2.1 0 m.fl[k].2.2 h (by omega) (fun X hX => (woTake_come g p m k X hX hw hk htk hapf).mono ?_) (fun X hX => (rwTake_come g' p' m k X hX hw hk htk hapf).mono ?_)
      · rintro e w' ⟨v, rfl, ho, s⟩
        exact ⟨v, rfl, ho, s⟩
      · rintro e w' ⟨q, a, cap, rfl, hr, -, s⟩
        exact ⟨_, a, cap, rfl, hr, s⟩
  · rw [dif_neg hn]
    refine st_take3 B g g' p p' m m F N xa xl xc W 0 0 1 [] h (by simp) (fun X hX => (woTake_no g p m N X hX hw hN hn).mono ?_) (fun X hX => (rwTake_no g' p' m N X hX hw hN hn).mono ?_)
    · rintro e w' ⟨rfl, b⟩
      exact ⟨.slice none 0 0, rfl, own_none _ _, Step.quiet hX b⟩
    · rintro e w' ⟨rfl, b⟩
      exact ⟨_, none, 0, rfl, .inl rfl, Step.quiet hX b⟩
theorem st_take4_any (B g g' : Nat) (p p' : Wp) (m : Wm) (F N : Int) (xa : Option Addr) (xl xc : Nat) (W : World) (h : Both B g g' p p' m W) (hw : m.Wf) (hN : I64 N) (hlo : m.lo ≤ 1000000000) (htk : m.tk ≤ 1000000000) :
    Calls Try.prog 12 #[.pointer (some ⟨g, 0, none⟩), .pointer (some ⟨g', 0, none⟩), .agg #[.int .i64 4, .int .i64 F, .int .i64 N, .slice xa xl xc]] W (After B g g' (m.took N) W) := by
  unfold Wm.took
  by_cases hn : 0 ≤ N ∧ N < (m.fl.length : Int)
  · rw [dif_pos hn]
    obtain ⟨k, rfl⟩ : ∃ k : Nat, N = k := ⟨N.toNat, by omega⟩
    have hk : k < m.fl.length := by omega
    simp only [Int.toNat_natCast]
    by_cases hap : m.apart (m.fl[k].1 : Nat) (m.fl[k].2.1 : Nat) = true
    · rw [if_pos hap]
      refine st_take4 B g g' p p' m (m.lose k) F k xa xl xc W 0 0 5 [] h (by simp) (fun X hX => (woTake_apart g p m k X hX hw hk hlo hap).mono ?_) (fun X hX => (rwTake_apart g' p' m k X hX hw hk hlo hap).mono ?_)
      · rintro e w' ⟨rfl, s⟩
        exact ⟨.slice none 0 0, rfl, own_none _ _, s⟩
      · rintro e w' ⟨q, rfl, s⟩
        exact ⟨_, none, 0, rfl, .inl rfl, s⟩
    · have hapf : m.apart (m.fl[k].1 : Nat) (m.fl[k].2.1 : Nat) = false := by simpa using hap
      rw [if_neg hap]
      have hsz := hw.each _ (List.getElem_mem hk)
      refine st_take4 B g g' p p' m (m.come k) F k xa xl xc W m.fl[k].1 m.fl[k].2.1 0 m.fl[k].2.2 h (by omega) (fun X hX => (woTake_come g p m k X hX hw hk htk hapf).mono ?_) (fun X hX => (rwTake_come g' p' m k X hX hw hk htk hapf).mono ?_)
      · rintro e w' ⟨v, rfl, ho, s⟩
        exact ⟨v, rfl, ho, s⟩
      · rintro e w' ⟨q, a, cap, rfl, hr, -, s⟩
        exact ⟨_, a, cap, rfl, hr, s⟩
  · rw [dif_neg hn]
    refine st_take4 B g g' p p' m m F N xa xl xc W 0 0 1 [] h (by simp) (fun X hX => (woTake_no g p m N X hX hw hN hn).mono ?_) (fun X hX => (rwTake_no g' p' m N X hX hw hN hn).mono ?_)
    · rintro e w' ⟨rfl, b⟩
      exact ⟨.slice none 0 0, rfl, own_none _ _, Step.quiet hX b⟩
    · rintro e w' ⟨rfl, b⟩
      exact ⟨_, none, 0, rfl, .inl rfl, Step.quiet hX b⟩
end Go.Proofs.Ytjfodmdijajfbaa
