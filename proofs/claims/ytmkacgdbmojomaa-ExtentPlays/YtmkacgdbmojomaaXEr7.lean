/- extent: both images' answers, one form for each; what stays. -/
import Derived.Test.YtmkacgdbmojomaaXEr3
import Derived.Test.YtmkacgdbmojomaaXEx2
namespace Go.Proofs.Ytmkacgdbmojomaa
open Go.RowKit
set_option linter.unusedVariables false
set_option linter.unusedSimpArgs false

/-- Write's answer, and the image behind it -/
def wOk (n : Nat) (a : Int) (len : Nat) : Bool := len % 64 == 0 && spansB n a (len / 64 : Nat)
def wAns (b : Bool) : Int := if b then 0 else 1
def wIm (m : Im) (a : Int) (l : List (BitVec 8)) : Im := if wOk m.n a l.length then wrN m a.toNat l (l.length / 64) else m
theorem wOk_yes {n : Nat} {a : Int} {len : Nat} (h : wOk n a len = true) : ∃ x k : Nat, a = x ∧ len = k * 64 ∧ x + k ≤ n := by
  unfold wOk at h
  rw [Bool.and_eq_true] at h
  obtain ⟨x, y, hx, hy, hxy⟩ := spansB_yes h.2
  have h1 : len % 64 = 0 := by simpa using h.1
  exact ⟨x, y, hx, by omega, hxy⟩
theorem wOk_no {n : Nat} {a : Int} {len : Nat} (h : wOk n a len = false) : len % 64 ≠ 0 ∨ (len % 64 = 0 ∧ spansB n a (len / 64 : Nat) = false) := by
  unfold wOk at h
  rw [Bool.and_eq_false_iff] at h
  by_cases h1 : len % 64 = 0
  · refine .inr ⟨h1, ?_⟩
    rcases h with h | h
    · simp at h; exact absurd h1 h
    · exact h
  · exact .inl h1
theorem wIm_wf {m : Im} (h : m.Wf) (a : Int) (l : List (BitVec 8)) : (wIm m a l).Wf := by
  unfold wIm
  split
  · rename_i hk
    obtain ⟨x, k, rfl, h1, h2⟩ := wOk_yes hk
    rw [Int.toNat_natCast]
    exact wrN_wf h x l (l.length / 64) (by omega) (by omega)
  · exact h
theorem imWrite_ans (g b : Nat) (m : Im) (a : Int) (x : Option Addr) (len cap : Nat) (l : List (BitVec 8)) (w : World) (h : (im g b m).Ok w) (hw : m.Wf) (ha : I64 a) (hlen : len ≤ 140737488355328) (hl : l.length = len) (hcap : len ≤ cap) (hr : Row w x l) (hv : ∀ y, x = some y → y.block ≠ b) :
    Calls Try.prog 27 #[.pointer (some ⟨g, 0, none⟩), .int .i64 a, .slice x len cap] w fun e w' => e = .returned (.int .i64 (wAns (wOk m.n a len))) ∧ Step w w' (im g b m) (im g b (wIm m a l)) := by
  subst hl
  cases hk : wOk m.n a l.length with
  | true =>
    have e : wIm m a l = wrN m a.toNat l (l.length / 64) := by unfold wIm; rw [hk]; rfl
    obtain ⟨q, k, rfl, h1, h2⟩ := wOk_yes hk
    rw [e, Int.toNat_natCast, show l.length / 64 = k by omega]
    exact imWrite_yes g b m q k x l.length cap l w h hw h2 h1 rfl hcap hr hv
  | false =>
    have e : wIm m a l = m := by unfold wIm; rw [hk]; rfl
    rw [e]
    refine (imWrite_no g b m a x l.length cap w h hw ha hlen ((wOk_no hk).imp id (·.2))).mono ?_
    rintro e w' ⟨rfl, rfl⟩
    exact ⟨rfl, Step.refl h⟩
theorem riWrite_ans (r lb : Nat) (V : List Nat) (m : Im) (a : Int) (x : Option Addr) (len cap : Nat) (l : List (BitVec 8)) (w : World) (h : (ri r lb V m).Ok w) (hw : m.Wf) (ha : I64 a) (hlen : len ≤ 140737488355328) (hl : l.length = len) (hcap : len ≤ cap) (hnil : x = none → cap = 0) (hr : Row w x l) (hv : l ≠ [] → ∀ y, x = some y → y.block ≠ lb) :
    Calls Try.prog 41 #[.pointer (some ⟨r, 0, none⟩), .int .i64 a, .slice x len cap] w fun e w' => e = .returned (.int .i64 (wAns (wOk m.n a len))) ∧ ∃ V', Step w w' (ri r lb V m) (ri r lb V' (wIm m a l)) := by
  subst hl
  cases hk : wOk m.n a l.length with
  | true =>
    have e : wIm m a l = wrN m a.toNat l (l.length / 64) := by unfold wIm; rw [hk]; rfl
    obtain ⟨q, k, rfl, h1, h2⟩ := wOk_yes hk
    rw [e, Int.toNat_natCast, show l.length / 64 = k by omega]
    exact riWrite_yes r lb V m q k x l.length cap l w h hw h2 h1 rfl hcap hnil hr hv
  | false =>
    have e : wIm m a l = m := by unfold wIm; rw [hk]; rfl
    rw [e]
    rcases wOk_no hk with h1 | ⟨h1, h2⟩
    · refine (riWrite_no1 r lb V m a x l.length cap w h hw ha hlen h1).mono ?_
      rintro e w' ⟨rfl, rfl⟩
      exact ⟨rfl, V, Step.refl h⟩
    · refine (riWrite_no2 r lb V m a x l.length cap w h hw ha hlen h1 h2).mono ?_
      rintro e w' ⟨rfl, rfl⟩
      exact ⟨rfl, V, Step.refl h⟩
/-- Unmap's -/
def uIm (m : Im) (a k : Int) : Im := if spansB m.n a k then unN m a.toNat k.toNat else m
theorem uIm_wf {m : Im} (h : m.Wf) (a k : Int) : (uIm m a k).Wf := by
  unfold uIm
  split
  · rename_i hk
    obtain ⟨x, y, rfl, rfl, h2⟩ := spansB_yes hk
    rw [Int.toNat_natCast, Int.toNat_natCast]
    exact unN_wf h x y h2
  · exact h
theorem imUnmap_ans (g b : Nat) (m : Im) (a k : Int) (w : World) (h : (im g b m).Ok w) (hw : m.Wf) (ha : I64 a) (hk : I64 k) :
    Calls Try.prog 18 #[.pointer (some ⟨g, 0, none⟩), .int .i64 a, .int .i64 k] w fun e w' => e = .returned (.int .i64 (wAns (spansB m.n a k))) ∧ Step w w' (im g b m) (im g b (uIm m a k)) := by
  cases hs : spansB m.n a k with
  | true =>
    have e : uIm m a k = unN m a.toNat k.toNat := by unfold uIm; rw [hs]; rfl
    obtain ⟨x, y, rfl, rfl, h2⟩ := spansB_yes hs
    rw [e, Int.toNat_natCast, Int.toNat_natCast]
    exact imUnmap_yes g b m x y w h hw h2
  | false =>
    have e : uIm m a k = m := by unfold uIm; rw [hs]; rfl
    rw [e]
    refine (imUnmap_no g b m a k w h hw ha hk hs).mono ?_
    rintro e w' ⟨rfl, rfl⟩
    exact ⟨rfl, Step.refl h⟩
theorem riUnmap_ans (r lb : Nat) (V : List Nat) (m : Im) (a k : Int) (w : World) (h : (ri r lb V m).Ok w) (hw : m.Wf) (ha : I64 a) (hk : I64 k) :
    Calls Try.prog 42 #[.pointer (some ⟨r, 0, none⟩), .int .i64 a, .int .i64 k] w fun e w' => e = .returned (.int .i64 (wAns (spansB m.n a k))) ∧ Step w w' (ri r lb V m) (ri r lb V (uIm m a k)) := by
  cases hs : spansB m.n a k with
  | true =>
    have e : uIm m a k = unN m a.toNat k.toNat := by unfold uIm; rw [hs]; rfl
    obtain ⟨x, y, rfl, rfl, h2⟩ := spansB_yes hs
    rw [e, Int.toNat_natCast, Int.toNat_natCast]
    exact riUnmap_yes r lb V m x y w h hw h2
  | false =>
    have e : uIm m a k = m := by unfold uIm; rw [hs]; rfl
    rw [e]
    refine (riUnmap_no r lb V m a k w h hw ha hk hs).mono ?_
    rintro e w' ⟨rfl, rfl⟩
    exact ⟨rfl, Step.refl h⟩
/-- Change's -/
def cIm (m : Im) (l : List (Int × List (BitVec 8))) : Im := if canAll m.n l then chAll m l else m
theorem cIm_wf {m : Im} (h : m.Wf) (l : List (Int × List (BitVec 8))) : (cIm m l).Wf := by
  unfold cIm
  split
  · rename_i hk; exact chAll_wf h hk
  · exact h
theorem imChange_ans (g b : Nat) (m : Im) (a : Option Addr) (len cap : Nat) (l : List (Int × List (BitVec 8))) (w : World) (h : (im g b m).Ok w) (hw : m.Wf) (hl : l.length = len) (hlc : len ≤ cap) (hlen : len ≤ 140737488355328) (hc : CArgs w a l) :
    Calls Try.prog 26 #[.pointer (some ⟨g, 0, none⟩), .slice a len cap] w fun e w' => e = .returned (.int .i64 (wAns (canAll m.n l))) ∧ Step w w' (im g b m) (im g b (cIm m l)) := by
  refine (imChange_any g b m a len cap l w h hw hl hlc hlen hc).mono ?_
  rintro e w' (⟨h1, rfl, h2⟩ | ⟨h1, rfl, h2⟩)
  · unfold cIm; rw [h1]; exact ⟨rfl, h2⟩
  · unfold cIm; rw [h1]; exact ⟨rfl, Step.quiet h h2⟩
theorem riChange_ans (r lb : Nat) (V : List Nat) (m : Im) (a : Option Addr) (len cap : Nat) (l : List (Int × List (BitVec 8))) (w : World) (h : (ri r lb V m).Ok w) (hw : m.Wf) (hl : l.length = len) (hlen : len ≤ 140737488355328) (hc : CArgs w a l) :
    Calls Try.prog 44 #[.pointer (some ⟨r, 0, none⟩), .slice a len cap] w fun e w' => e = .returned (.int .i64 (wAns (canAll m.n l))) ∧ ∃ V', Step w w' (ri r lb V m) (ri r lb V' (cIm m l)) := by
  refine (riChange_any r lb V m a len cap l w h hw hl hlen hc).mono ?_
  rintro e w' (⟨h1, rfl, V', h2⟩ | ⟨h1, rfl, h2⟩)
  · unfold cIm; rw [h1]; exact ⟨rfl, V', h2⟩
  · unfold cIm; rw [h1]; exact ⟨rfl, V, Step.quiet h h2⟩
/-- bytes that come in stay where an image turns -/
theorem row_im {w w' : World} {g b : Nat} {m : Im} {x : Option Addr} {l : List (BitVec 8)} (h : Row w x l) (hok : (im g b m).Ok w) (ht : Turned (· ∈ (im g b m).W) w w') : Row w' x l := by
  rcases h with e | ⟨y, o, rfl, hc⟩
  · exact .inl e
  · by_cases hl : l.length = 0
    · exact .inl (List.eq_nil_of_length_eq_zero hl)
    · have h0 := hc 0 (by omega)
      exact Row.same (.inr ⟨y, o, rfl, hc⟩) (fun z hz => by cases hz; exact ht.block y (cell_lt h0) (by simp [im]; exact cells_not_map hok h0))
theorem row_ri {w w' : World} {r lb : Nat} {V : List Nat} {m : Im} {x : Option Addr} {l : List (BitVec 8)} (h : Row w x l) (hok : (ri r lb V m).Ok w) (ht : Turned (· ∈ (ri r lb V m).W) w w') : Row w' x l := by
  rcases h with e | ⟨y, o, rfl, hc⟩
  · exact .inl e
  · by_cases hl : l.length = 0
    · exact .inl (List.eq_nil_of_length_eq_zero hl)
    · have h0 := hc 0 (by omega)
      exact Row.same (.inr ⟨y, o, rfl, hc⟩) (fun z hz => by cases hz; exact ht.block y (cell_lt h0) (by simp [ri]; exact ri_not hok h0 (fun a n c e => by cases e)))
theorem row_ne_ri {w : World} {r lb : Nat} {V : List Nat} {m : Im} {x : Option Addr} {l : List (BitVec 8)} (h : Row w x l) (hok : (ri r lb V m).Ok w) (hl : l ≠ []) : ∀ y, x = some y → y.block ≠ lb := by
  intro y hy
  rcases h with e | ⟨z, o, rfl, hc⟩
  · exact absurd e hl
  · cases hy
    exact ri_not hok (hc 0 (List.length_pos_iff.2 hl)) (fun a n c e => by cases e)
/-- bytes of the call's own stay where something else turns -/
theorem own_turned {w w' : World} {base : Nat} {v : Value} {l : List (BitVec 8)} {R : Nat → Prop} (h : Own w base v l) (ht : Turned R w w') (hr : ∀ q, v.ownBlock = some q → ¬ R q) : Own w' base v l := by
  obtain ⟨h1, h2 | ⟨g, cap, cur, rfl, hb, hh, hx⟩⟩ := h
  · exact ⟨h1, .inl h2⟩
  · exact ⟨h1, .inr ⟨g, cap, cur, rfl, hb, (ht.block g (Array.getElem?_eq_some_iff.1 hh).1 (hr g rfl)).trans hh, hx⟩⟩
/-- what lies beside objects may turn -/
theorem sep_grown {B : Nat} {L : List Ob} {w w' : World} {q : Option Nat} (h : Sep B L w) (hg : w.grownBy w' q) (hq : ∀ k, q = some k → ∀ o ∈ L, k ∉ o.W ∧ k ∉ o.V) : Sep B L w' := by
  refine ⟨fun o ho => (h.each o ho).turned (R := fun k => q = some k) ⟨hg.os, hg.tape, hg.output, hg.size, fun k hk hn => hg.block k hk (fun e => hn e.symm)⟩ (fun k hk e => ?_), h.new, h.pair, Nat.le_trans h.base hg.size⟩
  have := hq k e o ho
  rcases hk with hk | hk
  · exact this.1 hk
  · exact this.2 hk
end Go.Proofs.Ytmkacgdbmojomaa

/- extent: a step of both images: Unmap, nothing. -/
namespace Go.Proofs.Ytmkacgdbmojomaa
open Go.RowKit
set_option linter.unusedVariables false
set_option linter.unusedSimpArgs false
set_option maxRecDepth 8000

/-- a call as a value -/
def opV (kd lba nn : Int) (ab : Option Addr) (bl bc : Nat) (al : Option Addr) (ll lc : Nat) : Value := .agg #[.int .i64 kd, .int .i64 lba, .int .i64 nn, .slice ab bl bc, .slice al ll lc]
theorem sep_below {B : Nat} {o o' : Ob} {L : List Ob} {w w1 w2 : World} (h : Sep B (o :: L) w1) (hb : Below B w w1) (s : Step w1 w2 o o') : Below B w w2 := hb.trans (h.below s)
theorem cell_step {w w' : World} {o o' : Ob} {k i : Nat} {v : Value} (s : Step w w' o o') (hc : w.cell? ⟨k, i, none⟩ = some v) (hk : k ∉ o.W) : w'.cell? ⟨k, i, none⟩ = some v :=
  (World.cell?_of_block (w := w) (a := ⟨k, i, none⟩) (s.turned.block k (cell_lt hc) hk)).trans hc
theorem not_w {B : Nat} {o : Ob} {w w1 : World} (h : o.Ok w) {k : Nat} (hk : w.heap.size ≤ k) : k ∉ o.W := fun e => by have := h.lt k (.inl e); omega
theorem row_pre {w : World} {x : Option Addr} {l t : List (BitVec 8)} (h : Row w x (l ++ t)) : Row w x l := by
  rcases h with e | ⟨b, off, rfl, hc⟩
  · exact .inl (List.append_eq_nil_iff.1 e).1
  · exact .inr ⟨b, off, rfl, fun i hi => by rw [hc i (by simp; omega)]; unfold bt; rw [List.getD, List.getD, List.getElem?_append_left hi]⟩
theorem own_row5 {w : World} {base n c : Nat} {a : Option Addr} {l : List (BitVec 8)} (h : Own w base (.slice a n c) l) : Row w a l := by
  obtain ⟨a', c', e, -, -, hr, -⟩ := h.open
  simp only [Value.slice.injEq] at e
  rw [e.1]; exact hr
theorem spoil_lent5 {w : World} {base g c len : Nat} {l : List (BitVec 8)} (ho : Own w base (.slice (some ⟨g, 0, none⟩) (len + 1) c) l) (hlen : len ≤ 140737488351232) (hc : len + 1 ≤ c) :
    Calls Try.prog 13 #[.slice (some ⟨g, 0, none⟩) len c] w fun e w' => e = .returned (.tuple #[]) ∧ w.grownBy w' (some g) := by
  obtain ⟨h1, h2 | ⟨g', cap, cur, hv, hb, hh, hc', hm, hs, ht⟩⟩ := ho
  · simp at h2
  · simp only [Value.slice.injEq, Option.some.injEq, Addr.mk.injEq] at hv
    obtain ⟨⟨rfl, _, _⟩, _, rfl⟩ := hv
    exact Spoil_some g 0 len c 5 cur.toList w (by unfold Blk; simpa using hh) (by simp; omega) (by simp; omega) (by omega) hlen
set_option maxHeartbeats 16000000 in
theorem step_u {X : List Ob} (g b r lb : Nat) (V : List Nat) (m : Im) (lba nn : Int) (ab : Option Addr) (bl bc : Nat) (al : Option Addr) (ll lc : Nat) (B : Nat) (w : World) (h : Sep B (im g b m :: ri r lb V m :: X) w) (hw : m.Wf) (ha : I64 lba) (hn : I64 nn) : Calls Try.prog 14 #[.pointer (some ⟨g, 0, none⟩), .pointer (some ⟨r, 0, none⟩), opV 2 lba nn ab bl bc al ll lc] w fun e w' => e = .returned (.bool true) ∧ Sep B (im g b (uIm m lba nn) :: ri r lb V (uIm m lba nn) :: X) w' ∧ Below B w w' := by
  have bx : Below w.heap.size w (w.alloc (.cells #[.int .i64 2, .int .i64 lba, .int .i64 nn, .slice ab bl bc, .slice al ll lc] 34)) := (Below.refl _ _).alloc (Nat.le_refl _) _
  have B0 : Blk (w.alloc (.cells #[.int .i64 2, .int .i64 lba, .int .i64 nn, .slice ab bl bc, .slice al ll lc] 34)) w.heap.size 34 [.int .i64 2, .int .i64 lba, .int .i64 nn, .slice ab bl bc, .slice al ll lc] := Blk.new' w _ _
  have x0 := er_at B0 0
  have x1 := er_at B0 1
  have x2 := er_at B0 2
  have x3 := er_at B0 3
  have x4 := er_at B0 4
  simp only [List.getElem?_cons_succ, List.getElem?_cons_zero] at x0 x1 x2 x3 x4
  unfold opV
  go_enter Try.func14, Try.ntmps14
  go_wp2_with fail
  generalize w.alloc (.cells #[.int .i64 2, .int .i64 lba, .int .i64 nn, .slice ab bl bc, .slice al ll lc] 34) = w1 at *
  have h1 := h.later bx
  have hkW : w.heap.size ∉ (im g b m).W ∧ w.heap.size ∉ (ri r lb V m).W := ⟨fun e => by have := h.head.lt _ (.inl e); omega, fun e => by have := h.tail.head.lt _ (.inl e); omega⟩
  have HU : Hid _ := And.intro (imUnmap_ans g b m lba nn w1.drew h1.drew.head hw ha hn) (And.intro h1.drew (And.intro (show Below B w w1.drew from (bx.mono h.base).drew) hkW))
  have HW : Hid _ := And.intro hw (And.intro ha hn)
  clear bx B0 x3 x4 h1 hkW h hw ha hn
  refine e_begin (S := fun W => W.cell? ⟨w.heap.size, 1, none⟩ = some (.int .i64 lba) ∧ W.cell? ⟨w.heap.size, 2, none⟩ = some (.int .i64 nn)) 13 (by kernel_rfl) (⟨x1, x2⟩) (fun hS => ?_)
  refine e_take (i := 0) (v := ?_) [5, 12, 13] rfl (by kernel_rfl) (by kernel_rfl) (by kernel_rfl) (by kernel_rfl) (by exact fun _ _ _ h => h) (by rfl) ?_ hS ?_
  rotate_left
  · ((intro w hSw; (try dsimp only at hSw); go_simp) <;> with_reducible rfl)
  (try simp only [Act.put, List.setIfInBounds_toArray, List.set_cons_zero, List.set_cons_succ])
  refine e_take (i := 1) (v := ?_) [2, 5, 12, 13] rfl (by kernel_rfl) (by kernel_rfl) (by kernel_rfl) (by kernel_rfl) (by exact fun _ _ _ h => h) (by rfl) ?_ hS ?_
  rotate_left
  · ((intro w hSw; (try dsimp only at hSw); go_simp) <;> with_reducible rfl)
  (try simp only [Act.put, List.setIfInBounds_toArray, List.set_cons_zero, List.set_cons_succ])
  refine e_take (i := 2) (v := ?_) [5, 12, 13] rfl (by kernel_rfl) (by kernel_rfl) (by kernel_rfl) (by kernel_rfl) (by exact fun _ _ _ h => h) (by rfl) ?_ hS ?_
  rotate_left
  · ((intro w hSw; (try dsimp only at hSw); go_simp) <;> with_reducible rfl)
  (try simp only [Act.put, List.setIfInBounds_toArray, List.set_cons_zero, List.set_cons_succ])
  refine e_take (i := 3) (v := ?_) [4, 5, 12, 13] rfl (by kernel_rfl) (by kernel_rfl) (by kernel_rfl) (by kernel_rfl) (by exact fun _ _ _ h => h) (by rfl) ?_ hS ?_
  rotate_left
  · ((intro w hSw; (try dsimp only at hSw); go_simp) <;> with_reducible rfl)
  (try simp only [Act.put, List.setIfInBounds_toArray, List.set_cons_zero, List.set_cons_succ])
  refine e_take (i := 4) (v := ?_) [5, 12, 13] rfl (by kernel_rfl) (by kernel_rfl) (by kernel_rfl) (by kernel_rfl) (by exact fun _ _ _ h => h) (by rfl) ?_ hS ?_
  rotate_left
  · ((intro w hSw; (try dsimp only at hSw); go_simp) <;> with_reducible rfl)
  (try simp only [Act.put, List.setIfInBounds_toArray, List.set_cons_zero, List.set_cons_succ])
  refine e_take (i := 6) (v := ?_) [11, 12, 13] rfl (by kernel_rfl) (by kernel_rfl) (by kernel_rfl) (by kernel_rfl) (by exact fun _ _ _ h => h) (by rfl) ?_ hS ?_
  rotate_left
  · ((intro w hSw; (try dsimp only at hSw); go_simp) <;> with_reducible rfl)
  (try simp only [Act.put, List.setIfInBounds_toArray, List.set_cons_zero, List.set_cons_succ])
  refine e_take (i := 7) (v := ?_) [8, 11, 12, 13] rfl (by kernel_rfl) (by kernel_rfl) (by kernel_rfl) (by kernel_rfl) (by exact fun _ _ _ h => h) (by rfl) ?_ hS ?_
  rotate_left
  · ((intro w hSw; (try dsimp only at hSw); go_simp) <;> with_reducible rfl)
  (try simp only [Act.put, List.setIfInBounds_toArray, List.set_cons_zero, List.set_cons_succ])
  refine e_take (i := 8) (v := ?_) [11, 12, 13] rfl (by kernel_rfl) (by kernel_rfl) (by kernel_rfl) (by kernel_rfl) (by exact fun _ _ _ h => h) (by rfl) ?_ hS ?_
  rotate_left
  · ((intro w hSw; (try dsimp only at hSw); go_simp) <;> with_reducible rfl)
  (try simp only [Act.put, List.setIfInBounds_toArray, List.set_cons_zero, List.set_cons_succ])
  refine e_take (i := 9) (v := ?_) [10, 11, 12, 13] rfl (by kernel_rfl) (by kernel_rfl) (by kernel_rfl) (by kernel_rfl) (by exact fun _ _ _ h => h) (by rfl) ?_ hS ?_
  rotate_left
  · ((intro w hSw; (try dsimp only at hSw); go_simp) <;> with_reducible rfl)
  (try simp only [Act.put, List.setIfInBounds_toArray, List.set_cons_zero, List.set_cons_succ])
  refine e_take (i := 10) (v := ?_) [11, 12, 13] rfl (by kernel_rfl) (by kernel_rfl) (by kernel_rfl) (by kernel_rfl) (by exact fun _ _ _ h => h) (by rfl) ?_ hS ?_
  rotate_left
  · ((intro w hSw; (try dsimp only at hSw); go_simp) <;> with_reducible rfl)
  (try simp only [Act.put, List.setIfInBounds_toArray, List.set_cons_zero, List.set_cons_succ])
  refine e_one (i := 5) rfl (by kernel_rfl) (fun K hK => ?_)
  go_simp
  refine (Calls.mono (HU.out.1)) ?_
  rintro e w2 ⟨rfl, s1⟩
  have hS2 : _ ∧ _ := ⟨cell_step s1 hS.1 HU.out.2.2.2.1, cell_step s1 hS.2 HU.out.2.2.2.1⟩
  have HV : Hid _ := And.intro (HU.out.2.1.step s1).swap (And.intro (sep_below HU.out.2.1 HU.out.2.2.1 s1) s1)
  clear s1 hS
  go_wp2_with fail
  refine hK.out _ _ (hS2) (fun hS => ?_)
  clear hK K
  refine e_one (i := 11) rfl (by kernel_rfl) (fun K hK => ?_)
  go_simp
  refine (Calls.mono (riUnmap_ans r lb V m lba nn _ HV.out.1.head HW.out.1 HW.out.2.1 HW.out.2.2)) ?_
  rintro e w3 ⟨rfl, s2⟩
  have hS3 : _ ∧ _ := ⟨cell_step s2 hS.1 HU.out.2.2.2.2, cell_step s2 hS.2 HU.out.2.2.2.2⟩
  have HX : Hid _ := And.intro (HV.out.1.step s2).swap (sep_below HV.out.1 HV.out.2.1 s2)
  clear s2 hS hS2
  go_wp2_with fail
  refine hK.out _ _ (hS3) (fun hS => ?_)
  clear hK K
  refine e_take (i := 12) (v := ?_) [13] rfl (by kernel_rfl) (by kernel_rfl) (by kernel_rfl) (by kernel_rfl) (by exact fun _ _ _ h => h) (by rfl) ?_ hS ?_
  rotate_left
  · ((intro w hSw; (try dsimp only at hSw); go_simp) <;> with_reducible rfl)
  (try simp only [Act.put, List.setIfInBounds_toArray, List.set_cons_zero, List.set_cons_succ])
  clear hS
  refine e_last (z := 13) rfl (by kernel_rfl) (fun K hK => ?_)
  go_simp
  refine hK.out _ _ ?_
  clear hK K
  refine e_done (by kernel_rfl) ?_ _
  go_wp2
  go_ret
  exact ⟨by simp, HX.out.1, HX.out.2⟩
set_option maxHeartbeats 16000000 in
theorem step_w0 {X : List Ob} (g b r lb : Nat) (V : List Nat) (m : Im) (lba nn : Int) (ab : Option Addr) (bl bc : Nat) (al : Option Addr) (ll lc : Nat) (B : Nat) (w : World) (h : Sep B (im g b m :: ri r lb V m :: X) w) (hw : m.Wf) (ha : I64 lba) (hn : I64 nn) (l : List (BitVec 8)) (A : Arg 140737488351232 w ab bl bc l) : Calls Try.prog 14 #[.pointer (some ⟨g, 0, none⟩), .pointer (some ⟨r, 0, none⟩), opV 0 lba nn ab bl bc al ll lc] w fun e w' => e = .returned (.bool true) ∧ ∃ V', Sep B (im g b (wIm m lba l) :: ri r lb V' (wIm m lba l) :: X) w' ∧ Below B w w' := by
  have bx : Below w.heap.size w (w.alloc (.cells #[.int .i64 0, .int .i64 lba, .int .i64 nn, .slice ab bl bc, .slice al ll lc] 34)) := (Below.refl _ _).alloc (Nat.le_refl _) _
  have B0 : Blk (w.alloc (.cells #[.int .i64 0, .int .i64 lba, .int .i64 nn, .slice ab bl bc, .slice al ll lc] 34)) w.heap.size 34 [.int .i64 0, .int .i64 lba, .int .i64 nn, .slice ab bl bc, .slice al ll lc] := Blk.new' w _ _
  have x0 := er_at B0 0
  have x1 := er_at B0 1
  have x2 := er_at B0 2
  have x3 := er_at B0 3
  have x4 := er_at B0 4
  simp only [List.getElem?_cons_succ, List.getElem?_cons_zero] at x0 x1 x2 x3 x4
  have A1 : Arg 140737488351232 (w.alloc (.cells #[.int .i64 0, .int .i64 lba, .int .i64 nn, .slice ab bl bc, .slice al ll lc] 34)) ab bl bc l := ⟨A.len_eq, A.le, A.bound, A.row.later bx, A.isNil⟩
  have HL : Hid _ := Lent_any ab bl bc l _ A1
  clear A1
  unfold opV
  go_enter Try.func14, Try.ntmps14
  go_wp2_with fail
  generalize w.alloc (.cells #[.int .i64 0, .int .i64 lba, .int .i64 nn, .slice ab bl bc, .slice al ll lc] 34) = w1 at *
  refine (Calls.mono HL.out) ?_
  rintro e w2 ⟨g2, c2, rfl, hO, hg2, hc2, hm2, b2⟩
  have hkW : w.heap.size ∉ (im g b m).W ∧ w.heap.size ∉ (ri r lb V m).W := ⟨fun e => by have := h.head.lt _ (.inl e); omega, fun e => by have := h.tail.head.lt _ (.inl e); omega⟩
  have hgg : w.heap.size ≤ g2 := Nat.le_trans bx.size hg2
  have hgW : g2 ∉ (im g b m).W ∧ g2 ∉ (im g b m).V ∧ g2 ∉ (ri r lb V m).W ∧ g2 ∉ (ri r lb V m).V := ⟨fun e => by have := h.head.lt _ (.inl e); omega, fun e => by have := h.head.lt _ (.inr e); omega, fun e => by have := h.tail.head.lt _ (.inl e); omega, fun e => by have := h.tail.head.lt _ (.inr e); omega⟩
  have HXX : Hid _ := (fun (o : Ob) (ho : o ∈ X) => (show g2 ∉ o.W ∧ g2 ∉ o.V from ⟨fun e => by have := (h.each o (List.mem_cons_of_mem _ (List.mem_cons_of_mem _ ho))).lt _ (.inl e); omega, fun e => by have := (h.each o (List.mem_cons_of_mem _ (List.mem_cons_of_mem _ ho))).lt _ (.inr e); omega⟩))
  have hglt : g2 < w2.heap.size := (World.ownsRow.lt hO g2 rfl).2
  have hb2 := below_then bx b2
  have h2 := (h.later hb2).drew
  have hrow2 : Row w2.drew ab l := (show Row w2 ab l from A.row.later hb2)
  have hO2 : Own w2.drew w1.heap.size (.slice (some ⟨g2, 0, none⟩) (bl + 1) c2) (l ++ [167#8]) := hO
  have y1 : w2.cell? ⟨w.heap.size, 1, none⟩ = some (.int .i64 lba) := (World.cell?_of_block (w := w1) (a := ⟨w.heap.size, 1, none⟩) (b2.block _ (cell_lt x1))).trans x1
  have y3 : w2.cell? ⟨w.heap.size, 3, none⟩ = some (.slice ab bl bc) := (World.cell?_of_block (w := w1) (a := ⟨w.heap.size, 3, none⟩) (b2.block _ (cell_lt x3))).trans x3
  have HS : Hid _ := (show w2.drew.cell? ⟨w.heap.size, 1, none⟩ = some (.int .i64 lba) ∧ w2.drew.cell? ⟨w.heap.size, 3, none⟩ = some (.slice ab bl bc) from ⟨y1, y3⟩)
  have HU : Hid _ := And.intro (imWrite_ans g b m lba (some ⟨g2, 0, none⟩) bl c2 l w2.drew h2.head hw ha (Nat.le_trans A.le (Nat.le_trans A.bound (by omega))) A.len_eq (by omega) (row_pre (own_row5 hO2)) (fun y hy e => by cases hy; exact hgW.1 (by simp [im]; exact e))) (And.intro h2 (And.intro (show Below B w w2.drew from (hb2.mono h.base).drew) (And.intro hrow2 (And.intro hO2 (And.intro hgW (And.intro hglt hc2))))))
  have HP : Hid _ := And.intro hkW.1 (And.intro hkW.2 (And.intro A (And.intro hw (And.intro ha (show B ≤ g2 from Nat.le_trans h.base hgg)))))
  clear bx B0 x0 x1 x2 x3 x4 h hkW hgg hgW hglt hb2 h2 hrow2 hO2 y1 y3 hO hg2 hc2 hm2 b2 hw ha hn A HL
  go_wp2_with fail
  refine e_begin (S := fun W => W.cell? ⟨w.heap.size, 1, none⟩ = some (.int .i64 lba) ∧ W.cell? ⟨w.heap.size, 3, none⟩ = some (.slice ab bl bc)) 18 (by kernel_rfl) (HS.out) (fun hS => ?_)
  refine e_take (i := 0) (v := ?_) [4, 11, 12, 17, 18] rfl (by kernel_rfl) (by kernel_rfl) (by kernel_rfl) (by kernel_rfl) (by exact fun _ _ _ h => h) (by rfl) ?_ hS ?_
  rotate_left
  · ((intro w hSw; (try dsimp only at hSw); go_simp) <;> with_reducible rfl)
  (try simp only [Act.put, List.setIfInBounds_toArray, List.set_cons_zero, List.set_cons_succ])
  refine e_take (i := 1) (v := ?_) [2, 4, 11, 12, 17, 18] rfl (by kernel_rfl) (by kernel_rfl) (by kernel_rfl) (by kernel_rfl) (by exact fun _ _ _ h => h) (by rfl) ?_ hS ?_
  rotate_left
  · ((intro w hSw; (try dsimp only at hSw); go_simp) <;> with_reducible rfl)
  (try simp only [Act.put, List.setIfInBounds_toArray, List.set_cons_zero, List.set_cons_succ])
  refine e_take (i := 2) (v := ?_) [4, 11, 12, 17, 18] rfl (by kernel_rfl) (by kernel_rfl) (by kernel_rfl) (by kernel_rfl) (by exact fun _ _ _ h => h) (by rfl) ?_ hS ?_
  rotate_left
  · ((intro w hSw; (try dsimp only at hSw); go_simp) <;> with_reducible rfl)
  (try simp only [Act.put, List.setIfInBounds_toArray, List.set_cons_zero, List.set_cons_succ])
  refine e_take (i := 3) (v := ?_) [4, 11, 12, 17, 18] rfl (by kernel_rfl) (by kernel_rfl) (by kernel_rfl) (by kernel_rfl) (by exact fun _ _ _ h => h) (by rfl) ?_ hS ?_
  rotate_left
  · ((intro w hSw; (try dsimp only at hSw); go_simp) <;> with_reducible rfl)
  (try simp only [Act.put, List.setIfInBounds_toArray, List.set_cons_zero, List.set_cons_succ])
  refine e_take (i := 5) (v := ?_) [10, 11, 12, 17, 18] rfl (by kernel_rfl) (by kernel_rfl) (by kernel_rfl) (by kernel_rfl) (by exact fun _ _ _ h => h) (by rfl) ?_ hS ?_
  rotate_left
  · ((intro w hSw; (try dsimp only at hSw); go_simp) <;> with_reducible rfl)
  (try simp only [Act.put, List.setIfInBounds_toArray, List.set_cons_zero, List.set_cons_succ])
  refine e_take (i := 6) (v := ?_) [7, 10, 11, 12, 17, 18] rfl (by kernel_rfl) (by kernel_rfl) (by kernel_rfl) (by kernel_rfl) (by exact fun _ _ _ h => h) (by rfl) ?_ hS ?_
  rotate_left
  · ((intro w hSw; (try dsimp only at hSw); go_simp) <;> with_reducible rfl)
  (try simp only [Act.put, List.setIfInBounds_toArray, List.set_cons_zero, List.set_cons_succ])
  refine e_take (i := 7) (v := ?_) [10, 11, 12, 17, 18] rfl (by kernel_rfl) (by kernel_rfl) (by kernel_rfl) (by kernel_rfl) (by exact fun _ _ _ h => h) (by rfl) ?_ hS ?_
  rotate_left
  · ((intro w hSw; (try dsimp only at hSw); go_simp) <;> with_reducible rfl)
  (try simp only [Act.put, List.setIfInBounds_toArray, List.set_cons_zero, List.set_cons_succ])
  refine e_take (i := 8) (v := ?_) [9, 10, 11, 12, 17, 18] rfl (by kernel_rfl) (by kernel_rfl) (by kernel_rfl) (by kernel_rfl) (by exact fun _ _ _ h => h) (by rfl) ?_ hS ?_
  rotate_left
  · ((intro w hSw; (try dsimp only at hSw); go_simp) <;> with_reducible rfl)
  (try simp only [Act.put, List.setIfInBounds_toArray, List.set_cons_zero, List.set_cons_succ])
  refine e_take (i := 9) (v := ?_) [10, 11, 12, 17, 18] rfl (by kernel_rfl) (by kernel_rfl) (by kernel_rfl) (by kernel_rfl) (by exact fun _ _ _ h => h) (by rfl) ?_ hS ?_
  rotate_left
  · ((intro w hSw; (try dsimp only at hSw); go_simp) <;> with_reducible rfl)
  (try simp only [Act.put, List.setIfInBounds_toArray, List.set_cons_zero, List.set_cons_succ])
  refine e_one (i := 4) rfl (by kernel_rfl) (fun K hK => ?_)
  go_simp
  refine (Calls.mono (HU.out.1)) ?_
  rintro e w3 ⟨rfl, s1⟩
  have hS2 : _ ∧ _ := ⟨cell_step s1 hS.1 HP.out.1, cell_step s1 hS.2 HP.out.1⟩
  have HV : Hid _ := And.intro (HU.out.2.1.step s1).swap (And.intro (sep_below HU.out.2.1 HU.out.2.2.1 s1) (And.intro (row_im HU.out.2.2.2.1 HU.out.2.1.head s1.turned) (And.intro (own_turned HU.out.2.2.2.2.1 s1.turned (fun q hq => by cases hq; exact HU.out.2.2.2.2.2.1.1)) s1.turned.size)))
  clear s1 hS
  go_wp2_with fail
  refine hK.out _ _ (hS2) (fun hS => ?_)
  clear hK K
  refine e_one (i := 10) rfl (by kernel_rfl) (fun K hK => ?_)
  go_simp
  refine (Calls.mono (riWrite_ans r lb V m lba ab bl bc l _ HV.out.1.head HP.out.2.2.2.1 HP.out.2.2.2.2.1 (Nat.le_trans HP.out.2.2.1.le (Nat.le_trans HP.out.2.2.1.bound (by omega))) HP.out.2.2.1.len_eq HP.out.2.2.1.le HP.out.2.2.1.isNil HV.out.2.2.1 (row_ne_ri HV.out.2.2.1 HV.out.1.head))) ?_
  rintro e w4 ⟨rfl, V', s2⟩
  have hS3 : _ ∧ _ := ⟨cell_step s2 hS.1 HP.out.2.1, cell_step s2 hS.2 HP.out.2.1⟩
  have HX : Hid _ := And.intro (HV.out.1.step s2).swap (And.intro (sep_below HV.out.1 HV.out.2.1 s2) (And.intro (row_ri HV.out.2.2.1 HV.out.1.head s2.turned) (And.intro (own_turned HV.out.2.2.2.1 s2.turned (fun q hq => by cases hq; exact HU.out.2.2.2.2.2.1.2.2.1)) (show g2 ∉ (ri r lb V' (wIm m lba l)).V from fun e => by
    rcases s2.reads g2 e with e | e | e
    · exact HU.out.2.2.2.2.2.1.2.2.1 e
    · exact HU.out.2.2.2.2.2.1.2.2.2 e
    · have h1 := HV.out.2.2.2.2; have h2 := HU.out.2.2.2.2.2.2.1; have h3 : w2.drew.heap.size = w2.heap.size := rfl; omega))))
  clear s2 hS hS2
  go_wp2_with fail
  refine hK.out _ _ (hS3) (fun hS => ?_)
  clear hK K
  refine e_take (i := 11) (v := ?_) [12, 17, 18] rfl (by kernel_rfl) (by kernel_rfl) (by kernel_rfl) (by kernel_rfl) (by exact fun _ _ _ h => h) (by rfl) ?_ hS ?_
  rotate_left
  · ((intro w hSw; (try dsimp only at hSw); go_simp) <;> with_reducible rfl)
  (try simp only [Act.put, List.setIfInBounds_toArray, List.set_cons_zero, List.set_cons_succ])
  refine e_take (i := 12) (v := ?_) [17, 18] rfl (by kernel_rfl) (by kernel_rfl) (by kernel_rfl) (by kernel_rfl) (by exact fun _ _ _ h => h) (by rfl) ?_ hS ?_
  rotate_left
  · ((intro w hSw; (try dsimp only at hSw); go_simp) <;> with_reducible rfl)
  (try simp only [Act.put, List.setIfInBounds_toArray, List.set_cons_zero, List.set_cons_succ])
  refine e_take (i := 13) (v := ?_) [16, 17, 18] rfl (by kernel_rfl) (by kernel_rfl) (by kernel_rfl) (by kernel_rfl) (by exact fun _ _ _ h => h) (by rfl) ?_ hS ?_
  rotate_left
  · ((intro w hSw; (try dsimp only at hSw); go_simp) <;> with_reducible rfl)
  (try simp only [Act.put, List.setIfInBounds_toArray, List.set_cons_zero, List.set_cons_succ])
  refine e_take (i := 14) (v := ?_) [15, 16, 17, 18] rfl (by kernel_rfl) (by kernel_rfl) (by kernel_rfl) (by kernel_rfl) (by exact fun _ _ _ h => h) (by rfl) ?_ hS ?_
  rotate_left
  · ((intro w hSw; (try dsimp only at hSw); go_simp) <;> with_reducible rfl)
  (try simp only [Act.put, List.setIfInBounds_toArray, List.set_cons_zero, List.set_cons_succ])
  refine e_take (i := 15) (v := ?_) [16, 17, 18] rfl (by kernel_rfl) (by kernel_rfl) (by kernel_rfl) (by kernel_rfl) (by exact fun _ _ _ h => h) (by rfl) ?_ hS ?_
  rotate_left
  · ((intro w hSw; (try dsimp only at hSw); go_simp) <;> with_reducible rfl)
  (try simp only [Act.put, List.setIfInBounds_toArray, List.set_cons_zero, List.set_cons_succ])
  refine e_one (i := 16) rfl (by kernel_rfl) (fun K hK => ?_)
  go_simp
  refine (Calls.mono (Kept_yes g2 bl c2 ab bc l w4 HP.out.2.2.1.len_eq HU.out.2.2.2.2.2.2.2 (Nat.le_trans HP.out.2.2.1.le HP.out.2.2.1.bound) (own_row5 HX.out.2.2.2.1) HX.out.2.2.1)) ?_
  rintro e w5 ⟨rfl, hw5⟩
  obtain rfl := hw5
  have hS4 := hS
  clear hS hS3
  go_wp2_with fail
  refine hK.out _ _ (hS4) (fun hS => ?_)
  clear hK K
  refine e_take (i := 17) (v := ?_) [18] rfl (by kernel_rfl) (by kernel_rfl) (by kernel_rfl) (by kernel_rfl) (by exact fun _ _ _ h => h) (by rfl) ?_ hS ?_
  rotate_left
  · ((intro w hSw; (try dsimp only at hSw); go_simp) <;> with_reducible rfl)
  (try simp only [Act.put, List.setIfInBounds_toArray, List.set_cons_zero, List.set_cons_succ])
  clear hS
  refine e_last (z := 18) rfl (by kernel_rfl) (fun K hK => ?_)
  go_simp
  refine hK.out _ _ ?_
  clear hK K
  refine e_done (by kernel_rfl) ?_ _
  go_wp2_with fail
  refine (Calls.mono (spoil_lent5 HX.out.2.2.2.1 (Nat.le_trans HP.out.2.2.1.le HP.out.2.2.1.bound) HU.out.2.2.2.2.2.2.2)) ?_
  rintro e w6 ⟨rfl, g6⟩
  have F : Hid _ := And.intro (sep_grown HX.out.1 g6 (fun k hk o ho => by
    cases hk
    rcases List.mem_cons.1 ho with rfl | ho
    · exact ⟨HU.out.2.2.2.2.2.1.1, HU.out.2.2.2.2.2.1.2.1⟩
    rcases List.mem_cons.1 ho with rfl | ho
    · exact ⟨HU.out.2.2.2.2.2.1.2.2.1, HX.out.2.2.2.2⟩
    · exact HXX.out o ho)) (HX.out.2.1.grown g6 HX.out.1.base (fun q hq => by cases hq; exact HP.out.2.2.2.2.2))
  clear g6 HX HV HU
  go_wp2
  go_ret
  exact ⟨rfl, _, F.out.1, F.out.2⟩
set_option maxHeartbeats 16000000 in
theorem step_w1 {X : List Ob} (g b r lb : Nat) (V : List Nat) (m : Im) (lba nn : Int) (ab : Option Addr) (bl bc : Nat) (al : Option Addr) (ll lc : Nat) (B : Nat) (w : World) (h : Sep B (im g b m :: ri r lb V m :: X) w) (hw : m.Wf) (ha : I64 lba) (hn : I64 nn) (l : List (BitVec 8)) (A : Arg 140737488351232 w ab bl bc l) : Calls Try.prog 14 #[.pointer (some ⟨g, 0, none⟩), .pointer (some ⟨r, 0, none⟩), opV 1 lba nn ab bl bc al ll lc] w fun e w' => e = .returned (.bool true) ∧ ∃ V', Sep B (im g b (wIm m lba l) :: ri r lb V' (wIm m lba l) :: X) w' ∧ Below B w w' := by
  have bx : Below w.heap.size w (w.alloc (.cells #[.int .i64 1, .int .i64 lba, .int .i64 nn, .slice ab bl bc, .slice al ll lc] 34)) := (Below.refl _ _).alloc (Nat.le_refl _) _
  have B0 : Blk (w.alloc (.cells #[.int .i64 1, .int .i64 lba, .int .i64 nn, .slice ab bl bc, .slice al ll lc] 34)) w.heap.size 34 [.int .i64 1, .int .i64 lba, .int .i64 nn, .slice ab bl bc, .slice al ll lc] := Blk.new' w _ _
  have x0 := er_at B0 0
  have x1 := er_at B0 1
  have x2 := er_at B0 2
  have x3 := er_at B0 3
  have x4 := er_at B0 4
  simp only [List.getElem?_cons_succ, List.getElem?_cons_zero] at x0 x1 x2 x3 x4
  have A1 : Arg 140737488351232 (w.alloc (.cells #[.int .i64 1, .int .i64 lba, .int .i64 nn, .slice ab bl bc, .slice al ll lc] 34)) ab bl bc l := ⟨A.len_eq, A.le, A.bound, A.row.later bx, A.isNil⟩
  have HL : Hid _ := Lent_any ab bl bc l _ A1
  clear A1
  unfold opV
  go_enter Try.func14, Try.ntmps14
  go_wp2_with fail
  generalize w.alloc (.cells #[.int .i64 1, .int .i64 lba, .int .i64 nn, .slice ab bl bc, .slice al ll lc] 34) = w1 at *
  refine (Calls.mono HL.out) ?_
  rintro e w2 ⟨g2, c2, rfl, hO, hg2, hc2, hm2, b2⟩
  have hkW : w.heap.size ∉ (im g b m).W ∧ w.heap.size ∉ (ri r lb V m).W := ⟨fun e => by have := h.head.lt _ (.inl e); omega, fun e => by have := h.tail.head.lt _ (.inl e); omega⟩
  have hgg : w.heap.size ≤ g2 := Nat.le_trans bx.size hg2
  have hgW : g2 ∉ (im g b m).W ∧ g2 ∉ (im g b m).V ∧ g2 ∉ (ri r lb V m).W ∧ g2 ∉ (ri r lb V m).V := ⟨fun e => by have := h.head.lt _ (.inl e); omega, fun e => by have := h.head.lt _ (.inr e); omega, fun e => by have := h.tail.head.lt _ (.inl e); omega, fun e => by have := h.tail.head.lt _ (.inr e); omega⟩
  have HXX : Hid _ := (fun (o : Ob) (ho : o ∈ X) => (show g2 ∉ o.W ∧ g2 ∉ o.V from ⟨fun e => by have := (h.each o (List.mem_cons_of_mem _ (List.mem_cons_of_mem _ ho))).lt _ (.inl e); omega, fun e => by have := (h.each o (List.mem_cons_of_mem _ (List.mem_cons_of_mem _ ho))).lt _ (.inr e); omega⟩))
  have hglt : g2 < w2.heap.size := (World.ownsRow.lt hO g2 rfl).2
  have hb2 := below_then bx b2
  have h2 := (h.later hb2).drew
  have hrow2 : Row w2.drew ab l := (show Row w2 ab l from A.row.later hb2)
  have hO2 : Own w2.drew w1.heap.size (.slice (some ⟨g2, 0, none⟩) (bl + 1) c2) (l ++ [167#8]) := hO
  have y1 : w2.cell? ⟨w.heap.size, 1, none⟩ = some (.int .i64 lba) := (World.cell?_of_block (w := w1) (a := ⟨w.heap.size, 1, none⟩) (b2.block _ (cell_lt x1))).trans x1
  have y3 : w2.cell? ⟨w.heap.size, 3, none⟩ = some (.slice ab bl bc) := (World.cell?_of_block (w := w1) (a := ⟨w.heap.size, 3, none⟩) (b2.block _ (cell_lt x3))).trans x3
  have HS : Hid _ := (show w2.drew.cell? ⟨w.heap.size, 1, none⟩ = some (.int .i64 lba) ∧ w2.drew.cell? ⟨w.heap.size, 3, none⟩ = some (.slice ab bl bc) from ⟨y1, y3⟩)
  have HU : Hid _ := And.intro (imWrite_ans g b m lba (some ⟨g2, 0, none⟩) bl c2 l w2.drew h2.head hw ha (Nat.le_trans A.le (Nat.le_trans A.bound (by omega))) A.len_eq (by omega) (row_pre (own_row5 hO2)) (fun y hy e => by cases hy; exact hgW.1 (by simp [im]; exact e))) (And.intro h2 (And.intro (show Below B w w2.drew from (hb2.mono h.base).drew) (And.intro hrow2 (And.intro hO2 (And.intro hgW (And.intro hglt hc2))))))
  have HP : Hid _ := And.intro hkW.1 (And.intro hkW.2 (And.intro A (And.intro hw (And.intro ha (show B ≤ g2 from Nat.le_trans h.base hgg)))))
  clear bx B0 x0 x1 x2 x3 x4 h hkW hgg hgW hglt hb2 h2 hrow2 hO2 y1 y3 hO hg2 hc2 hm2 b2 hw ha hn A HL
  go_wp2_with fail
  refine e_begin (S := fun W => W.cell? ⟨w.heap.size, 1, none⟩ = some (.int .i64 lba) ∧ W.cell? ⟨w.heap.size, 3, none⟩ = some (.slice ab bl bc)) 18 (by kernel_rfl) (HS.out) (fun hS => ?_)
  refine e_take (i := 0) (v := ?_) [4, 11, 12, 17, 18] rfl (by kernel_rfl) (by kernel_rfl) (by kernel_rfl) (by kernel_rfl) (by exact fun _ _ _ h => h) (by rfl) ?_ hS ?_
  rotate_left
  · ((intro w hSw; (try dsimp only at hSw); go_simp) <;> with_reducible rfl)
  (try simp only [Act.put, List.setIfInBounds_toArray, List.set_cons_zero, List.set_cons_succ])
  refine e_take (i := 1) (v := ?_) [2, 4, 11, 12, 17, 18] rfl (by kernel_rfl) (by kernel_rfl) (by kernel_rfl) (by kernel_rfl) (by exact fun _ _ _ h => h) (by rfl) ?_ hS ?_
  rotate_left
  · ((intro w hSw; (try dsimp only at hSw); go_simp) <;> with_reducible rfl)
  (try simp only [Act.put, List.setIfInBounds_toArray, List.set_cons_zero, List.set_cons_succ])
  refine e_take (i := 2) (v := ?_) [4, 11, 12, 17, 18] rfl (by kernel_rfl) (by kernel_rfl) (by kernel_rfl) (by kernel_rfl) (by exact fun _ _ _ h => h) (by rfl) ?_ hS ?_
  rotate_left
  · ((intro w hSw; (try dsimp only at hSw); go_simp) <;> with_reducible rfl)
  (try simp only [Act.put, List.setIfInBounds_toArray, List.set_cons_zero, List.set_cons_succ])
  refine e_take (i := 3) (v := ?_) [4, 11, 12, 17, 18] rfl (by kernel_rfl) (by kernel_rfl) (by kernel_rfl) (by kernel_rfl) (by exact fun _ _ _ h => h) (by rfl) ?_ hS ?_
  rotate_left
  · ((intro w hSw; (try dsimp only at hSw); go_simp) <;> with_reducible rfl)
  (try simp only [Act.put, List.setIfInBounds_toArray, List.set_cons_zero, List.set_cons_succ])
  refine e_take (i := 5) (v := ?_) [10, 11, 12, 17, 18] rfl (by kernel_rfl) (by kernel_rfl) (by kernel_rfl) (by kernel_rfl) (by exact fun _ _ _ h => h) (by rfl) ?_ hS ?_
  rotate_left
  · ((intro w hSw; (try dsimp only at hSw); go_simp) <;> with_reducible rfl)
  (try simp only [Act.put, List.setIfInBounds_toArray, List.set_cons_zero, List.set_cons_succ])
  refine e_take (i := 6) (v := ?_) [7, 10, 11, 12, 17, 18] rfl (by kernel_rfl) (by kernel_rfl) (by kernel_rfl) (by kernel_rfl) (by exact fun _ _ _ h => h) (by rfl) ?_ hS ?_
  rotate_left
  · ((intro w hSw; (try dsimp only at hSw); go_simp) <;> with_reducible rfl)
  (try simp only [Act.put, List.setIfInBounds_toArray, List.set_cons_zero, List.set_cons_succ])
  refine e_take (i := 7) (v := ?_) [10, 11, 12, 17, 18] rfl (by kernel_rfl) (by kernel_rfl) (by kernel_rfl) (by kernel_rfl) (by exact fun _ _ _ h => h) (by rfl) ?_ hS ?_
  rotate_left
  · ((intro w hSw; (try dsimp only at hSw); go_simp) <;> with_reducible rfl)
  (try simp only [Act.put, List.setIfInBounds_toArray, List.set_cons_zero, List.set_cons_succ])
  refine e_take (i := 8) (v := ?_) [9, 10, 11, 12, 17, 18] rfl (by kernel_rfl) (by kernel_rfl) (by kernel_rfl) (by kernel_rfl) (by exact fun _ _ _ h => h) (by rfl) ?_ hS ?_
  rotate_left
  · ((intro w hSw; (try dsimp only at hSw); go_simp) <;> with_reducible rfl)
  (try simp only [Act.put, List.setIfInBounds_toArray, List.set_cons_zero, List.set_cons_succ])
  refine e_take (i := 9) (v := ?_) [10, 11, 12, 17, 18] rfl (by kernel_rfl) (by kernel_rfl) (by kernel_rfl) (by kernel_rfl) (by exact fun _ _ _ h => h) (by rfl) ?_ hS ?_
  rotate_left
  · ((intro w hSw; (try dsimp only at hSw); go_simp) <;> with_reducible rfl)
  (try simp only [Act.put, List.setIfInBounds_toArray, List.set_cons_zero, List.set_cons_succ])
  refine e_one (i := 4) rfl (by kernel_rfl) (fun K hK => ?_)
  go_simp
  refine (Calls.mono (HU.out.1)) ?_
  rintro e w3 ⟨rfl, s1⟩
  have hS2 : _ ∧ _ := ⟨cell_step s1 hS.1 HP.out.1, cell_step s1 hS.2 HP.out.1⟩
  have HV : Hid _ := And.intro (HU.out.2.1.step s1).swap (And.intro (sep_below HU.out.2.1 HU.out.2.2.1 s1) (And.intro (row_im HU.out.2.2.2.1 HU.out.2.1.head s1.turned) (And.intro (own_turned HU.out.2.2.2.2.1 s1.turned (fun q hq => by cases hq; exact HU.out.2.2.2.2.2.1.1)) s1.turned.size)))
  clear s1 hS
  go_wp2_with fail
  refine hK.out _ _ (hS2) (fun hS => ?_)
  clear hK K
  refine e_one (i := 10) rfl (by kernel_rfl) (fun K hK => ?_)
  go_simp
  refine (Calls.mono (riWrite_ans r lb V m lba ab bl bc l _ HV.out.1.head HP.out.2.2.2.1 HP.out.2.2.2.2.1 (Nat.le_trans HP.out.2.2.1.le (Nat.le_trans HP.out.2.2.1.bound (by omega))) HP.out.2.2.1.len_eq HP.out.2.2.1.le HP.out.2.2.1.isNil HV.out.2.2.1 (row_ne_ri HV.out.2.2.1 HV.out.1.head))) ?_
  rintro e w4 ⟨rfl, V', s2⟩
  have hS3 : _ ∧ _ := ⟨cell_step s2 hS.1 HP.out.2.1, cell_step s2 hS.2 HP.out.2.1⟩
  have HX : Hid _ := And.intro (HV.out.1.step s2).swap (And.intro (sep_below HV.out.1 HV.out.2.1 s2) (And.intro (row_ri HV.out.2.2.1 HV.out.1.head s2.turned) (And.intro (own_turned HV.out.2.2.2.1 s2.turned (fun q hq => by cases hq; exact HU.out.2.2.2.2.2.1.2.2.1)) (show g2 ∉ (ri r lb V' (wIm m lba l)).V from fun e => by
    rcases s2.reads g2 e with e | e | e
    · exact HU.out.2.2.2.2.2.1.2.2.1 e
    · exact HU.out.2.2.2.2.2.1.2.2.2 e
    · have h1 := HV.out.2.2.2.2; have h2 := HU.out.2.2.2.2.2.2.1; have h3 : w2.drew.heap.size = w2.heap.size := rfl; omega))))
  clear s2 hS hS2
  go_wp2_with fail
  refine hK.out _ _ (hS3) (fun hS => ?_)
  clear hK K
  refine e_take (i := 11) (v := ?_) [12, 17, 18] rfl (by kernel_rfl) (by kernel_rfl) (by kernel_rfl) (by kernel_rfl) (by exact fun _ _ _ h => h) (by rfl) ?_ hS ?_
  rotate_left
  · ((intro w hSw; (try dsimp only at hSw); go_simp) <;> with_reducible rfl)
  (try simp only [Act.put, List.setIfInBounds_toArray, List.set_cons_zero, List.set_cons_succ])
  refine e_take (i := 12) (v := ?_) [17, 18] rfl (by kernel_rfl) (by kernel_rfl) (by kernel_rfl) (by kernel_rfl) (by exact fun _ _ _ h => h) (by rfl) ?_ hS ?_
  rotate_left
  · ((intro w hSw; (try dsimp only at hSw); go_simp) <;> with_reducible rfl)
  (try simp only [Act.put, List.setIfInBounds_toArray, List.set_cons_zero, List.set_cons_succ])
  refine e_take (i := 13) (v := ?_) [16, 17, 18] rfl (by kernel_rfl) (by kernel_rfl) (by kernel_rfl) (by kernel_rfl) (by exact fun _ _ _ h => h) (by rfl) ?_ hS ?_
  rotate_left
  · ((intro w hSw; (try dsimp only at hSw); go_simp) <;> with_reducible rfl)
  (try simp only [Act.put, List.setIfInBounds_toArray, List.set_cons_zero, List.set_cons_succ])
  refine e_take (i := 14) (v := ?_) [15, 16, 17, 18] rfl (by kernel_rfl) (by kernel_rfl) (by kernel_rfl) (by kernel_rfl) (by exact fun _ _ _ h => h) (by rfl) ?_ hS ?_
  rotate_left
  · ((intro w hSw; (try dsimp only at hSw); go_simp) <;> with_reducible rfl)
  (try simp only [Act.put, List.setIfInBounds_toArray, List.set_cons_zero, List.set_cons_succ])
  refine e_take (i := 15) (v := ?_) [16, 17, 18] rfl (by kernel_rfl) (by kernel_rfl) (by kernel_rfl) (by kernel_rfl) (by exact fun _ _ _ h => h) (by rfl) ?_ hS ?_
  rotate_left
  · ((intro w hSw; (try dsimp only at hSw); go_simp) <;> with_reducible rfl)
  (try simp only [Act.put, List.setIfInBounds_toArray, List.set_cons_zero, List.set_cons_succ])
  refine e_one (i := 16) rfl (by kernel_rfl) (fun K hK => ?_)
  go_simp
  refine (Calls.mono (Kept_yes g2 bl c2 ab bc l w4 HP.out.2.2.1.len_eq HU.out.2.2.2.2.2.2.2 (Nat.le_trans HP.out.2.2.1.le HP.out.2.2.1.bound) (own_row5 HX.out.2.2.2.1) HX.out.2.2.1)) ?_
  rintro e w5 ⟨rfl, hw5⟩
  obtain rfl := hw5
  have hS4 := hS
  clear hS hS3
  go_wp2_with fail
  refine hK.out _ _ (hS4) (fun hS => ?_)
  clear hK K
  refine e_take (i := 17) (v := ?_) [18] rfl (by kernel_rfl) (by kernel_rfl) (by kernel_rfl) (by kernel_rfl) (by exact fun _ _ _ h => h) (by rfl) ?_ hS ?_
  rotate_left
  · ((intro w hSw; (try dsimp only at hSw); go_simp) <;> with_reducible rfl)
  (try simp only [Act.put, List.setIfInBounds_toArray, List.set_cons_zero, List.set_cons_succ])
  clear hS
  refine e_last (z := 18) rfl (by kernel_rfl) (fun K hK => ?_)
  go_simp
  refine hK.out _ _ ?_
  clear hK K
  refine e_done (by kernel_rfl) ?_ _
  go_wp2_with fail
  refine (Calls.mono (spoil_lent5 HX.out.2.2.2.1 (Nat.le_trans HP.out.2.2.1.le HP.out.2.2.1.bound) HU.out.2.2.2.2.2.2.2)) ?_
  rintro e w6 ⟨rfl, g6⟩
  have F : Hid _ := And.intro (sep_grown HX.out.1 g6 (fun k hk o ho => by
    cases hk
    rcases List.mem_cons.1 ho with rfl | ho
    · exact ⟨HU.out.2.2.2.2.2.1.1, HU.out.2.2.2.2.2.1.2.1⟩
    rcases List.mem_cons.1 ho with rfl | ho
    · exact ⟨HU.out.2.2.2.2.2.1.2.2.1, HX.out.2.2.2.2⟩
    · exact HXX.out o ho)) (HX.out.2.1.grown g6 HX.out.1.base (fun q hq => by cases hq; exact HP.out.2.2.2.2.2))
  clear g6 HX HV HU
  go_wp2
  go_ret
  exact ⟨rfl, _, F.out.1, F.out.2⟩
set_option maxHeartbeats 4000000 in
theorem step_o {X : List Ob} (g b r lb : Nat) (V : List Nat) (m : Im) (lba nn : Int) (ab : Option Addr) (bl bc : Nat) (al : Option Addr) (ll lc : Nat) (B : Nat) (w : World) (h : Sep B (im g b m :: ri r lb V m :: X) w) (hw : m.Wf) (ha : I64 lba) (hn : I64 nn) (kd : Int) (hkd : kd ≠ 0 ∧ kd ≠ 1 ∧ kd ≠ 2 ∧ kd ≠ 3 ∧ kd ≠ 4) : Calls Try.prog 14 #[.pointer (some ⟨g, 0, none⟩), .pointer (some ⟨r, 0, none⟩), opV kd lba nn ab bl bc al ll lc] w fun e w' => e = .returned (.bool true) ∧ Sep B (im g b m :: ri r lb V m :: X) w' ∧ Below B w w' := by
  have bx : Below w.heap.size w (w.alloc (.cells #[.int .i64 kd, .int .i64 lba, .int .i64 nn, .slice ab bl bc, .slice al ll lc] 34)) := (Below.refl _ _).alloc (Nat.le_refl _) _
  have F : Hid _ := And.intro (h.later bx) (bx.mono h.base)
  clear bx h
  obtain ⟨k0, k1, k2, k3, k4⟩ := hkd
  have e0 : (kd == 0) = false := by simpa using k0
  have e1 : (kd == 1) = false := by simpa using k1
  have e2 : (kd == 2) = false := by simpa using k2
  have e3 : (kd == 3) = false := by simpa using k3
  have e4 : (kd == 4) = false := by simpa using k4
  unfold opV
  go_enter Try.func14, Try.ntmps14
  go_wp2
  go_ret
  exact ⟨rfl, F.out.1, F.out.2⟩
end Go.Proofs.Ytmkacgdbmojomaa

/- extent: a step of both images: Change. -/
namespace Go.Proofs.Ytmkacgdbmojomaa
open Go.RowKit
set_option linter.unusedVariables false
set_option linter.unusedSimpArgs false
set_option maxRecDepth 8000

theorem CsOwn.turned {w w' : World} {base : Nat} {v : Value} {T : List Tc} {R : Nat → Prop} (h : CsOwn w base v T) (ht : Turned R w w') (hr : ∀ q, base ≤ q → ¬ R q) : CsOwn w' base v T := by
  refine ⟨?_, fun p hp => own_turned (h.each p hp) ht (fun q hq => hr q (World.ownsRow.lt (h.each p hp) q hq).1), h.apart, h.pair⟩
  obtain ⟨h1, h2 | ⟨g, cap, cur, rfl, hb, hh, hx⟩⟩ := h.own
  · exact ⟨h1, .inl h2⟩
  · exact ⟨h1, .inr ⟨g, cap, cur, rfl, hb, (ht.block g (Array.getElem?_eq_some_iff.1 hh).1 (hr g hb)).trans hh, hx⟩⟩
theorem cs_cell {w : World} {base vc : Nat} {va : Option Addr} {T : List Tc} (ho : w.ownsRow base 57 2 (.slice va T.length vc) T.length (csC T)) (k : Nat) (hk : k < T.length) : ∃ vb, va = some ⟨vb, 0, none⟩ ∧ w.cell? ⟨vb, k * 2 + 1, none⟩ = some T[k].2 := by
  obtain ⟨h1, ⟨h2, h3⟩ | ⟨g, cap, cur, e, hx⟩⟩ := id ho
  · omega
  · simp only [Value.slice.injEq] at e
    obtain ⟨e1, -, e2⟩ := e
    subst e1
    exact ⟨g, rfl, by rw [World.ownsRow.cellAt ho _ (by omega)]; exact (csC_at T k hk).2⟩
/-- from k on they stand yet -/
def Sp (w : World) (base : Nat) (v : Value) (T : List Tc) (k : Nat) : Prop := w.ownsRow base 57 2 v T.length (csC T) ∧ ∀ i (h : i < T.length), k ≤ i → Own w base T[i].2 T[i].1.2
theorem Sp.step {w0 w w' : World} {base : Nat} {v : Value} {T : List Tc} {k : Nat} (hc : CsOwn w0 base v T) (h : Sp w base v T k) (hk : k < T.length) (hg : w.grownBy w' T[k].2.ownBlock) : Sp w' base v T (k + 1) := by
  refine ⟨World.ownsRow.kept h.1 hg ?_, fun i hi hki => own_kept (h.2 i hi (by omega)) hg (fun q hq e => ?_)⟩
  · cases e : v.ownBlock with
    | none => exact .inl rfl
    | some q => exact .inr (fun e2 => hc.apart _ (List.getElem_mem hk) q e2.symm e)
  · exact List.pairwise_iff_getElem.1 hc.pair k i hk hi (by omega) q e hq
theorem CArgs.each {w : World} {a : Option Addr} {l : List (Int × List (BitVec 8))} (h : CArgs w a l) : ∀ r ∈ l, I64 r.1 ∧ r.2.length ≤ 140737488355328 := by
  intro r hr
  rcases h with h | ⟨p, off, -, h⟩
  · rw [h] at hr; cases hr
  · obtain ⟨i, hi, rfl⟩ := List.getElem_of_mem hr
    exact ⟨(h i hi).num, (h i hi).len⟩
set_option maxHeartbeats 16000000 in
theorem step_c3 {X : List Ob} (g b r lb : Nat) (V : List Nat) (m : Im) (lba nn : Int) (ab : Option Addr) (bl bc : Nat) (al : Option Addr) (ll lc : Nat) (B : Nat) (w : World) (h : Sep B (im g b m :: ri r lb V m :: X) w) (hw : m.Wf) (ha : I64 lba) (hn : I64 nn) (L : List (Int × List (BitVec 8))) (hL : L.length = ll) (hll : ll * 32 ≤ 140737488355328) (hd : ∀ r ∈ L, r.2.length ≤ 140737488351232) (C : CArgs w al L) : Calls Try.prog 14 #[.pointer (some ⟨g, 0, none⟩), .pointer (some ⟨r, 0, none⟩), opV 3 lba nn ab bl bc al ll lc] w fun e w' => e = .returned (.bool true) ∧ ∃ V', Sep B (im g b (cIm m L) :: ri r lb V' (cIm m L) :: X) w' ∧ Below B w w' := by
  have bx : Below w.heap.size w (w.alloc (.cells #[.int .i64 3, .int .i64 lba, .int .i64 nn, .slice ab bl bc, .slice al ll lc] 34)) := (Below.refl _ _).alloc (Nat.le_refl _) _
  have B0 : Blk (w.alloc (.cells #[.int .i64 3, .int .i64 lba, .int .i64 nn, .slice ab bl bc, .slice al ll lc] 34)) w.heap.size 34 [.int .i64 3, .int .i64 lba, .int .i64 nn, .slice ab bl bc, .slice al ll lc] := Blk.new' w _ _
  have x0 := er_at B0 0
  have x1 := er_at B0 1
  have x2 := er_at B0 2
  have x3 := er_at B0 3
  have x4 := er_at B0 4
  simp only [List.getElem?_cons_succ, List.getElem?_cons_zero] at x0 x1 x2 x3 x4
  have hC1 := cargs_later C bx
  have HL : Hid _ := lentC_any al ll lc L _ hL hll hC1
  unfold opV
  go_enter Try.func14, Try.ntmps14
  go_wp2_with fail
  generalize w.alloc (.cells #[.int .i64 3, .int .i64 lba, .int .i64 nn, .slice ab bl bc, .slice al ll lc] 34) = w1 at *
  refine (Calls.mono HL.out) ?_
  rintro e w2 ⟨v, T, rfl, hT, hO, b2⟩
  have hTl : T.length = ll := by rw [← hL, ← hT, List.length_map]
  obtain ⟨va, vc, rfl, hvc, hA⟩ := hO.args (fun p hp => C.each _ (by rw [← hT]; exact List.mem_map_of_mem hp))
  rw [hT] at hA
  have hdT : ∀ p ∈ T, p.1.2.length ≤ 140737488351232 := fun p hp => hd _ (by rw [← hT]; exact List.mem_map_of_mem hp)
  have hkW : w.heap.size ∉ (im g b m).W ∧ w.heap.size ∉ (ri r lb V m).W := ⟨fun e => by have := h.head.lt _ (.inl e); omega, fun e => by have := h.tail.head.lt _ (.inl e); omega⟩
  have hbs := bx.size
  have n1 : ∀ q, w1.heap.size ≤ q → ¬ q ∈ (im g b m).W := fun q hq e => by have := h.head.lt _ (.inl e); omega
  have n2 : ∀ q, w1.heap.size ≤ q → ¬ q ∈ (ri r lb V m).W := fun q hq e => by have := h.tail.head.lt _ (.inl e); omega
  have n3 : ∀ q, w1.heap.size ≤ q → ¬ q ∈ (ri r lb V m).V := fun q hq e => by have := h.tail.head.lt _ (.inr e); omega
  have HXX : Hid _ := (fun (o : Ob) (ho : o ∈ X) (q : Nat) (hq : w1.heap.size ≤ q) => (show q ∉ o.W ∧ q ∉ o.V from ⟨fun e => by have := (h.each o (List.mem_cons_of_mem _ (List.mem_cons_of_mem _ ho))).lt _ (.inl e); omega, fun e => by have := (h.each o (List.mem_cons_of_mem _ (List.mem_cons_of_mem _ ho))).lt _ (.inr e); omega⟩))
  have n4 : ∀ q, w1.heap.size ≤ q → ¬ q ∈ (im g b m).V := fun q hq e => by have := h.head.lt _ (.inr e); omega
  have hb2 := below_then bx b2
  have h2 := (h.later hb2).drew
  have hA2 : CArgs w2.drew va L := cargs_later hA (Below.refl _ _).drew
  have hC2 : CArgs w2.drew al L := cargs_later (cargs_later hC1 b2) (Below.refl _ _).drew
  have hOd : CsOwn w2.drew w1.heap.size (.slice va T.length vc) T := hO.later (Below.refl _ _).drew
  have y4 : w2.cell? ⟨w.heap.size, 4, none⟩ = some (.slice al ll lc) := (World.cell?_of_block (w := w1) (a := ⟨w.heap.size, 4, none⟩) (b2.block _ (cell_lt x4))).trans x4
  have HS : Hid _ := (show w2.drew.cell? ⟨w.heap.size, 4, none⟩ = some (.slice al ll lc) from y4)
  have hlt2 : ∀ p ∈ T, ∀ q, p.2.ownBlock = some q → w1.heap.size ≤ q ∧ q < w2.heap.size := fun p hp q hq => World.ownsRow.lt (hO.each p hp) q hq
  rw [hTl] at hvc
  have HU : Hid _ := And.intro (imChange_ans g b m va ll vc L w2.drew h2.head hw hL hvc (by omega) hA2) (And.intro h2 (And.intro (show Below B w w2.drew from (hb2.mono h.base).drew) (And.intro hC2 (And.intro hA2 hOd))))
  have HP : Hid _ := And.intro hkW.1 (And.intro hkW.2 (And.intro hw (And.intro hL (And.intro (show ll ≤ 140737488355328 by omega) (And.intro n1 (And.intro n2 (And.intro n3 (And.intro n4 (And.intro hdT (And.intro hlt2 (And.intro hO (show B ≤ w1.heap.size from Nat.le_trans h.base hbs))))))))))))
  have HLL : Hid _ := And.intro hTl hll
  rw [hTl]
  clear bx B0 x0 x1 x2 x3 x4 h hkW hbs n1 n2 n3 n4 hb2 h2 hA2 hC2 hOd y4 hlt2 hvc hdT hA hO hT b2 hC1 HL C hw ha hn hd hL
  go_wp2_with fail
  refine e_begin (S := fun W => W.cell? ⟨w.heap.size, 4, none⟩ = some (.slice al ll lc)) 14 (by kernel_rfl) (HS.out) (fun hS => ?_)
  refine e_take (i := 0) (v := ?_) [2, 7, 8, 13, 14] rfl (by kernel_rfl) (by kernel_rfl) (by kernel_rfl) (by kernel_rfl) (by exact fun _ _ _ h => h) (by rfl) ?_ hS ?_
  rotate_left
  · ((intro w hSw; (try dsimp only at hSw); go_simp) <;> with_reducible rfl)
  (try simp only [Act.put, List.setIfInBounds_toArray, List.set_cons_zero, List.set_cons_succ])
  refine e_take (i := 1) (v := ?_) [2, 7, 8, 13, 14] rfl (by kernel_rfl) (by kernel_rfl) (by kernel_rfl) (by kernel_rfl) (by exact fun _ _ _ h => h) (by rfl) ?_ hS ?_
  rotate_left
  · ((intro w hSw; (try dsimp only at hSw); go_simp) <;> with_reducible rfl)
  (try simp only [Act.put, List.setIfInBounds_toArray, List.set_cons_zero, List.set_cons_succ])
  refine e_take (i := 3) (v := ?_) [6, 7, 8, 13, 14] rfl (by kernel_rfl) (by kernel_rfl) (by kernel_rfl) (by kernel_rfl) (by exact fun _ _ _ h => h) (by rfl) ?_ hS ?_
  rotate_left
  · ((intro w hSw; (try dsimp only at hSw); go_simp) <;> with_reducible rfl)
  (try simp only [Act.put, List.setIfInBounds_toArray, List.set_cons_zero, List.set_cons_succ])
  refine e_take (i := 4) (v := ?_) [5, 6, 7, 8, 13, 14] rfl (by kernel_rfl) (by kernel_rfl) (by kernel_rfl) (by kernel_rfl) (by exact fun _ _ _ h => h) (by rfl) ?_ hS ?_
  rotate_left
  · ((intro w hSw; (try dsimp only at hSw); go_simp) <;> with_reducible rfl)
  (try simp only [Act.put, List.setIfInBounds_toArray, List.set_cons_zero, List.set_cons_succ])
  refine e_take (i := 5) (v := ?_) [6, 7, 8, 13, 14] rfl (by kernel_rfl) (by kernel_rfl) (by kernel_rfl) (by kernel_rfl) (by exact fun _ _ _ h => h) (by rfl) ?_ hS ?_
  rotate_left
  · ((intro w hSw; (try dsimp only at hSw); go_simp) <;> with_reducible rfl)
  (try simp only [Act.put, List.setIfInBounds_toArray, List.set_cons_zero, List.set_cons_succ])
  refine e_one (i := 2) rfl (by kernel_rfl) (fun K hK => ?_)
  go_simp
  refine (Calls.mono (HU.out.1)) ?_
  rintro e w3 ⟨rfl, s1⟩
  have hS2 := cell_step s1 hS HP.out.1
  have HV : Hid _ := And.intro (HU.out.2.1.step s1).swap (And.intro (sep_below HU.out.2.1 HU.out.2.2.1 s1) (And.intro (HU.out.2.2.2.1.turned HU.out.2.1.head s1.turned) (And.intro (HU.out.2.2.2.2.1.turned HU.out.2.1.head s1.turned) (And.intro (HU.out.2.2.2.2.2.turned s1.turned (fun q hq => HP.out.2.2.2.2.2.1 q hq)) s1.turned.size))))
  clear s1 hS
  go_wp2_with fail
  refine hK.out _ _ (hS2) (fun hS => ?_)
  clear hK K
  refine e_one (i := 6) rfl (by kernel_rfl) (fun K hK => ?_)
  go_simp
  refine (Calls.mono (riChange_ans r lb V m al ll lc L _ HV.out.1.head HP.out.2.2.1 HP.out.2.2.2.1 HP.out.2.2.2.2.1 HV.out.2.2.1)) ?_
  rintro e w4 ⟨rfl, V', s2⟩
  have hS3 := cell_step s2 hS HP.out.2.1
  have HX : Hid _ := And.intro (HV.out.1.step s2).swap (And.intro (sep_below HV.out.1 HV.out.2.1 s2) (And.intro (cargs_turned HV.out.2.2.1 HV.out.1.head s2.turned) (And.intro (cargs_turned HV.out.2.2.2.1 HV.out.1.head s2.turned) (And.intro (HV.out.2.2.2.2.1.turned s2.turned (fun q hq => HP.out.2.2.2.2.2.2.1 q hq)) (show ∀ q, w1.heap.size ≤ q → q < w2.heap.size → q ∉ (ri r lb V' (cIm m L)).V from fun q hq1 hq2 e => by
    rcases s2.reads q e with e | e | e
    · exact HP.out.2.2.2.2.2.2.1 q hq1 e
    · exact HP.out.2.2.2.2.2.2.2.1 q hq1 e
    · have h1 := HV.out.2.2.2.2.2; have h3 : w2.drew.heap.size = w2.heap.size := rfl; omega)))))
  clear s2 hS hS2
  go_wp2_with fail
  refine hK.out _ _ (hS3) (fun hS => ?_)
  clear hK K
  refine e_take (i := 7) (v := ?_) [8, 13, 14] rfl (by kernel_rfl) (by kernel_rfl) (by kernel_rfl) (by kernel_rfl) (by exact fun _ _ _ h => h) (by rfl) ?_ hS ?_
  rotate_left
  · ((intro w hSw; (try dsimp only at hSw); go_simp) <;> with_reducible rfl)
  (try simp only [Act.put, List.setIfInBounds_toArray, List.set_cons_zero, List.set_cons_succ])
  refine e_take (i := 8) (v := ?_) [13, 14] rfl (by kernel_rfl) (by kernel_rfl) (by kernel_rfl) (by kernel_rfl) (by exact fun _ _ _ h => h) (by rfl) ?_ hS ?_
  rotate_left
  · ((intro w hSw; (try dsimp only at hSw); go_simp) <;> with_reducible rfl)
  (try simp only [Act.put, List.setIfInBounds_toArray, List.set_cons_zero, List.set_cons_succ])
  refine e_take (i := 9) (v := ?_) [12, 13, 14] rfl (by kernel_rfl) (by kernel_rfl) (by kernel_rfl) (by kernel_rfl) (by exact fun _ _ _ h => h) (by rfl) ?_ hS ?_
  rotate_left
  · ((intro w hSw; (try dsimp only at hSw); go_simp) <;> with_reducible rfl)
  (try simp only [Act.put, List.setIfInBounds_toArray, List.set_cons_zero, List.set_cons_succ])
  refine e_take (i := 10) (v := ?_) [11, 12, 13, 14] rfl (by kernel_rfl) (by kernel_rfl) (by kernel_rfl) (by kernel_rfl) (by exact fun _ _ _ h => h) (by rfl) ?_ hS ?_
  rotate_left
  · ((intro w hSw; (try dsimp only at hSw); go_simp) <;> with_reducible rfl)
  (try simp only [Act.put, List.setIfInBounds_toArray, List.set_cons_zero, List.set_cons_succ])
  refine e_take (i := 11) (v := ?_) [12, 13, 14] rfl (by kernel_rfl) (by kernel_rfl) (by kernel_rfl) (by kernel_rfl) (by exact fun _ _ _ h => h) (by rfl) ?_ hS ?_
  rotate_left
  · ((intro w hSw; (try dsimp only at hSw); go_simp) <;> with_reducible rfl)
  (try simp only [Act.put, List.setIfInBounds_toArray, List.set_cons_zero, List.set_cons_succ])
  refine e_one (i := 12) rfl (by kernel_rfl) (fun K hK => ?_)
  go_simp
  refine (Calls.mono (same05_yes va al ll vc lc L w4 HP.out.2.2.2.1 HP.out.2.2.2.2.1 HX.out.2.2.2.1 HX.out.2.2.1)) ?_
  rintro e w5 ⟨rfl, b5⟩
  have hS4 : w5.cell? ⟨w.heap.size, 4, none⟩ = some (.slice al ll lc) := (World.cell?_of_block (w := w4) (a := ⟨w.heap.size, 4, none⟩) (b5.block _ (cell_lt hS))).trans hS
  have HY : Hid _ := And.intro (HX.out.1.later b5) (And.intro (HX.out.2.1.trans (b5.mono HX.out.1.base)) (And.intro (HX.out.2.2.2.2.1.later b5) HX.out.2.2.2.2.2))
  clear b5 hS hS3 HX HV
  go_wp2_with fail
  refine hK.out _ _ (hS4) (fun hS => ?_)
  clear hK K
  refine e_take (i := 13) (v := ?_) [14] rfl (by kernel_rfl) (by kernel_rfl) (by kernel_rfl) (by kernel_rfl) (by exact fun _ _ _ h => h) (by rfl) ?_ hS ?_
  rotate_left
  · ((intro w hSw; (try dsimp only at hSw); go_simp) <;> with_reducible rfl)
  (try simp only [Act.put, List.setIfInBounds_toArray, List.set_cons_zero, List.set_cons_succ])
  clear hS
  refine e_last (z := 14) rfl (by kernel_rfl) (fun K hK => ?_)
  go_simp
  refine hK.out _ _ ?_
  clear hK K
  refine e_done (by kernel_rfl) ?_ _
  have hq : (ll : Int) ≤ 140737488355328 := by have := HLL.out.2; omega
  go_wp2_with fail
  go_loopw [11] (fun p wr => ∃ k : Nat, p = .int .i64 k ∧ k ≤ ll ∧ Sp wr w1.heap.size (.slice va ll vc) T k ∧ Sep B (im g b (cIm m L) :: ri r lb V' (cIm m L) :: X) wr ∧ Below B w wr) (fun p _ => ll - (intOf p).toNat)
  case atStart => exact ⟨0, rfl, Nat.zero_le _, ⟨by have := HY.out.2.2.1.own; rw [HLL.out.1] at this ⊢; exact this, fun i hi _ => HY.out.2.2.1.each _ (List.getElem_mem hi)⟩, HY.out.1, HY.out.2.1⟩
  case round =>
    obtain ⟨k, rfl, hk, hsp, hse, hb⟩ := hrel
    by_cases hlt : k < ll
    · have q1 : (k : Int) < (ll : Int) := by omega
      have hlt3 : k < T.length := by rw [HLL.out.1]; exact hlt
      obtain ⟨vb, hva, hcell⟩ := cs_cell (vc := vc) (va := va) (by have := hsp.1; rw [HLL.out.1] at this ⊢; exact this) k hlt3
      subst hva
      have hmem := List.getElem_mem hlt3
      have HSP : Hid _ := Spoil_own T[k].2 w1.heap.size T[k].1.2 wr (hsp.2 k hlt3 (Nat.le_refl _)) (HP.out.2.2.2.2.2.2.2.2.2.1 _ hmem)
      have HN : Hid _ := And.intro (fun w' (hg : wr.grownBy w' T[k].2.ownBlock) => Sp.step (by have := HP.out.2.2.2.2.2.2.2.2.2.2.2.1; rw [HLL.out.1] at this; exact this) hsp hlt3 hg) (And.intro hse (And.intro hb (HP.out.2.2.2.2.2.2.2.2.2.2.1 _ hmem)))
      obtain ⟨sa, sc, es, -⟩ := (hsp.2 k hlt3 (Nat.le_refl _)).open
      generalize T[k].1.2.length = n9 at es
      clear hsp hse hb hmem
      generalize T[k].2 = sv at *
      subst es
      go_wp2_with fail
      refine (Calls.mono HSP.out) ?_
      rintro e w7 ⟨rfl, g7⟩
      have F : Hid _ := And.intro (HN.out.1 w7 g7) (And.intro (sep_grown HN.out.2.1 g7 (fun q hq o ho => by
        obtain ⟨z1, z2⟩ := HN.out.2.2.2 q hq
        rcases List.mem_cons.1 ho with rfl | ho
        · exact ⟨HP.out.2.2.2.2.2.1 q z1, HP.out.2.2.2.2.2.2.2.2.1 q z1⟩
        rcases List.mem_cons.1 ho with rfl | ho
        · exact ⟨HP.out.2.2.2.2.2.2.1 q z1, HY.out.2.2.2 q z1 z2⟩
        · exact HXX.out o ho q z1)) (HN.out.2.2.1.grown g7 HN.out.2.1.base (fun q hq => Nat.le_trans HP.out.2.2.2.2.2.2.2.2.2.2.2.2 (HN.out.2.2.2 q hq).1)))
      clear g7 HSP HN hcell
      go_wp2
      go_roundw
      case rel => exact ⟨k + 1, by first | rfl | go_num, by omega, F.out.1, F.out.2.1, F.out.2.2⟩
      case measure => simp [intOf]; omega
    · obtain rfl : k = ll := by omega
      have q1 : ¬ ((k : Int) < (k : Int)) := by omega
      have F : Hid _ := And.intro hse hb
      clear hsp hse hb hk hlt
      go_wp2
      go_ret
      exact ⟨rfl, ⟨_, F.out.1⟩, F.out.2⟩
set_option maxHeartbeats 16000000 in
theorem step_c4 {X : List Ob} (g b r lb : Nat) (V : List Nat) (m : Im) (lba nn : Int) (ab : Option Addr) (bl bc : Nat) (al : Option Addr) (ll lc : Nat) (B : Nat) (w : World) (h : Sep B (im g b m :: ri r lb V m :: X) w) (hw : m.Wf) (ha : I64 lba) (hn : I64 nn) (L : List (Int × List (BitVec 8))) (hL : L.length = ll) (hll : ll * 32 ≤ 140737488355328) (hd : ∀ r ∈ L, r.2.length ≤ 140737488351232) (C : CArgs w al L) : Calls Try.prog 14 #[.pointer (some ⟨g, 0, none⟩), .pointer (some ⟨r, 0, none⟩), opV 4 lba nn ab bl bc al ll lc] w fun e w' => e = .returned (.bool true) ∧ ∃ V', Sep B (im g b (cIm m L) :: ri r lb V' (cIm m L) :: X) w' ∧ Below B w w' := by
  have bx : Below w.heap.size w (w.alloc (.cells #[.int .i64 4, .int .i64 lba, .int .i64 nn, .slice ab bl bc, .slice al ll lc] 34)) := (Below.refl _ _).alloc (Nat.le_refl _) _
  have B0 : Blk (w.alloc (.cells #[.int .i64 4, .int .i64 lba, .int .i64 nn, .slice ab bl bc, .slice al ll lc] 34)) w.heap.size 34 [.int .i64 4, .int .i64 lba, .int .i64 nn, .slice ab bl bc, .slice al ll lc] := Blk.new' w _ _
  have x0 := er_at B0 0
  have x1 := er_at B0 1
  have x2 := er_at B0 2
  have x3 := er_at B0 3
  have x4 := er_at B0 4
  simp only [List.getElem?_cons_succ, List.getElem?_cons_zero] at x0 x1 x2 x3 x4
  have hC1 := cargs_later C bx
  have HL : Hid _ := lentC_any al ll lc L _ hL hll hC1
  unfold opV
  go_enter Try.func14, Try.ntmps14
  go_wp2_with fail
  generalize w.alloc (.cells #[.int .i64 4, .int .i64 lba, .int .i64 nn, .slice ab bl bc, .slice al ll lc] 34) = w1 at *
  refine (Calls.mono HL.out) ?_
  rintro e w2 ⟨v, T, rfl, hT, hO, b2⟩
  have hTl : T.length = ll := by rw [← hL, ← hT, List.length_map]
  obtain ⟨va, vc, rfl, hvc, hA⟩ := hO.args (fun p hp => C.each _ (by rw [← hT]; exact List.mem_map_of_mem hp))
  rw [hT] at hA
  have hdT : ∀ p ∈ T, p.1.2.length ≤ 140737488351232 := fun p hp => hd _ (by rw [← hT]; exact List.mem_map_of_mem hp)
  have hkW : w.heap.size ∉ (im g b m).W ∧ w.heap.size ∉ (ri r lb V m).W := ⟨fun e => by have := h.head.lt _ (.inl e); omega, fun e => by have := h.tail.head.lt _ (.inl e); omega⟩
  have hbs := bx.size
  have n1 : ∀ q, w1.heap.size ≤ q → ¬ q ∈ (im g b m).W := fun q hq e => by have := h.head.lt _ (.inl e); omega
  have n2 : ∀ q, w1.heap.size ≤ q → ¬ q ∈ (ri r lb V m).W := fun q hq e => by have := h.tail.head.lt _ (.inl e); omega
  have n3 : ∀ q, w1.heap.size ≤ q → ¬ q ∈ (ri r lb V m).V := fun q hq e => by have := h.tail.head.lt _ (.inr e); omega
  have HXX : Hid _ := (fun (o : Ob) (ho : o ∈ X) (q : Nat) (hq : w1.heap.size ≤ q) => (show q ∉ o.W ∧ q ∉ o.V from ⟨fun e => by have := (h.each o (List.mem_cons_of_mem _ (List.mem_cons_of_mem _ ho))).lt _ (.inl e); omega, fun e => by have := (h.each o (List.mem_cons_of_mem _ (List.mem_cons_of_mem _ ho))).lt _ (.inr e); omega⟩))
  have n4 : ∀ q, w1.heap.size ≤ q → ¬ q ∈ (im g b m).V := fun q hq e => by have := h.head.lt _ (.inr e); omega
  have hb2 := below_then bx b2
  have h2 := (h.later hb2).drew
  have hA2 : CArgs w2.drew va L := cargs_later hA (Below.refl _ _).drew
  have hC2 : CArgs w2.drew al L := cargs_later (cargs_later hC1 b2) (Below.refl _ _).drew
  have hOd : CsOwn w2.drew w1.heap.size (.slice va T.length vc) T := hO.later (Below.refl _ _).drew
  have y4 : w2.cell? ⟨w.heap.size, 4, none⟩ = some (.slice al ll lc) := (World.cell?_of_block (w := w1) (a := ⟨w.heap.size, 4, none⟩) (b2.block _ (cell_lt x4))).trans x4
  have HS : Hid _ := (show w2.drew.cell? ⟨w.heap.size, 4, none⟩ = some (.slice al ll lc) from y4)
  have hlt2 : ∀ p ∈ T, ∀ q, p.2.ownBlock = some q → w1.heap.size ≤ q ∧ q < w2.heap.size := fun p hp q hq => World.ownsRow.lt (hO.each p hp) q hq
  rw [hTl] at hvc
  have HU : Hid _ := And.intro (imChange_ans g b m va ll vc L w2.drew h2.head hw hL hvc (by omega) hA2) (And.intro h2 (And.intro (show Below B w w2.drew from (hb2.mono h.base).drew) (And.intro hC2 (And.intro hA2 hOd))))
  have HP : Hid _ := And.intro hkW.1 (And.intro hkW.2 (And.intro hw (And.intro hL (And.intro (show ll ≤ 140737488355328 by omega) (And.intro n1 (And.intro n2 (And.intro n3 (And.intro n4 (And.intro hdT (And.intro hlt2 (And.intro hO (show B ≤ w1.heap.size from Nat.le_trans h.base hbs))))))))))))
  have HLL : Hid _ := And.intro hTl hll
  rw [hTl]
  clear bx B0 x0 x1 x2 x3 x4 h hkW hbs n1 n2 n3 n4 hb2 h2 hA2 hC2 hOd y4 hlt2 hvc hdT hA hO hT b2 hC1 HL C hw ha hn hd hL
  go_wp2_with fail
  refine e_begin (S := fun W => W.cell? ⟨w.heap.size, 4, none⟩ = some (.slice al ll lc)) 14 (by kernel_rfl) (HS.out) (fun hS => ?_)
  refine e_take (i := 0) (v := ?_) [2, 7, 8, 13, 14] rfl (by kernel_rfl) (by kernel_rfl) (by kernel_rfl) (by kernel_rfl) (by exact fun _ _ _ h => h) (by rfl) ?_ hS ?_
  rotate_left
  · ((intro w hSw; (try dsimp only at hSw); go_simp) <;> with_reducible rfl)
  (try simp only [Act.put, List.setIfInBounds_toArray, List.set_cons_zero, List.set_cons_succ])
  refine e_take (i := 1) (v := ?_) [2, 7, 8, 13, 14] rfl (by kernel_rfl) (by kernel_rfl) (by kernel_rfl) (by kernel_rfl) (by exact fun _ _ _ h => h) (by rfl) ?_ hS ?_
  rotate_left
  · ((intro w hSw; (try dsimp only at hSw); go_simp) <;> with_reducible rfl)
  (try simp only [Act.put, List.setIfInBounds_toArray, List.set_cons_zero, List.set_cons_succ])
  refine e_take (i := 3) (v := ?_) [6, 7, 8, 13, 14] rfl (by kernel_rfl) (by kernel_rfl) (by kernel_rfl) (by kernel_rfl) (by exact fun _ _ _ h => h) (by rfl) ?_ hS ?_
  rotate_left
  · ((intro w hSw; (try dsimp only at hSw); go_simp) <;> with_reducible rfl)
  (try simp only [Act.put, List.setIfInBounds_toArray, List.set_cons_zero, List.set_cons_succ])
  refine e_take (i := 4) (v := ?_) [5, 6, 7, 8, 13, 14] rfl (by kernel_rfl) (by kernel_rfl) (by kernel_rfl) (by kernel_rfl) (by exact fun _ _ _ h => h) (by rfl) ?_ hS ?_
  rotate_left
  · ((intro w hSw; (try dsimp only at hSw); go_simp) <;> with_reducible rfl)
  (try simp only [Act.put, List.setIfInBounds_toArray, List.set_cons_zero, List.set_cons_succ])
  refine e_take (i := 5) (v := ?_) [6, 7, 8, 13, 14] rfl (by kernel_rfl) (by kernel_rfl) (by kernel_rfl) (by kernel_rfl) (by exact fun _ _ _ h => h) (by rfl) ?_ hS ?_
  rotate_left
  · ((intro w hSw; (try dsimp only at hSw); go_simp) <;> with_reducible rfl)
  (try simp only [Act.put, List.setIfInBounds_toArray, List.set_cons_zero, List.set_cons_succ])
  refine e_one (i := 2) rfl (by kernel_rfl) (fun K hK => ?_)
  go_simp
  refine (Calls.mono (HU.out.1)) ?_
  rintro e w3 ⟨rfl, s1⟩
  have hS2 := cell_step s1 hS HP.out.1
  have HV : Hid _ := And.intro (HU.out.2.1.step s1).swap (And.intro (sep_below HU.out.2.1 HU.out.2.2.1 s1) (And.intro (HU.out.2.2.2.1.turned HU.out.2.1.head s1.turned) (And.intro (HU.out.2.2.2.2.1.turned HU.out.2.1.head s1.turned) (And.intro (HU.out.2.2.2.2.2.turned s1.turned (fun q hq => HP.out.2.2.2.2.2.1 q hq)) s1.turned.size))))
  clear s1 hS
  go_wp2_with fail
  refine hK.out _ _ (hS2) (fun hS => ?_)
  clear hK K
  refine e_one (i := 6) rfl (by kernel_rfl) (fun K hK => ?_)
  go_simp
  refine (Calls.mono (riChange_ans r lb V m al ll lc L _ HV.out.1.head HP.out.2.2.1 HP.out.2.2.2.1 HP.out.2.2.2.2.1 HV.out.2.2.1)) ?_
  rintro e w4 ⟨rfl, V', s2⟩
  have hS3 := cell_step s2 hS HP.out.2.1
  have HX : Hid _ := And.intro (HV.out.1.step s2).swap (And.intro (sep_below HV.out.1 HV.out.2.1 s2) (And.intro (cargs_turned HV.out.2.2.1 HV.out.1.head s2.turned) (And.intro (cargs_turned HV.out.2.2.2.1 HV.out.1.head s2.turned) (And.intro (HV.out.2.2.2.2.1.turned s2.turned (fun q hq => HP.out.2.2.2.2.2.2.1 q hq)) (show ∀ q, w1.heap.size ≤ q → q < w2.heap.size → q ∉ (ri r lb V' (cIm m L)).V from fun q hq1 hq2 e => by
    rcases s2.reads q e with e | e | e
    · exact HP.out.2.2.2.2.2.2.1 q hq1 e
    · exact HP.out.2.2.2.2.2.2.2.1 q hq1 e
    · have h1 := HV.out.2.2.2.2.2; have h3 : w2.drew.heap.size = w2.heap.size := rfl; omega)))))
  clear s2 hS hS2
  go_wp2_with fail
  refine hK.out _ _ (hS3) (fun hS => ?_)
  clear hK K
  refine e_take (i := 7) (v := ?_) [8, 13, 14] rfl (by kernel_rfl) (by kernel_rfl) (by kernel_rfl) (by kernel_rfl) (by exact fun _ _ _ h => h) (by rfl) ?_ hS ?_
  rotate_left
  · ((intro w hSw; (try dsimp only at hSw); go_simp) <;> with_reducible rfl)
  (try simp only [Act.put, List.setIfInBounds_toArray, List.set_cons_zero, List.set_cons_succ])
  refine e_take (i := 8) (v := ?_) [13, 14] rfl (by kernel_rfl) (by kernel_rfl) (by kernel_rfl) (by kernel_rfl) (by exact fun _ _ _ h => h) (by rfl) ?_ hS ?_
  rotate_left
  · ((intro w hSw; (try dsimp only at hSw); go_simp) <;> with_reducible rfl)
  (try simp only [Act.put, List.setIfInBounds_toArray, List.set_cons_zero, List.set_cons_succ])
  refine e_take (i := 9) (v := ?_) [12, 13, 14] rfl (by kernel_rfl) (by kernel_rfl) (by kernel_rfl) (by kernel_rfl) (by exact fun _ _ _ h => h) (by rfl) ?_ hS ?_
  rotate_left
  · ((intro w hSw; (try dsimp only at hSw); go_simp) <;> with_reducible rfl)
  (try simp only [Act.put, List.setIfInBounds_toArray, List.set_cons_zero, List.set_cons_succ])
  refine e_take (i := 10) (v := ?_) [11, 12, 13, 14] rfl (by kernel_rfl) (by kernel_rfl) (by kernel_rfl) (by kernel_rfl) (by exact fun _ _ _ h => h) (by rfl) ?_ hS ?_
  rotate_left
  · ((intro w hSw; (try dsimp only at hSw); go_simp) <;> with_reducible rfl)
  (try simp only [Act.put, List.setIfInBounds_toArray, List.set_cons_zero, List.set_cons_succ])
  refine e_take (i := 11) (v := ?_) [12, 13, 14] rfl (by kernel_rfl) (by kernel_rfl) (by kernel_rfl) (by kernel_rfl) (by exact fun _ _ _ h => h) (by rfl) ?_ hS ?_
  rotate_left
  · ((intro w hSw; (try dsimp only at hSw); go_simp) <;> with_reducible rfl)
  (try simp only [Act.put, List.setIfInBounds_toArray, List.set_cons_zero, List.set_cons_succ])
  refine e_one (i := 12) rfl (by kernel_rfl) (fun K hK => ?_)
  go_simp
  refine (Calls.mono (same05_yes va al ll vc lc L w4 HP.out.2.2.2.1 HP.out.2.2.2.2.1 HX.out.2.2.2.1 HX.out.2.2.1)) ?_
  rintro e w5 ⟨rfl, b5⟩
  have hS4 : w5.cell? ⟨w.heap.size, 4, none⟩ = some (.slice al ll lc) := (World.cell?_of_block (w := w4) (a := ⟨w.heap.size, 4, none⟩) (b5.block _ (cell_lt hS))).trans hS
  have HY : Hid _ := And.intro (HX.out.1.later b5) (And.intro (HX.out.2.1.trans (b5.mono HX.out.1.base)) (And.intro (HX.out.2.2.2.2.1.later b5) HX.out.2.2.2.2.2))
  clear b5 hS hS3 HX HV
  go_wp2_with fail
  refine hK.out _ _ (hS4) (fun hS => ?_)
  clear hK K
  refine e_take (i := 13) (v := ?_) [14] rfl (by kernel_rfl) (by kernel_rfl) (by kernel_rfl) (by kernel_rfl) (by exact fun _ _ _ h => h) (by rfl) ?_ hS ?_
  rotate_left
  · ((intro w hSw; (try dsimp only at hSw); go_simp) <;> with_reducible rfl)
  (try simp only [Act.put, List.setIfInBounds_toArray, List.set_cons_zero, List.set_cons_succ])
  clear hS
  refine e_last (z := 14) rfl (by kernel_rfl) (fun K hK => ?_)
  go_simp
  refine hK.out _ _ ?_
  clear hK K
  refine e_done (by kernel_rfl) ?_ _
  have hq : (ll : Int) ≤ 140737488355328 := by have := HLL.out.2; omega
  go_wp2_with fail
  go_loopw [11] (fun p wr => ∃ k : Nat, p = .int .i64 k ∧ k ≤ ll ∧ Sp wr w1.heap.size (.slice va ll vc) T k ∧ Sep B (im g b (cIm m L) :: ri r lb V' (cIm m L) :: X) wr ∧ Below B w wr) (fun p _ => ll - (intOf p).toNat)
  case atStart => exact ⟨0, rfl, Nat.zero_le _, ⟨by have := HY.out.2.2.1.own; rw [HLL.out.1] at this ⊢; exact this, fun i hi _ => HY.out.2.2.1.each _ (List.getElem_mem hi)⟩, HY.out.1, HY.out.2.1⟩
  case round =>
    obtain ⟨k, rfl, hk, hsp, hse, hb⟩ := hrel
    by_cases hlt : k < ll
    · have q1 : (k : Int) < (ll : Int) := by omega
      have hlt3 : k < T.length := by rw [HLL.out.1]; exact hlt
      obtain ⟨vb, hva, hcell⟩ := cs_cell (vc := vc) (va := va) (by have := hsp.1; rw [HLL.out.1] at this ⊢; exact this) k hlt3
      subst hva
      have hmem := List.getElem_mem hlt3
      have HSP : Hid _ := Spoil_own T[k].2 w1.heap.size T[k].1.2 wr (hsp.2 k hlt3 (Nat.le_refl _)) (HP.out.2.2.2.2.2.2.2.2.2.1 _ hmem)
      have HN : Hid _ := And.intro (fun w' (hg : wr.grownBy w' T[k].2.ownBlock) => Sp.step (by have := HP.out.2.2.2.2.2.2.2.2.2.2.2.1; rw [HLL.out.1] at this; exact this) hsp hlt3 hg) (And.intro hse (And.intro hb (HP.out.2.2.2.2.2.2.2.2.2.2.1 _ hmem)))
      obtain ⟨sa, sc, es, -⟩ := (hsp.2 k hlt3 (Nat.le_refl _)).open
      generalize T[k].1.2.length = n9 at es
      clear hsp hse hb hmem
      generalize T[k].2 = sv at *
      subst es
      go_wp2_with fail
      refine (Calls.mono HSP.out) ?_
      rintro e w7 ⟨rfl, g7⟩
      have F : Hid _ := And.intro (HN.out.1 w7 g7) (And.intro (sep_grown HN.out.2.1 g7 (fun q hq o ho => by
        obtain ⟨z1, z2⟩ := HN.out.2.2.2 q hq
        rcases List.mem_cons.1 ho with rfl | ho
        · exact ⟨HP.out.2.2.2.2.2.1 q z1, HP.out.2.2.2.2.2.2.2.2.1 q z1⟩
        rcases List.mem_cons.1 ho with rfl | ho
        · exact ⟨HP.out.2.2.2.2.2.2.1 q z1, HY.out.2.2.2 q z1 z2⟩
        · exact HXX.out o ho q z1)) (HN.out.2.2.1.grown g7 HN.out.2.1.base (fun q hq => Nat.le_trans HP.out.2.2.2.2.2.2.2.2.2.2.2.2 (HN.out.2.2.2 q hq).1)))
      clear g7 HSP HN hcell
      go_wp2
      go_roundw
      case rel => exact ⟨k + 1, by first | rfl | go_num, by omega, F.out.1, F.out.2.1, F.out.2.2⟩
      case measure => simp [intOf]; omega
    · obtain rfl : k = ll := by omega
      have q1 : ¬ ((k : Int) < (k : Int)) := by omega
      have F : Hid _ := And.intro hse hb
      clear hsp hse hb hk hlt
      go_wp2
      go_ret
      exact ⟨rfl, ⟨_, F.out.1⟩, F.out.2⟩
end Go.Proofs.Ytmkacgdbmojomaa

/- extent: a step of both images, whatever call it is. -/
namespace Go.Proofs.Ytmkacgdbmojomaa
open Go.RowKit
set_option linter.unusedVariables false
set_option linter.unusedSimpArgs false
set_option maxRecDepth 8000

/-- a call -/
structure Op5 where
  kd : Int
  lba : Int
  nn : Int
  bs : List (BitVec 8)
  L : List (Int × List (BitVec 8))
/-- the image behind it -/
def st5 (m : Im) (o : Op5) : Im := if o.kd = 0 ∨ o.kd = 1 then wIm m o.lba o.bs else if o.kd = 2 then uIm m o.lba o.nn else if o.kd = 3 ∨ o.kd = 4 then cIm m o.L else m
theorem st5_wf {m : Im} (h : m.Wf) (o : Op5) : (st5 m o).Wf := by
  unfold st5
  split
  · exact wIm_wf h _ _
  · split
    · exact uIm_wf h _ _
    · split
      · exact cIm_wf h _
      · exact h
/-- its parts, as they lie in memory -/
structure OpW (w : World) (o : Op5) (ab : Option Addr) (bc : Nat) (al : Option Addr) (lc : Nat) : Prop where
  kd : I64 o.kd
  lba : I64 o.lba
  nn : I64 o.nn
  bs : Arg 140737488351232 w ab o.bs.length bc o.bs
  cs : CArgs w al o.L
  few : o.L.length * 32 ≤ 140737488355328
  each : ∀ r ∈ o.L, r.2.length ≤ 140737488351232
theorem step_any {X : List Ob} (g b r lb : Nat) (V : List Nat) (m : Im) (o : Op5) (ab : Option Addr) (bc : Nat) (al : Option Addr) (lc : Nat) (B : Nat) (w : World) (h : Sep B (im g b m :: ri r lb V m :: X) w) (hw : m.Wf) (H : OpW w o ab bc al lc) :
    Calls Try.prog 14 #[.pointer (some ⟨g, 0, none⟩), .pointer (some ⟨r, 0, none⟩), opV o.kd o.lba o.nn ab o.bs.length bc al o.L.length lc] w fun e w' => e = .returned (.bool true) ∧ ∃ V', Sep B (im g b (st5 m o) :: ri r lb V' (st5 m o) :: X) w' ∧ Below B w w' := by
  obtain ⟨kd, lba, nn, bs, L⟩ := o
  obtain ⟨h1, h2, h3, h4, h5, h6, h7⟩ := H
  simp only at *
  by_cases k0 : kd = 0
  · subst k0
    rw [show st5 m ⟨0, lba, nn, bs, L⟩ = wIm m lba bs by simp [st5]]
    exact step_w0 g b r lb V m lba nn ab bs.length bc al L.length lc B w h hw h2 h3 bs h4
  by_cases k1 : kd = 1
  · subst k1
    rw [show st5 m ⟨1, lba, nn, bs, L⟩ = wIm m lba bs by simp [st5]]
    exact step_w1 g b r lb V m lba nn ab bs.length bc al L.length lc B w h hw h2 h3 bs h4
  by_cases k2 : kd = 2
  · subst k2
    rw [show st5 m ⟨2, lba, nn, bs, L⟩ = uIm m lba nn by simp [st5]]
    refine (step_u g b r lb V m lba nn ab bs.length bc al L.length lc B w h hw h2 h3).mono ?_
    rintro e w' ⟨e1, e2, e3⟩
    exact ⟨e1, V, e2, e3⟩
  by_cases k3 : kd = 3
  · subst k3
    rw [show st5 m ⟨3, lba, nn, bs, L⟩ = cIm m L by simp [st5]]
    exact step_c3 g b r lb V m lba nn ab bs.length bc al L.length lc B w h hw h2 h3 L rfl h6 h7 h5
  by_cases k4 : kd = 4
  · subst k4
    rw [show st5 m ⟨4, lba, nn, bs, L⟩ = cIm m L by simp [st5]]
    exact step_c4 g b r lb V m lba nn ab bs.length bc al L.length lc B w h hw h2 h3 L rfl h6 h7 h5
  · rw [show st5 m ⟨kd, lba, nn, bs, L⟩ = m by simp [st5, k0, k1, k2, k3, k4]]
    refine (step_o g b r lb V m lba nn ab bs.length bc al L.length lc B w h hw h2 h3 kd ⟨k0, k1, k2, k3, k4⟩).mono ?_
    rintro e w' ⟨e1, e2, e3⟩
    exact ⟨e1, V, e2, e3⟩
/-- several calls, as they lie in memory -/
structure OpAt (w : World) (p off i : Nat) (o : Op5) (ab : Option Addr) (bc : Nat) (al : Option Addr) (lc : Nat) : Prop where
  c0 : w.cell? ⟨p, off + i * 5, none⟩ = some (.int .i64 o.kd)
  c1 : w.cell? ⟨p, off + i * 5 + 1, none⟩ = some (.int .i64 o.lba)
  c2 : w.cell? ⟨p, off + i * 5 + 2, none⟩ = some (.int .i64 o.nn)
  c3 : w.cell? ⟨p, off + i * 5 + 3, none⟩ = some (.slice ab o.bs.length bc)
  c4 : w.cell? ⟨p, off + i * 5 + 4, none⟩ = some (.slice al o.L.length lc)
  parts : OpW w o ab bc al lc
def OArgs (w : World) (a : Option Addr) (l : List Op5) : Prop := l = [] ∨ ∃ p off, a = some ⟨p, off, none⟩ ∧ ∀ i (hi : i < l.length), ∃ ab bc al lc, OpAt w p off i l[i] ab bc al lc
theorem OpAt.later {w w' : World} {p off i : Nat} {o : Op5} {ab : Option Addr} {bc : Nat} {al : Option Addr} {lc : Nat} (h : OpAt w p off i o ab bc al lc) (hb : Below w.heap.size w w') : OpAt w' p off i o ab bc al lc := by
  have f : ∀ j v, w.cell? ⟨p, j, none⟩ = some v → w'.cell? ⟨p, j, none⟩ = some v := fun j v hc => (World.cell?_of_block (w := w) (a := ⟨p, j, none⟩) (hb.block p (cell_lt hc))).trans hc
  obtain ⟨h0, h1, h2, h3, h4, ⟨p1, p2, p3, p4, p5, p6, p7⟩⟩ := h
  exact ⟨f _ _ h0, f _ _ h1, f _ _ h2, f _ _ h3, f _ _ h4, ⟨p1, p2, p3, ⟨p4.len_eq, p4.le, p4.bound, p4.row.later hb, p4.isNil⟩, cargs_later p5 hb, p6, p7⟩⟩
theorem OArgs.later {w w' : World} {a : Option Addr} {l : List Op5} (h : OArgs w a l) (hb : Below w.heap.size w w') : OArgs w' a l := by
  rcases h with h | ⟨p, off, e, h⟩
  · exact .inl h
  · exact .inr ⟨p, off, e, fun i hi => by
      obtain ⟨ab, bc, al, lc, h1⟩ := h i hi
      exact ⟨ab, bc, al, lc, h1.later hb⟩⟩
end Go.Proofs.Ytmkacgdbmojomaa

/- extent: an image behind a script. -/
namespace Go.Proofs.Ytmkacgdbmojomaa
open Go.RowKit
set_option linter.unusedVariables false
set_option linter.unusedSimpArgs false
set_option maxRecDepth 8000

/-- the image behind a script -/
def plM (n : Nat) (l : List Op5) : Im := l.foldl st5 (im0 n)
theorem plM_wf {n : Nat} (h : 1 ≤ n ∧ n ≤ 256) (l : List Op5) : (plM n l).Wf := by
  have h0 : (im0 n).Wf := ⟨h.1, h.2, fun k l hk => by cases hk⟩
  unfold plM
  generalize im0 n = m at h0
  induction l generalizing m with
  | nil => exact h0
  | cons o l ih => exact ih _ (st5_wf h0 o)
theorem plM_snoc (n : Nat) (l : List Op5) (o : Op5) : plM n (l ++ [o]) = st5 (plM n l) o := by unfold plM; rw [List.foldl_append]; rfl
theorem sep_none (w : World) : Sep w.heap.size [] w := ⟨(fun o h => by cases h), (fun o h => by cases h), .nil, Nat.le_refl _⟩
set_option maxHeartbeats 16000000 in
theorem played_any (n : Nat) (hn : 1 ≤ n ∧ n ≤ 256) (a : Option Addr) (len cap : Nat) (l : List Op5) (w : World) (hl : l.length = len) (hlen : len ≤ 140737488355328) (hc : OArgs w a l) :
    Calls Try.prog 22 #[.int .i64 (n : Int), .slice a len cap] w fun e w' => ∃ g b, e = .returned (.pointer (some ⟨g, 0, none⟩)) ∧ Sep w.heap.size [im g b (plM n (l.take 40))] w' ∧ Below w.heap.size w w' := by
  subst hl
  have HC : Hid _ := And.intro hc (And.intro hn hlen)
  have hlI : (l.length : Int) ≤ 140737488355328 := by omega
  clear hc hlen
  go_enter Try.func22, Try.ntmps22
  go_wp2_with fail
  refine (Calls.mono (imNew_yes n w hn)) ?_
  rintro e w1 ⟨g, b, rfl, hg, hb, hok, b1⟩
  have hS1 : Sep w.heap.size [im g b (im0 n)] w1 := (sep_none w).fresh b1 hok (fun k hk => by
    rcases hk with hk | hk
    · rw [show k = b by simpa [im] using hk]; exact hb
    · rw [show k = g by simpa [im] using hk]; exact hg)
  have H1 : Hid _ := And.intro hS1 b1
  clear hS1 b1 hok hg hb
  go_wp2_with fail
  refine (Calls.mono (riNew_yes n w1 hn)) ?_
  rintro e w2 ⟨r, lb, rfl, hok, b2, hr, hlb⟩
  have hS2 : Sep w.heap.size [ri r lb [] (im0 n), im g b (im0 n)] w2 := H1.out.1.fresh b2 hok (fun k hk => by
    rcases hk with hk | hk
    · rw [show k = lb by simpa [ri] using hk]; exact hlb
    · rw [show k = r by simpa [ri] using hk]; exact hr)
  have H2 : Hid _ := And.intro hS2.swap (below_then H1.out.2 b2)
  clear hS2 b2 hok hr hlb H1
  go_wp2_with fail
  go_loopw [9] (fun p wr => ∃ (k : Nat) (V : List Nat), p = .int .i64 k ∧ k ≤ l.length ∧ k ≤ 40 ∧ Sep w.heap.size [im g b (plM n (l.take k)), ri r lb V (plM n (l.take k))] wr ∧ Below w.heap.size w wr) (fun p _ => 40 - (intOf p).toNat)
  case atStart => exact ⟨0, [], rfl, Nat.zero_le _, Nat.zero_le _, H2.out.1, H2.out.2⟩
  case round =>
    obtain ⟨k, V, rfl, hk, hk2, hS, hbl⟩ := hrel
    by_cases hlt : k < l.length
    · have q1 : (k : Int) < (l.length : Int) := by omega
      by_cases hlt2 : k < 40
      · have q2 : (k : Int) < 40 := by omega
        obtain ⟨p, off, rfl, ab, bc, al, lc, hO⟩ : ∃ p off, a = some ⟨p, off, none⟩ ∧ ∃ ab bc al lc, OpAt wr p off k l[k] ab bc al lc := by
          rcases HC.out.1 with e | ⟨p, off, e, h⟩
          · rw [e] at hlt; simp at hlt
          · obtain ⟨ab, bc, al, lc, h1⟩ := h k hlt
            exact ⟨p, off, e, ab, bc, al, lc, h1.later hbl⟩
        have htk : plM n (l.take (k + 1)) = st5 (plM n (l.take k)) l[k] := by rw [← List.take_append_getElem hlt, plM_snoc]
        generalize l[k] = o at *
        obtain ⟨c0, c1, c2, c3, c4, hW⟩ := hO
        have HS : Hid _ := step_any g b r lb V (plM n (l.take k)) o ab bc al lc w.heap.size wr hS (plM_wf HC.out.2.1 _) hW
        unfold opV at HS
        have HT : Hid _ := And.intro htk (And.intro hbl hlt2)
        clear htk hS hbl hW
        go_wp2_with fail
        refine (Calls.mono HS.out) ?_
        rintro e w3 ⟨rfl, V', hS3, hb3⟩
        rw [← HT.out.1] at hS3
        have F : Hid _ := And.intro hS3 (HT.out.2.1.trans hb3)
        clear hS3 hb3 HS c0 c1 c2 c3 c4
        go_wp2
        go_roundw
        case rel => exact ⟨k + 1, V', by first | rfl | go_num, by omega, by omega, F.out.1, F.out.2⟩
        case measure => simp [intOf]; omega
      · obtain rfl : k = 40 := by omega
        have q2 : ¬ ((40 : Int) < 40) := by omega
        have F : Hid _ := And.intro hS hbl
        clear hS hbl
        go_wp2
        go_ret
        exact ⟨g, rfl, ⟨b, ⟨fun o ho => F.out.1.each o (by rw [List.mem_singleton.1 ho]; simp), fun o ho => F.out.1.new o (by rw [List.mem_singleton.1 ho]; simp), List.pairwise_singleton _ _, F.out.1.base⟩⟩, F.out.2⟩
    · obtain rfl : k = l.length := by omega
      have q1 : ¬ ((l.length : Int) < (l.length : Int)) := by omega
      have e40 : l.take 40 = l.take l.length := by rw [List.take_length, List.take_of_length_le hk2]
      have F : Hid _ := And.intro hS (And.intro hbl e40)
      clear hS hbl e40
      go_wp2
      go_ret
      exact ⟨g, rfl, ⟨b, by rw [F.out.2.2]; exact ⟨fun o ho => F.out.1.each o (by rw [List.mem_singleton.1 ho]; simp), fun o ho => F.out.1.new o (by rw [List.mem_singleton.1 ho]; simp), List.pairwise_singleton _ _, F.out.1.base⟩⟩, F.out.2.1⟩
end Go.Proofs.Ytmkacgdbmojomaa
