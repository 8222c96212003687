/- One call of both worlds: Send. -/
import Derived.Test.YtjfodmdijajfbaaWoS1
namespace Go.Proofs.Ytjfodmdijajfbaa
open Go.RowKit
set_option linter.unusedVariables false
set_option maxRecDepth 4000

theorem Sep.rot {B : Nat} {a b c d : Ob} {w : World} (h : Sep B [a, b, c, d] w) : Sep B [b, c, d, a] w := h.perm (List.perm_append_comm (l₁ := [a]) (l₂ := [b, c, d]))
theorem Sep.two {B : Nat} {a b c d : Ob} {w : World} (h : Sep B [a, b, c, d] w) : Sep B [a, b] w :=
  ⟨fun o ho => h.each o (by simp at ho ⊢; rcases ho with e | e <;> simp [e]), fun o ho => h.new o (by simp at ho ⊢; rcases ho with e | e <;> simp [e]), h.pair.sublist (by simp), h.base⟩
/-- a block of which nothing is said -/
def anyOb (k : Nat) : Ob := ⟨[k], [], fun _ => True⟩
theorem own_spoilt {w w' : World} {k : Nat} {v : Value} {base : Nat} {l : List (BitVec 8)} (hv : v.ownBlock = some k) (hk : k < w.heap.size) (hg : w.grownBy w' (some k)) : Step w w' (byOb v base l) (anyOb k) := by
  refine ⟨turned_grown hg (fun j hj => by cases hj; simp [byOb, hv]), ⟨trivial, fun j hj => ?_, fun j _ hj => ?_, fun _ _ _ _ => trivial⟩, fun j hj => .inl ?_, fun j hj => ?_⟩
  · rcases hj with hj | hj
    · rw [List.mem_singleton.1 hj]; exact Nat.lt_of_lt_of_le hk hg.size
    · cases hj
  · cases hj
  · rw [List.mem_singleton.1 hj]; simp [byOb, hv]
  · cases hj
theorem op_cells {w : World} {ob : Nat} {a b c d : Value} (h : Blk w ob 34 [a, b, c, d]) : w.cell? ⟨ob, 1, none⟩ = some b ∧ w.cell? ⟨ob, 2, none⟩ = some c ∧ w.cell? ⟨ob, 3, none⟩ = some d :=
  ⟨h.cell (by simp [maxLen]) 1 (by simp), h.cell (by simp [maxLen]) 2 (by simp), h.cell (by simp [maxLen]) 3 (by simp)⟩
theorem byOb_holds {B : Nat} {v : Value} {base : Nat} {l : List (BitVec 8)} {L : List Ob} {w : World} (h : Sep B (byOb v base l :: L) w) : Own w base v l := h.head.holds
theorem own_row {w : World} {lg n c base : Nat} {l : List (BitVec 8)} (h : Own w base (.slice (some ⟨lg, 0, none⟩) n c) l) : Row w (some ⟨lg, 0, none⟩) l := by
  obtain ⟨a', c', hv, -, -, hr, -, -⟩ := h.open
  simp only [Value.slice.injEq] at hv
  obtain ⟨rfl, -, rfl⟩ := hv
  exact hr
theorem Spoil_own8 (lg n c : Nat) {base : Nat} (l : List (BitVec 8)) (w : World) (h : Own w base (.slice (some ⟨lg, 0, none⟩) (n + 1) c) (l ++ [167#8])) (hc : n + 1 ≤ c) (hm : n ≤ 140737488351232) :
    Calls Try.prog 36 #[.slice (some ⟨lg, 0, none⟩) n c] w fun e w' => e = .returned (.tuple #[]) ∧ w.grownBy w' (some lg) := by
  obtain ⟨h1, h2 | ⟨g, cap, cur, hv, hb, hh, hcc, hmx, hs, ht⟩⟩ := h
  · obtain ⟨h3, _⟩ := h2; cases h3
  · simp only [Value.slice.injEq, Option.some.injEq, Addr.mk.injEq] at hv
    obtain ⟨⟨rfl, -, -⟩, -, rfl⟩ := hv
    exact Spoil_some lg 0 n c 5 cur.toList w (by unfold Blk; simpa using hh) (by simp; omega) (by simp; omega) (by omega) hm
set_option maxHeartbeats 4000000 in
theorem st_send0 (B g g' : Nat) (p p' : Wp) (m : Wm) (F N : Int) (xa : Option Addr) (xl xc : Nat) (l : List (BitVec 8)) (W : World) (h : Both B g g' p p' m W) (hw : m.Wf) (hF : I64 F) (hN : I64 N) (hl : l.length = xl) (hlc : xl ≤ xc) (hcb : xc ≤ 140737488351232) (hnn : xa = none → xc = 0) (hrow : ∀ X, Below B W X → Row X xa l) :
    Calls Try.prog 12 #[.pointer (some ⟨g, 0, none⟩), .pointer (some ⟨g', 0, none⟩), .agg #[.int .i64 0, .int .i64 F, .int .i64 N, .slice xa xl xc]] W (After B g g' (m.send F N l) W) := by
  have h0 := both_box h [.int .i64 0, .int .i64 F, .int .i64 N, .slice xa xl xc]
  have BO := h0.opAt
  have x0 := BO.cell (by simp [maxLen]) 0 (by simp)
  have x3 := BO.cell (by simp [maxLen]) 3 (by simp)
  simp only [List.getElem?_cons_succ, List.getElem?_cons_zero] at x0 x3
  have b0 : Below B W (W.alloc (.cells #[.int .i64 0, .int .i64 F, .int .i64 N, .slice xa xl xc] 34)) := (Below.refl _ _).alloc h.base _
  have HL : Hid _ := Lent_any xa xl xc l _ ⟨hl, hlc, hcb, hrow _ b0, hnn⟩
  have HC1 : Hid _ := fun (X : World) (hX : (wo g p m).Ok X) (a : Option Addr) (c : Nat) (hc : xl ≤ c) (hr : Row X a l) (hn : a = none → c = 0) => woSend_any g p m F N a xl c l X hX hw hF hN hl hc hr hn
  have HC2 : Hid _ := fun (X : World) (hX : (rw8 g' p' m).Ok X) (hr : Row X xa l) => rwSend_any g' p' m F N xa xl xc l X hX hw hF hN hl hlc hr hnn
  have HK : Hid _ := And.intro h0 (And.intro b0 (And.intro hrow hl))
  have hxl : xl ≤ 140737488351232 := by omega
  clear h h0 b0 BO hw hrow hl
  go_enter Try.func12, Try.ntmps12
  go_wp2_with fail
  generalize W.alloc (.cells #[.int .i64 0, .int .i64 F, .int .i64 N, .slice xa xl xc] 34) = wk at *
  generalize W.heap.size = ob at *
  refine (Calls.mono HL.out) ?_
  rintro e wl ⟨lg, lc, rfl, ho, hlg, hlc1, hlc2, bl⟩
  obtain ⟨h0, b0, hrow, hl⟩ := HK.out
  have hbs := h0.base
  have h1 : Sep B [byOb (.slice (some ⟨lg, 0, none⟩) (xl + 1) lc) wk.heap.size (l ++ [167#8]), wo g p m, rw8 g' p' m, opOb ob [.int .i64 0, .int .i64 F, .int .i64 N, .slice xa xl xc]] wl :=
    Sep.fresh h0 bl (byOb_ok ho) (fun k hk => by rcases hk with hk | hk; simp [byOb, Value.ownBlock] at hk; omega; cases hk)
  have hB1 : Below B W wl.drew := (b0.trans (bl.mono hbs)).drew
  have BOl : Blk wl ob 34 [.int .i64 0, .int .i64 F, .int .i64 N, .slice xa xl xc] := (h1.each (opOb ob [.int .i64 0, .int .i64 F, .int .i64 N, .slice xa xl xc]) (by simp)).holds
  have Sd : wl.drew.cell? ⟨ob, 1, none⟩ = some (.int .i64 F) ∧ wl.drew.cell? ⟨ob, 2, none⟩ = some (.int .i64 N) ∧ wl.drew.cell? ⟨ob, 3, none⟩ = some (.slice xa xl xc) := ⟨BOl.cell (by simp [maxLen]) 1 (by simp), BOl.cell (by simp [maxLen]) 2 (by simp), BOl.cell (by simp [maxLen]) 3 (by simp)⟩
  have hrl : Row wl.drew (some ⟨lg, 0, none⟩) l := by
    obtain ⟨a', c', hv, -, -, hr, -, -⟩ := ho.open
    simp only [Value.slice.injEq] at hv
    obtain ⟨rfl, -, rfl⟩ := hv
    rcases hr with h0 | ⟨b', o', hb', hc'⟩
    · simp at h0
    · cases hb'
      exact .inr ⟨lg, 0, rfl, fun i hi => by
        have := hc' i (by simp; omega)
        refine this.trans ?_
        unfold bt
        rw [List.getD, List.getD, List.getElem?_append_left hi]⟩
  have K1 : Hid _ := And.intro h1.drew.rot (And.intro hB1 (And.intro hrl (And.intro hrow hl)))
  have hlg1 : lg < wl.heap.size := (World.ownsRow.lt ho lg rfl).2
  clear h0 b0 hrow hl h1 hB1 BOl hrl ho HK HL bl x0 x3 hbs
  go_wp2_with fail
  go_region_held_law (fun X => X.cell? ⟨ob, 1, none⟩ = some (.int .i64 F) ∧ X.cell? ⟨ob, 2, none⟩ = some (.int .i64 N) ∧ X.cell? ⟨ob, 3, none⟩ = some (.slice xa xl xc)) (first | exact Sd | assumption)
    (first
      | (go_at_call 15; refine (Calls.mono (HC1.out _ K1.out.1.head (some ⟨lg, 0, none⟩) lc (by omega) K1.out.2.2.1 (fun e => by cases e))) ?_; rintro e w1 ⟨p1, rfl, s1⟩; have H1 : Hid _ := And.intro (K1.out.1.step s1).rot (K1.out.2.1.trans (K1.out.1.below s1)); have S1 : w1.cell? ⟨ob, 1, none⟩ = some (.int .i64 F) ∧ w1.cell? ⟨ob, 2, none⟩ = some (.int .i64 N) ∧ w1.cell? ⟨ob, 3, none⟩ = some (.slice xa xl xc) := op_cells (H1.out.1.each (opOb ob [.int .i64 0, .int .i64 F, .int .i64 N, .slice xa xl xc]) (by simp)).holds; clear s1)
      | (go_at_call 52; refine (Calls.mono (HC2.out _ H1.out.1.head (K1.out.2.2.2.1 _ H1.out.2))) ?_; rintro e w2 ⟨p2, rfl, s2⟩; have H2 : Hid _ := And.intro (H1.out.1.step s2).rot.rot (H1.out.2.trans (H1.out.1.below s2)); have S2 : w2.cell? ⟨ob, 1, none⟩ = some (.int .i64 F) ∧ w2.cell? ⟨ob, 2, none⟩ = some (.int .i64 N) ∧ w2.cell? ⟨ob, 3, none⟩ = some (.slice xa xl xc) := op_cells (H2.out.1.each (opOb ob [.int .i64 0, .int .i64 F, .int .i64 N, .slice xa xl xc]) (by simp)).holds; clear s2)
      | (go_at_call 35; refine (Kept_yes lg xl lc xa xc l w2 K1.out.2.2.2.2 hlc1 hxl (own_row (byOb_holds H2.out.1)) (K1.out.2.2.2.1 _ H2.out.2)).mono ?_; rintro e w3 ⟨rfl, hw3⟩; obtain rfl := hw3))
  all_goals
    have hso := Spoil_own8 lg xl lc l w3 (byOb_holds H2.out.1) hlc1 hxl
    have HSo : Hid _ := hso
    clear hso
    go_wp2_with fail
    refine (Calls.mono HSo.out) ?_
    rintro e w4 ⟨rfl, hg4⟩
    have st := own_spoilt (v := .slice (some ⟨lg, 0, none⟩) (xl + 1) lc) (base := wk.heap.size) (l := l ++ [167#8]) rfl (World.ownsRow.lt (byOb_holds H2.out.1) lg rfl).2 hg4
    have F : Hid _ := And.intro (H2.out.1.step st).rot.two (H2.out.2.trans (H2.out.1.below st))
    clear st hg4 HSo
    go_wp2
    go_ret
    exact ⟨ret_bool (by simp), _, _, F.out.1, F.out.2⟩
set_option maxHeartbeats 4000000 in
theorem st_send1 (B g g' : Nat) (p p' : Wp) (m : Wm) (F N : Int) (xa : Option Addr) (xl xc : Nat) (l : List (BitVec 8)) (W : World) (h : Both B g g' p p' m W) (hw : m.Wf) (hF : I64 F) (hN : I64 N) (hl : l.length = xl) (hlc : xl ≤ xc) (hcb : xc ≤ 140737488351232) (hnn : xa = none → xc = 0) (hrow : ∀ X, Below B W X → Row X xa l) :
    Calls Try.prog 12 #[.pointer (some ⟨g, 0, none⟩), .pointer (some ⟨g', 0, none⟩), .agg #[.int .i64 1, .int .i64 F, .int .i64 N, .slice xa xl xc]] W (After B g g' (m.send F N l) W) := by
  have h0 := both_box h [.int .i64 1, .int .i64 F, .int .i64 N, .slice xa xl xc]
  have BO := h0.opAt
  have x0 := BO.cell (by simp [maxLen]) 0 (by simp)
  have x3 := BO.cell (by simp [maxLen]) 3 (by simp)
  simp only [List.getElem?_cons_succ, List.getElem?_cons_zero] at x0 x3
  have b0 : Below B W (W.alloc (.cells #[.int .i64 1, .int .i64 F, .int .i64 N, .slice xa xl xc] 34)) := (Below.refl _ _).alloc h.base _
  have HL : Hid _ := Lent_any xa xl xc l _ ⟨hl, hlc, hcb, hrow _ b0, hnn⟩
  have HC1 : Hid _ := fun (X : World) (hX : (wo g p m).Ok X) (a : Option Addr) (c : Nat) (hc : xl ≤ c) (hr : Row X a l) (hn : a = none → c = 0) => woSend_any g p m F N a xl c l X hX hw hF hN hl hc hr hn
  have HC2 : Hid _ := fun (X : World) (hX : (rw8 g' p' m).Ok X) (hr : Row X xa l) => rwSend_any g' p' m F N xa xl xc l X hX hw hF hN hl hlc hr hnn
  have HK : Hid _ := And.intro h0 (And.intro b0 (And.intro hrow hl))
  have hxl : xl ≤ 140737488351232 := by omega
  clear h h0 b0 BO hw hrow hl
  go_enter Try.func12, Try.ntmps12
  go_wp2_with fail
  generalize W.alloc (.cells #[.int .i64 1, .int .i64 F, .int .i64 N, .slice xa xl xc] 34) = wk at *
  generalize W.heap.size = ob at *
  refine (Calls.mono HL.out) ?_
  rintro e wl ⟨lg, lc, rfl, ho, hlg, hlc1, hlc2, bl⟩
  obtain ⟨h0, b0, hrow, hl⟩ := HK.out
  have hbs := h0.base
  have h1 : Sep B [byOb (.slice (some ⟨lg, 0, none⟩) (xl + 1) lc) wk.heap.size (l ++ [167#8]), wo g p m, rw8 g' p' m, opOb ob [.int .i64 1, .int .i64 F, .int .i64 N, .slice xa xl xc]] wl :=
    Sep.fresh h0 bl (byOb_ok ho) (fun k hk => by rcases hk with hk | hk; simp [byOb, Value.ownBlock] at hk; omega; cases hk)
  have hB1 : Below B W wl.drew := (b0.trans (bl.mono hbs)).drew
  have BOl : Blk wl ob 34 [.int .i64 1, .int .i64 F, .int .i64 N, .slice xa xl xc] := (h1.each (opOb ob [.int .i64 1, .int .i64 F, .int .i64 N, .slice xa xl xc]) (by simp)).holds
  have Sd : wl.drew.cell? ⟨ob, 1, none⟩ = some (.int .i64 F) ∧ wl.drew.cell? ⟨ob, 2, none⟩ = some (.int .i64 N) ∧ wl.drew.cell? ⟨ob, 3, none⟩ = some (.slice xa xl xc) := ⟨BOl.cell (by simp [maxLen]) 1 (by simp), BOl.cell (by simp [maxLen]) 2 (by simp), BOl.cell (by simp [maxLen]) 3 (by simp)⟩
  have hrl : Row wl.drew (some ⟨lg, 0, none⟩) l := by
    obtain ⟨a', c', hv, -, -, hr, -, -⟩ := ho.open
    simp only [Value.slice.injEq] at hv
    obtain ⟨rfl, -, rfl⟩ := hv
    rcases hr with h0 | ⟨b', o', hb', hc'⟩
    · simp at h0
    · cases hb'
      exact .inr ⟨lg, 0, rfl, fun i hi => by
        have := hc' i (by simp; omega)
        refine this.trans ?_
        unfold bt
        rw [List.getD, List.getD, List.getElem?_append_left hi]⟩
  have K1 : Hid _ := And.intro h1.drew.rot (And.intro hB1 (And.intro hrl (And.intro hrow hl)))
  have hlg1 : lg < wl.heap.size := (World.ownsRow.lt ho lg rfl).2
  clear h0 b0 hrow hl h1 hB1 BOl hrl ho HK HL bl x0 x3 hbs
  go_wp2_with fail
  go_region_held_law (fun X => X.cell? ⟨ob, 1, none⟩ = some (.int .i64 F) ∧ X.cell? ⟨ob, 2, none⟩ = some (.int .i64 N) ∧ X.cell? ⟨ob, 3, none⟩ = some (.slice xa xl xc)) (first | exact Sd | assumption)
    (first
      | (go_at_call 15; refine (Calls.mono (HC1.out _ K1.out.1.head (some ⟨lg, 0, none⟩) lc (by omega) K1.out.2.2.1 (fun e => by cases e))) ?_; rintro e w1 ⟨p1, rfl, s1⟩; have H1 : Hid _ := And.intro (K1.out.1.step s1).rot (K1.out.2.1.trans (K1.out.1.below s1)); have S1 : w1.cell? ⟨ob, 1, none⟩ = some (.int .i64 F) ∧ w1.cell? ⟨ob, 2, none⟩ = some (.int .i64 N) ∧ w1.cell? ⟨ob, 3, none⟩ = some (.slice xa xl xc) := op_cells (H1.out.1.each (opOb ob [.int .i64 1, .int .i64 F, .int .i64 N, .slice xa xl xc]) (by simp)).holds; clear s1)
      | (go_at_call 52; refine (Calls.mono (HC2.out _ H1.out.1.head (K1.out.2.2.2.1 _ H1.out.2))) ?_; rintro e w2 ⟨p2, rfl, s2⟩; have H2 : Hid _ := And.intro (H1.out.1.step s2).rot.rot (H1.out.2.trans (H1.out.1.below s2)); have S2 : w2.cell? ⟨ob, 1, none⟩ = some (.int .i64 F) ∧ w2.cell? ⟨ob, 2, none⟩ = some (.int .i64 N) ∧ w2.cell? ⟨ob, 3, none⟩ = some (.slice xa xl xc) := op_cells (H2.out.1.each (opOb ob [.int .i64 1, .int .i64 F, .int .i64 N, .slice xa xl xc]) (by simp)).holds; clear s2)
      | (go_at_call 35; refine (Kept_yes lg xl lc xa xc l w2 K1.out.2.2.2.2 hlc1 hxl (own_row (byOb_holds H2.out.1)) (K1.out.2.2.2.1 _ H2.out.2)).mono ?_; rintro e w3 ⟨rfl, hw3⟩; obtain rfl := hw3))
  all_goals
    have hso := Spoil_own8 lg xl lc l w3 (byOb_holds H2.out.1) hlc1 hxl
    have HSo : Hid _ := hso
    clear hso
    go_wp2_with fail
    refine (Calls.mono HSo.out) ?_
    rintro e w4 ⟨rfl, hg4⟩
    have st := own_spoilt (v := .slice (some ⟨lg, 0, none⟩) (xl + 1) lc) (base := wk.heap.size) (l := l ++ [167#8]) rfl (World.ownsRow.lt (byOb_holds H2.out.1) lg rfl).2 hg4
    have F : Hid _ := And.intro (H2.out.1.step st).rot.two (H2.out.2.trans (H2.out.1.below st))
    clear st hg4 HSo
    go_wp2
    go_ret
    exact ⟨ret_bool (by simp), _, _, F.out.1, F.out.2⟩
set_option maxHeartbeats 4000000 in
theorem st_send2 (B g g' : Nat) (p p' : Wp) (m : Wm) (F N : Int) (xa : Option Addr) (xl xc : Nat) (l : List (BitVec 8)) (W : World) (h : Both B g g' p p' m W) (hw : m.Wf) (hF : I64 F) (hN : I64 N) (hl : l.length = xl) (hlc : xl ≤ xc) (hcb : xc ≤ 140737488351232) (hnn : xa = none → xc = 0) (hrow : ∀ X, Below B W X → Row X xa l) :
    Calls Try.prog 12 #[.pointer (some ⟨g, 0, none⟩), .pointer (some ⟨g', 0, none⟩), .agg #[.int .i64 2, .int .i64 F, .int .i64 N, .slice xa xl xc]] W (After B g g' (m.send F N l) W) := by
  have h0 := both_box h [.int .i64 2, .int .i64 F, .int .i64 N, .slice xa xl xc]
  have BO := h0.opAt
  have x0 := BO.cell (by simp [maxLen]) 0 (by simp)
  have x3 := BO.cell (by simp [maxLen]) 3 (by simp)
  simp only [List.getElem?_cons_succ, List.getElem?_cons_zero] at x0 x3
  have b0 : Below B W (W.alloc (.cells #[.int .i64 2, .int .i64 F, .int .i64 N, .slice xa xl xc] 34)) := (Below.refl _ _).alloc h.base _
  have HL : Hid _ := Lent_any xa xl xc l _ ⟨hl, hlc, hcb, hrow _ b0, hnn⟩
  have HC1 : Hid _ := fun (X : World) (hX : (wo g p m).Ok X) (a : Option Addr) (c : Nat) (hc : xl ≤ c) (hr : Row X a l) (hn : a = none → c = 0) => woSend_any g p m F N a xl c l X hX hw hF hN hl hc hr hn
  have HC2 : Hid _ := fun (X : World) (hX : (rw8 g' p' m).Ok X) (hr : Row X xa l) => rwSend_any g' p' m F N xa xl xc l X hX hw hF hN hl hlc hr hnn
  have HK : Hid _ := And.intro h0 (And.intro b0 (And.intro hrow hl))
  have hxl : xl ≤ 140737488351232 := by omega
  clear h h0 b0 BO hw hrow hl
  go_enter Try.func12, Try.ntmps12
  go_wp2_with fail
  generalize W.alloc (.cells #[.int .i64 2, .int .i64 F, .int .i64 N, .slice xa xl xc] 34) = wk at *
  generalize W.heap.size = ob at *
  refine (Calls.mono HL.out) ?_
  rintro e wl ⟨lg, lc, rfl, ho, hlg, hlc1, hlc2, bl⟩
  obtain ⟨h0, b0, hrow, hl⟩ := HK.out
  have hbs := h0.base
  have h1 : Sep B [byOb (.slice (some ⟨lg, 0, none⟩) (xl + 1) lc) wk.heap.size (l ++ [167#8]), wo g p m, rw8 g' p' m, opOb ob [.int .i64 2, .int .i64 F, .int .i64 N, .slice xa xl xc]] wl :=
    Sep.fresh h0 bl (byOb_ok ho) (fun k hk => by rcases hk with hk | hk; simp [byOb, Value.ownBlock] at hk; omega; cases hk)
  have hB1 : Below B W wl.drew := (b0.trans (bl.mono hbs)).drew
  have BOl : Blk wl ob 34 [.int .i64 2, .int .i64 F, .int .i64 N, .slice xa xl xc] := (h1.each (opOb ob [.int .i64 2, .int .i64 F, .int .i64 N, .slice xa xl xc]) (by simp)).holds
  have Sd : wl.drew.cell? ⟨ob, 1, none⟩ = some (.int .i64 F) ∧ wl.drew.cell? ⟨ob, 2, none⟩ = some (.int .i64 N) ∧ wl.drew.cell? ⟨ob, 3, none⟩ = some (.slice xa xl xc) := ⟨BOl.cell (by simp [maxLen]) 1 (by simp), BOl.cell (by simp [maxLen]) 2 (by simp), BOl.cell (by simp [maxLen]) 3 (by simp)⟩
  have hrl : Row wl.drew (some ⟨lg, 0, none⟩) l := by
    obtain ⟨a', c', hv, -, -, hr, -, -⟩ := ho.open
    simp only [Value.slice.injEq] at hv
    obtain ⟨rfl, -, rfl⟩ := hv
    rcases hr with h0 | ⟨b', o', hb', hc'⟩
    · simp at h0
    · cases hb'
      exact .inr ⟨lg, 0, rfl, fun i hi => by
        have := hc' i (by simp; omega)
        refine this.trans ?_
        unfold bt
        rw [List.getD, List.getD, List.getElem?_append_left hi]⟩
  have K1 : Hid _ := And.intro h1.drew.rot (And.intro hB1 (And.intro hrl (And.intro hrow hl)))
  have hlg1 : lg < wl.heap.size := (World.ownsRow.lt ho lg rfl).2
  clear h0 b0 hrow hl h1 hB1 BOl hrl ho HK HL bl x0 x3 hbs
  go_wp2_with fail
  go_region_held_law (fun X => X.cell? ⟨ob, 1, none⟩ = some (.int .i64 F) ∧ X.cell? ⟨ob, 2, none⟩ = some (.int .i64 N) ∧ X.cell? ⟨ob, 3, none⟩ = some (.slice xa xl xc)) (first | exact Sd | assumption)
    (first
      | (go_at_call 15; refine (Calls.mono (HC1.out _ K1.out.1.head (some ⟨lg, 0, none⟩) lc (by omega) K1.out.2.2.1 (fun e => by cases e))) ?_; rintro e w1 ⟨p1, rfl, s1⟩; have H1 : Hid _ := And.intro (K1.out.1.step s1).rot (K1.out.2.1.trans (K1.out.1.below s1)); have S1 : w1.cell? ⟨ob, 1, none⟩ = some (.int .i64 F) ∧ w1.cell? ⟨ob, 2, none⟩ = some (.int .i64 N) ∧ w1.cell? ⟨ob, 3, none⟩ = some (.slice xa xl xc) := op_cells (H1.out.1.each (opOb ob [.int .i64 2, .int .i64 F, .int .i64 N, .slice xa xl xc]) (by simp)).holds; clear s1)
      | (go_at_call 52; refine (Calls.mono (HC2.out _ H1.out.1.head (K1.out.2.2.2.1 _ H1.out.2))) ?_; rintro e w2 ⟨p2, rfl, s2⟩; have H2 : Hid _ := And.intro (H1.out.1.step s2).rot.rot (H1.out.2.trans (H1.out.1.below s2)); have S2 : w2.cell? ⟨ob, 1, none⟩ = some (.int .i64 F) ∧ w2.cell? ⟨ob, 2, none⟩ = some (.int .i64 N) ∧ w2.cell? ⟨ob, 3, none⟩ = some (.slice xa xl xc) := op_cells (H2.out.1.each (opOb ob [.int .i64 2, .int .i64 F, .int .i64 N, .slice xa xl xc]) (by simp)).holds; clear s2)
      | (go_at_call 35; refine (Kept_yes lg xl lc xa xc l w2 K1.out.2.2.2.2 hlc1 hxl (own_row (byOb_holds H2.out.1)) (K1.out.2.2.2.1 _ H2.out.2)).mono ?_; rintro e w3 ⟨rfl, hw3⟩; obtain rfl := hw3))
  all_goals
    have hso := Spoil_own8 lg xl lc l w3 (byOb_holds H2.out.1) hlc1 hxl
    have HSo : Hid _ := hso
    clear hso
    go_wp2_with fail
    refine (Calls.mono HSo.out) ?_
    rintro e w4 ⟨rfl, hg4⟩
    have st := own_spoilt (v := .slice (some ⟨lg, 0, none⟩) (xl + 1) lc) (base := wk.heap.size) (l := l ++ [167#8]) rfl (World.ownsRow.lt (byOb_holds H2.out.1) lg rfl).2 hg4
    have F : Hid _ := And.intro (H2.out.1.step st).rot.two (H2.out.2.trans (H2.out.1.below st))
    clear st hg4 HSo
    go_wp2
    go_ret
    exact ⟨ret_bool (by simp), _, _, F.out.1, F.out.2⟩
end Go.Proofs.Ytjfodmdijajfbaa
