/- One call of both worlds: Drop, Double, Cut, Tick, nothing. -/
import Derived.Test.YtjfodmdijajfbaaWo14
import Derived.Test.YtjfodmdijajfbaaWoR4
namespace Go.Proofs.Ytjfodmdijajfbaa
open Go.RowKit
set_option linter.unusedVariables false
set_option maxRecDepth 4000

/-- a call that came in, in a variable of its own -/
def opOb (ob : Nat) (xs : List Value) : Ob := ⟨[], [ob], fun w => Blk w ob 34 xs⟩
theorem opOb_ok {w : World} {ob : Nat} {xs : List Value} (h : Blk w ob 34 xs) : (opOb ob xs).Ok w :=
  ⟨h, fun k hk => by rcases hk with hk | hk; cases hk; rw [List.mem_singleton.1 hk]; exact h.lt, (fun k hk => by cases hk), fun w1 w2 hs h => by
    show w2.heap[ob]? = _
    rw [hs ob (.inr (by simp [opOb]))]; exact h⟩
theorem step_same {o : Ob} {w w' : World} (h : o.Ok w) (e : w = w') : Step w w' o o := e ▸ Step.refl h
def dblE (m : Wm) : Int := if m.fl.length < 10000 then 0 else 4
def dblM (m : Wm) (k : Nat) : Wm := if m.fl.length < 10000 then m.twice k else m
/-- the two worlds -/
abbrev Both (B : Nat) (g g' : Nat) (p p' : Wp) (m : Wm) (W : World) : Prop := Sep B [wo g p m, rw8 g' p' m] W
/-- what a call of both leaves -/
def After (B : Nat) (g g' : Nat) (m1 : Wm) (W : World) (e : Ending) (W1 : World) : Prop := e = .returned (.bool true) ∧ ∃ p1 p1', Both B g g' p1 p1' m1 W1 ∧ Below B W W1
theorem Sep.drop3 {B : Nat} {a b c : Ob} {w : World} (h : Sep B [a, b, c] w) : Sep B [a, b] w :=
  ⟨fun o ho => h.each o (by simp at ho ⊢; rcases ho with e | e <;> simp [e]), fun o ho => h.new o (by simp at ho ⊢; rcases ho with e | e <;> simp [e]), h.pair.sublist (by simp), h.base⟩
theorem Sep.opAt {B : Nat} {a b : Ob} {ob : Nat} {xs : List Value} {w : World} (h : Sep B [a, b, opOb ob xs] w) : Blk w ob 34 xs := (h.each (opOb ob xs) (by simp)).holds
/-- the call in its variable, beside the two worlds -/
theorem both_box {B g g' : Nat} {p p' : Wp} {m : Wm} {W : World} (h : Both B g g' p p' m W) (xs : List Value) : Sep B [wo g p m, rw8 g' p' m, opOb W.heap.size xs] (W.alloc (.cells xs.toArray 34)) := by
  have b0 : Below W.heap.size W (W.alloc (.cells xs.toArray 34)) := (Below.refl _ _).alloc (Nat.le_refl _) _
  have h1 : Sep B [opOb W.heap.size xs, wo g p m, rw8 g' p' m] (W.alloc (.cells xs.toArray 34)) := Sep.fresh h b0 (opOb_ok (Blk.new' W _ xs)) (fun k hk => by rcases hk with hk | hk; cases hk; rw [List.mem_singleton.1 hk]; exact Nat.le_refl _)
  exact h1.perm (List.Perm.trans (List.Perm.swap _ _ _) (List.Perm.cons _ (List.Perm.swap _ _ _)))
set_option maxHeartbeats 2000000 in
theorem st_cut (B g g' : Nat) (p p' : Wp) (m : Wm) (F N : Int) (xa : Option Addr) (xl xc : Nat) (W : World) (h : Both B g g' p p' m W) (hw : m.Wf) (hN : I64 N) :
    Calls Try.prog 12 #[.pointer (some ⟨g, 0, none⟩), .pointer (some ⟨g', 0, none⟩), .agg #[.int .i64 7, .int .i64 F, .int .i64 N, .slice xa xl xc]] W (After B g g' (m.cutTo N) W) := by
  have h0 := both_box h [.int .i64 7, .int .i64 F, .int .i64 N, .slice xa xl xc]
  have BO := h0.opAt
  have x0 := BO.cell (by simp [maxLen]) 0 (by simp)
  have x2 := BO.cell (by simp [maxLen]) 2 (by simp)
  simp only [List.getElem?_cons_succ, List.getElem?_cons_zero] at x0 x2
  have b0 : Below B W (W.alloc (.cells #[.int .i64 7, .int .i64 F, .int .i64 N, .slice xa xl xc] 34)).drew := (((Below.refl _ _).alloc h.base _)).drew
  have HC1 : Hid _ := fun (X : World) (hX : (wo g p m).Ok X) => woCut_any g p m N X hX hw hN
  have HC2 : Hid _ := fun (X : World) (hX : (rw8 g' p' m).Ok X) => rwCut_any g' p' m N X hX hw hN
  have HK : Hid _ := And.intro h0.drew b0
  clear h h0 b0 BO hw 
  go_enter Try.func12, Try.ntmps12
  go_wp2_with fail
  generalize W.alloc (.cells #[.int .i64 7, .int .i64 F, .int .i64 N, .slice xa xl xc] 34) = wk at *
  generalize W.heap.size = ob at *
  have Sd : wk.drew.cell? ⟨ob, 2, none⟩ = some (.int .i64 N) := x2
  clear x0 x2
  go_region_held_law (fun X => X.cell? ⟨ob, 2, none⟩ = some (.int .i64 N)) (first | exact Sd | assumption)
    (first
      | (go_at_call 21; refine (Calls.mono (HC1.out _ HK.out.1.head)) ?_; rintro e w1 ⟨rfl, s1⟩; have H1 : Hid _ := And.intro (HK.out.1.step s1).swap (HK.out.2.trans (HK.out.1.below s1)); have S1 : w1.cell? ⟨ob, 2, none⟩ = some (.int .i64 N) := (HK.out.1.step s1).opAt.cell (by simp [maxLen]) 2 (by simp); clear s1)
      | (go_at_call 56; refine (Calls.mono (HC2.out _ H1.out.1.head)) ?_; rintro e w2 ⟨rfl, s2⟩; have H2 : Hid _ := And.intro (H1.out.1.step s2).swap (H1.out.2.trans (H1.out.1.below s2)); have S2 : w2.cell? ⟨ob, 2, none⟩ = some (.int .i64 N) := (H1.out.1.step s2).opAt.cell (by simp [maxLen]) 2 (by simp); clear s2))
  all_goals
    go_wp2
    go_ret
    exact ⟨ret_bool (by simp), _, _, H2.out.1.drop3, H2.out.2⟩
set_option maxHeartbeats 2000000 in
theorem st_tick8 (B g g' : Nat) (p p' : Wp) (m : Wm) (F N : Int) (xa : Option Addr) (xl xc : Nat) (W : World) (h : Both B g g' p p' m W) (hw : m.Wf) (hN : I64 N) :
    Calls Try.prog 12 #[.pointer (some ⟨g, 0, none⟩), .pointer (some ⟨g', 0, none⟩), .agg #[.int .i64 8, .int .i64 F, .int .i64 N, .slice xa xl xc]] W (After B g g' (m.tick N) W) := by
  have h0 := both_box h [.int .i64 8, .int .i64 F, .int .i64 N, .slice xa xl xc]
  have BO := h0.opAt
  have x0 := BO.cell (by simp [maxLen]) 0 (by simp)
  have x2 := BO.cell (by simp [maxLen]) 2 (by simp)
  simp only [List.getElem?_cons_succ, List.getElem?_cons_zero] at x0 x2
  have b0 : Below B W (W.alloc (.cells #[.int .i64 8, .int .i64 F, .int .i64 N, .slice xa xl xc] 34)).drew := (((Below.refl _ _).alloc h.base _)).drew
  have HC1 : Hid _ := fun (X : World) (hX : (wo g p m).Ok X) => woTick_any g p m N X hX hw hN
  have HC2 : Hid _ := fun (X : World) (hX : (rw8 g' p' m).Ok X) => rwTick_any g' p' m N X hX hw hN
  have HK : Hid _ := And.intro h0.drew b0
  clear h h0 b0 BO hw 
  go_enter Try.func12, Try.ntmps12
  go_wp2_with fail
  generalize W.alloc (.cells #[.int .i64 8, .int .i64 F, .int .i64 N, .slice xa xl xc] 34) = wk at *
  generalize W.heap.size = ob at *
  have Sd : wk.drew.cell? ⟨ob, 2, none⟩ = some (.int .i64 N) := x2
  clear x0 x2
  go_region_held_law (fun X => X.cell? ⟨ob, 2, none⟩ = some (.int .i64 N)) (first | exact Sd | assumption)
    (first
      | (go_at_call 23; refine (Calls.mono (HC1.out _ HK.out.1.head)) ?_; rintro e w1 ⟨rfl, s1⟩; have H1 : Hid _ := And.intro (HK.out.1.step s1).swap (HK.out.2.trans (HK.out.1.below s1)); have S1 : w1.cell? ⟨ob, 2, none⟩ = some (.int .i64 N) := (HK.out.1.step s1).opAt.cell (by simp [maxLen]) 2 (by simp); clear s1)
      | (go_at_call 57; refine (Calls.mono (HC2.out _ H1.out.1.head)) ?_; rintro e w2 ⟨rfl, s2⟩; have H2 : Hid _ := And.intro (H1.out.1.step s2).swap (H1.out.2.trans (H1.out.1.below s2)); have S2 : w2.cell? ⟨ob, 2, none⟩ = some (.int .i64 N) := (H1.out.1.step s2).opAt.cell (by simp [maxLen]) 2 (by simp); clear s2))
  all_goals
    go_wp2
    go_ret
    exact ⟨ret_bool (by simp), _, _, H2.out.1.drop3, H2.out.2⟩
set_option maxHeartbeats 2000000 in
theorem st_tick9 (B g g' : Nat) (p p' : Wp) (m : Wm) (F N : Int) (xa : Option Addr) (xl xc : Nat) (W : World) (h : Both B g g' p p' m W) (hw : m.Wf) (hN : I64 N) :
    Calls Try.prog 12 #[.pointer (some ⟨g, 0, none⟩), .pointer (some ⟨g', 0, none⟩), .agg #[.int .i64 9, .int .i64 F, .int .i64 N, .slice xa xl xc]] W (After B g g' (m.tick N) W) := by
  have h0 := both_box h [.int .i64 9, .int .i64 F, .int .i64 N, .slice xa xl xc]
  have BO := h0.opAt
  have x0 := BO.cell (by simp [maxLen]) 0 (by simp)
  have x2 := BO.cell (by simp [maxLen]) 2 (by simp)
  simp only [List.getElem?_cons_succ, List.getElem?_cons_zero] at x0 x2
  have b0 : Below B W (W.alloc (.cells #[.int .i64 9, .int .i64 F, .int .i64 N, .slice xa xl xc] 34)).drew := (((Below.refl _ _).alloc h.base _)).drew
  have HC1 : Hid _ := fun (X : World) (hX : (wo g p m).Ok X) => woTick_any g p m N X hX hw hN
  have HC2 : Hid _ := fun (X : World) (hX : (rw8 g' p' m).Ok X) => rwTick_any g' p' m N X hX hw hN
  have HK : Hid _ := And.intro h0.drew b0
  clear h h0 b0 BO hw 
  go_enter Try.func12, Try.ntmps12
  go_wp2_with fail
  generalize W.alloc (.cells #[.int .i64 9, .int .i64 F, .int .i64 N, .slice xa xl xc] 34) = wk at *
  generalize W.heap.size = ob at *
  have Sd : wk.drew.cell? ⟨ob, 2, none⟩ = some (.int .i64 N) := x2
  clear x0 x2
  go_region_held_law (fun X => X.cell? ⟨ob, 2, none⟩ = some (.int .i64 N)) (first | exact Sd | assumption)
    (first
      | (go_at_call 23; refine (Calls.mono (HC1.out _ HK.out.1.head)) ?_; rintro e w1 ⟨rfl, s1⟩; have H1 : Hid _ := And.intro (HK.out.1.step s1).swap (HK.out.2.trans (HK.out.1.below s1)); have S1 : w1.cell? ⟨ob, 2, none⟩ = some (.int .i64 N) := (HK.out.1.step s1).opAt.cell (by simp [maxLen]) 2 (by simp); clear s1)
      | (go_at_call 57; refine (Calls.mono (HC2.out _ H1.out.1.head)) ?_; rintro e w2 ⟨rfl, s2⟩; have H2 : Hid _ := And.intro (H1.out.1.step s2).swap (H1.out.2.trans (H1.out.1.below s2)); have S2 : w2.cell? ⟨ob, 2, none⟩ = some (.int .i64 N) := (H1.out.1.step s2).opAt.cell (by simp [maxLen]) 2 (by simp); clear s2))
  all_goals
    go_wp2
    go_ret
    exact ⟨ret_bool (by simp), _, _, H2.out.1.drop3, H2.out.2⟩
set_option maxHeartbeats 2000000 in
theorem st_drop_no (B g g' : Nat) (p p' : Wp) (m : Wm) (F N : Int) (xa : Option Addr) (xl xc : Nat) (W : World) (h : Both B g g' p p' m W) (hw : m.Wf) (hN : I64 N) (hn : ¬ (0 ≤ N ∧ N < m.fl.length)) :
    Calls Try.prog 12 #[.pointer (some ⟨g, 0, none⟩), .pointer (some ⟨g', 0, none⟩), .agg #[.int .i64 5, .int .i64 F, .int .i64 N, .slice xa xl xc]] W (After B g g' m W) := by
  have h0 := both_box h [.int .i64 5, .int .i64 F, .int .i64 N, .slice xa xl xc]
  have BO := h0.opAt
  have x0 := BO.cell (by simp [maxLen]) 0 (by simp)
  have x2 := BO.cell (by simp [maxLen]) 2 (by simp)
  simp only [List.getElem?_cons_succ, List.getElem?_cons_zero] at x0 x2
  have b0 : Below B W (W.alloc (.cells #[.int .i64 5, .int .i64 F, .int .i64 N, .slice xa xl xc] 34)).drew := (((Below.refl _ _).alloc h.base _)).drew
  have HC1 : Hid _ := fun (X : World) (hX : (wo g p m).Ok X) => (woDrop_no g p m N X hX hw hN hn).mono (fun e w' hh => And.intro hh.1 (step_same hX hh.2))
  have HC2 : Hid _ := fun (X : World) (hX : (rw8 g' p' m).Ok X) => (rwDrop_no g' p' m N X hX hw hN hn).mono (fun e w' hh => And.intro hh.1 (Step.quiet hX hh.2))
  have HK : Hid _ := And.intro h0.drew b0
  clear h h0 b0 BO hw hn
  go_enter Try.func12, Try.ntmps12
  go_wp2_with fail
  generalize W.alloc (.cells #[.int .i64 5, .int .i64 F, .int .i64 N, .slice xa xl xc] 34) = wk at *
  generalize W.heap.size = ob at *
  have Sd : wk.drew.cell? ⟨ob, 2, none⟩ = some (.int .i64 N) := x2
  clear x0 x2
  go_region_held_law (fun X => X.cell? ⟨ob, 2, none⟩ = some (.int .i64 N)) (first | exact Sd | assumption)
    (first
      | (go_at_call 18; refine (Calls.mono (HC1.out _ HK.out.1.head)) ?_; rintro e w1 ⟨rfl, s1⟩; have H1 : Hid _ := And.intro (HK.out.1.step s1).swap (HK.out.2.trans (HK.out.1.below s1)); have S1 : w1.cell? ⟨ob, 2, none⟩ = some (.int .i64 N) := (HK.out.1.step s1).opAt.cell (by simp [maxLen]) 2 (by simp); clear s1)
      | (go_at_call 54; refine (Calls.mono (HC2.out _ H1.out.1.head)) ?_; rintro e w2 ⟨rfl, s2⟩; have H2 : Hid _ := And.intro (H1.out.1.step s2).swap (H1.out.2.trans (H1.out.1.below s2)); have S2 : w2.cell? ⟨ob, 2, none⟩ = some (.int .i64 N) := (H1.out.1.step s2).opAt.cell (by simp [maxLen]) 2 (by simp); clear s2))
  all_goals
    go_wp2
    go_ret
    exact ⟨ret_bool (by simp), _, _, H2.out.1.drop3, H2.out.2⟩
set_option maxHeartbeats 2000000 in
theorem st_drop_yes (B g g' : Nat) (p p' : Wp) (m : Wm) (F : Int) (xa : Option Addr) (xl xc : Nat) (W : World) (h : Both B g g' p p' m W) (hw : m.Wf) (k : Nat) (hk : k < m.fl.length) (hlo : m.lo ≤ 1000000000) :
    Calls Try.prog 12 #[.pointer (some ⟨g, 0, none⟩), .pointer (some ⟨g', 0, none⟩), .agg #[.int .i64 5, .int .i64 F, .int .i64 k, .slice xa xl xc]] W (After B g g' (m.lose k) W) := by
  have h0 := both_box h [.int .i64 5, .int .i64 F, .int .i64 k, .slice xa xl xc]
  have BO := h0.opAt
  have x0 := BO.cell (by simp [maxLen]) 0 (by simp)
  have x2 := BO.cell (by simp [maxLen]) 2 (by simp)
  simp only [List.getElem?_cons_succ, List.getElem?_cons_zero] at x0 x2
  have b0 : Below B W (W.alloc (.cells #[.int .i64 5, .int .i64 F, .int .i64 k, .slice xa xl xc] 34)).drew := (((Below.refl _ _).alloc h.base _)).drew
  have HC1 : Hid _ := fun (X : World) (hX : (wo g p m).Ok X) => woDrop_yes g p m k X hX hw hk hlo
  have HC2 : Hid _ := fun (X : World) (hX : (rw8 g' p' m).Ok X) => rwDrop_yes g' p' m k X hX hw hk hlo
  have HK : Hid _ := And.intro h0.drew b0
  clear h h0 b0 BO hw hk hlo
  go_enter Try.func12, Try.ntmps12
  go_wp2_with fail
  generalize W.alloc (.cells #[.int .i64 5, .int .i64 F, .int .i64 k, .slice xa xl xc] 34) = wk at *
  generalize W.heap.size = ob at *
  have Sd : wk.drew.cell? ⟨ob, 2, none⟩ = some (.int .i64 k) := x2
  clear x0 x2
  go_region_held_law (fun X => X.cell? ⟨ob, 2, none⟩ = some (.int .i64 k)) (first | exact Sd | assumption)
    (first
      | (go_at_call 18; refine (Calls.mono (HC1.out _ HK.out.1.head)) ?_; rintro e w1 ⟨rfl, s1⟩; have H1 : Hid _ := And.intro (HK.out.1.step s1).swap (HK.out.2.trans (HK.out.1.below s1)); have S1 : w1.cell? ⟨ob, 2, none⟩ = some (.int .i64 k) := (HK.out.1.step s1).opAt.cell (by simp [maxLen]) 2 (by simp); clear s1)
      | (go_at_call 54; refine (Calls.mono (HC2.out _ H1.out.1.head)) ?_; rintro e w2 ⟨q', rfl, s2⟩; have H2 : Hid _ := And.intro (H1.out.1.step s2).swap (H1.out.2.trans (H1.out.1.below s2)); have S2 : w2.cell? ⟨ob, 2, none⟩ = some (.int .i64 k) := (H1.out.1.step s2).opAt.cell (by simp [maxLen]) 2 (by simp); clear s2))
  all_goals
    go_wp2
    go_ret
    exact ⟨ret_bool (by simp), _, _, H2.out.1.drop3, H2.out.2⟩
set_option maxHeartbeats 2000000 in
theorem st_double_no (B g g' : Nat) (p p' : Wp) (m : Wm) (F N : Int) (xa : Option Addr) (xl xc : Nat) (W : World) (h : Both B g g' p p' m W) (hw : m.Wf) (hN : I64 N) (hn : ¬ (0 ≤ N ∧ N < m.fl.length)) :
    Calls Try.prog 12 #[.pointer (some ⟨g, 0, none⟩), .pointer (some ⟨g', 0, none⟩), .agg #[.int .i64 6, .int .i64 F, .int .i64 N, .slice xa xl xc]] W (After B g g' m W) := by
  have h0 := both_box h [.int .i64 6, .int .i64 F, .int .i64 N, .slice xa xl xc]
  have BO := h0.opAt
  have x0 := BO.cell (by simp [maxLen]) 0 (by simp)
  have x2 := BO.cell (by simp [maxLen]) 2 (by simp)
  simp only [List.getElem?_cons_succ, List.getElem?_cons_zero] at x0 x2
  have b0 : Below B W (W.alloc (.cells #[.int .i64 6, .int .i64 F, .int .i64 N, .slice xa xl xc] 34)).drew := (((Below.refl _ _).alloc h.base _)).drew
  have HC1 : Hid _ := fun (X : World) (hX : (wo g p m).Ok X) => (woDouble_no g p m N X hX hw hN hn).mono (fun e w' hh => And.intro hh.1 (step_same hX hh.2))
  have HC2 : Hid _ := fun (X : World) (hX : (rw8 g' p' m).Ok X) => (rwDouble_no g' p' m N X hX hw hN hn).mono (fun e w' hh => And.intro hh.1 (Step.quiet hX hh.2))
  have HK : Hid _ := And.intro h0.drew b0
  clear h h0 b0 BO hw hn
  go_enter Try.func12, Try.ntmps12
  go_wp2_with fail
  generalize W.alloc (.cells #[.int .i64 6, .int .i64 F, .int .i64 N, .slice xa xl xc] 34) = wk at *
  generalize W.heap.size = ob at *
  have Sd : wk.drew.cell? ⟨ob, 2, none⟩ = some (.int .i64 N) := x2
  clear x0 x2
  go_region_held_law (fun X => X.cell? ⟨ob, 2, none⟩ = some (.int .i64 N)) (first | exact Sd | assumption)
    (first
      | (go_at_call 20; refine (Calls.mono (HC1.out _ HK.out.1.head)) ?_; rintro e w1 ⟨rfl, s1⟩; have H1 : Hid _ := And.intro (HK.out.1.step s1).swap (HK.out.2.trans (HK.out.1.below s1)); have S1 : w1.cell? ⟨ob, 2, none⟩ = some (.int .i64 N) := (HK.out.1.step s1).opAt.cell (by simp [maxLen]) 2 (by simp); clear s1)
      | (go_at_call 55; refine (Calls.mono (HC2.out _ H1.out.1.head)) ?_; rintro e w2 ⟨rfl, s2⟩; have H2 : Hid _ := And.intro (H1.out.1.step s2).swap (H1.out.2.trans (H1.out.1.below s2)); have S2 : w2.cell? ⟨ob, 2, none⟩ = some (.int .i64 N) := (H1.out.1.step s2).opAt.cell (by simp [maxLen]) 2 (by simp); clear s2))
  all_goals
    go_wp2
    go_ret
    exact ⟨ret_bool (by simp), _, _, H2.out.1.drop3, H2.out.2⟩
set_option maxHeartbeats 2000000 in
theorem st_double_yes (B g g' : Nat) (p p' : Wp) (m : Wm) (F : Int) (xa : Option Addr) (xl xc : Nat) (W : World) (h : Both B g g' p p' m W) (hw : m.Wf) (k : Nat) (hk : k < m.fl.length) :
    Calls Try.prog 12 #[.pointer (some ⟨g, 0, none⟩), .pointer (some ⟨g', 0, none⟩), .agg #[.int .i64 6, .int .i64 F, .int .i64 k, .slice xa xl xc]] W (After B g g' (dblM m k) W) := by
  have h0 := both_box h [.int .i64 6, .int .i64 F, .int .i64 k, .slice xa xl xc]
  have BO := h0.opAt
  have x0 := BO.cell (by simp [maxLen]) 0 (by simp)
  have x2 := BO.cell (by simp [maxLen]) 2 (by simp)
  simp only [List.getElem?_cons_succ, List.getElem?_cons_zero] at x0 x2
  have b0 : Below B W (W.alloc (.cells #[.int .i64 6, .int .i64 F, .int .i64 k, .slice xa xl xc] 34)).drew := (((Below.refl _ _).alloc h.base _)).drew
  have HC1 : Hid _ := fun (X : World) (hX : (wo g p m).Ok X) => (show Calls Try.prog 20 #[.pointer (some ⟨g, 0, none⟩), .int .i64 k] X (fun e w' => ∃ p1, e = .returned (.int .i64 (dblE m)) ∧ Step X w' (wo g p m) (wo g p1 (dblM m k))) from woDouble_yes g p m k X hX hw hk)
  have HC2 : Hid _ := fun (X : World) (hX : (rw8 g' p' m).Ok X) => (show Calls Try.prog 55 #[.pointer (some ⟨g', 0, none⟩), .int .i64 k] X (fun e w' => ∃ p1, e = .returned (.int .i64 (dblE m)) ∧ Step X w' (rw8 g' p' m) (rw8 g' p1 (dblM m k))) from rwDouble_yes g' p' m k X hX hw hk)
  have HK : Hid _ := And.intro h0.drew b0
  clear h h0 b0 BO hw hk
  go_enter Try.func12, Try.ntmps12
  go_wp2_with fail
  generalize W.alloc (.cells #[.int .i64 6, .int .i64 F, .int .i64 k, .slice xa xl xc] 34) = wk at *
  generalize W.heap.size = ob at *
  have Sd : wk.drew.cell? ⟨ob, 2, none⟩ = some (.int .i64 k) := x2
  clear x0 x2
  go_region_held_law (fun X => X.cell? ⟨ob, 2, none⟩ = some (.int .i64 k)) (first | exact Sd | assumption)
    (first
      | (go_at_call 20; refine (Calls.mono (HC1.out _ HK.out.1.head)) ?_; rintro e w1 ⟨p1, rfl, s1⟩; have H1 : Hid _ := And.intro (HK.out.1.step s1).swap (HK.out.2.trans (HK.out.1.below s1)); have S1 : w1.cell? ⟨ob, 2, none⟩ = some (.int .i64 k) := (HK.out.1.step s1).opAt.cell (by simp [maxLen]) 2 (by simp); clear s1)
      | (go_at_call 55; refine (Calls.mono (HC2.out _ H1.out.1.head)) ?_; rintro e w2 ⟨p2, rfl, s2⟩; have H2 : Hid _ := And.intro (H1.out.1.step s2).swap (H1.out.2.trans (H1.out.1.below s2)); have S2 : w2.cell? ⟨ob, 2, none⟩ = some (.int .i64 k) := (H1.out.1.step s2).opAt.cell (by simp [maxLen]) 2 (by simp); clear s2))
  all_goals
    go_wp2
    go_ret
    exact ⟨ret_bool (by simp), _, _, H2.out.1.drop3, H2.out.2⟩
set_option maxHeartbeats 2000000 in
theorem st_none (B g g' : Nat) (p p' : Wp) (m : Wm) (K F N : Int) (xa : Option Addr) (xl xc : Nat) (W : World) (h : Both B g g' p p' m W) (hK : K < 0 ∨ 11 < K) :
    Calls Try.prog 12 #[.pointer (some ⟨g, 0, none⟩), .pointer (some ⟨g', 0, none⟩), .agg #[.int .i64 K, .int .i64 F, .int .i64 N, .slice xa xl xc]] W (After B g g' m W) := by
  have h0 := both_box h [.int .i64 K, .int .i64 F, .int .i64 N, .slice xa xl xc]
  have BO := h0.opAt
  have x0 := BO.cell (by simp [maxLen]) 0 (by simp)
  simp only [List.getElem?_cons_zero] at x0
  have b0 : Below B W (W.alloc (.cells #[.int .i64 K, .int .i64 F, .int .i64 N, .slice xa xl xc] 34)) := (Below.refl _ _).alloc h.base _
  have HK : Hid _ := And.intro h0.drop3 b0
  have u0 : (K == 0) = false := by simp; omega
  have u1 : (K == 1) = false := by simp; omega
  have u2 : (K == 2) = false := by simp; omega
  have u3 : (K == 3) = false := by simp; omega
  have u4 : (K == 4) = false := by simp; omega
  have u5 : (K == 5) = false := by simp; omega
  have u6 : (K == 6) = false := by simp; omega
  have u7 : (K == 7) = false := by simp; omega
  have u8 : (K == 8) = false := by simp; omega
  have u9 : (K == 9) = false := by simp; omega
  have u10 : (K == 10) = false := by simp; omega
  have u11 : (K == 11) = false := by simp; omega
  clear h h0 b0 BO hK
  go_enter Try.func12, Try.ntmps12
  go_wp2
  go_ret
  exact ⟨rfl, _, _, HK.out.1, HK.out.2⟩
end Go.Proofs.Ytjfodmdijajfbaa
