/- A world that is made; clocks, cuts, and what is told. -/
import Derived.Test.YtjelbekjmfnenaaWo1
import Derived.Test.YtjelbekjmfnenaaDkW1
namespace Go.Proofs.Ytjelbekjmfnenaa
open Go.RowKit
set_option linter.unusedVariables false

/-- the greatest fact on a world's cells -/
theorem wo_cells {w : World} {g c : Nat} {V : List Nat} {fv : Value} {vs : List Value} {m : Wm} (h : WoAt w g c V fv vs m) :
    w.cell? ⟨g, 0, none⟩ = some fv ∧ w.cell? ⟨g, 1, none⟩ = some (.int .i64 m.cut) ∧ w.cell? ⟨g, 2, none⟩ = some (.slice (some ⟨c, 0, none⟩) m.ck.length m.ck.length) ∧ w.cell? ⟨g, 3, none⟩ = some (.int .i64 m.rho) ∧
    w.cell? ⟨g, 4, none⟩ = some (.int .i64 m.tk) ∧ w.cell? ⟨g, 5, none⟩ = some (.int .i64 m.lo) ∧ w.cell? ⟨g, 6, none⟩ = some (.int .u32 (b01 m.cl)) ∧ w.cell? ⟨g, 7, none⟩ = some (.int .i32 0) ∧ w.cell? ⟨g, 9, none⟩ = some (.bool m.cl) := by
  have f := fun i hi => h.blk.cell (by simp [maxLen]) i hi
  exact ⟨f 0 (by simp), f 1 (by simp), f 2 (by simp), f 3 (by simp), f 4 (by simp), f 5 (by simp), f 6 (by simp), f 7 (by simp), f 9 (by simp)⟩

theorem info_i64 : (Try.prog.info? 2).map (fun i => (i.zero, i.size, i.bytes)) = some (some (.int .i64 0), 1, 8) := by kernel_rfl
theorem make_cks (N : Nat) (hN : N ≤ 1000) (u : World) : (Instr.makeSlice 33 (.int .i64 N) (.int .i64 N)).run Try.prog u = .ok (.slice (some ⟨u.heap.size, 0, none⟩) N N) (u.alloc (.cells (madeCells #[.int .i64 0] N) 2)) := by
  obtain ⟨i0, hi, hz0, hz1, hz2⟩ := info_parts info_i64
  have := run_make (P := Try.prog) u 33 2 i0 (.int .i64 0) Try.underlying33 hi hz0 .i64 .i64 N N (by omega) (by omega) (by rw [hz2]; omega) (by omega)
  rw [hz1] at this
  simpa [Value.cells] using this
theorem made_cks (u : World) (N : Nat) : Blk (u.alloc (.cells (madeCells #[.int .i64 0] N) 2)) u.heap.size 2 (cks (List.replicate N 0)) := by
  have e : (madeCells #[Value.int .i64 0] N) = (List.replicate N (Value.int .i64 0)).toArray := by
    apply Array.ext
    · simp [madeCells]
    · intro i h1 h2; simp [madeCells, Nat.mod_one]
  have e2 : cks (List.replicate N 0) = List.replicate N (Value.int .i64 0) := by unfold cks; simp
  rw [e2, e]; exact Blk.new' u _ _

set_option maxHeartbeats 400000 in
theorem woNew_no (n r : Int) (w : World) (hn : I64 n) (hr : I64 r) (h : ¬ (1 ≤ n ∧ n ≤ 5 ∧ 1 ≤ r ∧ r ≤ 1000)) :
    Calls Try.prog 29 #[.int .i64 n, .int .i64 r] w fun e w' => e = .returned (.tuple #[.pointer none, .int .i64 1]) ∧ w = w' := by
  by_cases h1 : n < 1
  · go_enter Try.func29, Try.ntmps29
    go_wp2
    go_ret2
    exact ⟨rfl, rfl⟩
  · by_cases h2 : 5 < n
    · go_enter Try.func29, Try.ntmps29
      go_wp2
      go_ret2
      exact ⟨rfl, rfl⟩
    · by_cases h3 : r < 1
      · go_enter Try.func29, Try.ntmps29
        go_wp2
        go_ret2
        exact ⟨rfl, rfl⟩
      · have h4 : 1000 < r := by omega
        go_enter Try.func29, Try.ntmps29
        go_wp2
        go_ret2
        exact ⟨rfl, rfl⟩
/-- a new world -/
def Wm.new (n r : Nat) : Wm := ⟨[], 0, List.replicate n 0, r, 0, 0, false⟩
theorem Wm.new_wf {n r : Nat} (h : 1 ≤ n ∧ n ≤ 5) (hr : 1 ≤ r ∧ r ≤ 1000) : (Wm.new n r).Wf :=
  ⟨by simpa [Wm.new] using h.1, by simpa [Wm.new] using h.2, by simp [Wm.new], by simp [Wm.new]; exact Nat.two_pow_pos _, (fun l h => by cases h), hr.1, hr.2, fun c h => by have := List.eq_of_mem_replicate h; omega⟩
set_option maxHeartbeats 400000 in
theorem woNew_yes (n r : Nat) (w : World) (h : 1 ≤ n ∧ n ≤ 5) (hr : 1 ≤ r ∧ r ≤ 1000) :
    Calls Try.prog 29 #[.int .i64 n, .int .i64 r] w fun e w' => ∃ g c, e = .returned (.tuple #[.pointer (some ⟨g, 0, none⟩), .int .i64 0]) ∧ w.heap.size ≤ g ∧ w.heap.size ≤ c ∧ (wo g ⟨c, none, []⟩ (Wm.new n r)).Ok w' ∧ Below w.heap.size w w' := by
  have h1 : ¬ ((n : Int) < 1) := by omega
  have h2 : ¬ (5 < (n : Int)) := by omega
  have h3 : ¬ ((r : Int) < 1) := by omega
  have h4 : ¬ (1000 < (r : Int)) := by omega
  have hmk := make_cks n (by omega)
  have B0 := made_cks w n
  have b0 : Below w.heap.size w (w.alloc (.cells (madeCells #[.int .i64 0] n) 2)) := (Below.refl _ _).alloc (Nat.le_refl _) _
  have z0 := B0.lt
  have F : Hid _ := And.intro B0 (And.intro b0 z0)
  clear B0 b0 z0
  go_enter Try.func29, Try.ntmps29
  go_wp2
  go_ret2
  obtain ⟨B0, b0, z0⟩ := F.out
  have zs : (w.alloc (.cells (madeCells #[.int .i64 0] n) 2)).heap.size = w.heap.size + 1 := by simp
  generalize w.alloc (.cells (madeCells #[.int .i64 0] n) 2) = w1 at *
  have B1 := Blk.new' w1 109 [.slice none 0 0, .int .i64 0, .slice (some ⟨w.heap.size, 0, none⟩) n n, .int .i64 r, .int .i64 0, .int .i64 0, .int .u32 0, .int .i32 0, .int .u32 0, .bool false]
  have b1 : Below w1.heap.size w1 (w1.alloc (.cells #[.slice none 0 0, .int .i64 0, .slice (some ⟨w.heap.size, 0, none⟩) n n, .int .i64 r, .int .i64 0, .int .i64 0, .int .u32 0, .int .i32 0, .int .u32 0, .bool false] 109)) := (Below.refl _ _).alloc (Nat.le_refl _) _
  have e : (List.replicate n 0).length = n := List.length_replicate ..
  rw [zs] at B1
  refine ⟨w.heap.size + 1, rfl, by omega, w.heap.size, Nat.le_refl _, wo_ok ⟨by simp, .slice none 0 0, [], rfl, ?_, ?_, World.ownsRow_nil _ _ _ _, trivial⟩ ?_ ?_, below_then b0 b1⟩
  · simp only [Wm.new, e]; exact B1
  · exact B0.laterB b1
  · intro k hk
    have := b1.size
    have := B1.lt
    simp at hk
    rcases hk with rfl | rfl <;> omega
  · intro k hk hv; cases hv

theorem at_ck {m : Wm} {i : Int} (h : hasW m.ck.length i = true) : ∃ x : Nat, i = x ∧ x < m.ck.length := by
  have := of_decide_eq_true h
  exact ⟨i.toNat, by omega, by omega⟩
/-- the clock of a machine, 0 of none -/
def Wm.clock (m : Wm) (i : Int) : Nat := if hasW m.ck.length i then m.ck.getD i.toNat 0 else 0
theorem ck_cell {w : World} {g c : Nat} {V : List Nat} {fv : Value} {vs : List Value} {m : Wm} (h : WoAt w g c V fv vs m) (hw : m.Wf) (x : Nat) (hx : x < m.ck.length) : w.cell? ⟨c, x, none⟩ = some (.int .i64 (m.ck.getD x 0 : Nat)) ∧ w.frozen? ⟨c, x, none⟩ = false := by
  have hl : (cks m.ck).length ≤ maxLen := by rw [cks_length]; have := hw.five; unfold maxLen; omega
  refine ⟨?_, h.clocks.frozen hl x⟩
  rw [h.clocks.cell hl x (by rw [cks_length]; exact hx), cks_at _ _ hx]
  simp [List.getD, List.getElem?_eq_getElem hx]
theorem ck_late {m : Wm} (hw : m.Wf) (x : Nat) : m.ck.getD x 0 ≤ 1099511627776 := by
  rw [List.getD]
  cases h : m.ck[x]? with
  | none => simp
  | some c => exact hw.late c (List.mem_of_getElem? h)
set_option maxHeartbeats 400000 in
theorem woClock_any (g : Nat) (p : Wp) (m : Wm) (i : Int) (w : World) (h : (wo g p m).Ok w) (hw : m.Wf) (hi : I64 i) :
    Calls Try.prog 31 #[.pointer (some ⟨g, 0, none⟩), .int .i64 i] w fun e w' => e = .returned (.int .i64 (m.clock i)) ∧ w = w' := by
  have HH : Hid _ := wohas_any g p m i w h hw hi
  obtain ⟨hn, fv, vs, hq, h⟩ := h.holds
  obtain ⟨-, -, c2, -⟩ := wo_cells h
  unfold Wm.clock
  by_cases hb : hasW m.ck.length i = true
  · rw [hb] at HH
    obtain ⟨x, rfl, hx⟩ := at_ck hb
    obtain ⟨cc, -⟩ := ck_cell h hw x hx
    have hl := ck_late hw x
    have q1 : (x : Int) < (m.ck.length : Int) := by omega
    rw [if_pos hb, Int.toNat_natCast]
    generalize m.ck.getD x 0 = z at *
    clear h hw hb
    go_enter Try.func31, Try.ntmps31
    go_wp2_with (go_at_call 47; refine (Calls.mono HH.out) ?_; rintro e w' ⟨rfl, rfl⟩)
    go_ret
    exact ⟨rfl, rfl⟩
  · rw [if_neg hb]
    have hf : hasW m.ck.length i = false := by simpa using hb
    rw [hf] at HH
    clear h hw hb
    go_enter Try.func31, Try.ntmps31
    go_wp2_with (go_at_call 47; refine (Calls.mono HH.out) ?_; rintro e w' ⟨rfl, rfl⟩)
    go_ret
    exact ⟨rfl, rfl⟩
end Go.Proofs.Ytjelbekjmfnenaa
