/- Clocks that tick; cuts. -/
import Derived.Test.YtjelbekjmfnenaaWo2
namespace Go.Proofs.Ytjelbekjmfnenaa
open Go.RowKit
set_option linter.unusedVariables false
set_option maxRecDepth 30000

/-- the least of some clocks -/
def minC : List Nat → Nat
  | [] => 0
  | a :: r => r.foldl min a
theorem minC_le {l : List Nat} : ∀ c ∈ l, minC l ≤ c := by
  have key : ∀ (r : List Nat) (a : Nat), r.foldl min a ≤ a ∧ ∀ c ∈ r, r.foldl min a ≤ c := by
    intro r
    induction r with
    | nil => intro a; exact ⟨Nat.le_refl _, fun c h => by cases h⟩
    | cons b r ih =>
      intro a
      obtain ⟨h1, h2⟩ := ih (min a b)
      refine ⟨Nat.le_trans h1 (Nat.min_le_left _ _), fun c hc => ?_⟩
      rcases List.mem_cons.1 hc with rfl | hc
      · exact Nat.le_trans h1 (Nat.min_le_right _ _)
      · exact h2 c hc
  cases l with
  | nil => intro c h; cases h
  | cons a r =>
    intro c hc
    obtain ⟨h1, h2⟩ := key r a
    rcases List.mem_cons.1 hc with rfl | hc
    · exact h1
    · exact h2 c hc
theorem minC_mem {l : List Nat} (h : l ≠ []) : minC l ∈ l := by
  have key : ∀ (r : List Nat) (a : Nat), r.foldl min a = a ∨ r.foldl min a ∈ r := by
    intro r
    induction r with
    | nil => intro a; exact .inl rfl
    | cons b r ih =>
      intro a
      rcases ih (min a b) with h1 | h1
      · simp only [List.foldl_cons]
        rw [h1]
        rcases Nat.le_total a b with hab | hab
        · rw [Nat.min_eq_left hab]; exact .inl rfl
        · rw [Nat.min_eq_right hab]; exact .inr (List.mem_cons_self ..)
      · exact .inr (List.mem_cons_of_mem _ h1)
  cases l with
  | nil => exact absurd rfl h
  | cons a r =>
    rcases key r a with h1 | h1
    · show r.foldl min a ∈ a :: r; rw [h1]; exact List.mem_cons_self ..
    · exact List.mem_cons_of_mem _ h1

theorem minC_snoc (r : List Nat) (b : Nat) (h : r ≠ []) : minC (r ++ [b]) = min (minC r) b := by
  cases r with
  | nil => exact absurd rfl h
  | cons a r => unfold minC; simp
theorem head_min (l : List Nat) (h : 0 < l.length) : l[0] = minC (l.take 1) := by
  match l, h with
  | a :: r, _ => rfl
set_option maxHeartbeats 1000000 in
theorem woMin_any (c : Nat) (l : List Nat) (w : World) (h : Blk w c 2 (cks l)) (h1 : 1 ≤ l.length) (h5 : l.length ≤ 5) (hl : ∀ x ∈ l, x ≤ 1099511627776) :
    Calls Try.prog 56 #[.slice (some ⟨c, 0, none⟩) l.length l.length] w fun e w' => e = .returned (.int .i64 (minC l)) ∧ w = w' := by
  have hcell : ∀ x (hx : x < l.length), w.cell? ⟨c, x, none⟩ = some (.int .i64 (l[x] : Nat)) := fun x hx => by
    rw [h.cell (by rw [cks_length]; unfold maxLen; omega) x (by rw [cks_length]; exact hx), cks_at _ _ hx]
  have k0 := hcell 0 (by omega)
  have e0 : l[0]'(by omega) = minC (l.take 1) := head_min l (by omega)
  rw [e0] at k0
  have q1 : ¬ ((l.length : Int) < 1) := by omega
  have HC : Hid _ := hcell
  clear h hcell e0
  go_enter Try.func56, Try.ntmps56
  go_wp2_with fail
  go_loopw [3, 4] (fun x i wr => ∃ k : Nat, 1 ≤ k ∧ k ≤ l.length ∧ i = .int .i64 k ∧ x = .int .i64 (minC (l.take k) : Nat) ∧ w = wr) (fun _ i _ => l.length - (intOf i).toNat)
  case atStart => exact ⟨1, by omega, h1, rfl, rfl, rfl⟩
  case round =>
    obtain ⟨k, hk1, hk, rfl, rfl, rfl⟩ := hrel
    by_cases hlt : k < l.length
    · have kc := HC.out k hlt
      have e : min (minC (l.take k)) l[k] = minC (l.take (k + 1)) := by
        rw [List.take_succ_eq_append_getElem hlt, minC_snoc _ _ (by intro e; have h := congrArg List.length e; rw [List.length_take, List.length_nil] at h; omega)]
      have q2 : (k : Int) < (l.length : Int) := by omega
      generalize hz : minC (l.take (k + 1)) = z at *
      generalize minC (l.take k) = y at *
      generalize l[k] = x at *
      clear HC k0
      by_cases hxy : x < y
      · have q3 : (x : Int) < (y : Int) := by omega
        go_wp2
        go_roundw
        case rel => exact ⟨k + 1, by omega, by omega, by go_num, by rw [hz, ← e, Nat.min_eq_right (by omega)], by trivial⟩
        case measure => simp [intOf]; omega
      · have q3 : ¬ ((x : Int) < (y : Int)) := by omega
        go_wp2
        go_roundw
        case rel => exact ⟨k + 1, by omega, by omega, by go_num, by rw [hz, ← e, Nat.min_eq_left (by omega)], by trivial⟩
        case measure => simp [intOf]; omega
    · obtain rfl : k = l.length := by omega
      rw [List.take_length]
      clear HC k0
      go_wp2
      go_ret
      exact ⟨rfl, rfl⟩

theorem minC_late {m : Wm} (hw : m.Wf) : minC m.ck ≤ 1099511627776 := hw.late _ (minC_mem (fun e => by have := hw.one; rw [e] at this; simp at this))
/-- may the clock of a machine tick? -/
def Wm.may (m : Wm) (i : Int) : Bool := hasW m.ck.length i && (decide (m.ck.getD i.toNat 0 < 1099511627776) && decide (m.ck.getD i.toNat 0 + 1 ≤ m.rho + minC m.ck))
set_option maxHeartbeats 1000000 in
theorem woMay_any (g : Nat) (p : Wp) (m : Wm) (i : Int) (w : World) (h : (wo g p m).Ok w) (hw : m.Wf) (hi : I64 i) :
    Calls Try.prog 48 #[.pointer (some ⟨g, 0, none⟩), .int .i64 i] w fun e w' => e = .returned (.bool (m.may i)) ∧ Below w.heap.size w w' := by
  have HH : Hid _ := wohas_any g p m i w h hw hi
  obtain ⟨hn, fv, vs, hq, h⟩ := h.holds
  obtain ⟨-, -, c2, c3, -⟩ := wo_cells h
  unfold Wm.may
  by_cases hb : hasW m.ck.length i = true
  · rw [hb] at HH ⊢
    rw [Bool.true_and]
    obtain ⟨x, rfl, hx⟩ := at_ck hb
    obtain ⟨cc, -⟩ := ck_cell h hw x hx
    have hl := ck_late hw x
    have q1 : (x : Int) < (m.ck.length : Int) := by omega
    have HM : Hid _ := fun n => (woMin_any p.c m.ck (w.drewN n) h.clocks hw.one hw.five hw.late).mono (fun e w' hh => (⟨hh.1, hh.2.symm⟩ : e = .returned (.int .i64 (minC m.ck)) ∧ w' = w.drewN n))
    have hml := minC_late hw
    have hr2 := hw.rho2
    rw [Int.toNat_natCast]
    generalize hz : m.ck.getD x 0 = z at *
    generalize hmn : minC m.ck = y at *
    by_cases hlt : z < 1099511627776
    · rw [decide_eq_true hlt, Bool.true_and]
      have q2 : (z : Int) < 1099511627776 := by omega
      have q3 : (y : Int) ≤ 1099511627776 := by omega
      have q4 : (m.rho : Int) ≤ 1000 := by omega
      have q5 : (0 : Int) ≤ (z : Int) := by omega
      have q6 : (0 : Int) ≤ (y : Int) := by omega
      have HD : Hid (decide ((z : Int) + 1 - (y : Int) ≤ (m.rho : Int)) = decide (z + 1 ≤ m.rho + y)) := by refine decide_eq_decide.2 ?_; omega
      generalize decide (z + 1 ≤ m.rho + y) = B at *
      clear h hw hb hn hq hz hmn hlt hl hml hr2
      generalize (z : Int) = Z at *
      generalize (y : Int) = Y at *
      generalize (m.rho : Int) = R at *
      go_enter Try.func48, Try.ntmps48
      go_wp2_with (go_at_call 47; refine (Calls.mono HH.out) ?_; rintro e w' ⟨rfl, rfl⟩)
      go_quiet ((go_at_call 56; exact Calls.quiet_of_same (HM.out _)))
      go_wp2
      go_ret
      exact ⟨ret_bool (by first | exact HD.out | (rw [← HD.out]; rfl)), below_drewN _ _ _⟩
    · rw [decide_eq_false hlt, Bool.false_and]
      have q2 : ¬ ((z : Int) < 1099511627776) := by omega
      clear h hw hb hn hq hz hmn HM hlt hl hml hr2
      generalize (z : Int) = Z at *
      go_enter Try.func48, Try.ntmps48
      go_wp2_with (go_at_call 47; refine (Calls.mono HH.out) ?_; rintro e w' ⟨rfl, rfl⟩)
      go_ret
      exact ⟨rfl, Below.refl _ _⟩
  · have hf : hasW m.ck.length i = false := by simpa using hb
    rw [hf] at HH ⊢
    rw [Bool.false_and]
    clear h hw hb
    go_enter Try.func48, Try.ntmps48
    go_wp2_with (go_at_call 47; refine (Calls.mono HH.out) ?_; rintro e w' ⟨rfl, rfl⟩)
    go_ret
    exact ⟨rfl, Below.refl _ _⟩
end Go.Proofs.Ytjelbekjmfnenaa
