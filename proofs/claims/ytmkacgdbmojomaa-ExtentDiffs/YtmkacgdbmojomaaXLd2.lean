/- extent, the document's: Diff. -/
import Derived.Test.YtmkacgdbmojomaaXLd1
import Derived.Test.YtmkacgdbmojomaaXEr3
namespace Go.Proofs.Ytmkacgdbmojomaa
open Go.RowKit
set_option linter.unusedVariables false
set_option linter.unusedSimpArgs false
set_option maxRecDepth 8000

/-- the changes that make o of m, below k -/
def dfM (m o : Im) : Nat → List (Int × List (BitVec 8))
  | 0 => []
  | k + 1 => dfM m o k ++ (if m.by k = o.by k then [] else [((k : Int), o.by k)])
theorem dfM_len (m o : Im) (k : Nat) : (dfM m o k).length ≤ k := by
  induction k with
  | zero => exact Nat.le_refl _
  | succ k ih =>
    unfold dfM
    rw [List.length_append]
    by_cases h : m.by k = o.by k
    · rw [if_pos h]; simp; omega
    · rw [if_neg h]; simp; omega
theorem ri_head {w : World} {r lb : Nat} {V : List Nat} {m : Im} (h : (ri r lb V m).Ok w) : w.cell? ⟨r, 0, none⟩ = some (.slice (some ⟨lb, 0, none⟩) m.n m.n) := by
  obtain ⟨-, -, h1, -⟩ := h.holds
  have := h1.cell (by simp [maxLen]) 0 (by simp)
  simpa using this
theorem ri_cell {w : World} {r lb : Nat} {V : List Nat} {m : Im} (h : (ri r lb V m).Ok w) (hm : m.n ≤ 256) {i : Nat} (hi : i < m.n) : ∃ a cap, w.cell? ⟨lb, i, none⟩ = some (.slice a (m.by i).length cap) ∧ (m.by i).length ≤ cap ∧ (a = none → cap = 0) ∧ Row w a (m.by i) := by
  obtain ⟨-, -, -, vs, h2, h3, h4⟩ := h.holds
  obtain ⟨a, cap, e, q1, q2, q3, -⟩ := h4 i hi
  refine ⟨a, cap, ?_, q1, q2, q3⟩
  rw [h3.cell (by unfold maxLen; omega) i (by omega), e]
theorem by_len {m : Im} (h : m.Wf) (i : Nat) : (m.by i).length = 0 ∨ (m.by i).length = 64 := by
  unfold Im.by
  cases hf : m.f i with
  | none => exact .inl rfl
  | some l => exact .inr (h.each i l hf).2
def DfR (l : List (Int × List (BitVec 8))) (w : World) (e : Ending) (w' : World) : Prop :=
  ∃ v T, e = .returned (.tuple #[v, .int .i64 0]) ∧ T.map (·.1) = l ∧ CsOwn w' w.heap.size v T ∧ Below w.heap.size w w'
theorem str_conv {w : World} {a : Option Addr} {c : Nat} {l : List (BitVec 8)} (h : Row w a l) : ∀ X, Below w.heap.size w X → (convert 31 9 (.slice a l.length c)).run Try.prog X = .ok (.string (str l)) X := fun X hX => (h.later hX).str _ _ rfl
theorem str_neq {a b : List (BitVec 8)} (h : a ≠ b) : ((str a).toList == (str b).toList) = false := by rw [str_inj]; simpa using h
set_option maxHeartbeats 16000000 in
theorem riDiff_any (r1 b1 : Nat) (V1 : List Nat) (m1 : Im) (r2 b2 : Nat) (V2 : List Nat) (m2 : Im) (w : World) (h1 : (ri r1 b1 V1 m1).Ok w) (h2 : (ri r2 b2 V2 m2).Ok w) (hw1 : m1.Wf) (hw2 : m2.Wf) (hn : m2.n = m1.n) :
    Calls Try.prog 24 #[.pointer (some ⟨r1, 0, none⟩), .pointer (some ⟨r2, 0, none⟩)] w fun e w' => DfR (dfM m1 m2 m1.n) w e w' := by
  have c1 := ri_head h1
  have c2 := ri_head h2
  rw [hn] at c2
  have hm := hw1.most
  have HP : Hid _ := And.intro h1 (And.intro h2 (And.intro hw1 (And.intro hw2 hn)))
  clear h1 h2 hw1 hw2
  generalize hN : m1.n = N at *
  go_enter Try.func24, Try.ntmps24
  go_wp2_with fail
  go_quiet (fail)
  go_wp2_with fail
  go_loopw [6, 7] (fun ov iv wr => ∃ (k : Nat) (T : List Tc) (v : Value), v = ov ∧ k ≤ N ∧ iv = .int .i64 k ∧ T.map (·.1) = dfM m1 m2 k ∧ CsOwn wr w.heap.size v T ∧ Below w.heap.size w wr) (fun _ iv _ => N - (intOf iv).toNat)
  case atStart => exact ⟨0, [], _, rfl, Nat.zero_le _, rfl, rfl, CsOwn.nil _ _, below_drewN _ _ _⟩
  case round =>
    obtain ⟨k, T, v, rfl, hk, rfl, hT, hown, hb⟩ := hrel
    by_cases hlt : k < N
    · have q1 : (k : Int) < (N : Int) := by omega
      obtain ⟨x1, d1, y1, le1, nl1, w1⟩ := ri_cell HP.out.1 (by omega) (i := k) (by omega)
      obtain ⟨x2, d2, y2, le2, nl2, w2⟩ := ri_cell HP.out.2.1 (by omega) (i := k) (by omega)
      have s1 := str_conv (c := d1) (w1.later hb)
      have s2 := str_conv (c := d2) (w2.later hb)
      have z1 := cell_later hb c1
      have z2 := cell_later hb c2
      have y1 := cell_later hb y1
      have y2 := cell_later hb y2
      have hbl := by_len HP.out.2.2.2.1 k
      have HX2 : Hid _ := hbl
      have hstep : dfM m1 m2 (k + 1) = dfM m1 m2 k ++ (if m1.by k = m2.by k then [] else [((k : Int), m2.by k)]) := rfl
      have HR2 : Hid _ := And.intro (w2.later hb) (And.intro le2 nl2)
      clear w1 w2 le1 le2 nl1 nl2
      generalize m1.by k = B1 at *
      generalize m2.by k = B2 at *
      have HX : Hid _ := And.intro hT (And.intro hown (And.intro hb (And.intro hstep hbl)))
      clear hT hown hb hstep hbl
      have Sd : Below wr.heap.size wr wr.drew := (Below.refl _ _).drew
      by_cases heq : B1 = B2
      · subst heq
        have e7 : (str B1).toList = (str B1).toList := rfl
        have F : Hid _ := And.intro (show T.map (·.1) = dfM m1 m2 (k + 1) by rw [HX.out.2.2.2.1, if_pos rfl, List.append_nil]; exact HX.out.1) (And.intro (HX.out.2.1.later (Below.refl _ _).drew) (below_then HX.out.2.2.1 (Below.refl _ _).drew))
        go_wp2_with fail
        refine wp_region_held_drew (S := fun W => Below wr.heap.size wr W ∧ W.cell? ⟨r1, 0, none⟩ = some (.slice (some ⟨b1, 0, none⟩) N N) ∧ W.cell? ⟨r2, 0, none⟩ = some (.slice (some ⟨b2, 0, none⟩) N N) ∧ W.cell? ⟨b1, k, none⟩ = some (.slice x1 B1.length d1) ∧ W.cell? ⟨b2, k, none⟩ = some (.slice x2 B1.length d2)) (by kernel_rfl) (⟨Sd, z1, z2, y1, y2⟩) (fun hS => ?_)
        refine any_take (i := 0) (v := ?_) rfl (by kernel_rfl) (by kernel_rfl) (by kernel_rfl) (by exact fun _ _ _ h => h) (by rfl) ?_ hS ?_
        rotate_left
        · ((intro w hSw; (try dsimp only at hSw); go_simp) <;> with_reducible rfl)
        (try simp only [Act.put, List.setIfInBounds_toArray, List.set_cons_zero, List.set_cons_succ])
        refine any_take (i := 1) (v := ?_) rfl (by kernel_rfl) (by kernel_rfl) (by kernel_rfl) (by exact fun _ _ _ h => h) (by rfl) ?_ hS ?_
        rotate_left
        · ((intro w hSw; (try dsimp only at hSw); go_simp) <;> with_reducible rfl)
        (try simp only [Act.put, List.setIfInBounds_toArray, List.set_cons_zero, List.set_cons_succ])
        refine any_take (i := 2) (v := ?_) rfl (by kernel_rfl) (by kernel_rfl) (by kernel_rfl) (by exact fun _ _ _ h => h) (by rfl) ?_ hS ?_
        rotate_left
        · ((intro w hSw; (try dsimp only at hSw); go_simp) <;> with_reducible rfl)
        (try simp only [Act.put, List.setIfInBounds_toArray, List.set_cons_zero, List.set_cons_succ])
        refine any_take (i := 3) (v := ?_) rfl (by kernel_rfl) (by kernel_rfl) (by kernel_rfl) (by exact fun _ _ _ h => h) (by rfl) ?_ hS ?_
        rotate_left
        · ((intro w hSw; (try dsimp only at hSw); go_simp) <;> with_reducible rfl)
        (try simp only [Act.put, List.setIfInBounds_toArray, List.set_cons_zero, List.set_cons_succ])
        refine any_take (i := 4) (v := ?_) rfl (by kernel_rfl) (by kernel_rfl) (by kernel_rfl) (by exact fun _ _ _ h => h) (by rfl) ?_ hS ?_
        rotate_left
        · ((intro w hSw; (try dsimp only at hSw); go_simp) <;> with_reducible rfl)
        (try simp only [Act.put, List.setIfInBounds_toArray, List.set_cons_zero, List.set_cons_succ])
        refine any_take (i := 5) (v := ?_) rfl (by kernel_rfl) (by kernel_rfl) (by kernel_rfl) (by exact fun _ _ _ h => h) (by rfl) ?_ hS ?_
        rotate_left
        · ((intro w hSw; (try dsimp only at hSw); go_simp) <;> with_reducible rfl)
        (try simp only [Act.put, List.setIfInBounds_toArray, List.set_cons_zero, List.set_cons_succ])
        refine any_take (i := 6) (v := ?_) rfl (by kernel_rfl) (by kernel_rfl) (by kernel_rfl) (by exact fun _ _ _ h => h) (by rfl) ?_ hS ?_
        rotate_left
        · ((intro w hSw; (try dsimp only at hSw); go_simp) <;> with_reducible rfl)
        (try simp only [Act.put, List.setIfInBounds_toArray, List.set_cons_zero, List.set_cons_succ])
        refine any_take (i := 7) (v := ?_) rfl (by kernel_rfl) (by kernel_rfl) (by kernel_rfl) (by exact fun _ _ _ h => h) (by rfl) ?_ hS ?_
        rotate_left
        · ((intro w hSw; (try dsimp only at hSw); go_simp) <;> with_reducible rfl)
        (try simp only [Act.put, List.setIfInBounds_toArray, List.set_cons_zero, List.set_cons_succ])
        refine any_take (i := 8) (v := ?_) rfl (by kernel_rfl) (by kernel_rfl) (by kernel_rfl) (by exact fun _ _ _ h => h) (by rfl) ?_ hS ?_
        rotate_left
        · ((intro w hSw; (try dsimp only at hSw); go_simp) <;> with_reducible rfl)
        (try simp only [Act.put, List.setIfInBounds_toArray, List.set_cons_zero, List.set_cons_succ])
        refine any_take (i := 9) (v := ?_) rfl (by kernel_rfl) (by kernel_rfl) (by kernel_rfl) (by exact fun _ _ _ h => h) (by rfl) ?_ hS ?_
        rotate_left
        · ((intro w hSw; (try dsimp only at hSw); go_simp) <;> with_reducible rfl)
        (try simp only [Act.put, List.setIfInBounds_toArray, List.set_cons_zero, List.set_cons_succ])
        refine any_take (i := 10) (v := ?_) rfl (by kernel_rfl) (by kernel_rfl) (by kernel_rfl) (by exact fun _ _ _ h => h) (by rfl) ?_ hS ?_
        rotate_left
        · ((intro w hSw; (try dsimp only at hSw); go_simp) <;> with_reducible rfl)
        (try simp only [Act.put, List.setIfInBounds_toArray, List.set_cons_zero, List.set_cons_succ])
        refine any_take (i := 11) (v := ?_) rfl (by kernel_rfl) (by kernel_rfl) (by kernel_rfl) (by exact fun _ _ _ h => h) (by rfl) ?_ hS ?_
        rotate_left
        · ((intro w hSw; (try dsimp only at hSw); go_simp) <;> with_reducible rfl)
        (try simp only [Act.put, List.setIfInBounds_toArray, List.set_cons_zero, List.set_cons_succ])
        refine any_take (i := 12) (v := ?_) rfl (by kernel_rfl) (by kernel_rfl) (by kernel_rfl) (by exact fun _ _ _ h => h) (by rfl) ?_ hS ?_
        rotate_left
        · ((intro w hSw; (try dsimp only at hSw); go_simp) <;> with_reducible rfl)
        (try simp only [Act.put, List.setIfInBounds_toArray, List.set_cons_zero, List.set_cons_succ])
        refine any_take (i := 13) (v := ?_) rfl (by kernel_rfl) (by kernel_rfl) (by kernel_rfl) (by exact fun _ _ _ h => h) (by rfl) ?_ hS ?_
        rotate_left
        · ((intro w hSw; (try dsimp only at hSw); go_simp) <;> with_reducible rfl)
        (try simp only [Act.put, List.setIfInBounds_toArray, List.set_cons_zero, List.set_cons_succ])
        refine any_take (i := 14) (v := ?_) rfl (by kernel_rfl) (by kernel_rfl) (by kernel_rfl) (by exact fun _ _ _ h => h) (by rfl) ?_ hS ?_
        rotate_left
        · ((intro w hSw; (try dsimp only at hSw); go_simp) <;> with_reducible rfl)
        (try simp only [Act.put, List.setIfInBounds_toArray, List.set_cons_zero, List.set_cons_succ])
        refine any_take (i := 15) (v := ?_) rfl (by kernel_rfl) (by kernel_rfl) (by kernel_rfl) (by exact fun _ _ _ h => h) (by rfl) ?_ hS ?_
        rotate_left
        · ((intro w hSw; (try dsimp only at hSw); go_simp) <;> with_reducible rfl)
        (try simp only [Act.put, List.setIfInBounds_toArray, List.set_cons_zero, List.set_cons_succ])
        refine any_take (i := 16) (v := ?_) rfl (by kernel_rfl) (by kernel_rfl) (by kernel_rfl) (by exact fun _ _ _ h => h) (by rfl) ?_ hS ?_
        rotate_left
        · ((intro w hSw; (try dsimp only at hSw); go_simp) <;> with_reducible rfl)
        (try simp only [Act.put, List.setIfInBounds_toArray, List.set_cons_zero, List.set_cons_succ])
        refine wpAnyH_done (by kernel_rfl) ?_ _
        go_wp2
        go_roundw
        case rel => exact ⟨k + 1, T, v, rfl, by omega, by go_num, F.out.1, F.out.2.1, F.out.2.2⟩
        case measure => simp [intOf]; omega
      · have hstepN : Hid (dfM m1 m2 (k + 1) = dfM m1 m2 k ++ [((k : Int), B2)]) := by rw [HX.out.2.2.2.1, if_neg heq]; exact rfl
        have HB2 : Hid (B2.length ≤ 64) := by have := HX2.out; unfold Hid; omega
        have e7 := str_neq heq
        go_wp2_with fail
        refine wp_region_held_drew (S := fun W => Below wr.heap.size wr W ∧ W.cell? ⟨r1, 0, none⟩ = some (.slice (some ⟨b1, 0, none⟩) N N) ∧ W.cell? ⟨r2, 0, none⟩ = some (.slice (some ⟨b2, 0, none⟩) N N) ∧ W.cell? ⟨b1, k, none⟩ = some (.slice x1 B1.length d1) ∧ W.cell? ⟨b2, k, none⟩ = some (.slice x2 B2.length d2)) (by kernel_rfl) (⟨Sd, z1, z2, y1, y2⟩) (fun hS => ?_)
        refine any_take (i := 0) (v := ?_) rfl (by kernel_rfl) (by kernel_rfl) (by kernel_rfl) (by exact fun _ _ _ h => h) (by rfl) ?_ hS ?_
        rotate_left
        · ((intro w hSw; (try dsimp only at hSw); go_simp) <;> with_reducible rfl)
        (try simp only [Act.put, List.setIfInBounds_toArray, List.set_cons_zero, List.set_cons_succ])
        refine any_take (i := 1) (v := ?_) rfl (by kernel_rfl) (by kernel_rfl) (by kernel_rfl) (by exact fun _ _ _ h => h) (by rfl) ?_ hS ?_
        rotate_left
        · ((intro w hSw; (try dsimp only at hSw); go_simp) <;> with_reducible rfl)
        (try simp only [Act.put, List.setIfInBounds_toArray, List.set_cons_zero, List.set_cons_succ])
        refine any_take (i := 2) (v := ?_) rfl (by kernel_rfl) (by kernel_rfl) (by kernel_rfl) (by exact fun _ _ _ h => h) (by rfl) ?_ hS ?_
        rotate_left
        · ((intro w hSw; (try dsimp only at hSw); go_simp) <;> with_reducible rfl)
        (try simp only [Act.put, List.setIfInBounds_toArray, List.set_cons_zero, List.set_cons_succ])
        refine any_take (i := 3) (v := ?_) rfl (by kernel_rfl) (by kernel_rfl) (by kernel_rfl) (by exact fun _ _ _ h => h) (by rfl) ?_ hS ?_
        rotate_left
        · ((intro w hSw; (try dsimp only at hSw); go_simp) <;> with_reducible rfl)
        (try simp only [Act.put, List.setIfInBounds_toArray, List.set_cons_zero, List.set_cons_succ])
        refine any_take (i := 4) (v := ?_) rfl (by kernel_rfl) (by kernel_rfl) (by kernel_rfl) (by exact fun _ _ _ h => h) (by rfl) ?_ hS ?_
        rotate_left
        · ((intro w hSw; (try dsimp only at hSw); go_simp) <;> with_reducible rfl)
        (try simp only [Act.put, List.setIfInBounds_toArray, List.set_cons_zero, List.set_cons_succ])
        refine any_take (i := 5) (v := ?_) rfl (by kernel_rfl) (by kernel_rfl) (by kernel_rfl) (by exact fun _ _ _ h => h) (by rfl) ?_ hS ?_
        rotate_left
        · ((intro w hSw; (try dsimp only at hSw); go_simp) <;> with_reducible rfl)
        (try simp only [Act.put, List.setIfInBounds_toArray, List.set_cons_zero, List.set_cons_succ])
        refine any_take (i := 6) (v := ?_) rfl (by kernel_rfl) (by kernel_rfl) (by kernel_rfl) (by exact fun _ _ _ h => h) (by rfl) ?_ hS ?_
        rotate_left
        · ((intro w hSw; (try dsimp only at hSw); go_simp) <;> with_reducible rfl)
        (try simp only [Act.put, List.setIfInBounds_toArray, List.set_cons_zero, List.set_cons_succ])
        refine any_take (i := 7) (v := ?_) rfl (by kernel_rfl) (by kernel_rfl) (by kernel_rfl) (by exact fun _ _ _ h => h) (by rfl) ?_ hS ?_
        rotate_left
        · ((intro w hSw; (try dsimp only at hSw); go_simp) <;> with_reducible rfl)
        (try simp only [Act.put, List.setIfInBounds_toArray, List.set_cons_zero, List.set_cons_succ])
        refine any_take (i := 8) (v := ?_) rfl (by kernel_rfl) (by kernel_rfl) (by kernel_rfl) (by exact fun _ _ _ h => h) (by rfl) ?_ hS ?_
        rotate_left
        · ((intro w hSw; (try dsimp only at hSw); go_simp) <;> with_reducible rfl)
        (try simp only [Act.put, List.setIfInBounds_toArray, List.set_cons_zero, List.set_cons_succ])
        refine any_take (i := 9) (v := ?_) rfl (by kernel_rfl) (by kernel_rfl) (by kernel_rfl) (by exact fun _ _ _ h => h) (by rfl) ?_ hS ?_
        rotate_left
        · ((intro w hSw; (try dsimp only at hSw); go_simp) <;> with_reducible rfl)
        (try simp only [Act.put, List.setIfInBounds_toArray, List.set_cons_zero, List.set_cons_succ])
        refine any_take (i := 10) (v := ?_) rfl (by kernel_rfl) (by kernel_rfl) (by kernel_rfl) (by exact fun _ _ _ h => h) (by rfl) ?_ hS ?_
        rotate_left
        · ((intro w hSw; (try dsimp only at hSw); go_simp) <;> with_reducible rfl)
        (try simp only [Act.put, List.setIfInBounds_toArray, List.set_cons_zero, List.set_cons_succ])
        refine any_take (i := 11) (v := ?_) rfl (by kernel_rfl) (by kernel_rfl) (by kernel_rfl) (by exact fun _ _ _ h => h) (by rfl) ?_ hS ?_
        rotate_left
        · ((intro w hSw; (try dsimp only at hSw); go_simp) <;> with_reducible rfl)
        (try simp only [Act.put, List.setIfInBounds_toArray, List.set_cons_zero, List.set_cons_succ])
        refine any_take (i := 12) (v := ?_) rfl (by kernel_rfl) (by kernel_rfl) (by kernel_rfl) (by exact fun _ _ _ h => h) (by rfl) ?_ hS ?_
        rotate_left
        · ((intro w hSw; (try dsimp only at hSw); go_simp) <;> with_reducible rfl)
        (try simp only [Act.put, List.setIfInBounds_toArray, List.set_cons_zero, List.set_cons_succ])
        refine any_take (i := 13) (v := ?_) rfl (by kernel_rfl) (by kernel_rfl) (by kernel_rfl) (by exact fun _ _ _ h => h) (by rfl) ?_ hS ?_
        rotate_left
        · ((intro w hSw; (try dsimp only at hSw); go_simp) <;> with_reducible rfl)
        (try simp only [Act.put, List.setIfInBounds_toArray, List.set_cons_zero, List.set_cons_succ])
        refine any_take (i := 14) (v := ?_) rfl (by kernel_rfl) (by kernel_rfl) (by kernel_rfl) (by exact fun _ _ _ h => h) (by rfl) ?_ hS ?_
        rotate_left
        · ((intro w hSw; (try dsimp only at hSw); go_simp) <;> with_reducible rfl)
        (try simp only [Act.put, List.setIfInBounds_toArray, List.set_cons_zero, List.set_cons_succ])
        refine any_take (i := 15) (v := ?_) rfl (by kernel_rfl) (by kernel_rfl) (by kernel_rfl) (by exact fun _ _ _ h => h) (by rfl) ?_ hS ?_
        rotate_left
        · ((intro w hSw; (try dsimp only at hSw); go_simp) <;> with_reducible rfl)
        (try simp only [Act.put, List.setIfInBounds_toArray, List.set_cons_zero, List.set_cons_succ])
        refine any_take (i := 16) (v := ?_) rfl (by kernel_rfl) (by kernel_rfl) (by kernel_rfl) (by exact fun _ _ _ h => h) (by rfl) ?_ hS ?_
        rotate_left
        · ((intro w hSw; (try dsimp only at hSw); go_simp) <;> with_reducible rfl)
        (try simp only [Act.put, List.setIfInBounds_toArray, List.set_cons_zero, List.set_cons_succ])
        refine wpAnyH_done (by kernel_rfl) ?_ _
        go_wp2_with (at_builtin; refine wpList_append_bytes _ rfl _ _ rfl wr.heap.size (.slice none 0 0) [] rfl (Own.nil _ _) x2 B2.length d2 B2 rfl rfl (HR2.out.1.later Sd) HR2.out.2.2 HR2.out.2.1 (by simp only [List.length_nil]; have := HX.out.2.2.2.2; have hbb := HB2.out; omega) (Nat.le_refl _) ?_)
        intro v2 w2 ho2 hg2
        have hb2 : Below wr.heap.size wr w2 := Sd.grown hg2 Sd.size (fun k e => by cases e)
        have hlo2 := World.ownsRow.lt ho2
        have hlv := World.ownsRow.lt HX.out.2.1.own
        have hwr := HX.out.2.2.1.size
        have hlp := fun (p' : Tc) (hp : p' ∈ T) => World.ownsRow.lt (HX.out.2.1.each p' hp)
        obtain ⟨xa, xc, e2, -⟩ := ho2.open
        subst e2
        have bA : Below w2.heap.size w2 (w2.alloc (.cells #[.int .i64 (k : Int), .slice xa B2.length xc] 57)) := (Below.refl _ _).alloc (Nat.le_refl _) _
        have BA : Blk (w2.alloc (.cells #[.int .i64 (k : Int), .slice xa B2.length xc] 57)) w2.heap.size 57 [.int .i64 (k : Int), .slice xa B2.length xc] := Blk.new' w2 _ _
        have bbA := below_then hb2 bA
        have hO : Own (w2.alloc (.cells #[.int .i64 (k : Int), .slice xa B2.length xc] 57)) w.heap.size (.slice xa B2.length xc) B2 := (own_base ho2 hwr).later bA
        have hfar : ∀ q, (Value.slice xa B2.length xc).ownBlock = some q → v.ownBlock ≠ some q ∧ ∀ p' ∈ T, p'.2.ownBlock ≠ some q := fun q hq => ⟨fun e => by have := (hlv q e).2; have := (hlo2 q hq).1; omega, fun p' hp e => by have := (hlp p' hp q e).2; have := (hlo2 q hq).1; omega⟩
        have hTl : T.length ≤ k := by have h0 := congrArg List.length HX.out.1; rw [List.length_map] at h0; have := dfM_len m1 m2 k; omega
        have HA : Hid _ := And.intro (HX.out.2.1.later bbA) (And.intro BA (And.intro hO (And.intro hfar (And.intro (Nat.le_trans hwr bbA.size) (And.intro hTl (below_then HX.out.2.2.1 bbA))))))
        have HL3 : Hid _ := And.intro (fun q hq => Nat.le_trans (Nat.le_refl _) (hlv q hq).1) hstepN.out
        clear bA BA bbA hO hfar hTl hlo2 hlv hlp hb2 ho2 hg2 hwr z1 z2 y1 y2 Sd s1 s2
        go_wp2_with (at_builtin; refine wpList_append_ch _ rfl _ _ rfl w.heap.size v T rfl HA.out.1 w2.heap.size (((k : Int), B2), Value.slice xa B2.length xc) (by first | rfl | simp) HA.out.2.1 HA.out.2.2.1 HA.out.2.2.2.1 (by have := HA.out.2.2.2.2.2.1; omega) HA.out.2.2.2.2.1 ?_)
        intro v' w3 hown3 hg3
        have F : Hid _ := And.intro (show (T ++ [(((k : Int), B2), Value.slice xa B2.length xc)]).map (·.1) = dfM m1 m2 (k + 1) by rw [HL3.out.2, List.map_append, HX.out.1]; rfl) (And.intro hown3 (HA.out.2.2.2.2.2.2.grown hg3 HA.out.2.2.2.2.2.2.size HL3.out.1))
        clear hown3 hg3 HA HL3
        go_wp2
        go_roundw
        case rel => exact ⟨k + 1, T ++ [(((k : Int), B2), Value.slice xa B2.length xc)], v', rfl, by omega, by go_num, F.out.1, F.out.2.1, F.out.2.2⟩
        case measure => simp [intOf]; omega
    · obtain rfl : k = N := by omega
      have q1 : ¬ ((k : Int) < (k : Int)) := by omega
      have F : Hid _ := And.intro hT (And.intro hown hb)
      clear hT hown hb hk hlt
      have z1 := cell_later F.out.2.2 c1
      go_wp2
      refine bodyPost_ret (v := .tuple #[v, .int .i64 0]) (by first | rfl | simp [results, Try.results24, go_sem]) rfl ?_
      exact ⟨v, T, rfl, F.out.1, F.out.2.1, F.out.2.2⟩
end Go.Proofs.Ytmkacgdbmojomaa

