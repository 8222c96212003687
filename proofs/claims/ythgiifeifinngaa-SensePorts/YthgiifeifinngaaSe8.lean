/- bytes.Equal; sense: Data in all cases; Read, the program's and the document's. -/
import Derived.Test.YthgiifeifinngaaSe7
namespace Go.Proofs.Ythgiifeifinngaa
open Go.RowKit
set_option linter.unusedVariables false
set_option linter.unusedSimpArgs false
set_option maxRecDepth 4000

set_option maxHeartbeats 400000 in
theorem beq_any (a b : Option Addr) (ca cb : Nat) (l m : List (BitVec 8)) (w : World) (hr : Row w a l) (hm : Row w b m) :
    Calls Try.prog 32 #[.slice a l.length ca, .slice b m.length cb] w fun e w' => e = .returned (.bool (decide (l = m))) ∧ w = w' := by
  have h1 := hr.str l.length ca rfl
  have h2 := hm.str m.length cb rfl
  have H : Hid _ := str_inj l m
  clear hr hm
  go_enter Try.func32, Try.ntmps32
  go_wp2
  go_ret
  exact ⟨ret_bool H.out, rfl⟩
theorem dtE_cases (k a q : Int) : dtE k a q = 0 ∨ dtE k a q = 1 := by
  unfold dtE; split
  · exact .inl rfl
  · exact .inr rfl
theorem data_any (s k a q : Int) (d : Value) (w : World) :
    Calls Try.prog 9 #[.agg #[.int .i64 s, .int .i64 k, .int .i64 a, .int .i64 q, d]] w fun e w' => ∃ z, e = .returned (.tuple #[z, .int .i64 (dtE k a q)]) ∧ Own w' w.heap.size z (dtB k a q) ∧ Below w.heap.size w w' := by
  have no : ∀ (h : ¬ (fromB 0 k 15 = true ∧ fromB 0 a 255 = true ∧ fromB 0 q 255 = true)), dtE k a q = 1 ∧ dtB k a q = [] := fun h => by
    have e : dtE k a q = 1 := if_neg h
    exact ⟨e, if_neg (by rw [e]; decide)⟩
  have fin : ∀ (h : ¬ (fromB 0 k 15 = true ∧ fromB 0 a 255 = true ∧ fromB 0 q 255 = true)), Calls Try.prog 9 #[.agg #[.int .i64 s, .int .i64 k, .int .i64 a, .int .i64 q, d]] w (fun e w' => e = .returned (.tuple #[.slice none 0 0, .int .i64 1]) ∧ Below w.heap.size w w') → Calls Try.prog 9 #[.agg #[.int .i64 s, .int .i64 k, .int .i64 a, .int .i64 q, d]] w fun e w' => ∃ z, e = .returned (.tuple #[z, .int .i64 (dtE k a q)]) ∧ Own w' w.heap.size z (dtB k a q) ∧ Below w.heap.size w w' := fun h c => by
    refine c.mono ?_
    rintro e w' ⟨rfl, b⟩
    exact ⟨.slice none 0 0, by rw [(no h).1], by rw [(no h).2]; exact Own.nil _ _, b⟩
  cases h1 : fromB 0 k 15 with
  | false => exact fin (by simp [h1]) (data_no1 s k a q d w h1)
  | true =>
    cases h2 : fromB 0 a 255 with
    | false => exact fin (by simp [h2]) (data_no2 s k a q d w h1 h2)
    | true =>
      cases h3 : fromB 0 q 255 with
      | false => exact fin (by simp [h3]) (data_no3 s k a q d w h1 h2 h3)
      | true =>
        have e : dtE k a q = 0 := if_pos ⟨h1, h2, h3⟩
        refine (data_yes s k a q d w h1 h2 h3).mono ?_
        rintro r w' ⟨z, rfl, o, b⟩
        exact ⟨z, by rw [e], by unfold dtB; rw [if_pos e]; exact o, b⟩
theorem rdata_any (s k a q : Int) (d : Value) (w : World) :
    Calls Try.prog 10 #[.agg #[.int .i64 s, .int .i64 k, .int .i64 a, .int .i64 q, d]] w fun e w' => ∃ z, e = .returned (.tuple #[z, .int .i64 (dtE k a q)]) ∧ Own w' w.heap.size z (dtB k a q) ∧ Below w.heap.size w w' := by
  have no : ∀ (h : ¬ (fromB 0 k 15 = true ∧ fromB 0 a 255 = true ∧ fromB 0 q 255 = true)), dtE k a q = 1 ∧ dtB k a q = [] := fun h => by
    have e : dtE k a q = 1 := if_neg h
    exact ⟨e, if_neg (by rw [e]; decide)⟩
  have fin : ∀ (h : ¬ (fromB 0 k 15 = true ∧ fromB 0 a 255 = true ∧ fromB 0 q 255 = true)), Calls Try.prog 10 #[.agg #[.int .i64 s, .int .i64 k, .int .i64 a, .int .i64 q, d]] w (fun e w' => e = .returned (.tuple #[.slice none 0 0, .int .i64 1]) ∧ Below w.heap.size w w') → Calls Try.prog 10 #[.agg #[.int .i64 s, .int .i64 k, .int .i64 a, .int .i64 q, d]] w fun e w' => ∃ z, e = .returned (.tuple #[z, .int .i64 (dtE k a q)]) ∧ Own w' w.heap.size z (dtB k a q) ∧ Below w.heap.size w w' := fun h c => by
    refine c.mono ?_
    rintro e w' ⟨rfl, b⟩
    exact ⟨.slice none 0 0, by rw [(no h).1], by rw [(no h).2]; exact Own.nil _ _, b⟩
  have un : ∀ {n m : Int}, fromB 0 n m = true → 0 ≤ n ∧ n ≤ m := fun h => of_decide_eq_true h
  by_cases h0 : k < 0
  · exact fin (fun h => by have := un h.1; omega) (rdata_no0 s k a q d w h0)
  by_cases h1 : 15 < k
  · exact fin (fun h => by have := un h.1; omega) (rdata_no1 s k a q d w h0 h1)
  by_cases h2 : a < 0
  · exact fin (fun h => by have := un h.2.1; omega) (rdata_no2 s k a q d w h0 h1 h2)
  by_cases h3 : 255 < a
  · exact fin (fun h => by have := un h.2.1; omega) (rdata_no3 s k a q d w h0 h1 h2 h3)
  by_cases h4 : q < 0
  · exact fin (fun h => by have := un h.2.2; omega) (rdata_no4 s k a q d w h0 h1 h2 h3 h4)
  by_cases h5 : 255 < q
  · exact fin (fun h => by have := un h.2.2; omega) (rdata_no5 s k a q d w h0 h1 h2 h3 h4 h5)
  have e : dtE k a q = 0 := if_pos ⟨decide_eq_true ⟨by omega, by omega⟩, decide_eq_true ⟨by omega, by omega⟩, decide_eq_true ⟨by omega, by omega⟩⟩
  refine (rdata_yes s k a q d w h0 h1 h2 h3 h4 h5).mono ?_
  rintro r w' ⟨z, rfl, o, b⟩
  exact ⟨z, by rw [e], by unfold dtB; rw [if_pos e]; exact o, b⟩
/-- what is read as a sense, and its error -/
def rsOk (l : List (BitVec 8)) : Bool := decide (dtE (bt l 2) (bt l 12) (bt l 13) = 0) && decide (senB (bt l 2) (bt l 12) (bt l 13) = l)
def rsE (l : List (BitVec 8)) : Int := if l.length < 18 then 10 else if rsOk l = true then 0 else 11
def rsV (l : List (BitVec 8)) (i : Nat) : Int := if rsE l = 0 then bt l i else 0
theorem rs_bad {l : List (BitVec 8)} {E : Int} (h : rsE l = E) (h0 : E ≠ 0) (i : Nat) : rsV l i = 0 := if_neg (by rw [h]; exact h0)
theorem rs_cells {w : World} {a : Option Addr} {l : List (BitVec 8)} (hr : Row w a l) (h : ¬ l.length < 18) : ∃ b off, a = some ⟨b, off, none⟩ ∧ ∀ i, i < l.length → w.cell? ⟨b, off + i, none⟩ = some (.int .u8 (bt l i)) := by
  rcases hr with rfl | ⟨b, off, rfl, hc⟩
  · simp at h
  · exact ⟨b, off, rfl, hc⟩
set_option maxHeartbeats 1000000 in
theorem read_any (a : Option Addr) (c : Nat) (l : List (BitVec 8)) (w : World) (hr : Row w a l) (hlen : l.length ≤ 140737488355328) :
    Calls Try.prog 11 #[.slice a l.length c] w fun e w' => e = .returned (.tuple #[.int .i64 (rsV l 2), .int .i64 (rsV l 12), .int .i64 (rsV l 13), .int .i64 (rsE l)]) ∧ Below w.heap.size w w' := by
  by_cases hs : l.length < 18
  · have hE : Hid (rsE l = 10) := if_pos hs
    have q1 : (l.length : Int) < 18 := by omega
    have BB : Hid _ := Below.refl w.heap.size w
    clear hr hs
    go_enter Try.func11, Try.ntmps11
    go_wp2
    refine bodyPost_ret (v := .tuple #[.int .i64 0, .int .i64 0, .int .i64 0, .int .i64 10]) (by first | rfl | simp [results, Try.results11, go_sem]) rfl ?_
    exact ⟨by rw [rs_bad hE.out (by decide), rs_bad hE.out (by decide), rs_bad hE.out (by decide), hE.out], BB.out⟩
  · obtain ⟨b, off, rfl, hc⟩ := rs_cells hr hs
    have HC : Hid _ := And.intro (hc 2 (by omega)) (And.intro (hc 12 (by omega)) (hc 13 (by omega)))
    have HL : Hid _ := And.intro hr hs
    have q1 : decide ((l.length : Int) < 18) = false := decide_eq_false (by omega)
    have q2 : (2 : Int) < (l.length : Int) := by omega
    have q12 : (12 : Int) < (l.length : Int) := by omega
    have q13 : (13 : Int) < (l.length : Int) := by omega
    have B2 := bt_bd l 2
    have B12 := bt_bd l 12
    have B13 := bt_bd l 13
    have hO : Hid (rsE l = if rsOk l = true then 0 else 11) := if_neg hs
    have hU : Hid (rsOk l = (decide (dtE (bt l 2) (bt l 12) (bt l 13) = 0) && decide (senB (bt l 2) (bt l 12) (bt l 13) = l))) := rfl
    have hV : Hid (rsE l = 0 → rsV l 2 = bt l 2 ∧ rsV l 12 = bt l 12 ∧ rsV l 13 = bt l 13) := fun h => ⟨if_pos h, if_pos h, if_pos h⟩
    generalize bt l 2 = x2 at *
    generalize bt l 12 = x12 at *
    generalize bt l 13 = x13 at *
    have v2 : IntKind.i64.wrap x2 = x2 := by rw [IntKind.wrap_i64]; omega
    have v12 : IntKind.i64.wrap x12 = x12 := by rw [IntKind.wrap_i64]; omega
    have v13 : IntKind.i64.wrap x13 = x13 := by rw [IntKind.wrap_i64]; omega
    have hD : Hid _ := data_any 0 x2 x12 x13 (.slice none 0 0)
    clear hc hr hs B2 B12 B13
    go_enter Try.func11, Try.ntmps11
    go_upto_region 3 with fail
    refine wp_region_held_drew (S := fun W => Below w.heap.size w W) (by kernel_rfl) ((Below.refl _ _).drew) (fun hS => ?_)
    refine any_take (i := 0) (v := ?_) rfl (by kernel_rfl) (by kernel_rfl) (by kernel_rfl) (by exact fun _ _ _ h => h) (by rfl) ?_ hS ?_
    rotate_left
    · ((intro w hSw; have c2 := cl_later HC.out.1 hSw; have c12 := cl_later HC.out.2.1 hSw; have c13 := cl_later HC.out.2.2 hSw; go_simp) <;> with_reducible rfl)
    (try simp only [Act.put, List.setIfInBounds_toArray, List.set_cons_zero, List.set_cons_succ])
    refine any_take (i := 1) (v := ?_) rfl (by kernel_rfl) (by kernel_rfl) (by kernel_rfl) (by exact fun _ _ _ h => h) (by rfl) ?_ hS ?_
    rotate_left
    · ((intro w hSw; have c2 := cl_later HC.out.1 hSw; have c12 := cl_later HC.out.2.1 hSw; have c13 := cl_later HC.out.2.2 hSw; go_simp) <;> with_reducible rfl)
    (try simp only [Act.put, List.setIfInBounds_toArray, List.set_cons_zero, List.set_cons_succ])
    refine any_take (i := 2) (v := ?_) rfl (by kernel_rfl) (by kernel_rfl) (by kernel_rfl) (by exact fun _ _ _ h => h) (by rfl) ?_ hS ?_
    rotate_left
    · ((intro w hSw; have c2 := cl_later HC.out.1 hSw; have c12 := cl_later HC.out.2.1 hSw; have c13 := cl_later HC.out.2.2 hSw; go_simp) <;> with_reducible rfl)
    (try simp only [Act.put, List.setIfInBounds_toArray, List.set_cons_zero, List.set_cons_succ])
    refine any_take (i := 3) (v := ?_) rfl (by kernel_rfl) (by kernel_rfl) (by kernel_rfl) (by exact fun _ _ _ h => h) (by rfl) ?_ hS ?_
    rotate_left
    · ((intro w hSw; have c2 := cl_later HC.out.1 hSw; have c12 := cl_later HC.out.2.1 hSw; have c13 := cl_later HC.out.2.2 hSw; go_simp) <;> with_reducible rfl)
    (try simp only [Act.put, List.setIfInBounds_toArray, List.set_cons_zero, List.set_cons_succ])
    refine any_take (i := 4) (v := ?_) rfl (by kernel_rfl) (by kernel_rfl) (by kernel_rfl) (by exact fun _ _ _ h => h) (by rfl) ?_ hS ?_
    rotate_left
    · ((intro w hSw; have c2 := cl_later HC.out.1 hSw; have c12 := cl_later HC.out.2.1 hSw; have c13 := cl_later HC.out.2.2 hSw; go_simp) <;> with_reducible rfl)
    (try simp only [Act.put, List.setIfInBounds_toArray, List.set_cons_zero, List.set_cons_succ])
    refine any_take (i := 5) (v := ?_) rfl (by kernel_rfl) (by kernel_rfl) (by kernel_rfl) (by exact fun _ _ _ h => h) (by rfl) ?_ hS ?_
    rotate_left
    · ((intro w hSw; have c2 := cl_later HC.out.1 hSw; have c12 := cl_later HC.out.2.1 hSw; have c13 := cl_later HC.out.2.2 hSw; go_simp) <;> with_reducible rfl)
    (try simp only [Act.put, List.setIfInBounds_toArray, List.set_cons_zero, List.set_cons_succ])
    refine any_take (i := 6) (v := ?_) rfl (by kernel_rfl) (by kernel_rfl) (by kernel_rfl) (by exact fun _ _ _ h => h) (by rfl) ?_ hS ?_
    rotate_left
    · ((intro w hSw; have c2 := cl_later HC.out.1 hSw; have c12 := cl_later HC.out.2.1 hSw; have c13 := cl_later HC.out.2.2 hSw; go_simp) <;> with_reducible rfl)
    (try simp only [Act.put, List.setIfInBounds_toArray, List.set_cons_zero, List.set_cons_succ])
    refine any_take (i := 7) (v := ?_) rfl (by kernel_rfl) (by kernel_rfl) (by kernel_rfl) (by exact fun _ _ _ h => h) (by rfl) ?_ hS ?_
    rotate_left
    · ((intro w hSw; have c2 := cl_later HC.out.1 hSw; have c12 := cl_later HC.out.2.1 hSw; have c13 := cl_later HC.out.2.2 hSw; go_simp) <;> with_reducible rfl)
    (try simp only [Act.put, List.setIfInBounds_toArray, List.set_cons_zero, List.set_cons_succ])
    refine any_take (i := 8) (v := ?_) rfl (by kernel_rfl) (by kernel_rfl) (by kernel_rfl) (by exact fun _ _ _ h => h) (by rfl) ?_ hS ?_
    rotate_left
    · ((intro w hSw; have c2 := cl_later HC.out.1 hSw; have c12 := cl_later HC.out.2.1 hSw; have c13 := cl_later HC.out.2.2 hSw; go_simp) <;> with_reducible rfl)
    (try simp only [Act.put, List.setIfInBounds_toArray, List.set_cons_zero, List.set_cons_succ])
    refine any_take (i := 9) (v := ?_) rfl (by kernel_rfl) (by kernel_rfl) (by kernel_rfl) (by exact fun _ _ _ h => h) (by rfl) ?_ hS ?_
    rotate_left
    · ((intro w hSw; have c2 := cl_later HC.out.1 hSw; have c12 := cl_later HC.out.2.1 hSw; have c13 := cl_later HC.out.2.2 hSw; go_simp) <;> with_reducible rfl)
    (try simp only [Act.put, List.setIfInBounds_toArray, List.set_cons_zero, List.set_cons_succ])
    refine any_take (i := 10) (v := ?_) rfl (by kernel_rfl) (by kernel_rfl) (by kernel_rfl) (by exact fun _ _ _ h => h) (by rfl) ?_ hS ?_
    rotate_left
    · ((intro w hSw; have c2 := cl_later HC.out.1 hSw; have c12 := cl_later HC.out.2.1 hSw; have c13 := cl_later HC.out.2.2 hSw; go_simp) <;> with_reducible rfl)
    (try simp only [Act.put, List.setIfInBounds_toArray, List.set_cons_zero, List.set_cons_succ])
    refine any_take (i := 11) (v := ?_) rfl (by kernel_rfl) (by kernel_rfl) (by kernel_rfl) (by exact fun _ _ _ h => h) (by rfl) ?_ hS ?_
    rotate_left
    · ((intro w hSw; have c2 := cl_later HC.out.1 hSw; have c12 := cl_later HC.out.2.1 hSw; have c13 := cl_later HC.out.2.2 hSw; go_simp) <;> with_reducible rfl)
    (try simp only [Act.put, List.setIfInBounds_toArray, List.set_cons_zero, List.set_cons_succ])
    refine any_take (i := 12) (v := ?_) rfl (by kernel_rfl) (by kernel_rfl) (by kernel_rfl) (by exact fun _ _ _ h => h) (by rfl) ?_ hS ?_
    rotate_left
    · ((intro w hSw; have c2 := cl_later HC.out.1 hSw; have c12 := cl_later HC.out.2.1 hSw; have c13 := cl_later HC.out.2.2 hSw; go_simp) <;> with_reducible rfl)
    (try simp only [Act.put, List.setIfInBounds_toArray, List.set_cons_zero, List.set_cons_succ])
    refine any_take (i := 13) (v := ?_) rfl (by kernel_rfl) (by kernel_rfl) (by kernel_rfl) (by exact fun _ _ _ h => h) (by rfl) ?_ hS ?_
    rotate_left
    · ((intro w hSw; have c2 := cl_later HC.out.1 hSw; have c12 := cl_later HC.out.2.1 hSw; have c13 := cl_later HC.out.2.2 hSw; go_simp) <;> with_reducible rfl)
    (try simp only [Act.put, List.setIfInBounds_toArray, List.set_cons_zero, List.set_cons_succ])
    refine any_take (i := 14) (v := ?_) rfl (by kernel_rfl) (by kernel_rfl) (by kernel_rfl) (by exact fun _ _ _ h => h) (by rfl) ?_ hS ?_
    rotate_left
    · ((intro w hSw; have c2 := cl_later HC.out.1 hSw; have c12 := cl_later HC.out.2.1 hSw; have c13 := cl_later HC.out.2.2 hSw; go_simp) <;> with_reducible rfl)
    (try simp only [Act.put, List.setIfInBounds_toArray, List.set_cons_zero, List.set_cons_succ])
    refine wpAnyH_done (by kernel_rfl) ?_ _
    have B0 : Hid (Below w.heap.size w w.drew) := hS
    clear hS
    generalize w.drew = wd at *
    clear v2 v12 v13 q2 q12 q13
    go_wp2_with fail
    refine (Calls.mono (hD.out wd)) ?_
    rintro e w1 ⟨z, rfl, o1, b1⟩
    have BB : Hid _ := below_then B0.out b1
    have O1 : Hid _ := o1
    clear o1 b1 hD
    rcases dtE_cases x2 x12 x13 with h0 | h0
    · rw [h0]
      have O2 : Own w1 wd.heap.size z (senB x2 x12 x13) := by have := O1.out; unfold dtB at this; rwa [if_pos h0] at this
      obtain ⟨az, cz, rfl, -, -, hrz, -, -⟩ := O2.open
      have HQ : Hid _ := beq_any az (some ⟨b, off, none⟩) cz c (senB x2 x12 x13) l w1 hrz (HL.out.1.later BB.out)
      clear O2 hrz O1
      go_wp2_with fail
      refine (Calls.mono HQ.out) ?_
      rintro e _ ⟨rfl, rfl⟩
      by_cases he : senB x2 x12 x13 = l
      · have hE : Hid (rsE l = 0) := by rw [hO.out, hU.out, decide_eq_true h0, decide_eq_true he]; rfl
        rw [decide_eq_true he]
        clear hU HQ he
        go_wp2
        refine bodyPost_ret (v := .tuple #[.int .i64 x2, .int .i64 x12, .int .i64 x13, .int .i64 0]) (by first | rfl | simp [results, Try.results11, go_sem]) rfl ?_
        exact ⟨by rw [(hV.out hE.out).1, (hV.out hE.out).2.1, (hV.out hE.out).2.2, hE.out], BB.out⟩
      · have hE : Hid (rsE l = 11) := by rw [hO.out, hU.out, decide_eq_false he, Bool.and_false]; rfl
        rw [decide_eq_false he]
        clear hU HQ he
        go_wp2
        refine bodyPost_ret (v := .tuple #[.int .i64 0, .int .i64 0, .int .i64 0, .int .i64 11]) (by first | rfl | simp [results, Try.results11, go_sem]) rfl ?_
        exact ⟨by rw [rs_bad hE.out (by decide), rs_bad hE.out (by decide), rs_bad hE.out (by decide), hE.out], BB.out⟩
    · rw [h0]
      have hE : Hid (rsE l = 11) := by rw [hO.out, hU.out, h0]; rfl
      obtain ⟨az, cz, rfl, -, -, -, -, -⟩ := Own.open O1.out
      clear O1 hU
      go_wp2
      refine bodyPost_ret (v := .tuple #[.int .i64 0, .int .i64 0, .int .i64 0, .int .i64 11]) (by first | rfl | simp [results, Try.results11, go_sem]) rfl ?_
      exact ⟨by rw [rs_bad hE.out (by decide), rs_bad hE.out (by decide), rs_bad hE.out (by decide), hE.out], BB.out⟩
set_option maxHeartbeats 1000000 in
theorem rread_any (a : Option Addr) (c : Nat) (l : List (BitVec 8)) (w : World) (hr : Row w a l) (hlen : l.length ≤ 140737488355328) :
    Calls Try.prog 12 #[.slice a l.length c] w fun e w' => e = .returned (.tuple #[.int .i64 (rsV l 2), .int .i64 (rsV l 12), .int .i64 (rsV l 13), .int .i64 (rsE l)]) ∧ Below w.heap.size w w' := by
  by_cases hs : l.length < 18
  · have hE : Hid (rsE l = 10) := if_pos hs
    have q1 : (l.length : Int) < 18 := by omega
    have BB : Hid _ := Below.refl w.heap.size w
    clear hr hs
    go_enter Try.func12, Try.ntmps12
    go_wp2
    refine bodyPost_ret (v := .tuple #[.int .i64 0, .int .i64 0, .int .i64 0, .int .i64 10]) (by first | rfl | simp [results, Try.results12, go_sem]) rfl ?_
    exact ⟨by rw [rs_bad hE.out (by decide), rs_bad hE.out (by decide), rs_bad hE.out (by decide), hE.out], BB.out⟩
  · obtain ⟨b, off, rfl, hc⟩ := rs_cells hr hs
    have HC : Hid _ := And.intro (hc 2 (by omega)) (And.intro (hc 12 (by omega)) (hc 13 (by omega)))
    have HL : Hid _ := And.intro hr hs
    have q1 : decide ((l.length : Int) < 18) = false := decide_eq_false (by omega)
    have q2 : (2 : Int) < (l.length : Int) := by omega
    have q12 : (12 : Int) < (l.length : Int) := by omega
    have q13 : (13 : Int) < (l.length : Int) := by omega
    have B2 := bt_bd l 2
    have B12 := bt_bd l 12
    have B13 := bt_bd l 13
    have hO : Hid (rsE l = if rsOk l = true then 0 else 11) := if_neg hs
    have hU : Hid (rsOk l = (decide (dtE (bt l 2) (bt l 12) (bt l 13) = 0) && decide (senB (bt l 2) (bt l 12) (bt l 13) = l))) := rfl
    have hV : Hid (rsE l = 0 → rsV l 2 = bt l 2 ∧ rsV l 12 = bt l 12 ∧ rsV l 13 = bt l 13) := fun h => ⟨if_pos h, if_pos h, if_pos h⟩
    generalize bt l 2 = x2 at *
    generalize bt l 12 = x12 at *
    generalize bt l 13 = x13 at *
    have v2 : IntKind.i64.wrap x2 = x2 := by rw [IntKind.wrap_i64]; omega
    have v12 : IntKind.i64.wrap x12 = x12 := by rw [IntKind.wrap_i64]; omega
    have v13 : IntKind.i64.wrap x13 = x13 := by rw [IntKind.wrap_i64]; omega
    have hD : Hid _ := rdata_any 0 x2 x12 x13 (.slice none 0 0)
    clear hc hr hs B2 B12 B13
    go_enter Try.func12, Try.ntmps12
    go_upto_region 3 with fail
    refine wp_region_held_drew (S := fun W => Below w.heap.size w W) (by kernel_rfl) ((Below.refl _ _).drew) (fun hS => ?_)
    refine any_take (i := 0) (v := ?_) rfl (by kernel_rfl) (by kernel_rfl) (by kernel_rfl) (by exact fun _ _ _ h => h) (by rfl) ?_ hS ?_
    rotate_left
    · ((intro w hSw; have c2 := cl_later HC.out.1 hSw; have c12 := cl_later HC.out.2.1 hSw; have c13 := cl_later HC.out.2.2 hSw; go_simp) <;> with_reducible rfl)
    (try simp only [Act.put, List.setIfInBounds_toArray, List.set_cons_zero, List.set_cons_succ])
    refine any_take (i := 1) (v := ?_) rfl (by kernel_rfl) (by kernel_rfl) (by kernel_rfl) (by exact fun _ _ _ h => h) (by rfl) ?_ hS ?_
    rotate_left
    · ((intro w hSw; have c2 := cl_later HC.out.1 hSw; have c12 := cl_later HC.out.2.1 hSw; have c13 := cl_later HC.out.2.2 hSw; go_simp) <;> with_reducible rfl)
    (try simp only [Act.put, List.setIfInBounds_toArray, List.set_cons_zero, List.set_cons_succ])
    refine any_take (i := 2) (v := ?_) rfl (by kernel_rfl) (by kernel_rfl) (by kernel_rfl) (by exact fun _ _ _ h => h) (by rfl) ?_ hS ?_
    rotate_left
    · ((intro w hSw; have c2 := cl_later HC.out.1 hSw; have c12 := cl_later HC.out.2.1 hSw; have c13 := cl_later HC.out.2.2 hSw; go_simp) <;> with_reducible rfl)
    (try simp only [Act.put, List.setIfInBounds_toArray, List.set_cons_zero, List.set_cons_succ])
    refine any_take (i := 3) (v := ?_) rfl (by kernel_rfl) (by kernel_rfl) (by kernel_rfl) (by exact fun _ _ _ h => h) (by rfl) ?_ hS ?_
    rotate_left
    · ((intro w hSw; have c2 := cl_later HC.out.1 hSw; have c12 := cl_later HC.out.2.1 hSw; have c13 := cl_later HC.out.2.2 hSw; go_simp) <;> with_reducible rfl)
    (try simp only [Act.put, List.setIfInBounds_toArray, List.set_cons_zero, List.set_cons_succ])
    refine any_take (i := 4) (v := ?_) rfl (by kernel_rfl) (by kernel_rfl) (by kernel_rfl) (by exact fun _ _ _ h => h) (by rfl) ?_ hS ?_
    rotate_left
    · ((intro w hSw; have c2 := cl_later HC.out.1 hSw; have c12 := cl_later HC.out.2.1 hSw; have c13 := cl_later HC.out.2.2 hSw; go_simp) <;> with_reducible rfl)
    (try simp only [Act.put, List.setIfInBounds_toArray, List.set_cons_zero, List.set_cons_succ])
    refine any_take (i := 5) (v := ?_) rfl (by kernel_rfl) (by kernel_rfl) (by kernel_rfl) (by exact fun _ _ _ h => h) (by rfl) ?_ hS ?_
    rotate_left
    · ((intro w hSw; have c2 := cl_later HC.out.1 hSw; have c12 := cl_later HC.out.2.1 hSw; have c13 := cl_later HC.out.2.2 hSw; go_simp) <;> with_reducible rfl)
    (try simp only [Act.put, List.setIfInBounds_toArray, List.set_cons_zero, List.set_cons_succ])
    refine any_take (i := 6) (v := ?_) rfl (by kernel_rfl) (by kernel_rfl) (by kernel_rfl) (by exact fun _ _ _ h => h) (by rfl) ?_ hS ?_
    rotate_left
    · ((intro w hSw; have c2 := cl_later HC.out.1 hSw; have c12 := cl_later HC.out.2.1 hSw; have c13 := cl_later HC.out.2.2 hSw; go_simp) <;> with_reducible rfl)
    (try simp only [Act.put, List.setIfInBounds_toArray, List.set_cons_zero, List.set_cons_succ])
    refine any_take (i := 7) (v := ?_) rfl (by kernel_rfl) (by kernel_rfl) (by kernel_rfl) (by exact fun _ _ _ h => h) (by rfl) ?_ hS ?_
    rotate_left
    · ((intro w hSw; have c2 := cl_later HC.out.1 hSw; have c12 := cl_later HC.out.2.1 hSw; have c13 := cl_later HC.out.2.2 hSw; go_simp) <;> with_reducible rfl)
    (try simp only [Act.put, List.setIfInBounds_toArray, List.set_cons_zero, List.set_cons_succ])
    refine any_take (i := 8) (v := ?_) rfl (by kernel_rfl) (by kernel_rfl) (by kernel_rfl) (by exact fun _ _ _ h => h) (by rfl) ?_ hS ?_
    rotate_left
    · ((intro w hSw; have c2 := cl_later HC.out.1 hSw; have c12 := cl_later HC.out.2.1 hSw; have c13 := cl_later HC.out.2.2 hSw; go_simp) <;> with_reducible rfl)
    (try simp only [Act.put, List.setIfInBounds_toArray, List.set_cons_zero, List.set_cons_succ])
    refine any_take (i := 9) (v := ?_) rfl (by kernel_rfl) (by kernel_rfl) (by kernel_rfl) (by exact fun _ _ _ h => h) (by rfl) ?_ hS ?_
    rotate_left
    · ((intro w hSw; have c2 := cl_later HC.out.1 hSw; have c12 := cl_later HC.out.2.1 hSw; have c13 := cl_later HC.out.2.2 hSw; go_simp) <;> with_reducible rfl)
    (try simp only [Act.put, List.setIfInBounds_toArray, List.set_cons_zero, List.set_cons_succ])
    refine any_take (i := 10) (v := ?_) rfl (by kernel_rfl) (by kernel_rfl) (by kernel_rfl) (by exact fun _ _ _ h => h) (by rfl) ?_ hS ?_
    rotate_left
    · ((intro w hSw; have c2 := cl_later HC.out.1 hSw; have c12 := cl_later HC.out.2.1 hSw; have c13 := cl_later HC.out.2.2 hSw; go_simp) <;> with_reducible rfl)
    (try simp only [Act.put, List.setIfInBounds_toArray, List.set_cons_zero, List.set_cons_succ])
    refine any_take (i := 11) (v := ?_) rfl (by kernel_rfl) (by kernel_rfl) (by kernel_rfl) (by exact fun _ _ _ h => h) (by rfl) ?_ hS ?_
    rotate_left
    · ((intro w hSw; have c2 := cl_later HC.out.1 hSw; have c12 := cl_later HC.out.2.1 hSw; have c13 := cl_later HC.out.2.2 hSw; go_simp) <;> with_reducible rfl)
    (try simp only [Act.put, List.setIfInBounds_toArray, List.set_cons_zero, List.set_cons_succ])
    refine any_take (i := 12) (v := ?_) rfl (by kernel_rfl) (by kernel_rfl) (by kernel_rfl) (by exact fun _ _ _ h => h) (by rfl) ?_ hS ?_
    rotate_left
    · ((intro w hSw; have c2 := cl_later HC.out.1 hSw; have c12 := cl_later HC.out.2.1 hSw; have c13 := cl_later HC.out.2.2 hSw; go_simp) <;> with_reducible rfl)
    (try simp only [Act.put, List.setIfInBounds_toArray, List.set_cons_zero, List.set_cons_succ])
    have B0 : Hid (Below w.heap.size w w.drew) := hS
    generalize w.drew = wd at *
    clear v2 v12 v13 q2 q12 q13
    have N0 := Blk.new' wd 24 [.int .i64 0, .int .i64 0, .int .i64 0, .int .i64 0, .slice none 0 0]
    have M0 : Below wd.heap.size wd (wd.alloc (.cells #[.int .i64 0, .int .i64 0, .int .i64 0, .int .i64 0, .slice none 0 0] 24)) := (Below.refl _ _).alloc (Nat.le_refl _) _
    clear hS
    refine any_on (i := 13) rfl (by kernel_rfl) (fun K hK => ?_)
    go_simp
    refine hK.out _ _ (below_then B0.out M0) (fun hS => ?_)
    clear hK K
    generalize wd.alloc (.cells #[.int .i64 0, .int .i64 0, .int .i64 0, .int .i64 0, .slice none 0 0] 24) = w1 at *
    have y0 := bk_at N0 0
    have f0 := bk_fz N0 0
    have y1 := bk_at N0 1
    have f1 := bk_fz N0 1
    have y2 := bk_at N0 2
    have f2 := bk_fz N0 2
    have y3 := bk_at N0 3
    have f3 := bk_fz N0 3
    have y4 := bk_at N0 4
    have f4 := bk_fz N0 4
    simp only [List.getElem?_cons_zero, List.getElem?_cons_succ] at y0 y1 y2 y3 y4
    have N1 := ((((N0.set 0 (.int .i64 0)).set 1 (.int .i64 x2)).set 2 (.int .i64 x12)).set 3 (.int .i64 x13)).set 4 (.slice none 0 0)
    have M1 : Below wd.heap.size wd (((((w1.setCell ⟨wd.heap.size, 0, none⟩ (.int .i64 0)).setCell ⟨wd.heap.size, 1, none⟩ (.int .i64 x2)).setCell ⟨wd.heap.size, 2, none⟩ (.int .i64 x12)).setCell ⟨wd.heap.size, 3, none⟩ (.int .i64 x13)).setCell ⟨wd.heap.size, 4, none⟩ (.slice none 0 0)) := ((((M0.setCell (Nat.le_refl _) _).setCell (Nat.le_refl _) _).setCell (Nat.le_refl _) _).setCell (Nat.le_refl _) _).setCell (Nat.le_refl _) _
    refine any_on (i := 14) rfl (by kernel_rfl) (fun K hK => ?_)
    go_simp
    refine hK.out _ _ (below_then B0.out M1) (fun hS2 => ?_)
    clear hK K hS hS2
    refine wpAnyH_done (by kernel_rfl) ?_ _
    generalize ((((w1.setCell ⟨wd.heap.size, 0, none⟩ (.int .i64 0)).setCell ⟨wd.heap.size, 1, none⟩ (.int .i64 x2)).setCell ⟨wd.heap.size, 2, none⟩ (.int .i64 x12)).setCell ⟨wd.heap.size, 3, none⟩ (.int .i64 x13)).setCell ⟨wd.heap.size, 4, none⟩ (.slice none 0 0) = w2 at *
    simp only [List.set_cons_zero, List.set_cons_succ] at N1
    clear y0 y1 y2 y3 y4 f0 f1 f2 f3 f4 N0 M0
    have k0 := bk_at N1 0
    have k1 := bk_at N1 1
    have k2 := bk_at N1 2
    have k3 := bk_at N1 3
    have k4 := bk_at N1 4
    simp only [List.getElem?_cons_zero, List.getElem?_cons_succ] at k0 k1 k2 k3 k4
    have HB : Hid _ := And.intro N1 (below_then B0.out M1)
    clear N1 M1 B0
    go_wp2_with fail
    refine (Calls.mono (hD.out w2)) ?_
    rintro e w3 ⟨z, rfl, o1, b1⟩
    have N3 : Hid _ := HB.out.1.laterB b1
    have BB : Hid _ := below_then HB.out.2 b1
    have O1 : Hid _ := o1
    clear o1 b1 hD k0 k1 k2 k3 k4 HB
    rcases dtE_cases x2 x12 x13 with h0 | h0
    · rw [h0]
      have O2 : Own w3 w2.heap.size z (senB x2 x12 x13) := by have := O1.out; unfold dtB at this; rwa [if_pos h0] at this
      obtain ⟨az, cz, rfl, -, -, hrz, -, -⟩ := O2.open
      have t1 := hrz.str (senB x2 x12 x13).length cz rfl
      have t2 := (HL.out.1.later BB.out).str l.length c rfl
      have hj : ((str (senB x2 x12 x13)).toList == (str l).toList) = decide (senB x2 x12 x13 = l) := str_inj _ _
      clear O2 hrz O1
      by_cases he : senB x2 x12 x13 = l
      · have hE : Hid (rsE l = 0) := by rw [hO.out, hU.out, decide_eq_true h0, decide_eq_true he]; rfl
        rw [decide_eq_true he] at hj
        have m1 := bk_at N3.out 1
        have m2 := bk_at N3.out 2
        have m3 := bk_at N3.out 3
        simp only [List.getElem?_cons_zero, List.getElem?_cons_succ] at m1 m2 m3
        have HM : Hid _ := And.intro m1 (And.intro m2 m3)
        clear hU he m1 m2 m3
        go_upto_region 7 with fail
        refine wp_region_held_drew (S := fun W => Below w3.heap.size w3 W) (by kernel_rfl) ((Below.refl _ _).drew) (fun hS => ?_)
        refine any_take (i := 0) (v := ?_) rfl (by kernel_rfl) (by kernel_rfl) (by kernel_rfl) (by exact fun _ _ _ h => h) (by rfl) ?_ hS ?_
        rotate_left
        · ((intro w hSw; have m1 := cl_later HM.out.1 hSw; have m2 := cl_later HM.out.2.1 hSw; have m3 := cl_later HM.out.2.2 hSw; go_simp) <;> with_reducible rfl)
        (try simp only [Act.put, List.setIfInBounds_toArray, List.set_cons_zero, List.set_cons_succ])
        refine any_take (i := 1) (v := ?_) rfl (by kernel_rfl) (by kernel_rfl) (by kernel_rfl) (by exact fun _ _ _ h => h) (by rfl) ?_ hS ?_
        rotate_left
        · ((intro w hSw; have m1 := cl_later HM.out.1 hSw; have m2 := cl_later HM.out.2.1 hSw; have m3 := cl_later HM.out.2.2 hSw; go_simp) <;> with_reducible rfl)
        (try simp only [Act.put, List.setIfInBounds_toArray, List.set_cons_zero, List.set_cons_succ])
        refine any_take (i := 2) (v := ?_) rfl (by kernel_rfl) (by kernel_rfl) (by kernel_rfl) (by exact fun _ _ _ h => h) (by rfl) ?_ hS ?_
        rotate_left
        · ((intro w hSw; have m1 := cl_later HM.out.1 hSw; have m2 := cl_later HM.out.2.1 hSw; have m3 := cl_later HM.out.2.2 hSw; go_simp) <;> with_reducible rfl)
        (try simp only [Act.put, List.setIfInBounds_toArray, List.set_cons_zero, List.set_cons_succ])
        refine any_take (i := 3) (v := ?_) rfl (by kernel_rfl) (by kernel_rfl) (by kernel_rfl) (by exact fun _ _ _ h => h) (by rfl) ?_ hS ?_
        rotate_left
        · ((intro w hSw; have m1 := cl_later HM.out.1 hSw; have m2 := cl_later HM.out.2.1 hSw; have m3 := cl_later HM.out.2.2 hSw; go_simp) <;> with_reducible rfl)
        (try simp only [Act.put, List.setIfInBounds_toArray, List.set_cons_zero, List.set_cons_succ])
        refine any_take (i := 4) (v := ?_) rfl (by kernel_rfl) (by kernel_rfl) (by kernel_rfl) (by exact fun _ _ _ h => h) (by rfl) ?_ hS ?_
        rotate_left
        · ((intro w hSw; have m1 := cl_later HM.out.1 hSw; have m2 := cl_later HM.out.2.1 hSw; have m3 := cl_later HM.out.2.2 hSw; go_simp) <;> with_reducible rfl)
        (try simp only [Act.put, List.setIfInBounds_toArray, List.set_cons_zero, List.set_cons_succ])
        refine any_take (i := 5) (v := ?_) rfl (by kernel_rfl) (by kernel_rfl) (by kernel_rfl) (by exact fun _ _ _ h => h) (by rfl) ?_ hS ?_
        rotate_left
        · ((intro w hSw; have m1 := cl_later HM.out.1 hSw; have m2 := cl_later HM.out.2.1 hSw; have m3 := cl_later HM.out.2.2 hSw; go_simp) <;> with_reducible rfl)
        (try simp only [Act.put, List.setIfInBounds_toArray, List.set_cons_zero, List.set_cons_succ])
        refine any_take (i := 6) (v := ?_) rfl (by kernel_rfl) (by kernel_rfl) (by kernel_rfl) (by exact fun _ _ _ h => h) (by rfl) ?_ hS ?_
        rotate_left
        · ((intro w hSw; have m1 := cl_later HM.out.1 hSw; have m2 := cl_later HM.out.2.1 hSw; have m3 := cl_later HM.out.2.2 hSw; go_simp) <;> with_reducible rfl)
        (try simp only [Act.put, List.setIfInBounds_toArray, List.set_cons_zero, List.set_cons_succ])
        refine any_take (i := 7) (v := ?_) rfl (by kernel_rfl) (by kernel_rfl) (by kernel_rfl) (by exact fun _ _ _ h => h) (by rfl) ?_ hS ?_
        rotate_left
        · ((intro w hSw; have m1 := cl_later HM.out.1 hSw; have m2 := cl_later HM.out.2.1 hSw; have m3 := cl_later HM.out.2.2 hSw; go_simp) <;> with_reducible rfl)
        (try simp only [Act.put, List.setIfInBounds_toArray, List.set_cons_zero, List.set_cons_succ])
        refine any_take (i := 8) (v := ?_) rfl (by kernel_rfl) (by kernel_rfl) (by kernel_rfl) (by exact fun _ _ _ h => h) (by rfl) ?_ hS ?_
        rotate_left
        · ((intro w hSw; have m1 := cl_later HM.out.1 hSw; have m2 := cl_later HM.out.2.1 hSw; have m3 := cl_later HM.out.2.2 hSw; go_simp) <;> with_reducible rfl)
        (try simp only [Act.put, List.setIfInBounds_toArray, List.set_cons_zero, List.set_cons_succ])
        refine any_take (i := 9) (v := ?_) rfl (by kernel_rfl) (by kernel_rfl) (by kernel_rfl) (by exact fun _ _ _ h => h) (by rfl) ?_ hS ?_
        rotate_left
        · ((intro w hSw; have m1 := cl_later HM.out.1 hSw; have m2 := cl_later HM.out.2.1 hSw; have m3 := cl_later HM.out.2.2 hSw; go_simp) <;> with_reducible rfl)
        (try simp only [Act.put, List.setIfInBounds_toArray, List.set_cons_zero, List.set_cons_succ])
        refine wpAnyH_done (by kernel_rfl) ?_ _
        have B9 : Hid _ := below_then BB.out hS
        clear hS
        go_wp2
        refine bodyPost_ret (v := .tuple #[.int .i64 x2, .int .i64 x12, .int .i64 x13, .int .i64 0]) (by first | rfl | simp [results, Try.results12, go_sem]) rfl ?_
        exact ⟨by rw [(hV.out hE.out).1, (hV.out hE.out).2.1, (hV.out hE.out).2.2, hE.out], B9.out⟩
      · have hE : Hid (rsE l = 11) := by rw [hO.out, hU.out, decide_eq_false he, Bool.and_false]; rfl
        rw [decide_eq_false he] at hj
        clear hU he
        go_wp2
        refine bodyPost_ret (v := .tuple #[.int .i64 0, .int .i64 0, .int .i64 0, .int .i64 11]) (by first | rfl | simp [results, Try.results12, go_sem]) rfl ?_
        exact ⟨by rw [rs_bad hE.out (by decide), rs_bad hE.out (by decide), rs_bad hE.out (by decide), hE.out], BB.out⟩
    · rw [h0]
      have hE : Hid (rsE l = 11) := by rw [hO.out, hU.out, h0]; rfl
      obtain ⟨az, cz, rfl, -, -, -, -, -⟩ := Own.open O1.out
      clear O1 hU
      go_wp2
      refine bodyPost_ret (v := .tuple #[.int .i64 0, .int .i64 0, .int .i64 0, .int .i64 11]) (by first | rfl | simp [results, Try.results12, go_sem]) rfl ?_
      exact ⟨by rw [rs_bad hE.out (by decide), rs_bad hE.out (by decide), rs_bad hE.out (by decide), hE.out], BB.out⟩
end Go.Proofs.Ythgiifeifinngaa
