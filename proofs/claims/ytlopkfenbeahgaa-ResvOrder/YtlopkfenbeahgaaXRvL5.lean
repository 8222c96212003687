/- The walk of ResvOrder. -/
import Derived.Test.YtlopkfenbeahgaaXRv30
import Derived.Test.YtlopkfenbeahgaaXRv22
import Derived.Test.YtlopkfenbeahgaaXSumC
import Derived.Test.YtlopkfenbeahgaaXDraw
import Derived.Deep.CutRange
import Derived.Deep.QuietTactic
import Derived.BigQuiet
namespace Go.Proofs.Ytlopkfenbeahgaa
open Go.RowKit
set_option linter.unusedVariables false
set_option linter.unusedSimpArgs false
set_option maxRecDepth 4000

/-- a block that is only read -/
def bkOb (b T : Nat) (vs : List Value) : Ob := ⟨[b], [], fun w => Blk w b T vs⟩
theorem bkOb_ok {w : World} {b T : Nat} {vs : List Value} (h : Blk w b T vs) : (bkOb b T vs).Ok w :=
  ⟨h, (fun k hk => by rcases hk with hk | hk; simp only [bkOb, List.mem_singleton] at hk; subst hk; exact h.lt; cases hk), (fun k _ hv => by cases hv), fun w1 w2 hs h => by
    have e := hs b (.inl (by simp [bkOb]))
    have h' : Blk w1 b _ _ := h
    show Blk w2 b _ _
    unfold Blk at *; rw [e]; exact h'⟩
theorem rv_new {g n : Nat} {m : Rs} (h : n ≤ g) : ∀ k, k ∈ (rv g m).W ∨ k ∈ (rv g m).V → n ≤ k := fun k hk => by
  rcases hk with hk | hk
  · simp only [rv, List.mem_singleton] at hk; omega
  · cases hk
theorem bk_new {g T n : Nat} {vs : List Value} (h : n ≤ g) : ∀ k, k ∈ (bkOb g T vs).W ∨ k ∈ (bkOb g T vs).V → n ≤ k := fun k hk => by
  rcases hk with hk | hk
  · simp only [bkOb, List.mem_singleton] at hk; omega
  · cases hk
set_option maxHeartbeats 8000000 in
theorem resvOrder_walk (a b c : Int) (x y : BitVec 64) (w : World) (ha : -9223372036854775808 ≤ a ∧ a ≤ 9223372036854775807) (hb : -9223372036854775808 ≤ b ∧ b ≤ 9223372036854775807) (hc : -9223372036854775808 ≤ c ∧ c ≤ 9223372036854775807) :
    Calls Try.prog 4 #[.int .i64 a, .int .i64 b, .int .i64 c, .int .u64 (x.toNat : Int), .int .u64 (y.toNat : Int)] w fun e w' => e = .returned (.bool true) ∧ Below w.heap.size w w' := by
  have HA : Hid _ := ct_any a 16 w ha (by omega) (by omega)
  have HB : Hid _ := ct_any b 16 w hb (by omega) (by omega)
  have HC : Hid _ := ct_any c 16 w hc (by omega) (by omega)
  clear ha hb hc
  have hxr : 0 ≤ (x.toNat : Int) ∧ (x.toNat : Int) < 18446744073709551616 := ⟨by omega, by have := x.isLt; omega⟩
  have hyr : 0 ≤ (y.toNat : Int) ∧ (y.toNat : Int) < 18446744073709551616 := ⟨by omega, by have := y.isLt; omega⟩
  generalize (x.toNat : Int) = key at *
  generalize (y.toNat : Int) = own at *
  have HXY : Hid _ := And.intro hxr hyr
  clear hxr hyr
  go_enter Try.func4, Try.ntmps4
  go_wp2_with fail
  refine (Calls.mono HA.out) ?_
  rintro e w9 ⟨A, rfl, hA, hw9⟩
  rw [← hw9]
  clear hw9 w9 HA
  go_wp2_with fail
  refine (Calls.mono HB.out) ?_
  rintro e w9 ⟨B, rfl, hB, hw9⟩
  rw [← hw9]
  clear hw9 w9 HB
  go_wp2_with fail
  refine (Calls.mono HC.out) ?_
  rintro e w9 ⟨C, rfl, hC, hw9⟩
  rw [← hw9]
  clear hw9 w9 HC
  have KN : Hid _ := known13_any w
  by_cases e0 : A = B
  · have d0 : ((A : Int) == (B : Int)) = true := by rw [beq_iff_eq]; omega
    clear e0
    go_wp2_with fail
    refine (Calls.mono KN.out) ?_
    rintro e w9 ⟨rfl, b9⟩
    have F : Hid _ := b9
    clear b9 KN
    go_wp2
    go_ret
    exact ⟨rfl, F.out⟩
  have d0 : ((A : Int) == (B : Int)) = false := by rw [beq_eq_false_iff_ne]; omega
  by_cases e1 : A = C
  · have d1 : ((A : Int) == (C : Int)) = true := by rw [beq_iff_eq]; omega
    clear e1
    go_wp2_with fail
    refine (Calls.mono KN.out) ?_
    rintro e w9 ⟨rfl, b9⟩
    have F : Hid _ := b9
    clear b9 KN
    go_wp2
    go_ret
    exact ⟨rfl, F.out⟩
  have d1 : ((A : Int) == (C : Int)) = false := by rw [beq_eq_false_iff_ne]; omega
  by_cases e2 : B = C
  · have d2 : ((B : Int) == (C : Int)) = true := by rw [beq_iff_eq]; omega
    clear e2
    go_wp2_with fail
    refine (Calls.mono KN.out) ?_
    rintro e w9 ⟨rfl, b9⟩
    have F : Hid _ := b9
    clear b9 KN
    go_wp2
    go_ret
    exact ⟨rfl, F.out⟩
  have d2 : ((B : Int) == (C : Int)) = false := by rw [beq_eq_false_iff_ne]; omega
  by_cases e3 : key = 0
  · have d3 : (key == 0) = true := by rw [beq_iff_eq]; omega
    clear e3
    go_wp2_with fail
    refine (Calls.mono KN.out) ?_
    rintro e w9 ⟨rfl, b9⟩
    have F : Hid _ := b9
    clear b9 KN
    go_wp2
    go_ret
    exact ⟨rfl, F.out⟩
  have d3 : (key == 0) = false := by rw [beq_eq_false_iff_ne]; omega
  by_cases e4 : own = 0
  · have d4 : (own == 0) = true := by rw [beq_iff_eq]; omega
    clear e4
    go_wp2_with fail
    refine (Calls.mono KN.out) ?_
    rintro e w9 ⟨rfl, b9⟩
    have F : Hid _ := b9
    clear b9 KN
    go_wp2
    go_ret
    exact ⟨rfl, F.out⟩
  have d4 : (own == 0) = false := by rw [beq_eq_false_iff_ne]; omega
  by_cases e5 : key = own
  · have d5 : (key == own) = true := by rw [beq_iff_eq]; omega
    clear e5
    go_wp2_with fail
    refine (Calls.mono KN.out) ?_
    rintro e w9 ⟨rfl, b9⟩
    have F : Hid _ := b9
    clear b9 KN
    go_wp2
    go_ret
    exact ⟨rfl, F.out⟩
  have d5 : (key == own) = false := by rw [beq_eq_false_iff_ne]; omega
  have HD : Hid _ := And.intro (And.intro hA (And.intro hB hC)) (And.intro (And.intro e0 (And.intro e1 e2)) (And.intro e3 (And.intro e4 e5)))
  clear KN e0 e1 e2 e3 e4 e5
  have HN : Hid _ := rnew_any w
  go_wp2_with fail
  refine (Calls.mono HN.out) ?_
  rintro e w1 ⟨rfl, ok1, b1⟩
  have Z1 := (Sep.nil (w := w)).fresh b1 ok1 (rv_new (Nat.le_refl _))
  obtain ⟨g1, hg1⟩ : ∃ g, g = w.heap.size := ⟨_, rfl⟩
  rw [show rv w.heap.size ⟨0, 0, 0, List.replicate 16 false, z16⟩ = rv g1 (oSt 0 z16) by rw [hg1]; rfl] at Z1
  have J1 : Hid _ := And.intro Z1 b1
  rw [show (⟨w.heap.size, 0, none⟩ : Addr) = ⟨g1, 0, none⟩ by rw [hg1]]
  clear HN ok1 b1 Z1 hg1
  have HN : Hid _ := rnew_any w1
  go_wp2_with fail
  refine (Calls.mono HN.out) ?_
  rintro e w2 ⟨rfl, ok2, b2⟩
  have Z2 := J1.out.1.fresh b2 ok2 (rv_new (Nat.le_refl _))
  obtain ⟨g2, hg2⟩ : ∃ g, g = w1.heap.size := ⟨_, rfl⟩
  rw [← hg2] at Z2
  have J2 : Hid _ := And.intro Z2 (below_then J1.out.2 b2)
  rw [show (⟨w1.heap.size, 0, none⟩ : Addr) = ⟨g2, 0, none⟩ by rw [hg2]]
  clear HN ok2 b2 Z2 hg2 J1
  have B3 := Blk.new' w2 3 [.int .i64 (A : Int), .int .i64 (B : Int), .int .i64 (C : Int)]
  have b3 : Below w2.heap.size w2 (w2.alloc (.cells #[.int .i64 (A : Int), .int .i64 (B : Int), .int .i64 (C : Int)] 3)) := (Below.refl _ _).alloc (Nat.le_refl _) _
  obtain ⟨w3, hw3⟩ : ∃ w3, w3 = w2.alloc (.cells #[.int .i64 (A : Int), .int .i64 (B : Int), .int .i64 (C : Int)] 3) := ⟨_, rfl⟩
  have z3 : w3.heap.size = w2.heap.size + 1 := by rw [hw3]; simp
  rw [← hw3] at B3 b3
  have Z3 := J2.out.1.fresh b3 (bkOb_ok B3) (bk_new (Nat.le_refl _))
  have B4 := Blk.new' w3 32 [.int .u64 key, .int .u64 key, .int .u64 own]
  have b4 : Below w3.heap.size w3 (w3.alloc (.cells #[.int .u64 key, .int .u64 key, .int .u64 own] 32)) := (Below.refl _ _).alloc (Nat.le_refl _) _
  obtain ⟨w4, hw4⟩ : ∃ w4, w4 = w3.alloc (.cells #[.int .u64 key, .int .u64 key, .int .u64 own] 32) := ⟨_, rfl⟩
  rw [← hw4] at B4 b4
  have Z4 := Z3.fresh b4 (bkOb_ok B4) (bk_new (Nat.le_refl _))
  rw [z3] at Z4
  obtain ⟨og, hog⟩ : ∃ g, g = w2.heap.size := ⟨_, rfl⟩
  rw [← hog] at Z4
  obtain ⟨kg, hkg⟩ : ∃ g, g = og + 1 := ⟨_, rfl⟩
  rw [← hkg] at Z4
  have Z5 : Sep w.heap.size [rv g1 (oSt 0 z16), rv g2 (oSt 0 z16), bkOb og 3 [.int .i64 (A : Int), .int .i64 (B : Int), .int .i64 (C : Int)], bkOb kg 32 [.int .u64 key, .int .u64 key, .int .u64 own]] w4 := by
    have h := (List.reverse_perm [bkOb kg 32 [.int .u64 key, .int .u64 key, .int .u64 own], bkOb og 3 [.int .i64 (A : Int), .int .i64 (B : Int), .int .i64 (C : Int)], rv g2 (oSt 0 z16), rv g1 (oSt 0 z16)]).symm
    exact Z4.perm h
  have J4 : Hid _ := And.intro Z5 (below_then J2.out.2 (below_then b3 b4))
  clear J2 B3 B4 b3 b4 Z3 Z4 Z5 z3
  go_wp2_with fail
  rw [← hw3, ← hw4, ← hog, ← hkg]
  clear hw3 hw4 hog hkg
  go_loopw [15] (fun iv wr => ∃ k : Nat, k ≤ 3 ∧ iv = .int .i64 k ∧ Sep w.heap.size [rv g1 (oSt k (kS A B C key own k)), rv g2 (oSt k (kT A B C key own k)), bkOb og 3 [.int .i64 (A : Int), .int .i64 (B : Int), .int .i64 (C : Int)], bkOb kg 32 [.int .u64 key, .int .u64 key, .int .u64 own]] wr ∧ Below w.heap.size w wr) (fun iv _ => 3 - (intOf iv).toNat)
  case atStart => exact ⟨0, by omega, rfl, J4.out.1, J4.out.2⟩
  case round =>
    clear J4
    obtain ⟨k, hk, rfl, Z, hbw⟩ := hrel
    have hnkey := HD.out.2.2.1
    have hnown := HD.out.2.2.2.1
    have hAB := HD.out.2.1.1
    have hAC := HD.out.2.1.2.1
    have hBC := HD.out.2.1.2.2
    have hkeyr := HXY.out.1
    have hownr := HXY.out.2
    have wv2 : IntKind.i64.wrap 2 = 2 := by decide
    have wv1 : IntKind.i64.wrap 1 = 1 := by decide
    have wv0 : IntKind.i64.wrap 0 = 0 := by decide
    have hk' : k = 0 ∨ k = 1 ∨ k = 2 ∨ k = 3 := by omega
    rcases hk' with rfl | rfl | rfl | rfl
    · have HZ : Hid _ := Z
      have HBw : Hid _ := hbw
      clear Z hbw
      have cO := blk_at HZ.out.tail.tail.head.holds 0
      have cK := blk_at HZ.out.tail.tail.tail.head.holds 0
      simp only [List.getElem?_cons_zero, List.getElem?_cons_succ] at cO cK
      have HQ : Hid _ := And.intro cO cK
      clear cO cK
      have HX : Hid _ := doR_any (reg_step (g := 0) (ks := kS A B C key own 0) (i := A) (x := key) (by omega) hA hnkey (z16_at _)) wr.drew HZ.out.drew.head hkeyr
      go_upto_region 15 with fail
      refine e_begin (S := fun W => Below wr.heap.size wr W) 10 (by kernel_rfl) (((Below.refl _ _).drew)) (fun hS => ?_)
      refine e_take (i := 0) (v := ?_) [10] rfl (by kernel_rfl) (by kernel_rfl) (by kernel_rfl) (by kernel_rfl) (by exact fun _ _ _ h => h) (by rfl) ?_ hS ?_
      rotate_left
      · ((intro w hSw; have cO := cell_later8 HQ.out.1 hSw; have cK := cell_later8 HQ.out.2 hSw; go_simp) <;> with_reducible rfl)
      (try simp only [Act.put, List.setIfInBounds_toArray, List.set_cons_zero, List.set_cons_succ])
      refine e_take (i := 1) (v := ?_) [3, 4, 10] rfl (by kernel_rfl) (by kernel_rfl) (by kernel_rfl) (by kernel_rfl) (by exact fun _ _ _ h => h) (by rfl) ?_ hS ?_
      rotate_left
      · ((intro w hSw; have cO := cell_later8 HQ.out.1 hSw; have cK := cell_later8 HQ.out.2 hSw; go_simp) <;> with_reducible rfl)
      (try simp only [Act.put, List.setIfInBounds_toArray, List.set_cons_zero, List.set_cons_succ])
      refine e_take (i := 2) (v := ?_) [3, 4, 10] rfl (by kernel_rfl) (by kernel_rfl) (by kernel_rfl) (by kernel_rfl) (by exact fun _ _ _ h => h) (by rfl) ?_ hS ?_
      rotate_left
      · ((intro w hSw; have cO := cell_later8 HQ.out.1 hSw; have cK := cell_later8 HQ.out.2 hSw; go_simp) <;> with_reducible rfl)
      (try simp only [Act.put, List.setIfInBounds_toArray, List.set_cons_zero, List.set_cons_succ])
      refine e_take (i := 3) (v := ?_) [4, 10] rfl (by kernel_rfl) (by kernel_rfl) (by kernel_rfl) (by kernel_rfl) (by exact fun _ _ _ h => h) (by rfl) ?_ hS ?_
      rotate_left
      · ((intro w hSw; have cO := cell_later8 HQ.out.1 hSw; have cK := cell_later8 HQ.out.2 hSw; go_simp) <;> with_reducible rfl)
      (try simp only [Act.put, List.setIfInBounds_toArray, List.set_cons_zero, List.set_cons_succ])
      refine e_take (i := 4) (v := ?_) [10] rfl (by kernel_rfl) (by kernel_rfl) (by kernel_rfl) (by kernel_rfl) (by exact fun _ _ _ h => h) (by rfl) ?_ hS ?_
      rotate_left
      · ((intro w hSw; have cO := cell_later8 HQ.out.1 hSw; have cK := cell_later8 HQ.out.2 hSw; go_simp) <;> with_reducible rfl)
      (try simp only [Act.put, List.setIfInBounds_toArray, List.set_cons_zero, List.set_cons_succ])
      refine e_take (i := 5) (v := ?_) [7, 8, 9, 10] rfl (by kernel_rfl) (by kernel_rfl) (by kernel_rfl) (by kernel_rfl) (by exact fun _ _ _ h => h) (by rfl) ?_ hS ?_
      rotate_left
      · ((intro w hSw; have cO := cell_later8 HQ.out.1 hSw; have cK := cell_later8 HQ.out.2 hSw; go_simp) <;> with_reducible rfl)
      (try simp only [Act.put, List.setIfInBounds_toArray, List.set_cons_zero, List.set_cons_succ])
      refine e_take (i := 6) (v := ?_) [7, 8, 9, 10] rfl (by kernel_rfl) (by kernel_rfl) (by kernel_rfl) (by kernel_rfl) (by exact fun _ _ _ h => h) (by rfl) ?_ hS ?_
      rotate_left
      · ((intro w hSw; have cO := cell_later8 HQ.out.1 hSw; have cK := cell_later8 HQ.out.2 hSw; go_simp) <;> with_reducible rfl)
      (try simp only [Act.put, List.setIfInBounds_toArray, List.set_cons_zero, List.set_cons_succ])
      refine e_take (i := 7) (v := ?_) [8, 9, 10] rfl (by kernel_rfl) (by kernel_rfl) (by kernel_rfl) (by kernel_rfl) (by exact fun _ _ _ h => h) (by rfl) ?_ hS ?_
      rotate_left
      · ((intro w hSw; have cO := cell_later8 HQ.out.1 hSw; have cK := cell_later8 HQ.out.2 hSw; go_simp) <;> with_reducible rfl)
      (try simp only [Act.put, List.setIfInBounds_toArray, List.set_cons_zero, List.set_cons_succ])
      refine e_take (i := 8) (v := ?_) [9, 10] rfl (by kernel_rfl) (by kernel_rfl) (by kernel_rfl) (by kernel_rfl) (by exact fun _ _ _ h => h) (by rfl) ?_ hS ?_
      rotate_left
      · ((intro w hSw; have cO := cell_later8 HQ.out.1 hSw; have cK := cell_later8 HQ.out.2 hSw; go_simp) <;> with_reducible rfl)
      (try simp only [Act.put, List.setIfInBounds_toArray, List.set_cons_zero, List.set_cons_succ])
      refine e_take (i := 9) (v := ?_) [10] rfl (by kernel_rfl) (by kernel_rfl) (by kernel_rfl) (by kernel_rfl) (by exact fun _ _ _ h => h) (by rfl) ?_ hS ?_
      rotate_left
      · ((intro w hSw; have cO := cell_later8 HQ.out.1 hSw; have cK := cell_later8 HQ.out.2 hSw; go_simp) <;> with_reducible rfl)
      (try simp only [Act.put, List.setIfInBounds_toArray, List.set_cons_zero, List.set_cons_succ])
      clear hS
      refine e_last (z := 10) rfl (by kernel_rfl) (fun K hK => ?_)
      go_simp
      refine (Calls.mono (HX.out)) ?_
      rintro e x1 ⟨na, nc, rfl, st⟩
      have Y1 : Hid _ := And.intro (HZ.out.drew.step st) (HZ.out.drew.below st)
      clear st HX HQ
      go_wp2_with fail
      refine hK.out _ _ ?_
      clear hK K
      refine e_done (by kernel_rfl) ?_ _
      have Z1 : Hid _ := (Y1.out.1.step (rvN_drop Y1.out.1.head)).swap
      have B1 : Hid (Below w.heap.size w x1) := HBw.out.drew.trans Y1.out.2
      clear Y1 HZ HBw
      have cO := blk_at Z1.out.tail.tail.head.holds 2
      have cK := blk_at Z1.out.tail.tail.tail.head.holds 2
      simp only [List.getElem?_cons_zero, List.getElem?_cons_succ] at cO cK
      have HQ : Hid _ := And.intro cO cK
      clear cO cK
      have HX : Hid _ := doR_any (reg_step (g := 0) (ks := kT A B C key own 0) (i := C) (x := own) (by omega) hC hnown (z16_at _)) x1.drew Z1.out.drew.head hownr
      go_upto_region 16 with fail
      refine e_begin (S := fun W => Below x1.heap.size x1 W) 12 (by kernel_rfl) (((Below.refl _ _).drew)) (fun hS => ?_)
      refine e_take (i := 0) (v := ?_) [12] rfl (by kernel_rfl) (by kernel_rfl) (by kernel_rfl) (by kernel_rfl) (by exact fun _ _ _ h => h) (by rfl) ?_ hS ?_
      rotate_left
      · ((intro w hSw; have cO := cell_later8 HQ.out.1 hSw; have cK := cell_later8 HQ.out.2 hSw; go_simp) <;> with_reducible rfl)
      (try simp only [Act.put, List.setIfInBounds_toArray, List.set_cons_zero, List.set_cons_succ])
      refine e_take (i := 1) (v := ?_) [4, 5, 12] rfl (by kernel_rfl) (by kernel_rfl) (by kernel_rfl) (by kernel_rfl) (by exact fun _ _ _ h => h) (by rfl) ?_ hS ?_
      rotate_left
      · ((intro w hSw; have cO := cell_later8 HQ.out.1 hSw; have cK := cell_later8 HQ.out.2 hSw; go_simp) <;> with_reducible rfl)
      (try simp only [Act.put, List.setIfInBounds_toArray, List.set_cons_zero, List.set_cons_succ])
      refine e_take (i := 2) (v := ?_) [3, 4, 5, 12] rfl (by kernel_rfl) (by kernel_rfl) (by kernel_rfl) (by kernel_rfl) (by exact fun _ _ _ h => h) (by rfl) ?_ hS ?_
      rotate_left
      · ((intro w hSw; have cO := cell_later8 HQ.out.1 hSw; have cK := cell_later8 HQ.out.2 hSw; go_simp) <;> with_reducible rfl)
      (try simp only [Act.put, List.setIfInBounds_toArray, List.set_cons_zero, List.set_cons_succ])
      refine e_take (i := 3) (v := ?_) [4, 5, 12] rfl (by kernel_rfl) (by kernel_rfl) (by kernel_rfl) (by kernel_rfl) (by exact fun _ _ _ h => h) (by rfl) ?_ hS ?_
      rotate_left
      · ((intro w hSw; have cO := cell_later8 HQ.out.1 hSw; have cK := cell_later8 HQ.out.2 hSw; go_simp) <;> with_reducible rfl)
      (try simp only [Act.put, List.setIfInBounds_toArray, List.set_cons_zero, List.set_cons_succ])
      refine e_take (i := 4) (v := ?_) [5, 12] rfl (by kernel_rfl) (by kernel_rfl) (by kernel_rfl) (by kernel_rfl) (by exact fun _ _ _ h => h) (by rfl) ?_ hS ?_
      rotate_left
      · ((intro w hSw; have cO := cell_later8 HQ.out.1 hSw; have cK := cell_later8 HQ.out.2 hSw; go_simp) <;> with_reducible rfl)
      (try simp only [Act.put, List.setIfInBounds_toArray, List.set_cons_zero, List.set_cons_succ])
      refine e_take (i := 5) (v := ?_) [12] rfl (by kernel_rfl) (by kernel_rfl) (by kernel_rfl) (by kernel_rfl) (by exact fun _ _ _ h => h) (by rfl) ?_ hS ?_
      rotate_left
      · ((intro w hSw; have cO := cell_later8 HQ.out.1 hSw; have cK := cell_later8 HQ.out.2 hSw; go_simp) <;> with_reducible rfl)
      (try simp only [Act.put, List.setIfInBounds_toArray, List.set_cons_zero, List.set_cons_succ])
      refine e_take (i := 6) (v := ?_) [9, 10, 11, 12] rfl (by kernel_rfl) (by kernel_rfl) (by kernel_rfl) (by kernel_rfl) (by exact fun _ _ _ h => h) (by rfl) ?_ hS ?_
      rotate_left
      · ((intro w hSw; have cO := cell_later8 HQ.out.1 hSw; have cK := cell_later8 HQ.out.2 hSw; go_simp) <;> with_reducible rfl)
      (try simp only [Act.put, List.setIfInBounds_toArray, List.set_cons_zero, List.set_cons_succ])
      refine e_take (i := 7) (v := ?_) [8, 9, 10, 11, 12] rfl (by kernel_rfl) (by kernel_rfl) (by kernel_rfl) (by kernel_rfl) (by exact fun _ _ _ h => h) (by rfl) ?_ hS ?_
      rotate_left
      · ((intro w hSw; have cO := cell_later8 HQ.out.1 hSw; have cK := cell_later8 HQ.out.2 hSw; go_simp) <;> with_reducible rfl)
      (try simp only [Act.put, List.setIfInBounds_toArray, List.set_cons_zero, List.set_cons_succ])
      refine e_take (i := 8) (v := ?_) [9, 10, 11, 12] rfl (by kernel_rfl) (by kernel_rfl) (by kernel_rfl) (by kernel_rfl) (by exact fun _ _ _ h => h) (by rfl) ?_ hS ?_
      rotate_left
      · ((intro w hSw; have cO := cell_later8 HQ.out.1 hSw; have cK := cell_later8 HQ.out.2 hSw; go_simp) <;> with_reducible rfl)
      (try simp only [Act.put, List.setIfInBounds_toArray, List.set_cons_zero, List.set_cons_succ])
      refine e_take (i := 9) (v := ?_) [10, 11, 12] rfl (by kernel_rfl) (by kernel_rfl) (by kernel_rfl) (by kernel_rfl) (by exact fun _ _ _ h => h) (by rfl) ?_ hS ?_
      rotate_left
      · ((intro w hSw; have cO := cell_later8 HQ.out.1 hSw; have cK := cell_later8 HQ.out.2 hSw; go_simp) <;> with_reducible rfl)
      (try simp only [Act.put, List.setIfInBounds_toArray, List.set_cons_zero, List.set_cons_succ])
      refine e_take (i := 10) (v := ?_) [11, 12] rfl (by kernel_rfl) (by kernel_rfl) (by kernel_rfl) (by kernel_rfl) (by exact fun _ _ _ h => h) (by rfl) ?_ hS ?_
      rotate_left
      · ((intro w hSw; have cO := cell_later8 HQ.out.1 hSw; have cK := cell_later8 HQ.out.2 hSw; go_simp) <;> with_reducible rfl)
      (try simp only [Act.put, List.setIfInBounds_toArray, List.set_cons_zero, List.set_cons_succ])
      refine e_take (i := 11) (v := ?_) [12] rfl (by kernel_rfl) (by kernel_rfl) (by kernel_rfl) (by kernel_rfl) (by exact fun _ _ _ h => h) (by rfl) ?_ hS ?_
      rotate_left
      · ((intro w hSw; have cO := cell_later8 HQ.out.1 hSw; have cK := cell_later8 HQ.out.2 hSw; go_simp) <;> with_reducible rfl)
      (try simp only [Act.put, List.setIfInBounds_toArray, List.set_cons_zero, List.set_cons_succ])
      clear hS
      refine e_last (z := 12) rfl (by kernel_rfl) (fun K hK => ?_)
      go_simp
      refine (Calls.mono (HX.out)) ?_
      rintro e x2 ⟨na, nc, rfl, st⟩
      have Y2 : Hid _ := And.intro (Z1.out.drew.step st) (Z1.out.drew.below st)
      clear st HX HQ
      go_wp2_with fail
      refine hK.out _ _ ?_
      clear hK K
      refine e_done (by kernel_rfl) ?_ _
      have Z2 : Hid _ := (Y2.out.1.step (rvN_drop Y2.out.1.head)).swap
      have B2 : Hid (Below w.heap.size w x2) := B1.out.drew.trans Y2.out.2
      clear Y2 Z1 B1
      go_wp2
      go_roundw
      case rel => exact ⟨1, by omega, rfl, Z2.out, B2.out⟩
      case measure => simp [intOf]
    · have HZ : Hid _ := Z
      have HBw : Hid _ := hbw
      clear Z hbw
      have cO := blk_at HZ.out.tail.tail.head.holds 1
      have cK := blk_at HZ.out.tail.tail.tail.head.holds 1
      simp only [List.getElem?_cons_zero, List.getElem?_cons_succ] at cO cK
      have HQ : Hid _ := And.intro cO cK
      clear cO cK
      have HX : Hid _ := doR_any (reg_step (g := 1) (ks := kS A B C key own 1) (i := B) (x := key) (by omega) hB hnkey (by show (z16.set A key).getD B 0 = 0; rw [set_at _ _ _ _ (by simp [zl]; omega), if_neg (by omega), z16_at])) wr.drew HZ.out.drew.head hkeyr
      go_upto_region 15 with fail
      refine e_begin (S := fun W => Below wr.heap.size wr W) 10 (by kernel_rfl) (((Below.refl _ _).drew)) (fun hS => ?_)
      refine e_take (i := 0) (v := ?_) [10] rfl (by kernel_rfl) (by kernel_rfl) (by kernel_rfl) (by kernel_rfl) (by exact fun _ _ _ h => h) (by rfl) ?_ hS ?_
      rotate_left
      · ((intro w hSw; have cO := cell_later8 HQ.out.1 hSw; have cK := cell_later8 HQ.out.2 hSw; go_simp) <;> with_reducible rfl)
      (try simp only [Act.put, List.setIfInBounds_toArray, List.set_cons_zero, List.set_cons_succ])
      refine e_take (i := 1) (v := ?_) [3, 4, 10] rfl (by kernel_rfl) (by kernel_rfl) (by kernel_rfl) (by kernel_rfl) (by exact fun _ _ _ h => h) (by rfl) ?_ hS ?_
      rotate_left
      · ((intro w hSw; have cO := cell_later8 HQ.out.1 hSw; have cK := cell_later8 HQ.out.2 hSw; go_simp) <;> with_reducible rfl)
      (try simp only [Act.put, List.setIfInBounds_toArray, List.set_cons_zero, List.set_cons_succ])
      refine e_take (i := 2) (v := ?_) [3, 4, 10] rfl (by kernel_rfl) (by kernel_rfl) (by kernel_rfl) (by kernel_rfl) (by exact fun _ _ _ h => h) (by rfl) ?_ hS ?_
      rotate_left
      · ((intro w hSw; have cO := cell_later8 HQ.out.1 hSw; have cK := cell_later8 HQ.out.2 hSw; go_simp) <;> with_reducible rfl)
      (try simp only [Act.put, List.setIfInBounds_toArray, List.set_cons_zero, List.set_cons_succ])
      refine e_take (i := 3) (v := ?_) [4, 10] rfl (by kernel_rfl) (by kernel_rfl) (by kernel_rfl) (by kernel_rfl) (by exact fun _ _ _ h => h) (by rfl) ?_ hS ?_
      rotate_left
      · ((intro w hSw; have cO := cell_later8 HQ.out.1 hSw; have cK := cell_later8 HQ.out.2 hSw; go_simp) <;> with_reducible rfl)
      (try simp only [Act.put, List.setIfInBounds_toArray, List.set_cons_zero, List.set_cons_succ])
      refine e_take (i := 4) (v := ?_) [10] rfl (by kernel_rfl) (by kernel_rfl) (by kernel_rfl) (by kernel_rfl) (by exact fun _ _ _ h => h) (by rfl) ?_ hS ?_
      rotate_left
      · ((intro w hSw; have cO := cell_later8 HQ.out.1 hSw; have cK := cell_later8 HQ.out.2 hSw; go_simp) <;> with_reducible rfl)
      (try simp only [Act.put, List.setIfInBounds_toArray, List.set_cons_zero, List.set_cons_succ])
      refine e_take (i := 5) (v := ?_) [7, 8, 9, 10] rfl (by kernel_rfl) (by kernel_rfl) (by kernel_rfl) (by kernel_rfl) (by exact fun _ _ _ h => h) (by rfl) ?_ hS ?_
      rotate_left
      · ((intro w hSw; have cO := cell_later8 HQ.out.1 hSw; have cK := cell_later8 HQ.out.2 hSw; go_simp) <;> with_reducible rfl)
      (try simp only [Act.put, List.setIfInBounds_toArray, List.set_cons_zero, List.set_cons_succ])
      refine e_take (i := 6) (v := ?_) [7, 8, 9, 10] rfl (by kernel_rfl) (by kernel_rfl) (by kernel_rfl) (by kernel_rfl) (by exact fun _ _ _ h => h) (by rfl) ?_ hS ?_
      rotate_left
      · ((intro w hSw; have cO := cell_later8 HQ.out.1 hSw; have cK := cell_later8 HQ.out.2 hSw; go_simp) <;> with_reducible rfl)
      (try simp only [Act.put, List.setIfInBounds_toArray, List.set_cons_zero, List.set_cons_succ])
      refine e_take (i := 7) (v := ?_) [8, 9, 10] rfl (by kernel_rfl) (by kernel_rfl) (by kernel_rfl) (by kernel_rfl) (by exact fun _ _ _ h => h) (by rfl) ?_ hS ?_
      rotate_left
      · ((intro w hSw; have cO := cell_later8 HQ.out.1 hSw; have cK := cell_later8 HQ.out.2 hSw; go_simp) <;> with_reducible rfl)
      (try simp only [Act.put, List.setIfInBounds_toArray, List.set_cons_zero, List.set_cons_succ])
      refine e_take (i := 8) (v := ?_) [9, 10] rfl (by kernel_rfl) (by kernel_rfl) (by kernel_rfl) (by kernel_rfl) (by exact fun _ _ _ h => h) (by rfl) ?_ hS ?_
      rotate_left
      · ((intro w hSw; have cO := cell_later8 HQ.out.1 hSw; have cK := cell_later8 HQ.out.2 hSw; go_simp) <;> with_reducible rfl)
      (try simp only [Act.put, List.setIfInBounds_toArray, List.set_cons_zero, List.set_cons_succ])
      refine e_take (i := 9) (v := ?_) [10] rfl (by kernel_rfl) (by kernel_rfl) (by kernel_rfl) (by kernel_rfl) (by exact fun _ _ _ h => h) (by rfl) ?_ hS ?_
      rotate_left
      · ((intro w hSw; have cO := cell_later8 HQ.out.1 hSw; have cK := cell_later8 HQ.out.2 hSw; go_simp) <;> with_reducible rfl)
      (try simp only [Act.put, List.setIfInBounds_toArray, List.set_cons_zero, List.set_cons_succ])
      clear hS
      refine e_last (z := 10) rfl (by kernel_rfl) (fun K hK => ?_)
      go_simp
      refine (Calls.mono (HX.out)) ?_
      rintro e x1 ⟨na, nc, rfl, st⟩
      have Y1 : Hid _ := And.intro (HZ.out.drew.step st) (HZ.out.drew.below st)
      clear st HX HQ
      go_wp2_with fail
      refine hK.out _ _ ?_
      clear hK K
      refine e_done (by kernel_rfl) ?_ _
      have Z1 : Hid _ := (Y1.out.1.step (rvN_drop Y1.out.1.head)).swap
      have B1 : Hid (Below w.heap.size w x1) := HBw.out.drew.trans Y1.out.2
      clear Y1 HZ HBw
      have cO := blk_at Z1.out.tail.tail.head.holds 1
      have cK := blk_at Z1.out.tail.tail.tail.head.holds 1
      simp only [List.getElem?_cons_zero, List.getElem?_cons_succ] at cO cK
      have HQ : Hid _ := And.intro cO cK
      clear cO cK
      have HX : Hid _ := doR_any (reg_step (g := 1) (ks := kT A B C key own 1) (i := B) (x := key) (by omega) hB hnkey (by show (z16.set C own).getD B 0 = 0; rw [set_at _ _ _ _ (by simp [zl]; omega), if_neg (by omega), z16_at])) x1.drew Z1.out.drew.head hkeyr
      go_upto_region 16 with fail
      refine e_begin (S := fun W => Below x1.heap.size x1 W) 12 (by kernel_rfl) (((Below.refl _ _).drew)) (fun hS => ?_)
      refine e_take (i := 0) (v := ?_) [12] rfl (by kernel_rfl) (by kernel_rfl) (by kernel_rfl) (by kernel_rfl) (by exact fun _ _ _ h => h) (by rfl) ?_ hS ?_
      rotate_left
      · ((intro w hSw; have cO := cell_later8 HQ.out.1 hSw; have cK := cell_later8 HQ.out.2 hSw; go_simp) <;> with_reducible rfl)
      (try simp only [Act.put, List.setIfInBounds_toArray, List.set_cons_zero, List.set_cons_succ])
      refine e_take (i := 1) (v := ?_) [4, 5, 12] rfl (by kernel_rfl) (by kernel_rfl) (by kernel_rfl) (by kernel_rfl) (by exact fun _ _ _ h => h) (by rfl) ?_ hS ?_
      rotate_left
      · ((intro w hSw; have cO := cell_later8 HQ.out.1 hSw; have cK := cell_later8 HQ.out.2 hSw; go_simp) <;> with_reducible rfl)
      (try simp only [Act.put, List.setIfInBounds_toArray, List.set_cons_zero, List.set_cons_succ])
      refine e_take (i := 2) (v := ?_) [3, 4, 5, 12] rfl (by kernel_rfl) (by kernel_rfl) (by kernel_rfl) (by kernel_rfl) (by exact fun _ _ _ h => h) (by rfl) ?_ hS ?_
      rotate_left
      · ((intro w hSw; have cO := cell_later8 HQ.out.1 hSw; have cK := cell_later8 HQ.out.2 hSw; go_simp) <;> with_reducible rfl)
      (try simp only [Act.put, List.setIfInBounds_toArray, List.set_cons_zero, List.set_cons_succ])
      refine e_take (i := 3) (v := ?_) [4, 5, 12] rfl (by kernel_rfl) (by kernel_rfl) (by kernel_rfl) (by kernel_rfl) (by exact fun _ _ _ h => h) (by rfl) ?_ hS ?_
      rotate_left
      · ((intro w hSw; have cO := cell_later8 HQ.out.1 hSw; have cK := cell_later8 HQ.out.2 hSw; go_simp) <;> with_reducible rfl)
      (try simp only [Act.put, List.setIfInBounds_toArray, List.set_cons_zero, List.set_cons_succ])
      refine e_take (i := 4) (v := ?_) [5, 12] rfl (by kernel_rfl) (by kernel_rfl) (by kernel_rfl) (by kernel_rfl) (by exact fun _ _ _ h => h) (by rfl) ?_ hS ?_
      rotate_left
      · ((intro w hSw; have cO := cell_later8 HQ.out.1 hSw; have cK := cell_later8 HQ.out.2 hSw; go_simp) <;> with_reducible rfl)
      (try simp only [Act.put, List.setIfInBounds_toArray, List.set_cons_zero, List.set_cons_succ])
      refine e_take (i := 5) (v := ?_) [12] rfl (by kernel_rfl) (by kernel_rfl) (by kernel_rfl) (by kernel_rfl) (by exact fun _ _ _ h => h) (by rfl) ?_ hS ?_
      rotate_left
      · ((intro w hSw; have cO := cell_later8 HQ.out.1 hSw; have cK := cell_later8 HQ.out.2 hSw; go_simp) <;> with_reducible rfl)
      (try simp only [Act.put, List.setIfInBounds_toArray, List.set_cons_zero, List.set_cons_succ])
      refine e_take (i := 6) (v := ?_) [9, 10, 11, 12] rfl (by kernel_rfl) (by kernel_rfl) (by kernel_rfl) (by kernel_rfl) (by exact fun _ _ _ h => h) (by rfl) ?_ hS ?_
      rotate_left
      · ((intro w hSw; have cO := cell_later8 HQ.out.1 hSw; have cK := cell_later8 HQ.out.2 hSw; go_simp) <;> with_reducible rfl)
      (try simp only [Act.put, List.setIfInBounds_toArray, List.set_cons_zero, List.set_cons_succ])
      refine e_take (i := 7) (v := ?_) [8, 9, 10, 11, 12] rfl (by kernel_rfl) (by kernel_rfl) (by kernel_rfl) (by kernel_rfl) (by exact fun _ _ _ h => h) (by rfl) ?_ hS ?_
      rotate_left
      · ((intro w hSw; have cO := cell_later8 HQ.out.1 hSw; have cK := cell_later8 HQ.out.2 hSw; go_simp) <;> with_reducible rfl)
      (try simp only [Act.put, List.setIfInBounds_toArray, List.set_cons_zero, List.set_cons_succ])
      refine e_take (i := 8) (v := ?_) [9, 10, 11, 12] rfl (by kernel_rfl) (by kernel_rfl) (by kernel_rfl) (by kernel_rfl) (by exact fun _ _ _ h => h) (by rfl) ?_ hS ?_
      rotate_left
      · ((intro w hSw; have cO := cell_later8 HQ.out.1 hSw; have cK := cell_later8 HQ.out.2 hSw; go_simp) <;> with_reducible rfl)
      (try simp only [Act.put, List.setIfInBounds_toArray, List.set_cons_zero, List.set_cons_succ])
      refine e_take (i := 9) (v := ?_) [10, 11, 12] rfl (by kernel_rfl) (by kernel_rfl) (by kernel_rfl) (by kernel_rfl) (by exact fun _ _ _ h => h) (by rfl) ?_ hS ?_
      rotate_left
      · ((intro w hSw; have cO := cell_later8 HQ.out.1 hSw; have cK := cell_later8 HQ.out.2 hSw; go_simp) <;> with_reducible rfl)
      (try simp only [Act.put, List.setIfInBounds_toArray, List.set_cons_zero, List.set_cons_succ])
      refine e_take (i := 10) (v := ?_) [11, 12] rfl (by kernel_rfl) (by kernel_rfl) (by kernel_rfl) (by kernel_rfl) (by exact fun _ _ _ h => h) (by rfl) ?_ hS ?_
      rotate_left
      · ((intro w hSw; have cO := cell_later8 HQ.out.1 hSw; have cK := cell_later8 HQ.out.2 hSw; go_simp) <;> with_reducible rfl)
      (try simp only [Act.put, List.setIfInBounds_toArray, List.set_cons_zero, List.set_cons_succ])
      refine e_take (i := 11) (v := ?_) [12] rfl (by kernel_rfl) (by kernel_rfl) (by kernel_rfl) (by kernel_rfl) (by exact fun _ _ _ h => h) (by rfl) ?_ hS ?_
      rotate_left
      · ((intro w hSw; have cO := cell_later8 HQ.out.1 hSw; have cK := cell_later8 HQ.out.2 hSw; go_simp) <;> with_reducible rfl)
      (try simp only [Act.put, List.setIfInBounds_toArray, List.set_cons_zero, List.set_cons_succ])
      clear hS
      refine e_last (z := 12) rfl (by kernel_rfl) (fun K hK => ?_)
      go_simp
      refine (Calls.mono (HX.out)) ?_
      rintro e x2 ⟨na, nc, rfl, st⟩
      have Y2 : Hid _ := And.intro (Z1.out.drew.step st) (Z1.out.drew.below st)
      clear st HX HQ
      go_wp2_with fail
      refine hK.out _ _ ?_
      clear hK K
      refine e_done (by kernel_rfl) ?_ _
      have Z2 : Hid _ := (Y2.out.1.step (rvN_drop Y2.out.1.head)).swap
      have B2 : Hid (Below w.heap.size w x2) := B1.out.drew.trans Y2.out.2
      clear Y2 Z1 B1
      go_wp2
      go_roundw
      case rel => exact ⟨2, by omega, rfl, Z2.out, B2.out⟩
      case measure => simp [intOf]
    · have HZ : Hid _ := Z
      have HBw : Hid _ := hbw
      clear Z hbw
      have cO := blk_at HZ.out.tail.tail.head.holds 2
      have cK := blk_at HZ.out.tail.tail.tail.head.holds 2
      simp only [List.getElem?_cons_zero, List.getElem?_cons_succ] at cO cK
      have HQ : Hid _ := And.intro cO cK
      clear cO cK
      have HX : Hid _ := doR_any (reg_step (g := 2) (ks := kS A B C key own 2) (i := C) (x := own) (by omega) hC hnown (by show ((z16.set A key).set B key).getD C 0 = 0; rw [set_at _ _ _ _ (by simp [zl]; omega), if_neg (by omega), set_at _ _ _ _ (by simp [zl]; omega), if_neg (by omega), z16_at])) wr.drew HZ.out.drew.head hownr
      go_upto_region 15 with fail
      refine e_begin (S := fun W => Below wr.heap.size wr W) 10 (by kernel_rfl) (((Below.refl _ _).drew)) (fun hS => ?_)
      refine e_take (i := 0) (v := ?_) [10] rfl (by kernel_rfl) (by kernel_rfl) (by kernel_rfl) (by kernel_rfl) (by exact fun _ _ _ h => h) (by rfl) ?_ hS ?_
      rotate_left
      · ((intro w hSw; have cO := cell_later8 HQ.out.1 hSw; have cK := cell_later8 HQ.out.2 hSw; go_simp) <;> with_reducible rfl)
      (try simp only [Act.put, List.setIfInBounds_toArray, List.set_cons_zero, List.set_cons_succ])
      refine e_take (i := 1) (v := ?_) [3, 4, 10] rfl (by kernel_rfl) (by kernel_rfl) (by kernel_rfl) (by kernel_rfl) (by exact fun _ _ _ h => h) (by rfl) ?_ hS ?_
      rotate_left
      · ((intro w hSw; have cO := cell_later8 HQ.out.1 hSw; have cK := cell_later8 HQ.out.2 hSw; go_simp) <;> with_reducible rfl)
      (try simp only [Act.put, List.setIfInBounds_toArray, List.set_cons_zero, List.set_cons_succ])
      refine e_take (i := 2) (v := ?_) [3, 4, 10] rfl (by kernel_rfl) (by kernel_rfl) (by kernel_rfl) (by kernel_rfl) (by exact fun _ _ _ h => h) (by rfl) ?_ hS ?_
      rotate_left
      · ((intro w hSw; have cO := cell_later8 HQ.out.1 hSw; have cK := cell_later8 HQ.out.2 hSw; go_simp) <;> with_reducible rfl)
      (try simp only [Act.put, List.setIfInBounds_toArray, List.set_cons_zero, List.set_cons_succ])
      refine e_take (i := 3) (v := ?_) [4, 10] rfl (by kernel_rfl) (by kernel_rfl) (by kernel_rfl) (by kernel_rfl) (by exact fun _ _ _ h => h) (by rfl) ?_ hS ?_
      rotate_left
      · ((intro w hSw; have cO := cell_later8 HQ.out.1 hSw; have cK := cell_later8 HQ.out.2 hSw; go_simp) <;> with_reducible rfl)
      (try simp only [Act.put, List.setIfInBounds_toArray, List.set_cons_zero, List.set_cons_succ])
      refine e_take (i := 4) (v := ?_) [10] rfl (by kernel_rfl) (by kernel_rfl) (by kernel_rfl) (by kernel_rfl) (by exact fun _ _ _ h => h) (by rfl) ?_ hS ?_
      rotate_left
      · ((intro w hSw; have cO := cell_later8 HQ.out.1 hSw; have cK := cell_later8 HQ.out.2 hSw; go_simp) <;> with_reducible rfl)
      (try simp only [Act.put, List.setIfInBounds_toArray, List.set_cons_zero, List.set_cons_succ])
      refine e_take (i := 5) (v := ?_) [7, 8, 9, 10] rfl (by kernel_rfl) (by kernel_rfl) (by kernel_rfl) (by kernel_rfl) (by exact fun _ _ _ h => h) (by rfl) ?_ hS ?_
      rotate_left
      · ((intro w hSw; have cO := cell_later8 HQ.out.1 hSw; have cK := cell_later8 HQ.out.2 hSw; go_simp) <;> with_reducible rfl)
      (try simp only [Act.put, List.setIfInBounds_toArray, List.set_cons_zero, List.set_cons_succ])
      refine e_take (i := 6) (v := ?_) [7, 8, 9, 10] rfl (by kernel_rfl) (by kernel_rfl) (by kernel_rfl) (by kernel_rfl) (by exact fun _ _ _ h => h) (by rfl) ?_ hS ?_
      rotate_left
      · ((intro w hSw; have cO := cell_later8 HQ.out.1 hSw; have cK := cell_later8 HQ.out.2 hSw; go_simp) <;> with_reducible rfl)
      (try simp only [Act.put, List.setIfInBounds_toArray, List.set_cons_zero, List.set_cons_succ])
      refine e_take (i := 7) (v := ?_) [8, 9, 10] rfl (by kernel_rfl) (by kernel_rfl) (by kernel_rfl) (by kernel_rfl) (by exact fun _ _ _ h => h) (by rfl) ?_ hS ?_
      rotate_left
      · ((intro w hSw; have cO := cell_later8 HQ.out.1 hSw; have cK := cell_later8 HQ.out.2 hSw; go_simp) <;> with_reducible rfl)
      (try simp only [Act.put, List.setIfInBounds_toArray, List.set_cons_zero, List.set_cons_succ])
      refine e_take (i := 8) (v := ?_) [9, 10] rfl (by kernel_rfl) (by kernel_rfl) (by kernel_rfl) (by kernel_rfl) (by exact fun _ _ _ h => h) (by rfl) ?_ hS ?_
      rotate_left
      · ((intro w hSw; have cO := cell_later8 HQ.out.1 hSw; have cK := cell_later8 HQ.out.2 hSw; go_simp) <;> with_reducible rfl)
      (try simp only [Act.put, List.setIfInBounds_toArray, List.set_cons_zero, List.set_cons_succ])
      refine e_take (i := 9) (v := ?_) [10] rfl (by kernel_rfl) (by kernel_rfl) (by kernel_rfl) (by kernel_rfl) (by exact fun _ _ _ h => h) (by rfl) ?_ hS ?_
      rotate_left
      · ((intro w hSw; have cO := cell_later8 HQ.out.1 hSw; have cK := cell_later8 HQ.out.2 hSw; go_simp) <;> with_reducible rfl)
      (try simp only [Act.put, List.setIfInBounds_toArray, List.set_cons_zero, List.set_cons_succ])
      clear hS
      refine e_last (z := 10) rfl (by kernel_rfl) (fun K hK => ?_)
      go_simp
      refine (Calls.mono (HX.out)) ?_
      rintro e x1 ⟨na, nc, rfl, st⟩
      have Y1 : Hid _ := And.intro (HZ.out.drew.step st) (HZ.out.drew.below st)
      clear st HX HQ
      go_wp2_with fail
      refine hK.out _ _ ?_
      clear hK K
      refine e_done (by kernel_rfl) ?_ _
      have Z1 : Hid _ := (Y1.out.1.step (rvN_drop Y1.out.1.head)).swap
      have B1 : Hid (Below w.heap.size w x1) := HBw.out.drew.trans Y1.out.2
      clear Y1 HZ HBw
      have cO := blk_at Z1.out.tail.tail.head.holds 0
      have cK := blk_at Z1.out.tail.tail.tail.head.holds 0
      simp only [List.getElem?_cons_zero, List.getElem?_cons_succ] at cO cK
      have HQ : Hid _ := And.intro cO cK
      clear cO cK
      have HX : Hid _ := doR_any (reg_step (g := 2) (ks := kT A B C key own 2) (i := A) (x := key) (by omega) hA hnkey (by show ((z16.set C own).set B key).getD A 0 = 0; rw [set_at _ _ _ _ (by simp [zl]; omega), if_neg (by omega), set_at _ _ _ _ (by simp [zl]; omega), if_neg (by omega), z16_at])) x1.drew Z1.out.drew.head hkeyr
      go_upto_region 16 with fail
      refine e_begin (S := fun W => Below x1.heap.size x1 W) 12 (by kernel_rfl) (((Below.refl _ _).drew)) (fun hS => ?_)
      refine e_take (i := 0) (v := ?_) [12] rfl (by kernel_rfl) (by kernel_rfl) (by kernel_rfl) (by kernel_rfl) (by exact fun _ _ _ h => h) (by rfl) ?_ hS ?_
      rotate_left
      · ((intro w hSw; have cO := cell_later8 HQ.out.1 hSw; have cK := cell_later8 HQ.out.2 hSw; go_simp) <;> with_reducible rfl)
      (try simp only [Act.put, List.setIfInBounds_toArray, List.set_cons_zero, List.set_cons_succ])
      refine e_take (i := 1) (v := ?_) [4, 5, 12] rfl (by kernel_rfl) (by kernel_rfl) (by kernel_rfl) (by kernel_rfl) (by exact fun _ _ _ h => h) (by rfl) ?_ hS ?_
      rotate_left
      · ((intro w hSw; have cO := cell_later8 HQ.out.1 hSw; have cK := cell_later8 HQ.out.2 hSw; go_simp) <;> with_reducible rfl)
      (try simp only [Act.put, List.setIfInBounds_toArray, List.set_cons_zero, List.set_cons_succ])
      refine e_take (i := 2) (v := ?_) [3, 4, 5, 12] rfl (by kernel_rfl) (by kernel_rfl) (by kernel_rfl) (by kernel_rfl) (by exact fun _ _ _ h => h) (by rfl) ?_ hS ?_
      rotate_left
      · ((intro w hSw; have cO := cell_later8 HQ.out.1 hSw; have cK := cell_later8 HQ.out.2 hSw; go_simp) <;> with_reducible rfl)
      (try simp only [Act.put, List.setIfInBounds_toArray, List.set_cons_zero, List.set_cons_succ])
      refine e_take (i := 3) (v := ?_) [4, 5, 12] rfl (by kernel_rfl) (by kernel_rfl) (by kernel_rfl) (by kernel_rfl) (by exact fun _ _ _ h => h) (by rfl) ?_ hS ?_
      rotate_left
      · ((intro w hSw; have cO := cell_later8 HQ.out.1 hSw; have cK := cell_later8 HQ.out.2 hSw; go_simp) <;> with_reducible rfl)
      (try simp only [Act.put, List.setIfInBounds_toArray, List.set_cons_zero, List.set_cons_succ])
      refine e_take (i := 4) (v := ?_) [5, 12] rfl (by kernel_rfl) (by kernel_rfl) (by kernel_rfl) (by kernel_rfl) (by exact fun _ _ _ h => h) (by rfl) ?_ hS ?_
      rotate_left
      · ((intro w hSw; have cO := cell_later8 HQ.out.1 hSw; have cK := cell_later8 HQ.out.2 hSw; go_simp) <;> with_reducible rfl)
      (try simp only [Act.put, List.setIfInBounds_toArray, List.set_cons_zero, List.set_cons_succ])
      refine e_take (i := 5) (v := ?_) [12] rfl (by kernel_rfl) (by kernel_rfl) (by kernel_rfl) (by kernel_rfl) (by exact fun _ _ _ h => h) (by rfl) ?_ hS ?_
      rotate_left
      · ((intro w hSw; have cO := cell_later8 HQ.out.1 hSw; have cK := cell_later8 HQ.out.2 hSw; go_simp) <;> with_reducible rfl)
      (try simp only [Act.put, List.setIfInBounds_toArray, List.set_cons_zero, List.set_cons_succ])
      refine e_take (i := 6) (v := ?_) [9, 10, 11, 12] rfl (by kernel_rfl) (by kernel_rfl) (by kernel_rfl) (by kernel_rfl) (by exact fun _ _ _ h => h) (by rfl) ?_ hS ?_
      rotate_left
      · ((intro w hSw; have cO := cell_later8 HQ.out.1 hSw; have cK := cell_later8 HQ.out.2 hSw; go_simp) <;> with_reducible rfl)
      (try simp only [Act.put, List.setIfInBounds_toArray, List.set_cons_zero, List.set_cons_succ])
      refine e_take (i := 7) (v := ?_) [8, 9, 10, 11, 12] rfl (by kernel_rfl) (by kernel_rfl) (by kernel_rfl) (by kernel_rfl) (by exact fun _ _ _ h => h) (by rfl) ?_ hS ?_
      rotate_left
      · ((intro w hSw; have cO := cell_later8 HQ.out.1 hSw; have cK := cell_later8 HQ.out.2 hSw; go_simp) <;> with_reducible rfl)
      (try simp only [Act.put, List.setIfInBounds_toArray, List.set_cons_zero, List.set_cons_succ])
      refine e_take (i := 8) (v := ?_) [9, 10, 11, 12] rfl (by kernel_rfl) (by kernel_rfl) (by kernel_rfl) (by kernel_rfl) (by exact fun _ _ _ h => h) (by rfl) ?_ hS ?_
      rotate_left
      · ((intro w hSw; have cO := cell_later8 HQ.out.1 hSw; have cK := cell_later8 HQ.out.2 hSw; go_simp) <;> with_reducible rfl)
      (try simp only [Act.put, List.setIfInBounds_toArray, List.set_cons_zero, List.set_cons_succ])
      refine e_take (i := 9) (v := ?_) [10, 11, 12] rfl (by kernel_rfl) (by kernel_rfl) (by kernel_rfl) (by kernel_rfl) (by exact fun _ _ _ h => h) (by rfl) ?_ hS ?_
      rotate_left
      · ((intro w hSw; have cO := cell_later8 HQ.out.1 hSw; have cK := cell_later8 HQ.out.2 hSw; go_simp) <;> with_reducible rfl)
      (try simp only [Act.put, List.setIfInBounds_toArray, List.set_cons_zero, List.set_cons_succ])
      refine e_take (i := 10) (v := ?_) [11, 12] rfl (by kernel_rfl) (by kernel_rfl) (by kernel_rfl) (by kernel_rfl) (by exact fun _ _ _ h => h) (by rfl) ?_ hS ?_
      rotate_left
      · ((intro w hSw; have cO := cell_later8 HQ.out.1 hSw; have cK := cell_later8 HQ.out.2 hSw; go_simp) <;> with_reducible rfl)
      (try simp only [Act.put, List.setIfInBounds_toArray, List.set_cons_zero, List.set_cons_succ])
      refine e_take (i := 11) (v := ?_) [12] rfl (by kernel_rfl) (by kernel_rfl) (by kernel_rfl) (by kernel_rfl) (by exact fun _ _ _ h => h) (by rfl) ?_ hS ?_
      rotate_left
      · ((intro w hSw; have cO := cell_later8 HQ.out.1 hSw; have cK := cell_later8 HQ.out.2 hSw; go_simp) <;> with_reducible rfl)
      (try simp only [Act.put, List.setIfInBounds_toArray, List.set_cons_zero, List.set_cons_succ])
      clear hS
      refine e_last (z := 12) rfl (by kernel_rfl) (fun K hK => ?_)
      go_simp
      refine (Calls.mono (HX.out)) ?_
      rintro e x2 ⟨na, nc, rfl, st⟩
      have Y2 : Hid _ := And.intro (Z1.out.drew.step st) (Z1.out.drew.below st)
      clear st HX HQ
      go_wp2_with fail
      refine hK.out _ _ ?_
      clear hK K
      refine e_done (by kernel_rfl) ?_ _
      have Z2 : Hid _ := (Y2.out.1.step (rvN_drop Y2.out.1.head)).swap
      have B2 : Hid (Below w.heap.size w x2) := B1.out.drew.trans Y2.out.2
      clear Y2 Z1 B1
      go_wp2
      go_roundw
      case rel => exact ⟨3, by omega, rfl, Z2.out, B2.out⟩
      case measure => simp [intOf]
    · rw [kST hAB hAC hBC] at Z
      obtain ⟨m4, L, hD, hL, p1, p2, p3, p4, p5, p6, p7⟩ := pre_all (key := key) (own := own) hA hB hC hAB hAC hBC hnkey hnown HD.out.2.2.2.2
      have kmA : keyM (oSt 3 (kS A B C key own 3)) (A : Int) = key := by unfold keyM; rw [if_pos (nxB_nat hA), Int.toNat_natCast]; show (kS A B C key own 3).getD A 0 = key; rw [kS_at hA hB hC, if_neg (by omega), if_neg (by omega), if_pos rfl]
      have kmB : keyM (oSt 3 (kS A B C key own 3)) (B : Int) = key := by unfold keyM; rw [if_pos (nxB_nat hB), Int.toNat_natCast]; show (kS A B C key own 3).getD B 0 = key; rw [kS_at hA hB hC, if_neg (by omega), if_pos rfl]
      have kmC : keyM (oSt 3 (kS A B C key own 3)) (C : Int) = own := by unfold keyM; rw [if_pos (nxB_nat hC), Int.toNat_natCast]; show (kS A B C key own 3).getD C 0 = own; rw [kS_at hA hB hC, if_pos rfl]
      have hg3 : (oSt 3 (kS A B C key own 3)).gen = 3 := rfl
      rw [show ((3 : Nat) : Int) = 3 from rfl] at Z
      generalize oSt 3 (kS A B C key own 3) = M at *
      have HM : Hid _ := And.intro hg3 (And.intro kmA (And.intro kmB kmC))
      have HP : Hid _ := And.intro hL (And.intro p1 (And.intro p2 (And.intro p3 (And.intro p4 (And.intro p5 (And.intro p6 p7))))))
      have HDo : Hid _ := hD
      clear hg3 kmA kmB kmC hL p1 p2 p3 p4 p5 p6 p7 hD
      have HZ : Hid _ := And.intro Z hbw
      have HS1 : Hid (∀ X, Below wr.heap.size wr X → (rv g1 M).Ok X) := fun X bX => (Z.later bX).head
      have HS2 : Hid (∀ X, Below wr.heap.size wr X → (rv g2 M).Ok X) := fun X bX => (Z.later bX).tail.head
      clear Z hbw
      go_upto_region 17 with fail
      refine wp_region_held_drew (S := fun W => Below wr.heap.size wr W) (by kernel_rfl) ((Below.refl _ _).drew) (fun hS => ?_)
      have B0 : Below wr.heap.size wr wr.drew := ((Below.refl _ _).drew)
      refine any_take (i := 0) (v := ?_) rfl (by kernel_rfl) (by kernel_rfl) (by kernel_rfl) (by exact fun _ _ _ h => h) (by rfl) ?_ hS ?_
      rotate_left
      · ((intro w hSw; (try dsimp only at hSw); go_simp) <;> with_reducible rfl)
      (try simp only [Act.put, List.setIfInBounds_toArray, List.set_cons_zero, List.set_cons_succ])
      refine any_take (i := 3) (v := ?_) rfl (by kernel_rfl) (by kernel_rfl) (by kernel_rfl) (by exact fun _ _ _ h => h) (by rfl) ?_ hS ?_
      rotate_left
      · ((intro w hSw; (try dsimp only at hSw); go_simp) <;> with_reducible rfl)
      (try simp only [Act.put, List.setIfInBounds_toArray, List.set_cons_zero, List.set_cons_succ])
      have K1 : Hid _ := rsBytes_any g1 M _ (HS1.out _ B0)
      refine any_one (i := 1) rfl (by kernel_rfl) (fun K hK => ?_)
      go_simp
      refine (Calls.mono (K1.out)) ?_
      rintro e x1 ⟨z1, rfl, o1, hbR⟩
      have B1 : Below wr.heap.size wr x1 := below_then B0 hbR
      clear K1
      go_wp2_with fail
      refine hK.out _ _ (by first | exact B1 | exact hbR | exact below_then hS hbR) (any_weaken (S' := fun W => Below x1.heap.size x1 W) (fun W hW => by first | exact below_then B1 hW | exact below_then hbR hW | exact below_then (below_then hS hbR) hW) _ _ _ _ ?_)
      clear hK K hS hbR
      have hS : Below x1.heap.size x1 x1 := Below.refl _ _
      obtain ⟨a1, n1, c1, rfl, hs1⟩ := own13_strs o1
      refine any_take (i := 2) (v := ?_) rfl (by kernel_rfl) (by kernel_rfl) (by kernel_rfl) (by exact fun _ _ _ h => h) (by rfl) ?_ hS ?_
      rotate_left
      · ((intro w hSw; (try dsimp only at hSw); go_simp) <;> with_reducible rfl)
      (try simp only [Act.put, List.setIfInBounds_toArray, List.set_cons_zero, List.set_cons_succ])
      have K2 : Hid _ := rsBytes_any g2 M _ (HS2.out _ B1)
      refine any_one (i := 4) rfl (by kernel_rfl) (fun K hK => ?_)
      go_simp
      refine (Calls.mono (K2.out)) ?_
      rintro e x2 ⟨z2, rfl, o2, hbR⟩
      have B2 : Below wr.heap.size wr x2 := below_then B1 hbR
      clear K2
      go_wp2_with fail
      refine hK.out _ _ (by first | exact B2 | exact hbR | exact below_then hS hbR) (any_weaken (S' := fun W => Below x2.heap.size x2 W) (fun W hW => by first | exact below_then B2 hW | exact below_then hbR hW | exact below_then (below_then hS hbR) hW) _ _ _ _ ?_)
      clear hK K hS hbR
      have hS : Below x2.heap.size x2 x2 := Below.refl _ _
      obtain ⟨a2, n2, c2, rfl, hs2⟩ := own13_strs o2
      refine any_take (i := 5) (v := ?_) rfl (by kernel_rfl) (by kernel_rfl) (by kernel_rfl) (by exact fun _ _ _ h => h) (by rfl) ?_ hS ?_
      rotate_left
      · ((intro w hSw; (try dsimp only at hSw); go_simp) <;> with_reducible rfl)
      (try simp only [Act.put, List.setIfInBounds_toArray, List.set_cons_zero, List.set_cons_succ])
      clear hs1 hs2 o1 o2
      generalize str (bytM M) = T
      refine any_take (i := 6) (v := ?_) rfl (by kernel_rfl) (by kernel_rfl) (by kernel_rfl) (by exact fun _ _ _ h => h) (by rfl) ?_ hS ?_
      rotate_left
      · ((intro w hSw; (try dsimp only at hSw); go_simp) <;> with_reducible rfl)
      (try simp only [Act.put, List.setIfInBounds_toArray, List.set_cons_zero, List.set_cons_succ])
      refine any_take (i := 7) (v := ?_) rfl (by kernel_rfl) (by kernel_rfl) (by kernel_rfl) (by exact fun _ _ _ h => h) (by rfl) ?_ hS ?_
      rotate_left
      · ((intro w hSw; (try dsimp only at hSw); go_simp) <;> with_reducible rfl)
      (try simp only [Act.put, List.setIfInBounds_toArray, List.set_cons_zero, List.set_cons_succ])
      refine any_take (i := 8) (v := ?_) rfl (by kernel_rfl) (by kernel_rfl) (by kernel_rfl) (by exact fun _ _ _ h => h) (by rfl) ?_ hS ?_
      rotate_left
      · ((intro w hSw; (try dsimp only at hSw); go_simp) <;> with_reducible rfl)
      (try simp only [Act.put, List.setIfInBounds_toArray, List.set_cons_zero, List.set_cons_succ])
      refine any_one (i := 9) rfl (by kernel_rfl) (fun K hK => ?_)
      go_simp
      refine (Calls.mono (gen_any g1 M _ (HS1.out _ B2))) ?_
      rintro e _ ⟨rfl, rfl⟩
      go_wp2_with fail
      refine hK.out _ _ hS ?_
      clear hK K
      rw [HM.out.1]
      refine any_take (i := 10) (v := ?_) rfl (by kernel_rfl) (by kernel_rfl) (by kernel_rfl) (by exact fun _ _ _ h => h) (by rfl) ?_ hS ?_
      rotate_left
      · ((intro w hSw; (try dsimp only at hSw); go_simp) <;> with_reducible rfl)
      (try simp only [Act.put, List.setIfInBounds_toArray, List.set_cons_zero, List.set_cons_succ])
      refine any_take (i := 11) (v := ?_) rfl (by kernel_rfl) (by kernel_rfl) (by kernel_rfl) (by exact fun _ _ _ h => h) (by rfl) ?_ hS ?_
      rotate_left
      · ((intro w hSw; (try dsimp only at hSw); go_simp) <;> with_reducible rfl)
      (try simp only [Act.put, List.setIfInBounds_toArray, List.set_cons_zero, List.set_cons_succ])
      refine any_take (i := 12) (v := ?_) rfl (by kernel_rfl) (by kernel_rfl) (by kernel_rfl) (by exact fun _ _ _ h => h) (by rfl) ?_ hS ?_
      rotate_left
      · ((intro w hSw; (try dsimp only at hSw); go_simp) <;> with_reducible rfl)
      (try simp only [Act.put, List.setIfInBounds_toArray, List.set_cons_zero, List.set_cons_succ])
      refine any_take (i := 13) (v := ?_) rfl (by kernel_rfl) (by kernel_rfl) (by kernel_rfl) (by exact fun _ _ _ h => h) (by rfl) ?_ hS ?_
      rotate_left
      · ((intro w hSw; (try dsimp only at hSw); go_simp) <;> with_reducible rfl)
      (try simp only [Act.put, List.setIfInBounds_toArray, List.set_cons_zero, List.set_cons_succ])
      refine any_take (i := 14) (v := ?_) rfl (by kernel_rfl) (by kernel_rfl) (by kernel_rfl) (by exact fun _ _ _ h => h) (by rfl) ?_ hS ?_
      rotate_left
      · ((intro w hSw; (try dsimp only at hSw); go_simp) <;> with_reducible rfl)
      (try simp only [Act.put, List.setIfInBounds_toArray, List.set_cons_zero, List.set_cons_succ])
      refine any_take (i := 16) (v := ?_) rfl (by kernel_rfl) (by kernel_rfl) (by kernel_rfl) (by exact fun _ _ _ h => h) (by rfl) ?_ hS ?_
      rotate_left
      · ((intro w hSw; (try dsimp only at hSw); go_simp) <;> with_reducible rfl)
      (try simp only [Act.put, List.setIfInBounds_toArray, List.set_cons_zero, List.set_cons_succ])
      refine any_one (i := 15) rfl (by kernel_rfl) (fun K hK => ?_)
      go_simp
      refine (Calls.mono (keyM_any g1 M _ _ (HS1.out _ B2))) ?_
      rintro e _ ⟨rfl, rfl⟩
      go_wp2_with fail
      refine hK.out _ _ hS ?_
      clear hK K
      rw [HM.out.2.1]
      refine any_take (i := 17) (v := ?_) rfl (by kernel_rfl) (by kernel_rfl) (by kernel_rfl) (by exact fun _ _ _ h => h) (by rfl) ?_ hS ?_
      rotate_left
      · ((intro w hSw; (try dsimp only at hSw); go_simp) <;> with_reducible rfl)
      (try simp only [Act.put, List.setIfInBounds_toArray, List.set_cons_zero, List.set_cons_succ])
      refine any_take (i := 18) (v := ?_) rfl (by kernel_rfl) (by kernel_rfl) (by kernel_rfl) (by exact fun _ _ _ h => h) (by rfl) ?_ hS ?_
      rotate_left
      · ((intro w hSw; (try dsimp only at hSw); go_simp) <;> with_reducible rfl)
      (try simp only [Act.put, List.setIfInBounds_toArray, List.set_cons_zero, List.set_cons_succ])
      refine any_take (i := 19) (v := ?_) rfl (by kernel_rfl) (by kernel_rfl) (by kernel_rfl) (by exact fun _ _ _ h => h) (by rfl) ?_ hS ?_
      rotate_left
      · ((intro w hSw; (try dsimp only at hSw); go_simp) <;> with_reducible rfl)
      (try simp only [Act.put, List.setIfInBounds_toArray, List.set_cons_zero, List.set_cons_succ])
      refine any_take (i := 20) (v := ?_) rfl (by kernel_rfl) (by kernel_rfl) (by kernel_rfl) (by exact fun _ _ _ h => h) (by rfl) ?_ hS ?_
      rotate_left
      · ((intro w hSw; (try dsimp only at hSw); go_simp) <;> with_reducible rfl)
      (try simp only [Act.put, List.setIfInBounds_toArray, List.set_cons_zero, List.set_cons_succ])
      refine any_take (i := 21) (v := ?_) rfl (by kernel_rfl) (by kernel_rfl) (by kernel_rfl) (by exact fun _ _ _ h => h) (by rfl) ?_ hS ?_
      rotate_left
      · ((intro w hSw; (try dsimp only at hSw); go_simp) <;> with_reducible rfl)
      (try simp only [Act.put, List.setIfInBounds_toArray, List.set_cons_zero, List.set_cons_succ])
      refine any_take (i := 23) (v := ?_) rfl (by kernel_rfl) (by kernel_rfl) (by kernel_rfl) (by exact fun _ _ _ h => h) (by rfl) ?_ hS ?_
      rotate_left
      · ((intro w hSw; (try dsimp only at hSw); go_simp) <;> with_reducible rfl)
      (try simp only [Act.put, List.setIfInBounds_toArray, List.set_cons_zero, List.set_cons_succ])
      refine any_one (i := 22) rfl (by kernel_rfl) (fun K hK => ?_)
      go_simp
      refine (Calls.mono (keyM_any g1 M _ _ (HS1.out _ B2))) ?_
      rintro e _ ⟨rfl, rfl⟩
      go_wp2_with fail
      refine hK.out _ _ hS ?_
      clear hK K
      rw [HM.out.2.2.1]
      refine any_take (i := 24) (v := ?_) rfl (by kernel_rfl) (by kernel_rfl) (by kernel_rfl) (by exact fun _ _ _ h => h) (by rfl) ?_ hS ?_
      rotate_left
      · ((intro w hSw; (try dsimp only at hSw); go_simp) <;> with_reducible rfl)
      (try simp only [Act.put, List.setIfInBounds_toArray, List.set_cons_zero, List.set_cons_succ])
      refine any_take (i := 25) (v := ?_) rfl (by kernel_rfl) (by kernel_rfl) (by kernel_rfl) (by exact fun _ _ _ h => h) (by rfl) ?_ hS ?_
      rotate_left
      · ((intro w hSw; (try dsimp only at hSw); go_simp) <;> with_reducible rfl)
      (try simp only [Act.put, List.setIfInBounds_toArray, List.set_cons_zero, List.set_cons_succ])
      refine any_take (i := 26) (v := ?_) rfl (by kernel_rfl) (by kernel_rfl) (by kernel_rfl) (by exact fun _ _ _ h => h) (by rfl) ?_ hS ?_
      rotate_left
      · ((intro w hSw; (try dsimp only at hSw); go_simp) <;> with_reducible rfl)
      (try simp only [Act.put, List.setIfInBounds_toArray, List.set_cons_zero, List.set_cons_succ])
      refine any_take (i := 27) (v := ?_) rfl (by kernel_rfl) (by kernel_rfl) (by kernel_rfl) (by exact fun _ _ _ h => h) (by rfl) ?_ hS ?_
      rotate_left
      · ((intro w hSw; (try dsimp only at hSw); go_simp) <;> with_reducible rfl)
      (try simp only [Act.put, List.setIfInBounds_toArray, List.set_cons_zero, List.set_cons_succ])
      refine any_take (i := 28) (v := ?_) rfl (by kernel_rfl) (by kernel_rfl) (by kernel_rfl) (by exact fun _ _ _ h => h) (by rfl) ?_ hS ?_
      rotate_left
      · ((intro w hSw; (try dsimp only at hSw); go_simp) <;> with_reducible rfl)
      (try simp only [Act.put, List.setIfInBounds_toArray, List.set_cons_zero, List.set_cons_succ])
      refine any_take (i := 30) (v := ?_) rfl (by kernel_rfl) (by kernel_rfl) (by kernel_rfl) (by exact fun _ _ _ h => h) (by rfl) ?_ hS ?_
      rotate_left
      · ((intro w hSw; (try dsimp only at hSw); go_simp) <;> with_reducible rfl)
      (try simp only [Act.put, List.setIfInBounds_toArray, List.set_cons_zero, List.set_cons_succ])
      refine any_one (i := 29) rfl (by kernel_rfl) (fun K hK => ?_)
      go_simp
      refine (Calls.mono (keyM_any g1 M _ _ (HS1.out _ B2))) ?_
      rintro e _ ⟨rfl, rfl⟩
      go_wp2_with fail
      refine hK.out _ _ hS ?_
      clear hK K
      rw [HM.out.2.2.2]
      refine any_take (i := 31) (v := ?_) rfl (by kernel_rfl) (by kernel_rfl) (by kernel_rfl) (by exact fun _ _ _ h => h) (by rfl) ?_ hS ?_
      rotate_left
      · ((intro w hSw; (try dsimp only at hSw); go_simp) <;> with_reducible rfl)
      (try simp only [Act.put, List.setIfInBounds_toArray, List.set_cons_zero, List.set_cons_succ])
      refine any_take (i := 32) (v := ?_) rfl (by kernel_rfl) (by kernel_rfl) (by kernel_rfl) (by exact fun _ _ _ h => h) (by rfl) ?_ hS ?_
      rotate_left
      · ((intro w hSw; (try dsimp only at hSw); go_simp) <;> with_reducible rfl)
      (try simp only [Act.put, List.setIfInBounds_toArray, List.set_cons_zero, List.set_cons_succ])
      refine wpAnyH_done (by kernel_rfl) ?_ _
      have HZ2 : Hid _ := And.intro (HZ.out.1.later B2) (below_then HZ.out.2 B2)
      clear hS HS1 HS2 HZ HM B0 B1 B2
      have HX : Hid _ := doR_any HDo.out x2 HZ2.out.1.head HXY.out.1
      skip
      go_wp2_with fail
      refine (Calls.mono HX.out) ?_
      rintro e x3 ⟨na, nc, rfl, st⟩
      have HZ3 : Hid _ := And.intro ((HZ2.out.1.step st).step (rvN_drop (HZ2.out.1.step st).head)) (HZ2.out.2.trans (HZ2.out.1.below st))
      clear st HX HZ2 HDo
      rw [HP.out.1]
      go_upto_region 20 with fail
      have B4 := Blk.new' x3 28 [.int .i64 0, .int .i64 0, .int .i64 0, .int .i64 0, .slice none 0 0]
      have b4 : Below x3.heap.size x3 (x3.alloc (.cells #[.int .i64 0, .int .i64 0, .int .i64 0, .int .i64 0, .slice none 0 0] 28)) := (Below.refl _ _).alloc (Nat.le_refl _) _
      have y0 := blk_at B4 0
      simp only [List.getElem?_cons_zero] at y0
      generalize x3.alloc (.cells #[.int .i64 0, .int .i64 0, .int .i64 0, .int .i64 0, .slice none 0 0] 28) = w5 at *
      have HO5 : Hid (rv g1 m4 |>.Ok w5) := (HZ3.out.1.later b4).head
      have HB5 : Hid (Below w.heap.size w w5) := below_then HZ3.out.2 b4
      clear B4 b4 HZ3
      go_wp2_with fail
      refine (Calls.mono (keyM_any g1 m4 _ _ HO5.out)) ?_
      rintro e _ ⟨rfl, rfl⟩
      rw [HP.out.2.1]
      go_wp2_with fail
      refine (Calls.mono (keyM_any g1 m4 _ _ HO5.out)) ?_
      rintro e _ ⟨rfl, rfl⟩
      rw [HP.out.2.2.1]
      go_wp2_with fail
      refine (Calls.mono (keyM_any g1 m4 _ _ HO5.out)) ?_
      rintro e _ ⟨rfl, rfl⟩
      rw [HP.out.2.2.2.1]
      go_wp2_with fail
      refine (Calls.mono (may_any g1 m4 _ _ _ HO5.out)) ?_
      rintro e _ ⟨rfl, rfl⟩
      rw [HP.out.2.2.2.2.1]
      go_wp2_with fail
      refine (Calls.mono (may_any g1 m4 _ _ _ HO5.out)) ?_
      rintro e _ ⟨rfl, rfl⟩
      rw [HP.out.2.2.2.2.2.1]
      go_wp2_with fail
      refine (Calls.mono (may_any g1 m4 _ _ _ HO5.out)) ?_
      rintro e _ ⟨rfl, rfl⟩
      rw [HP.out.2.2.2.2.2.2.1]
      go_wp2_with fail
      refine (Calls.mono (may_any g1 m4 _ _ _ HO5.out)) ?_
      rintro e _ ⟨rfl, rfl⟩
      rw [HP.out.2.2.2.2.2.2.2]
      go_wp2_with fail
      refine (Calls.mono (known13_any w5)) ?_
      rintro e w6 ⟨rfl, b6⟩
      have F : Hid _ := below_then HB5.out b6
      clear b6 HB5 HO5 y0
      go_wp2
      go_ret
      exact ⟨rfl, F.out⟩
end Go.Proofs.Ytlopkfenbeahgaa

