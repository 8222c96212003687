/- A log up to a place, and one with its floor there: the calls. -/
import Derived.Test.YtehbolkjgiedbaaEn12
namespace Go.Proofs.Ytehbolkjgiedbaa
open Go.RowKit
set_option linter.unusedVariables false

/-- the log without the entries above the first k -/
def Lm.upto (m : Lm) (k : Nat) : Lm := ⟨m.fl, m.ft, m.fm, m.l.take k⟩
theorem enUpto_nil (n : Int) (w : World) :
    Calls Try.prog 21 #[.pointer none, .int .i64 n] w fun r w' => r = .returned (.tuple #[.pointer none, .int .i64 2]) ∧ w = w' := by
  have HP := placeError_nil n w
  go_enter Try.func21, Try.ntmps21
  go_wp2_with (go_at_call 33; refine HP.mono ?_; rintro e w' ⟨rfl, rfl⟩)
  go_ret2
  exact ⟨rfl, rfl⟩
theorem enOver_nil (n : Int) (w : World) :
    Calls Try.prog 17 #[.pointer none, .int .i64 n] w fun r w' => r = .returned (.tuple #[.pointer none, .int .i64 2]) ∧ w = w' := by
  have HP := placeError_nil n w
  go_enter Try.func17, Try.ntmps17
  go_wp2_with (go_at_call 33; refine HP.mono ?_; rintro e w' ⟨rfl, rfl⟩)
  go_ret2
  exact ⟨rfl, rfl⟩
set_option maxHeartbeats 2000000 in
theorem enUpto_yes (g : Nat) (m : Lm) (n : Int) (k : Nat) (w : World) (h : Lg w g m) (hw : m.Wf) (hk : k ≤ m.l.length) (hn : n = (m.fl : Int) + k) :
    Calls Try.prog 21 #[.pointer (some ⟨g, 0, none⟩), .int .i64 n] w fun r w' => ∃ g', r = .returned (.tuple #[.pointer (some ⟨g', 0, none⟩), .int .i64 0]) ∧ w.heap.size ≤ g' ∧ Lg w' g' (m.upto k) ∧ Below w.heap.size w w' := by
  have hpl := hw.place
  have hfu := hw.full
  have hhas : m.hasB n = true := decide_eq_true (by omega)
  have HP := placeError_any g m n w h hw (by unfold I64; omega)
  have q1 : n - (m.fl : Int) = k := by omega
  have q2 : (k : Int) ≤ (m.l.length : Int) := by omega
  have HN : Hid _ := hn
  obtain ⟨a, c, c0, c1, c2, c3, hc, hcm, hp⟩ := h.cells
  have q3 : (k : Int) ≤ (c : Int) := by omega
  have q4 : -9223372036854775808 ≤ n ∧ n ≤ 9223372036854775807 := by omega
  have HX : Hid (PsAt w a m.l) := hp
  clear h hw hp hn
  go_enter Try.func21, Try.ntmps21
  go_wp2_with fail
  refine HP.mono ?_
  rintro e w1 ⟨-, he, hb1⟩
  obtain rfl := he hhas
  have d0 := cell_later hb1 c0
  have d1 := cell_later hb1 c1
  have d2 := cell_later hb1 c2
  have d3 := cell_later hb1 c3
  have hp1 : PsAt w1.drew a (m.l.take k) := by
    rcases PsAt.later HX.out hb1 with e | ⟨b, off, rfl, hcell⟩
    · exact .inl (by rw [e]; simp)
    · refine .inr ⟨b, off, rfl, fun i hi => ?_⟩
      rw [List.length_take] at hi
      have := hcell i (by omega)
      rw [List.getElem_take]; exact this
  have HC : Hid _ := CloneParts_any a c (m.l.take k) w1.drew (by rw [List.length_take]; omega) (by rw [List.length_take]; omega) hp1
  have hlk : (m.l.take k).length = k := by rw [List.length_take]; omega
  rw [hlk] at HC
  have HB : Hid _ := hb1
  have HL : Hid ((m.l.take k).length = k) := hlk
  have q5 : (k : Int) ≤ 4096 := by omega
  clear he hhas HP c0 c1 c2 c3 hb1 hp1 HX HN hpl hfu hlk
  go_wp2_with fail
  refine wp_region_held_drew (S := fun W => W.cell? ⟨g, 0, none⟩ = some (.int .i64 m.fl) ∧ W.cell? ⟨g, 1, none⟩ = some (.int .i64 m.ft) ∧ W.cell? ⟨g, 2, none⟩ = some (.int .i64 m.fm) ∧ W.cell? ⟨g, 3, none⟩ = some (.slice a m.l.length c)) (by kernel_rfl) ⟨d0, d1, d2, d3⟩ (fun hS => ?_)
  refine any_take (i := 0) (v := ?_) rfl (by kernel_rfl) (by kernel_rfl) (by kernel_rfl) (by exact fun _ _ _ h => h) (by rfl) ?_ hS ?_
  rotate_left
  · ((intro w hSw; (try dsimp only at hSw); go_simp) <;> with_reducible rfl)
  (try simp only [Act.put, List.setIfInBounds_toArray, List.set_cons_zero, List.set_cons_succ])
  refine any_take (i := 1) (v := ?_) rfl (by kernel_rfl) (by kernel_rfl) (by kernel_rfl) (by exact fun _ _ _ h => h) (by rfl) ?_ hS ?_
  rotate_left
  · ((intro w hSw; (try dsimp only at hSw); go_simp) <;> with_reducible rfl)
  (try simp only [Act.put, List.setIfInBounds_toArray, List.set_cons_zero, List.set_cons_succ])
  refine any_take (i := 2) (v := ?_) rfl (by kernel_rfl) (by kernel_rfl) (by kernel_rfl) (by exact fun _ _ _ h => h) (by rfl) ?_ hS ?_
  rotate_left
  · ((intro w hSw; (try dsimp only at hSw); go_simp) <;> with_reducible rfl)
  (try simp only [Act.put, List.setIfInBounds_toArray, List.set_cons_zero, List.set_cons_succ])
  refine any_take (i := 3) (v := .agg #[.int .i64 m.fl, .int .i64 m.ft, .int .i64 m.fm]) rfl (by kernel_rfl) (by kernel_rfl) (by kernel_rfl) (by exact fun _ _ _ h => h) (by rfl) ?_ hS ?_
  · intro W hSW; obtain ⟨cA, cB, cC, cD⟩ := hSW; go_simp
  (try simp only [Act.put, List.setIfInBounds_toArray, List.set_cons_zero, List.set_cons_succ])
  refine any_take (i := 4) (v := ?_) rfl (by kernel_rfl) (by kernel_rfl) (by kernel_rfl) (by exact fun _ _ _ h => h) (by rfl) ?_ hS ?_
  rotate_left
  · ((intro w hSw; (try dsimp only at hSw); go_simp) <;> with_reducible rfl)
  (try simp only [Act.put, List.setIfInBounds_toArray, List.set_cons_zero, List.set_cons_succ])
  refine any_take (i := 5) (v := ?_) rfl (by kernel_rfl) (by kernel_rfl) (by kernel_rfl) (by exact fun _ _ _ h => h) (by rfl) ?_ hS ?_
  rotate_left
  · ((intro w hSw; (try dsimp only at hSw); go_simp) <;> with_reducible rfl)
  (try simp only [Act.put, List.setIfInBounds_toArray, List.set_cons_zero, List.set_cons_succ])
  refine any_take (i := 6) (v := ?_) rfl (by kernel_rfl) (by kernel_rfl) (by kernel_rfl) (by exact fun _ _ _ h => h) (by rfl) ?_ hS ?_
  rotate_left
  · ((intro w hSw; (try dsimp only at hSw); go_simp) <;> with_reducible rfl)
  (try simp only [Act.put, List.setIfInBounds_toArray, List.set_cons_zero, List.set_cons_succ])
  refine any_take (i := 7) (v := .slice a m.l.length c) rfl (by kernel_rfl) (by kernel_rfl) (by kernel_rfl) (by exact fun _ _ _ h => h) (by rfl) ?_ hS ?_
  · intro W hSW; obtain ⟨cA, cB, cC, cD⟩ := hSW; go_simp
  (try simp only [Act.put, List.setIfInBounds_toArray, List.set_cons_zero, List.set_cons_succ])
  refine any_take (i := 8) (v := ?_) rfl (by kernel_rfl) (by kernel_rfl) (by kernel_rfl) (by exact fun _ _ _ h => h) (by rfl) ?_ hS ?_
  rotate_left
  · ((intro w hSw; (try dsimp only at hSw); go_simp) <;> with_reducible rfl)
  (try simp only [Act.put, List.setIfInBounds_toArray, List.set_cons_zero, List.set_cons_succ])
  refine any_take (i := 9) (v := ?_) rfl (by kernel_rfl) (by kernel_rfl) (by kernel_rfl) (by exact fun _ _ _ h => h) (by rfl) ?_ hS ?_
  rotate_left
  · ((intro w hSw; (try dsimp only at hSw); go_simp) <;> with_reducible rfl)
  (try simp only [Act.put, List.setIfInBounds_toArray, List.set_cons_zero, List.set_cons_succ])
  refine any_take (i := 10) (v := ?_) rfl (by kernel_rfl) (by kernel_rfl) (by kernel_rfl) (by exact fun _ _ _ h => h) (by rfl) ?_ hS ?_
  rotate_left
  · ((intro w hSw; (try dsimp only at hSw); go_simp) <;> with_reducible rfl)
  (try simp only [Act.put, List.setIfInBounds_toArray, List.set_cons_zero, List.set_cons_succ])
  refine any_take (i := 11) (v := ?_) rfl (by kernel_rfl) (by kernel_rfl) (by kernel_rfl) (by exact fun _ _ _ h => h) (by rfl) ?_ hS ?_
  rotate_left
  · ((intro w hSw; (try dsimp only at hSw); go_simp) <;> with_reducible rfl)
  (try simp only [Act.put, List.setIfInBounds_toArray, List.set_cons_zero, List.set_cons_succ])
  refine any_take (i := 12) (v := ?_) rfl (by kernel_rfl) (by kernel_rfl) (by kernel_rfl) (by exact fun _ _ _ h => h) (by rfl) ?_ hS ?_
  rotate_left
  · ((intro w hSw; (try dsimp only at hSw); go_simp) <;> with_reducible rfl)
  (try simp only [Act.put, List.setIfInBounds_toArray, List.set_cons_zero, List.set_cons_succ])
  refine any_take (i := 13) (v := .int .i64 m.fl) rfl (by kernel_rfl) (by kernel_rfl) (by kernel_rfl) (by exact fun _ _ _ h => h) (by rfl) ?_ hS ?_
  · intro W hSW; obtain ⟨cA, cB, cC, cD⟩ := hSW; go_simp
  (try simp only [Act.put, List.setIfInBounds_toArray, List.set_cons_zero, List.set_cons_succ])
  refine any_take (i := 14) (v := .int .i64 k) rfl (by kernel_rfl) (by kernel_rfl) (by kernel_rfl) (by exact fun _ _ _ h => h) (by rfl) ?_ hS ?_
  · intro W hSW; obtain ⟨cA, cB, cC, cD⟩ := hSW; go_simp; rw [IntKind.wrap_i64]; omega
  (try simp only [Act.put, List.setIfInBounds_toArray, List.set_cons_zero, List.set_cons_succ])
  refine any_take (i := 15) (v := .slice a k c) rfl (by kernel_rfl) (by kernel_rfl) (by kernel_rfl) (by exact fun _ _ _ h => h) (by rfl) ?_ hS ?_
  · intro W hSW; obtain ⟨cA, cB, cC, cD⟩ := hSW; go_simp
  (try simp only [Act.put, List.setIfInBounds_toArray, List.set_cons_zero, List.set_cons_succ])
  refine any_one (i := 16) rfl (by kernel_rfl) (fun K hK => ?_)
  go_simp
  refine (Calls.mono HC.out) ?_
  rintro e w2 ⟨v, rfl, ho2, b2⟩
  have g0 := cell_later b2 d0
  have g1 := cell_later b2 d1
  have g2 := cell_later b2 d2
  have g3 := cell_later b2 d3
  obtain ⟨va, vc, rfl, hvc, hvm, hps⟩ := PsOwn.open ho2
  rw [HL.out] at hvc ⊢
  go_wp2_with fail
  refine hK.out _ _ ⟨g0, g1, g2, g3⟩ ?_
  clear hK K hS
  have hS := And.intro g0 (And.intro g1 (And.intro g2 g3))
  refine any_take (i := 17) (v := .agg #[.int .i64 m.fl, .int .i64 m.ft, .int .i64 m.fm, .slice va k vc]) rfl (by kernel_rfl) (by kernel_rfl) (by kernel_rfl) (by exact fun _ _ _ h => h) (by rfl) ?_ hS ?_
  · intro W hSW; obtain ⟨cA, cB, cC, cD⟩ := hSW; go_simp
  (try simp only [Act.put, List.setIfInBounds_toArray, List.set_cons_zero, List.set_cons_succ])
  have BN : Blk (w2.alloc (.cells #[.int .i64 m.fl, .int .i64 m.ft, .int .i64 m.fm, .slice va k vc] 63)) w2.heap.size 63 [.int .i64 m.fl, .int .i64 m.ft, .int .i64 m.fm, .slice va k vc] := Blk.new' w2 _ _
  have bN : Below w2.heap.size w2 (w2.alloc (.cells #[.int .i64 m.fl, .int .i64 m.ft, .int .i64 m.fm, .slice va k vc] 63)) := (Below.refl _ _).alloc (Nat.le_refl _) _
  have hL : Lg (w2.alloc (.cells #[.int .i64 m.fl, .int .i64 m.ft, .int .i64 m.fm, .slice va k vc] 63)) w2.heap.size (m.upto k) := ⟨va, vc, by rw [show (m.upto k).l.length = k from HL.out]; exact BN, by rw [show (m.upto k).l.length = k from HL.out]; exact hvc, hvm, PsAt.later hps bN⟩
  refine any_on (i := 18) rfl (by kernel_rfl) (fun K hK => ?_)
  go_simp
  refine hK.out _ _ ⟨cell_later bN g0, cell_later bN g1, cell_later bN g2, cell_later bN g3⟩ (fun hS1 => ?_)
  clear hK K hS
  have hS := hS1
  clear hS1
  (try simp only [Act.put, List.setIfInBounds_toArray, List.set_cons_zero, List.set_cons_succ])
  refine any_take (i := 19) (v := ?_) rfl (by kernel_rfl) (by kernel_rfl) (by kernel_rfl) (by exact fun _ _ _ h => h) (by rfl) ?_ hS ?_
  rotate_left
  · ((intro w hSw; (try dsimp only at hSw); go_simp) <;> with_reducible rfl)
  (try simp only [Act.put, List.setIfInBounds_toArray, List.set_cons_zero, List.set_cons_succ])
  refine any_take (i := 20) (v := ?_) rfl (by kernel_rfl) (by kernel_rfl) (by kernel_rfl) (by exact fun _ _ _ h => h) (by rfl) ?_ hS ?_
  rotate_left
  · ((intro w hSw; (try dsimp only at hSw); go_simp) <;> with_reducible rfl)
  (try simp only [Act.put, List.setIfInBounds_toArray, List.set_cons_zero, List.set_cons_succ])
  refine wpAnyH_done (by kernel_rfl) ?_ _
  have F : Hid _ := And.intro hL (And.intro (below_then (below_then (below_then HB.out (Below.refl _ _).drew) b2) bN) (Nat.le_trans (Nat.le_trans HB.out.size (Nat.le_refl _)) b2.size))
  clear hL BN bN g0 g1 g2 g3 d0 d1 d2 d3 hS b2 hps ho2 hvc hvm HC HB HL
  go_wp2
  go_ret2
  exact ⟨_, rfl, F.out.2.2, F.out.1, F.out.2.1⟩
set_option maxHeartbeats 1000000 in
theorem enUpto_no (g : Nat) (m : Lm) (n : Int) (w : World) (h : Lg w g m) (hw : m.Wf) (hn : I64 n) (hh : m.hasB n = false) :
    Calls Try.prog 21 #[.pointer (some ⟨g, 0, none⟩), .int .i64 n] w fun r w' => r = .returned (.tuple #[.pointer none, .int .i64 1]) ∧ Below w.heap.size w w' := by
  have HP := placeError_any g m n w h hw hn
  clear h hw hn
  go_enter Try.func21, Try.ntmps21
  go_wp2_with fail
  refine HP.mono ?_
  rintro e w1 ⟨he, -, hb1⟩
  obtain rfl := he hh
  clear he HP
  go_wp2
  go_ret2
  exact ⟨rfl, hb1⟩
set_option maxHeartbeats 1000000 in
theorem enOver_no (g : Nat) (m : Lm) (n : Int) (w : World) (h : Lg w g m) (hw : m.Wf) (hn : I64 n) (hh : m.hasB n = false) :
    Calls Try.prog 17 #[.pointer (some ⟨g, 0, none⟩), .int .i64 n] w fun r w' => r = .returned (.tuple #[.pointer none, .int .i64 1]) ∧ Below w.heap.size w w' := by
  have HP := placeError_any g m n w h hw hn
  clear h hw hn
  go_enter Try.func17, Try.ntmps17
  go_wp2_with fail
  refine HP.mono ?_
  rintro e w1 ⟨he, -, hb1⟩
  obtain rfl := he hh
  clear he HP
  go_wp2
  go_ret2
  exact ⟨rfl, hb1⟩
/-- the log with its floor at the k-th place above its elder one -/
def Lm.over (m : Lm) (k : Nat) : Lm := ⟨m.fl + k, (m.term ((m.fl : Int) + k)).toNat, (m.mem ((m.fl : Int) + k)).toNat, m.l.drop k⟩
theorem memK_bd {m : Lm} (hw : m.Wf) (k : Nat) : 1 ≤ m.memK k ∧ m.memK k ≤ 31 := by
  induction k with
  | zero => have := hw.mask; unfold Lm.memK; omega
  | succ k ih =>
    rw [Lm.memK]
    cases h : m.l[k]? with
    | none => exact ih
    | some e =>
      have hc := canE_kind (hw.each e (List.mem_of_getElem? h))
      by_cases h2 : e.1 = 2
      · simp only [h2, if_true]; omega
      · simp only [h2, if_false]; exact ih
theorem term_bd {m : Lm} (hw : m.Wf) {n : Int} (h : m.hasB n = true) : 0 ≤ m.term n ∧ m.term n ≤ 1099511627776 := by
  have h' := of_decide_eq_true h
  rcases m.cases n with h1 | h1 | ⟨i, hi, h1⟩ | h1
  · omega
  · rw [(Lm.part_fl h1).2]; have := hw.term; omega
  · rw [(Lm.part_in hi h1).2]; have := canE_term (hw.each _ (List.getElem_mem hi)); omega
  · omega
set_option maxHeartbeats 2000000 in
theorem enOver_yes (g : Nat) (m : Lm) (n : Int) (k : Nat) (w : World) (h : Lg w g m) (hw : m.Wf) (hk : k ≤ m.l.length) (hn : n = (m.fl : Int) + k) :
    Calls Try.prog 17 #[.pointer (some ⟨g, 0, none⟩), .int .i64 n] w fun r w' => ∃ g', r = .returned (.tuple #[.pointer (some ⟨g', 0, none⟩), .int .i64 0]) ∧ w.heap.size ≤ g' ∧ Lg w' g' (m.over k) ∧ Below w.heap.size w w' := by
  have hpl := hw.place
  have hfu := hw.full
  have hhas : m.hasB n = true := decide_eq_true (by omega)
  have hn64 : I64 n := by unfold I64; omega
  have HP := placeError_any g m n w h hw hn64
  have HT : Hid _ := fun W (hW : Below w.heap.size w W) => enTerm_any g m n W (h.later hW) hw hn64
  have HM : Hid _ := fun W (hW : Below w.heap.size w W) => enMembers_any g m n W (h.later hW) hw hn64
  have hQ : m.over k = ⟨m.fl + k, (m.term n).toNat, (m.mem n).toNat, m.l.drop k⟩ := by subst hn; rfl
  have ht := term_bd hw hhas
  have hmm : 1 ≤ m.mem n ∧ m.mem n ≤ 31 := by unfold Lm.mem; rw [if_pos hhas]; exact memK_bd hw _
  have q1 : n - (m.fl : Int) = k := by omega
  have q2 : (k : Int) ≤ (m.l.length : Int) := by omega
  have HN : Hid _ := And.intro hn (And.intro ht hmm)
  obtain ⟨a, c, c0, c1, c2, c3, hc, hcm, hp⟩ := h.cells
  have q3 : (k : Int) ≤ (c : Int) := by omega
  have q4 : -9223372036854775808 ≤ n ∧ n ≤ 9223372036854775807 := by omega
  have q5 : (k : Int) ≤ 4096 := by omega
  have HX : Hid (PsAt w a m.l) := hp
  have HY : Hid (a = none → c = 0) := hcm.2
  have mk : ∀ (W : World) (p : Nat) (va : Option Addr) (vc : Nat), Blk W p 63 [.int .i64 n, .int .i64 (m.term n), .int .i64 (m.mem n), .slice va (m.l.length - k) vc] → m.l.length - k ≤ vc → (vc ≤ maxLen ∧ (va = none → vc = 0)) → PsAt W va (m.l.drop k) → Lg W p (m.over k) := by
    intro W p va vc h1 h2 h3 h4
    rw [hQ]
    have e1 : ((m.fl + k : Nat) : Int) = n := by omega
    have e2 : ((m.term n).toNat : Int) = m.term n := by omega
    have e3 : ((m.mem n).toNat : Int) = m.mem n := by omega
    have e4 : (m.l.drop k).length = m.l.length - k := List.length_drop ..
    refine ⟨va, vc, ?_, ?_, h3, h4⟩
    · show Blk W p _ [.int .i64 ((m.fl + k : Nat) : Int), .int .i64 ((m.term n).toNat : Int), .int .i64 ((m.mem n).toNat : Int), .slice va (m.l.drop k).length vc]
      rw [e1, e2, e3, e4]; exact h1
    · show (m.l.drop k).length ≤ vc
      rw [e4]; exact h2
  have HQ : Hid _ := mk
  have HU : Hid (m.l.length ≤ 4096) := hfu
  clear h hw hp hn c1 c2 hpl hfu hcm hQ ht hmm mk
  go_enter Try.func17, Try.ntmps17
  go_wp2_with fail
  refine HP.mono ?_
  rintro e w1 ⟨-, he, hb1⟩
  obtain rfl := he hhas
  have HB1 : Hid _ := hb1
  have x0 := cell_later hb1 c0
  have x3 := cell_later hb1 c3
  clear he hhas HP hb1 c0 c3
  go_wp2_with fail
  refine (HT.out _ HB1.out).mono ?_
  rintro e w2 ⟨rfl, b2⟩
  have hb2 := below_then HB1.out b2
  have HB2 : Hid _ := hb2
  have y0 := cell_later b2 x0
  have y3 := cell_later b2 x3
  clear hb2 b2 x0 x3
  go_wp2_with fail
  refine (HM.out _ HB2.out).mono ?_
  rintro e w3 ⟨rfl, b3⟩
  have s0 := cell_later b3 y0
  have s3 := cell_later b3 y3
  have b4 := box3_below w3 (.int .i64 n) (.int .i64 (m.term n)) (.int .i64 (m.mem n)) 60
  obtain ⟨z0, z1, z2⟩ := box3_cells w3 (.int .i64 n) (.int .i64 (m.term n)) (.int .i64 (m.mem n)) 60
  have d0 := cell_later b4 s0
  have d3 := cell_later b4 s3
  have hb4 := below_then (below_then HB2.out b3) b4
  have HB : Hid _ := hb4
  have hp4 := PsAt.later HX.out hb4
  clear hb4 b3 b4 s0 s3 y0 y3 HB1 HB2 HT HM
  go_wp2_with fail
  generalize hq : w3.heap.size = q at z0 z1 z2 ⊢
  clear hq
  generalize w3.alloc (.cells #[.int .i64 n, .int .i64 (m.term n), .int .i64 (m.mem n)] 60) = w4 at *
  have hp5 : PsAt w4.drew a m.l := PsAt.later hp4 (Below.refl _ _).drew
  have HL : Hid ((m.l.drop k).length = m.l.length - k) := List.length_drop ..
  have hfu := HU.out
  by_cases hck : k = c
  · have hl0 : m.l.drop k = [] := List.drop_eq_nil_of_le (by omega)
    have HC : Hid (Calls Try.prog 34 #[.slice a (m.l.length - k) 0] w4.drew fun e w' => ∃ v, e = .returned v ∧ PsOwn w' w4.drew.heap.size v (m.l.drop k) ∧ Below w4.drew.heap.size w4.drew w') := by
      have := CloneParts_any a 0 (m.l.drop k) w4.drew (by rw [hl0]; simp) (by rw [hl0]; simp) (.inl hl0)
      rw [HL.out] at this
      exact this
    have e0 : m.l.length - k = 0 := by omega
    rw [e0] at HC HL HQ
    subst hck
    clear hl0 e0 hp4 hp5 HX HY hfu
    refine wp_region_held_drew (S := fun W => W.cell? ⟨g, 0, none⟩ = some (.int .i64 m.fl) ∧ W.cell? ⟨g, 3, none⟩ = some (.slice a m.l.length k) ∧ W.cell? ⟨q, 0, none⟩ = some (.int .i64 n) ∧ W.cell? ⟨q, 1, none⟩ = some (.int .i64 (m.term n)) ∧ W.cell? ⟨q, 2, none⟩ = some (.int .i64 (m.mem n))) (by kernel_rfl) ⟨d0, d3, z0, z1, z2⟩ (fun hS => ?_)
    refine any_take (i := 0) (v := .agg #[.int .i64 n, .int .i64 (m.term n), .int .i64 (m.mem n)]) rfl (by kernel_rfl) (by kernel_rfl) (by kernel_rfl) (by exact fun _ _ _ h => h) (by rfl) ?_ hS ?_
    · intro W hSW; obtain ⟨cA, cD, cE, cF, cG⟩ := hSW; go_simp
    (try simp only [Act.put, List.setIfInBounds_toArray, List.set_cons_zero, List.set_cons_succ])
    refine any_take (i := 1) (v := ?_) rfl (by kernel_rfl) (by kernel_rfl) (by kernel_rfl) (by exact fun _ _ _ h => h) (by rfl) ?_ hS ?_
    rotate_left
    · ((intro w hSw; (try dsimp only at hSw); go_simp) <;> with_reducible rfl)
    (try simp only [Act.put, List.setIfInBounds_toArray, List.set_cons_zero, List.set_cons_succ])
    refine any_take (i := 2) (v := ?_) rfl (by kernel_rfl) (by kernel_rfl) (by kernel_rfl) (by exact fun _ _ _ h => h) (by rfl) ?_ hS ?_
    rotate_left
    · ((intro w hSw; (try dsimp only at hSw); go_simp) <;> with_reducible rfl)
    (try simp only [Act.put, List.setIfInBounds_toArray, List.set_cons_zero, List.set_cons_succ])
    refine any_take (i := 3) (v := ?_) rfl (by kernel_rfl) (by kernel_rfl) (by kernel_rfl) (by exact fun _ _ _ h => h) (by rfl) ?_ hS ?_
    rotate_left
    · ((intro w hSw; (try dsimp only at hSw); go_simp) <;> with_reducible rfl)
    (try simp only [Act.put, List.setIfInBounds_toArray, List.set_cons_zero, List.set_cons_succ])
    refine any_take (i := 4) (v := .slice a m.l.length k) rfl (by kernel_rfl) (by kernel_rfl) (by kernel_rfl) (by exact fun _ _ _ h => h) (by rfl) ?_ hS ?_
    · intro W hSW; obtain ⟨cA, cD, cE, cF, cG⟩ := hSW; go_simp
    (try simp only [Act.put, List.setIfInBounds_toArray, List.set_cons_zero, List.set_cons_succ])
    refine any_take (i := 5) (v := ?_) rfl (by kernel_rfl) (by kernel_rfl) (by kernel_rfl) (by exact fun _ _ _ h => h) (by rfl) ?_ hS ?_
    rotate_left
    · ((intro w hSw; (try dsimp only at hSw); go_simp) <;> with_reducible rfl)
    (try simp only [Act.put, List.setIfInBounds_toArray, List.set_cons_zero, List.set_cons_succ])
    refine any_take (i := 6) (v := ?_) rfl (by kernel_rfl) (by kernel_rfl) (by kernel_rfl) (by exact fun _ _ _ h => h) (by rfl) ?_ hS ?_
    rotate_left
    · ((intro w hSw; (try dsimp only at hSw); go_simp) <;> with_reducible rfl)
    (try simp only [Act.put, List.setIfInBounds_toArray, List.set_cons_zero, List.set_cons_succ])
    refine any_take (i := 7) (v := ?_) rfl (by kernel_rfl) (by kernel_rfl) (by kernel_rfl) (by exact fun _ _ _ h => h) (by rfl) ?_ hS ?_
    rotate_left
    · ((intro w hSw; (try dsimp only at hSw); go_simp) <;> with_reducible rfl)
    (try simp only [Act.put, List.setIfInBounds_toArray, List.set_cons_zero, List.set_cons_succ])
    refine any_take (i := 8) (v := ?_) rfl (by kernel_rfl) (by kernel_rfl) (by kernel_rfl) (by exact fun _ _ _ h => h) (by rfl) ?_ hS ?_
    rotate_left
    · ((intro w hSw; (try dsimp only at hSw); go_simp) <;> with_reducible rfl)
    (try simp only [Act.put, List.setIfInBounds_toArray, List.set_cons_zero, List.set_cons_succ])
    refine any_take (i := 9) (v := ?_) rfl (by kernel_rfl) (by kernel_rfl) (by kernel_rfl) (by exact fun _ _ _ h => h) (by rfl) ?_ hS ?_
    rotate_left
    · ((intro w hSw; (try dsimp only at hSw); go_simp) <;> with_reducible rfl)
    (try simp only [Act.put, List.setIfInBounds_toArray, List.set_cons_zero, List.set_cons_succ])
    refine any_take (i := 10) (v := .int .i64 m.fl) rfl (by kernel_rfl) (by kernel_rfl) (by kernel_rfl) (by exact fun _ _ _ h => h) (by rfl) ?_ hS ?_
    · intro W hSW; obtain ⟨cA, cD, cE, cF, cG⟩ := hSW; go_simp
    (try simp only [Act.put, List.setIfInBounds_toArray, List.set_cons_zero, List.set_cons_succ])
    refine any_take (i := 11) (v := .int .i64 k) rfl (by kernel_rfl) (by kernel_rfl) (by kernel_rfl) (by exact fun _ _ _ h => h) (by rfl) ?_ hS ?_
    · intro W hSW; obtain ⟨cA, cD, cE, cF, cG⟩ := hSW; go_simp; rw [IntKind.wrap_i64]; omega
    (try simp only [Act.put, List.setIfInBounds_toArray, List.set_cons_zero, List.set_cons_succ])
    refine any_take (i := 12) (v := .slice a 0 0) rfl (by kernel_rfl) (by kernel_rfl) (by kernel_rfl) (by exact fun _ _ _ h => h) (by rfl) ?_ hS ?_
    · intro W hSW; obtain ⟨cA, cD, cE, cF, cG⟩ := hSW; go_simp
    (try simp only [Act.put, List.setIfInBounds_toArray, List.set_cons_zero, List.set_cons_succ])
    refine any_one (i := 13) rfl (by kernel_rfl) (fun K hK => ?_)
    go_simp
    refine (Calls.mono HC.out) ?_
    rintro e w2 ⟨v, rfl, ho2, b2⟩
    have g0 := cell_later b2 d0
    have g3 := cell_later b2 d3
    have y0 := cell_later b2 z0
    have y1 := cell_later b2 z1
    have y2 := cell_later b2 z2
    obtain ⟨va, vc, rfl, hvc, hvm, hps⟩ := PsOwn.open ho2
    rw [HL.out] at hvc ⊢
    go_wp2_with fail
    refine hK.out _ _ ⟨g0, g3, y0, y1, y2⟩ ?_
    clear hK K hS
    have hS := And.intro g0 (And.intro g3 (And.intro y0 (And.intro y1 y2)))
    refine any_take (i := 14) (v := .agg #[.int .i64 n, .int .i64 (m.term n), .int .i64 (m.mem n), .slice va 0 vc]) rfl (by kernel_rfl) (by kernel_rfl) (by kernel_rfl) (by exact fun _ _ _ h => h) (by rfl) ?_ hS ?_
    · intro W hSW; obtain ⟨cA, cD, cE, cF, cG⟩ := hSW; go_simp
    (try simp only [Act.put, List.setIfInBounds_toArray, List.set_cons_zero, List.set_cons_succ])
    have BN : Blk (w2.alloc (.cells #[.int .i64 n, .int .i64 (m.term n), .int .i64 (m.mem n), .slice va 0 vc] 63)) w2.heap.size 63 [.int .i64 n, .int .i64 (m.term n), .int .i64 (m.mem n), .slice va 0 vc] := Blk.new' w2 _ _
    have bN : Below w2.heap.size w2 (w2.alloc (.cells #[.int .i64 n, .int .i64 (m.term n), .int .i64 (m.mem n), .slice va 0 vc] 63)) := (Below.refl _ _).alloc (Nat.le_refl _) _
    have hL : Lg (w2.alloc (.cells #[.int .i64 n, .int .i64 (m.term n), .int .i64 (m.mem n), .slice va 0 vc] 63)) w2.heap.size (m.over k) := HQ.out _ _ va vc BN hvc hvm (PsAt.later hps bN)
    refine any_on (i := 15) rfl (by kernel_rfl) (fun K hK => ?_)
    go_simp
    refine hK.out _ _ ⟨cell_later bN g0, cell_later bN g3, cell_later bN y0, cell_later bN y1, cell_later bN y2⟩ (fun hS1 => ?_)
    clear hK K hS
    have hS := hS1
    clear hS1
    (try simp only [Act.put, List.setIfInBounds_toArray, List.set_cons_zero, List.set_cons_succ])
    refine any_take (i := 16) (v := ?_) rfl (by kernel_rfl) (by kernel_rfl) (by kernel_rfl) (by exact fun _ _ _ h => h) (by rfl) ?_ hS ?_
    rotate_left
    · ((intro w hSw; (try dsimp only at hSw); go_simp) <;> with_reducible rfl)
    (try simp only [Act.put, List.setIfInBounds_toArray, List.set_cons_zero, List.set_cons_succ])
    refine any_take (i := 17) (v := ?_) rfl (by kernel_rfl) (by kernel_rfl) (by kernel_rfl) (by exact fun _ _ _ h => h) (by rfl) ?_ hS ?_
    rotate_left
    · ((intro w hSw; (try dsimp only at hSw); go_simp) <;> with_reducible rfl)
    (try simp only [Act.put, List.setIfInBounds_toArray, List.set_cons_zero, List.set_cons_succ])
    refine wpAnyH_done (by kernel_rfl) ?_ _
    have F : Hid _ := And.intro hL (And.intro (below_then (below_then (below_then HB.out (Below.refl _ _).drew) b2) bN) (Nat.le_trans (Nat.le_trans HB.out.size (Nat.le_refl _)) b2.size))
    clear hL BN bN g0 g3 y0 y1 y2 d0 d3 z0 z1 z2 hS b2 hps ho2 hvc hvm HC HB HQ HL
    go_wp2
    go_ret2
    exact ⟨_, rfl, F.out.2.2, F.out.1, F.out.2.1⟩
  · obtain ⟨x, rfl⟩ : ∃ x, a = some x := by
      cases a with
      | none => have := HY.out rfl; omega
      | some x => exact ⟨x, rfl⟩
    have HC : Hid (Calls Try.prog 34 #[.slice (some (x.add k)) (m.l.length - k) (c - k)] w4.drew fun e w' => ∃ v, e = .returned v ∧ PsOwn w' w4.drew.heap.size v (m.l.drop k) ∧ Below w4.drew.heap.size w4.drew w') := by
      have hps : PsAt w4.drew (some (x.add k)) (m.l.drop k) := by
        rcases hp5 with e | ⟨b, off, e, hcell⟩
        · exact .inl (by rw [e]; simp)
        · cases e
          have e2 : (⟨b, off, none⟩ : Addr).add k = ⟨b, off + k, none⟩ := by unfold Addr.add; split <;> simp_all
          refine .inr ⟨b, off + k, by rw [e2], fun i hi => ?_⟩
          rw [List.length_drop] at hi
          have := hcell (k + i) (by omega)
          rw [List.getElem_drop, show off + k + i = off + (k + i) by omega]; exact this
      have := CloneParts_any (some (x.add k)) (c - k) (m.l.drop k) w4.drew (by rw [HL.out]; omega) (by rw [HL.out]; omega) hps
      rw [HL.out] at this
      exact this
    clear hp4 hp5 HX HY hfu
    refine wp_region_held_drew (S := fun W => W.cell? ⟨g, 0, none⟩ = some (.int .i64 m.fl) ∧ W.cell? ⟨g, 3, none⟩ = some (.slice (some x) m.l.length c) ∧ W.cell? ⟨q, 0, none⟩ = some (.int .i64 n) ∧ W.cell? ⟨q, 1, none⟩ = some (.int .i64 (m.term n)) ∧ W.cell? ⟨q, 2, none⟩ = some (.int .i64 (m.mem n))) (by kernel_rfl) ⟨d0, d3, z0, z1, z2⟩ (fun hS => ?_)
    refine any_take (i := 0) (v := .agg #[.int .i64 n, .int .i64 (m.term n), .int .i64 (m.mem n)]) rfl (by kernel_rfl) (by kernel_rfl) (by kernel_rfl) (by exact fun _ _ _ h => h) (by rfl) ?_ hS ?_
    · intro W hSW; obtain ⟨cA, cD, cE, cF, cG⟩ := hSW; go_simp
    (try simp only [Act.put, List.setIfInBounds_toArray, List.set_cons_zero, List.set_cons_succ])
    refine any_take (i := 1) (v := ?_) rfl (by kernel_rfl) (by kernel_rfl) (by kernel_rfl) (by exact fun _ _ _ h => h) (by rfl) ?_ hS ?_
    rotate_left
    · ((intro w hSw; (try dsimp only at hSw); go_simp) <;> with_reducible rfl)
    (try simp only [Act.put, List.setIfInBounds_toArray, List.set_cons_zero, List.set_cons_succ])
    refine any_take (i := 2) (v := ?_) rfl (by kernel_rfl) (by kernel_rfl) (by kernel_rfl) (by exact fun _ _ _ h => h) (by rfl) ?_ hS ?_
    rotate_left
    · ((intro w hSw; (try dsimp only at hSw); go_simp) <;> with_reducible rfl)
    (try simp only [Act.put, List.setIfInBounds_toArray, List.set_cons_zero, List.set_cons_succ])
    refine any_take (i := 3) (v := ?_) rfl (by kernel_rfl) (by kernel_rfl) (by kernel_rfl) (by exact fun _ _ _ h => h) (by rfl) ?_ hS ?_
    rotate_left
    · ((intro w hSw; (try dsimp only at hSw); go_simp) <;> with_reducible rfl)
    (try simp only [Act.put, List.setIfInBounds_toArray, List.set_cons_zero, List.set_cons_succ])
    refine any_take (i := 4) (v := .slice (some x) m.l.length c) rfl (by kernel_rfl) (by kernel_rfl) (by kernel_rfl) (by exact fun _ _ _ h => h) (by rfl) ?_ hS ?_
    · intro W hSW; obtain ⟨cA, cD, cE, cF, cG⟩ := hSW; go_simp
    (try simp only [Act.put, List.setIfInBounds_toArray, List.set_cons_zero, List.set_cons_succ])
    refine any_take (i := 5) (v := ?_) rfl (by kernel_rfl) (by kernel_rfl) (by kernel_rfl) (by exact fun _ _ _ h => h) (by rfl) ?_ hS ?_
    rotate_left
    · ((intro w hSw; (try dsimp only at hSw); go_simp) <;> with_reducible rfl)
    (try simp only [Act.put, List.setIfInBounds_toArray, List.set_cons_zero, List.set_cons_succ])
    refine any_take (i := 6) (v := ?_) rfl (by kernel_rfl) (by kernel_rfl) (by kernel_rfl) (by exact fun _ _ _ h => h) (by rfl) ?_ hS ?_
    rotate_left
    · ((intro w hSw; (try dsimp only at hSw); go_simp) <;> with_reducible rfl)
    (try simp only [Act.put, List.setIfInBounds_toArray, List.set_cons_zero, List.set_cons_succ])
    refine any_take (i := 7) (v := ?_) rfl (by kernel_rfl) (by kernel_rfl) (by kernel_rfl) (by exact fun _ _ _ h => h) (by rfl) ?_ hS ?_
    rotate_left
    · ((intro w hSw; (try dsimp only at hSw); go_simp) <;> with_reducible rfl)
    (try simp only [Act.put, List.setIfInBounds_toArray, List.set_cons_zero, List.set_cons_succ])
    refine any_take (i := 8) (v := ?_) rfl (by kernel_rfl) (by kernel_rfl) (by kernel_rfl) (by exact fun _ _ _ h => h) (by rfl) ?_ hS ?_
    rotate_left
    · ((intro w hSw; (try dsimp only at hSw); go_simp) <;> with_reducible rfl)
    (try simp only [Act.put, List.setIfInBounds_toArray, List.set_cons_zero, List.set_cons_succ])
    refine any_take (i := 9) (v := ?_) rfl (by kernel_rfl) (by kernel_rfl) (by kernel_rfl) (by exact fun _ _ _ h => h) (by rfl) ?_ hS ?_
    rotate_left
    · ((intro w hSw; (try dsimp only at hSw); go_simp) <;> with_reducible rfl)
    (try simp only [Act.put, List.setIfInBounds_toArray, List.set_cons_zero, List.set_cons_succ])
    refine any_take (i := 10) (v := .int .i64 m.fl) rfl (by kernel_rfl) (by kernel_rfl) (by kernel_rfl) (by exact fun _ _ _ h => h) (by rfl) ?_ hS ?_
    · intro W hSW; obtain ⟨cA, cD, cE, cF, cG⟩ := hSW; go_simp
    (try simp only [Act.put, List.setIfInBounds_toArray, List.set_cons_zero, List.set_cons_succ])
    refine any_take (i := 11) (v := .int .i64 k) rfl (by kernel_rfl) (by kernel_rfl) (by kernel_rfl) (by exact fun _ _ _ h => h) (by rfl) ?_ hS ?_
    · intro W hSW; obtain ⟨cA, cD, cE, cF, cG⟩ := hSW; go_simp; rw [IntKind.wrap_i64]; omega
    (try simp only [Act.put, List.setIfInBounds_toArray, List.set_cons_zero, List.set_cons_succ])
    refine any_take (i := 12) (v := .slice (some (x.add k)) (m.l.length - k) (c - k)) rfl (by kernel_rfl) (by kernel_rfl) (by kernel_rfl) (by exact fun _ _ _ h => h) (by rfl) ?_ hS ?_
    · intro W hSW; obtain ⟨cA, cD, cE, cF, cG⟩ := hSW; go_simp; exact fun e => absurd e.symm hck
    (try simp only [Act.put, List.setIfInBounds_toArray, List.set_cons_zero, List.set_cons_succ])
    refine any_one (i := 13) rfl (by kernel_rfl) (fun K hK => ?_)
    go_simp
    refine (Calls.mono HC.out) ?_
    rintro e w2 ⟨v, rfl, ho2, b2⟩
    have g0 := cell_later b2 d0
    have g3 := cell_later b2 d3
    have y0 := cell_later b2 z0
    have y1 := cell_later b2 z1
    have y2 := cell_later b2 z2
    obtain ⟨va, vc, rfl, hvc, hvm, hps⟩ := PsOwn.open ho2
    rw [HL.out] at hvc ⊢
    go_wp2_with fail
    refine hK.out _ _ ⟨g0, g3, y0, y1, y2⟩ ?_
    clear hK K hS
    have hS := And.intro g0 (And.intro g3 (And.intro y0 (And.intro y1 y2)))
    refine any_take (i := 14) (v := .agg #[.int .i64 n, .int .i64 (m.term n), .int .i64 (m.mem n), .slice va (m.l.length - k) vc]) rfl (by kernel_rfl) (by kernel_rfl) (by kernel_rfl) (by exact fun _ _ _ h => h) (by rfl) ?_ hS ?_
    · intro W hSW; obtain ⟨cA, cD, cE, cF, cG⟩ := hSW; go_simp
    (try simp only [Act.put, List.setIfInBounds_toArray, List.set_cons_zero, List.set_cons_succ])
    have BN : Blk (w2.alloc (.cells #[.int .i64 n, .int .i64 (m.term n), .int .i64 (m.mem n), .slice va (m.l.length - k) vc] 63)) w2.heap.size 63 [.int .i64 n, .int .i64 (m.term n), .int .i64 (m.mem n), .slice va (m.l.length - k) vc] := Blk.new' w2 _ _
    have bN : Below w2.heap.size w2 (w2.alloc (.cells #[.int .i64 n, .int .i64 (m.term n), .int .i64 (m.mem n), .slice va (m.l.length - k) vc] 63)) := (Below.refl _ _).alloc (Nat.le_refl _) _
    have hL : Lg (w2.alloc (.cells #[.int .i64 n, .int .i64 (m.term n), .int .i64 (m.mem n), .slice va (m.l.length - k) vc] 63)) w2.heap.size (m.over k) := HQ.out _ _ va vc BN hvc hvm (PsAt.later hps bN)
    refine any_on (i := 15) rfl (by kernel_rfl) (fun K hK => ?_)
    go_simp
    refine hK.out _ _ ⟨cell_later bN g0, cell_later bN g3, cell_later bN y0, cell_later bN y1, cell_later bN y2⟩ (fun hS1 => ?_)
    clear hK K hS
    have hS := hS1
    clear hS1
    (try simp only [Act.put, List.setIfInBounds_toArray, List.set_cons_zero, List.set_cons_succ])
    refine any_take (i := 16) (v := ?_) rfl (by kernel_rfl) (by kernel_rfl) (by kernel_rfl) (by exact fun _ _ _ h => h) (by rfl) ?_ hS ?_
    rotate_left
    · ((intro w hSw; (try dsimp only at hSw); go_simp) <;> with_reducible rfl)
    (try simp only [Act.put, List.setIfInBounds_toArray, List.set_cons_zero, List.set_cons_succ])
    refine any_take (i := 17) (v := ?_) rfl (by kernel_rfl) (by kernel_rfl) (by kernel_rfl) (by exact fun _ _ _ h => h) (by rfl) ?_ hS ?_
    rotate_left
    · ((intro w hSw; (try dsimp only at hSw); go_simp) <;> with_reducible rfl)
    (try simp only [Act.put, List.setIfInBounds_toArray, List.set_cons_zero, List.set_cons_succ])
    refine wpAnyH_done (by kernel_rfl) ?_ _
    have F : Hid _ := And.intro hL (And.intro (below_then (below_then (below_then HB.out (Below.refl _ _).drew) b2) bN) (Nat.le_trans (Nat.le_trans HB.out.size (Nat.le_refl _)) b2.size))
    clear hL BN bN g0 g3 y0 y1 y2 d0 d3 z0 z1 z2 hS b2 hps ho2 hvc hvm HC HB HQ HL
    go_wp2
    go_ret2
    exact ⟨_, rfl, F.out.2.2, F.out.1, F.out.2.1⟩
end Go.Proofs.Ytehbolkjgiedbaa
