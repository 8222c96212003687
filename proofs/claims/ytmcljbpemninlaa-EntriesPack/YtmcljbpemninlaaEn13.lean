/- A log up to a place, and one with its floor there: the calls. -/
import Derived.Test.YtmcljbpemninlaaEn12
namespace Go.Proofs.Ytmcljbpemninlaa
open Go.RowKit
set_option linter.unusedVariables false
set_option maxRecDepth 20000

/-- the log without the entries above the first k -/
def Lm.upto (m : Lm) (k : Nat) : Lm := ⟨m.fl, m.ft, m.fm, m.l.take k⟩
theorem enUpto_nil (n : Int) (w : World) :
    Calls Try.prog 91 #[.pointer none, .int .i64 n] w fun r w' => r = .returned (.tuple #[.pointer none, .int .i64 2]) ∧ w = w' := by
  have HP := placeError_nil n w
  go_enter Try.func91, Try.ntmps91
  go_wp2_with (go_at_call 100; refine HP.mono ?_; rintro e w' ⟨rfl, rfl⟩)
  go_ret2
  exact ⟨rfl, rfl⟩

set_option maxHeartbeats 2000000 in
theorem enUpto_yes (g : Nat) (m : Lm) (n : Int) (k : Nat) (w : World) (h : Lg w g m) (hw : m.Wf) (hk : k ≤ m.l.length) (hn : n = (m.fl : Int) + k) :
    Calls Try.prog 91 #[.pointer (some ⟨g, 0, none⟩), .int .i64 n] w fun r w' => ∃ g', r = .returned (.tuple #[.pointer (some ⟨g', 0, none⟩), .int .i64 0]) ∧ w.heap.size ≤ g' ∧ Lg w' g' (m.upto k) ∧ Below w.heap.size w w' := by
  have hpl := hw.place
  have hfu := hw.full
  have hhas : m.hasB n = true := decide_eq_true (by omega)
  have HP := placeError_any g m n w h hw (by unfold I64; omega)
  have q1 : n - (m.fl : Int) = k := by omega
  have q2 : (k : Int) ≤ (m.l.length : Int) := by omega
  have HN : Hid _ := hn
  obtain ⟨a, c, c0, c1, c2, c3, hc, hcm, hp⟩ := h.cells
  have q3 : (k : Int) ≤ (c : Int) := by omega
  have q4 : -9223372036854775808 ≤ n ∧ n ≤ 9223372036854775807 := by omega
  have HX : Hid (PsAt w a m.l) := hp
  clear h hw hp hn
  go_enter Try.func91, Try.ntmps91
  go_wp2_with fail
  refine HP.mono ?_
  rintro e w1 ⟨-, he, hb1⟩
  obtain rfl := he hhas
  have d0 := cell_later hb1 c0
  have d1 := cell_later hb1 c1
  have d2 := cell_later hb1 c2
  have d3 := cell_later hb1 c3
  have hp1 : PsAt w1.drew a (m.l.take k) := by
    rcases PsAt.later HX.out hb1 with e | ⟨b, off, rfl, hcell⟩
    · exact .inl (by rw [e]; simp)
    · refine .inr ⟨b, off, rfl, fun i hi => ?_⟩
      rw [List.length_take] at hi
      have := hcell i (by omega)
      rw [List.getElem_take]; exact this
  have HC : Hid _ := CloneParts_any a c (m.l.take k) w1.drew (by rw [List.length_take]; omega) (by rw [List.length_take]; omega) hp1
  have hlk : (m.l.take k).length = k := by rw [List.length_take]; omega
  rw [hlk] at HC
  have HB : Hid _ := hb1
  have HL : Hid ((m.l.take k).length = k) := hlk
  have q5 : (k : Int) ≤ 4096 := by omega
  clear he hhas HP c0 c1 c2 c3 hb1 hp1 HX HN hpl hfu hlk
  go_wp2_with fail
  refine wp_region_held_drew (S := fun W => W.cell? ⟨g, 0, none⟩ = some (.int .i64 m.fl) ∧ W.cell? ⟨g, 1, none⟩ = some (.int .i64 m.ft) ∧ W.cell? ⟨g, 2, none⟩ = some (.int .i64 m.fm) ∧ W.cell? ⟨g, 3, none⟩ = some (.slice a m.l.length c)) (by kernel_rfl) ⟨d0, d1, d2, d3⟩ (fun hS => ?_)
  refine any_take (i := 0) (v := ?_) rfl (by kernel_rfl) (by kernel_rfl) (by kernel_rfl) (by exact fun _ _ _ h => h) (by rfl) ?_ hS ?_
  rotate_left
  · ((intro w hSw; (try dsimp only at hSw); go_simp) <;> with_reducible rfl)
  (try simp only [Act.put, List.setIfInBounds_toArray, List.set_cons_zero, List.set_cons_succ])
  refine any_take (i := 1) (v := ?_) rfl (by kernel_rfl) (by kernel_rfl) (by kernel_rfl) (by exact fun _ _ _ h => h) (by rfl) ?_ hS ?_
  rotate_left
  · ((intro w hSw; (try dsimp only at hSw); go_simp) <;> with_reducible rfl)
  (try simp only [Act.put, List.setIfInBounds_toArray, List.set_cons_zero, List.set_cons_succ])
  refine any_take (i := 2) (v := ?_) rfl (by kernel_rfl) (by kernel_rfl) (by kernel_rfl) (by exact fun _ _ _ h => h) (by rfl) ?_ hS ?_
  rotate_left
  · ((intro w hSw; (try dsimp only at hSw); go_simp) <;> with_reducible rfl)
  (try simp only [Act.put, List.setIfInBounds_toArray, List.set_cons_zero, List.set_cons_succ])
  refine any_take (i := 3) (v := .agg #[.int .i64 m.fl, .int .i64 m.ft, .int .i64 m.fm]) rfl (by kernel_rfl) (by kernel_rfl) (by kernel_rfl) (by exact fun _ _ _ h => h) (by rfl) ?_ hS ?_
  · intro W hSW; obtain ⟨cA, cB, cC, cD⟩ := hSW; go_simp
  (try simp only [Act.put, List.setIfInBounds_toArray, List.set_cons_zero, List.set_cons_succ])
  refine any_take (i := 4) (v := ?_) rfl (by kernel_rfl) (by kernel_rfl) (by kernel_rfl) (by exact fun _ _ _ h => h) (by rfl) ?_ hS ?_
  rotate_left
  · ((intro w hSw; (try dsimp only at hSw); go_simp) <;> with_reducible rfl)
  (try simp only [Act.put, List.setIfInBounds_toArray, List.set_cons_zero, List.set_cons_succ])
  refine any_take (i := 5) (v := ?_) rfl (by kernel_rfl) (by kernel_rfl) (by kernel_rfl) (by exact fun _ _ _ h => h) (by rfl) ?_ hS ?_
  rotate_left
  · ((intro w hSw; (try dsimp only at hSw); go_simp) <;> with_reducible rfl)
  (try simp only [Act.put, List.setIfInBounds_toArray, List.set_cons_zero, List.set_cons_succ])
  refine any_take (i := 6) (v := ?_) rfl (by kernel_rfl) (by kernel_rfl) (by kernel_rfl) (by exact fun _ _ _ h => h) (by rfl) ?_ hS ?_
  rotate_left
  · ((intro w hSw; (try dsimp only at hSw); go_simp) <;> with_reducible rfl)
  (try simp only [Act.put, List.setIfInBounds_toArray, List.set_cons_zero, List.set_cons_succ])
  refine any_take (i := 7) (v := .slice a m.l.length c) rfl (by kernel_rfl) (by kernel_rfl) (by kernel_rfl) (by exact fun _ _ _ h => h) (by rfl) ?_ hS ?_
  · intro W hSW; obtain ⟨cA, cB, cC, cD⟩ := hSW; go_simp
  (try simp only [Act.put, List.setIfInBounds_toArray, List.set_cons_zero, List.set_cons_succ])
  refine any_take (i := 8) (v := ?_) rfl (by kernel_rfl) (by kernel_rfl) (by kernel_rfl) (by exact fun _ _ _ h => h) (by rfl) ?_ hS ?_
  rotate_left
  · ((intro w hSw; (try dsimp only at hSw); go_simp) <;> with_reducible rfl)
  (try simp only [Act.put, List.setIfInBounds_toArray, List.set_cons_zero, List.set_cons_succ])
  refine any_take (i := 9) (v := ?_) rfl (by kernel_rfl) (by kernel_rfl) (by kernel_rfl) (by exact fun _ _ _ h => h) (by rfl) ?_ hS ?_
  rotate_left
  · ((intro w hSw; (try dsimp only at hSw); go_simp) <;> with_reducible rfl)
  (try simp only [Act.put, List.setIfInBounds_toArray, List.set_cons_zero, List.set_cons_succ])
  refine any_take (i := 10) (v := ?_) rfl (by kernel_rfl) (by kernel_rfl) (by kernel_rfl) (by exact fun _ _ _ h => h) (by rfl) ?_ hS ?_
  rotate_left
  · ((intro w hSw; (try dsimp only at hSw); go_simp) <;> with_reducible rfl)
  (try simp only [Act.put, List.setIfInBounds_toArray, List.set_cons_zero, List.set_cons_succ])
  refine any_take (i := 11) (v := ?_) rfl (by kernel_rfl) (by kernel_rfl) (by kernel_rfl) (by exact fun _ _ _ h => h) (by rfl) ?_ hS ?_
  rotate_left
  · ((intro w hSw; (try dsimp only at hSw); go_simp) <;> with_reducible rfl)
  (try simp only [Act.put, List.setIfInBounds_toArray, List.set_cons_zero, List.set_cons_succ])
  refine any_take (i := 12) (v := ?_) rfl (by kernel_rfl) (by kernel_rfl) (by kernel_rfl) (by exact fun _ _ _ h => h) (by rfl) ?_ hS ?_
  rotate_left
  · ((intro w hSw; (try dsimp only at hSw); go_simp) <;> with_reducible rfl)
  (try simp only [Act.put, List.setIfInBounds_toArray, List.set_cons_zero, List.set_cons_succ])
  refine any_take (i := 13) (v := .int .i64 m.fl) rfl (by kernel_rfl) (by kernel_rfl) (by kernel_rfl) (by exact fun _ _ _ h => h) (by rfl) ?_ hS ?_
  · intro W hSW; obtain ⟨cA, cB, cC, cD⟩ := hSW; go_simp
  (try simp only [Act.put, List.setIfInBounds_toArray, List.set_cons_zero, List.set_cons_succ])
  refine any_take (i := 14) (v := .int .i64 k) rfl (by kernel_rfl) (by kernel_rfl) (by kernel_rfl) (by exact fun _ _ _ h => h) (by rfl) ?_ hS ?_
  · intro W hSW; obtain ⟨cA, cB, cC, cD⟩ := hSW; go_simp; rw [IntKind.wrap_i64]; omega
  (try simp only [Act.put, List.setIfInBounds_toArray, List.set_cons_zero, List.set_cons_succ])
  refine any_take (i := 15) (v := .slice a k c) rfl (by kernel_rfl) (by kernel_rfl) (by kernel_rfl) (by exact fun _ _ _ h => h) (by rfl) ?_ hS ?_
  · intro W hSW; obtain ⟨cA, cB, cC, cD⟩ := hSW; go_simp
  (try simp only [Act.put, List.setIfInBounds_toArray, List.set_cons_zero, List.set_cons_succ])
  refine any_one (i := 16) rfl (by kernel_rfl) (fun K hK => ?_)
  go_simp
  refine (Calls.mono HC.out) ?_
  rintro e w2 ⟨v, rfl, ho2, b2⟩
  have g0 := cell_later b2 d0
  have g1 := cell_later b2 d1
  have g2 := cell_later b2 d2
  have g3 := cell_later b2 d3
  obtain ⟨va, vc, rfl, hvc, hvm, hps⟩ := PsOwn.open ho2
  rw [HL.out] at hvc ⊢
  go_wp2_with fail
  refine hK.out _ _ ⟨g0, g1, g2, g3⟩ ?_
  clear hK K hS
  have hS := And.intro g0 (And.intro g1 (And.intro g2 g3))
  refine any_take (i := 17) (v := .agg #[.int .i64 m.fl, .int .i64 m.ft, .int .i64 m.fm, .slice va k vc]) rfl (by kernel_rfl) (by kernel_rfl) (by kernel_rfl) (by exact fun _ _ _ h => h) (by rfl) ?_ hS ?_
  · intro W hSW; obtain ⟨cA, cB, cC, cD⟩ := hSW; go_simp
  (try simp only [Act.put, List.setIfInBounds_toArray, List.set_cons_zero, List.set_cons_succ])
  have BN : Blk (w2.alloc (.cells #[.int .i64 m.fl, .int .i64 m.ft, .int .i64 m.fm, .slice va k vc] 108)) w2.heap.size 108 [.int .i64 m.fl, .int .i64 m.ft, .int .i64 m.fm, .slice va k vc] := Blk.new' w2 _ _
  have bN : Below w2.heap.size w2 (w2.alloc (.cells #[.int .i64 m.fl, .int .i64 m.ft, .int .i64 m.fm, .slice va k vc] 108)) := (Below.refl _ _).alloc (Nat.le_refl _) _
  have hL : Lg (w2.alloc (.cells #[.int .i64 m.fl, .int .i64 m.ft, .int .i64 m.fm, .slice va k vc] 108)) w2.heap.size (m.upto k) := ⟨va, vc, by rw [show (m.upto k).l.length = k from HL.out]; exact BN, by rw [show (m.upto k).l.length = k from HL.out]; exact hvc, hvm, PsAt.later hps bN⟩
  refine any_on (i := 18) rfl (by kernel_rfl) (fun K hK => ?_)
  go_simp
  refine hK.out _ _ ⟨cell_later bN g0, cell_later bN g1, cell_later bN g2, cell_later bN g3⟩ (fun hS1 => ?_)
  clear hK K hS
  have hS := hS1
  clear hS1
  (try simp only [Act.put, List.setIfInBounds_toArray, List.set_cons_zero, List.set_cons_succ])
  refine any_take (i := 19) (v := ?_) rfl (by kernel_rfl) (by kernel_rfl) (by kernel_rfl) (by exact fun _ _ _ h => h) (by rfl) ?_ hS ?_
  rotate_left
  · ((intro w hSw; (try dsimp only at hSw); go_simp) <;> with_reducible rfl)
  (try simp only [Act.put, List.setIfInBounds_toArray, List.set_cons_zero, List.set_cons_succ])
  refine any_take (i := 20) (v := ?_) rfl (by kernel_rfl) (by kernel_rfl) (by kernel_rfl) (by exact fun _ _ _ h => h) (by rfl) ?_ hS ?_
  rotate_left
  · ((intro w hSw; (try dsimp only at hSw); go_simp) <;> with_reducible rfl)
  (try simp only [Act.put, List.setIfInBounds_toArray, List.set_cons_zero, List.set_cons_succ])
  refine wpAnyH_done (by kernel_rfl) ?_ _
  have F : Hid _ := And.intro hL (And.intro (below_then (below_then (below_then HB.out (Below.refl _ _).drew) b2) bN) (Nat.le_trans (Nat.le_trans HB.out.size (Nat.le_refl _)) b2.size))
  clear hL BN bN g0 g1 g2 g3 d0 d1 d2 d3 hS b2 hps ho2 hvc hvm HC HB HL
  go_wp2
  go_ret2
  exact ⟨_, rfl, F.out.2.2, F.out.1, F.out.2.1⟩
set_option maxHeartbeats 1000000 in
theorem enUpto_no (g : Nat) (m : Lm) (n : Int) (w : World) (h : Lg w g m) (hw : m.Wf) (hn : I64 n) (hh : m.hasB n = false) :
    Calls Try.prog 91 #[.pointer (some ⟨g, 0, none⟩), .int .i64 n] w fun r w' => r = .returned (.tuple #[.pointer none, .int .i64 1]) ∧ Below w.heap.size w w' := by
  have HP := placeError_any g m n w h hw hn
  clear h hw hn
  go_enter Try.func91, Try.ntmps91
  go_wp2_with fail
  refine HP.mono ?_
  rintro e w1 ⟨he, -, hb1⟩
  obtain rfl := he hh
  clear he HP
  go_wp2
  go_ret2
  exact ⟨rfl, hb1⟩

/-- the log with its floor at the k-th place above its elder one -/
def Lm.over (m : Lm) (k : Nat) : Lm := ⟨m.fl + k, (m.term ((m.fl : Int) + k)).toNat, (m.mem ((m.fl : Int) + k)).toNat, m.l.drop k⟩
theorem memK_bd {m : Lm} (hw : m.Wf) (k : Nat) : 1 ≤ m.memK k ∧ m.memK k ≤ 31 := by
  induction k with
  | zero => have := hw.mask; unfold Lm.memK; omega
  | succ k ih =>
    rw [Lm.memK]
    cases h : m.l[k]? with
    | none => exact ih
    | some e =>
      have hc := canE_kind (hw.each e (List.mem_of_getElem? h))
      by_cases h2 : e.1 = 2
      · simp only [h2, if_true]; omega
      · simp only [h2, if_false]; exact ih
theorem term_bd {m : Lm} (hw : m.Wf) {n : Int} (h : m.hasB n = true) : 0 ≤ m.term n ∧ m.term n ≤ 1099511627776 := by
  have h' := of_decide_eq_true h
  rcases m.cases n with h1 | h1 | ⟨i, hi, h1⟩ | h1
  · omega
  · rw [(Lm.part_fl h1).2]; have := hw.term; omega
  · rw [(Lm.part_in hi h1).2]; have := canE_term (hw.each _ (List.getElem_mem hi)); omega
  · omega

end Go.Proofs.Ytmcljbpemninlaa
