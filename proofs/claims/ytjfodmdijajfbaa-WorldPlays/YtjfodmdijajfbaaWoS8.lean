/- WorldPlays, walked. -/
import Derived.Test.YtjfodmdijajfbaaWoS7
import Derived.Test.YtjfodmdijajfbaaWoOps
namespace Go.Proofs.Ytjfodmdijajfbaa
open Go.RowKit
set_option linter.unusedVariables false
set_option maxRecDepth 4000

/-- both worlds, i calls on -/
def Played (B : Nat) (g g' : Nat) (i : Nat) (W W1 : World) : Prop := ∃ m p p', Both B g g' p p' m W1 ∧ Below B W W1 ∧ m.Wf ∧ m.lo ≤ i ∧ m.tk ≤ i
theorem Moved.below {B g g' : Nat} {m : Wm} {W W1 : World} (h : Moved B g g' m W W1) (w : World) (hb : Below B w W) : Below B w W1 := by
  obtain ⟨m1, p1, p1', -, h2, -⟩ := h
  exact hb.trans h2
set_option maxHeartbeats 8000000 in
theorem worldPlays_walk (n r : Int) (a : Option Addr) (len cap : Nat) (w : World) (hn : I64 n) (hr : I64 r) (O : WOps w a len cap) :
    Calls Try.prog 3 #[.int .i64 n, .int .i64 r, .slice a len cap] w fun e w' => e = .returned (.bool true) ∧ Below w.heap.size w w' := by
  have hlen : len ≤ maxLen := Nat.le_trans O.le O.most
  unfold maxLen at hlen
  by_cases hc : 1 ≤ n ∧ n ≤ 5 ∧ 1 ≤ r ∧ r ≤ 1000
  · obtain ⟨N, rfl⟩ : ∃ k : Nat, n = k := ⟨n.toNat, by omega⟩
    obtain ⟨R, rfl⟩ : ∃ k : Nat, r = k := ⟨r.toNat, by omega⟩
    have HO : Hid _ := O
    clear O
    go_enter Try.func3, Try.ntmps3
    go_wp2_with fail
    refine (woNew_yes N R w (by omega) (by omega)).mono ?_
    rintro e w1 ⟨g, c1, rfl, hg, hc1, ok1, b1⟩
    go_wp2_with fail
    refine (rwNew_yes N R w1 (by omega) (by omega)).mono ?_
    rintro e w2 ⟨g', c2, rfl, hg', hc2, ok2, b2⟩
    have s0 : Sep w.heap.size ([] : List Ob) w := ⟨fun o h => (by cases h), fun o h => (by cases h), List.Pairwise.nil, Nat.le_refl _⟩
    have s1 : Sep w.heap.size [wo g ⟨c1, none, []⟩ (Wm.new N R)] w1 := Sep.fresh s0 b1 ok1 (fun k hk => by rcases hk with hk | hk; (simp [wo] at hk; rcases hk with rfl | rfl <;> assumption); cases hk)
    have s2 : Sep w.heap.size [rw8 g' ⟨c2, none, []⟩ (Wm.new N R), wo g ⟨c1, none, []⟩ (Wm.new N R)] w2 := Sep.fresh s1 b2 ok2 (fun k hk => by rcases hk with hk | hk; (simp [rw8] at hk; rcases hk with rfl | rfl <;> assumption); cases hk)
    have HP : Hid (Played w.heap.size g g' 0 w w2) := ⟨_, _, _, s2.swap, below_then b1 b2, Wm.new_wf (by omega) (by omega), Nat.le_refl _, Nat.le_refl _⟩
    clear s0 s1 s2 ok1 ok2 hg hg' hc1 hc2 b1 b2
    go_wp2_with fail
    go_loopw [11] (fun iv wr => ∃ i : Nat, i ≤ len ∧ i ≤ 100 ∧ iv = .int .i64 i ∧ Played w.heap.size g g' i w wr) (fun iv _ => 100 - (intOf iv).toNat)
    case atStart => exact ⟨0, by omega, by omega, rfl, HP.out⟩
    case round =>
      obtain ⟨i, hi1, hi2, rfl, hP⟩ := hrel
      have HPi : Hid _ := hP
      by_cases t1 : i < len
      · have q1 : (i : Int) < (len : Int) := by omega
        by_cases t2 : i < 100
        · have q2 : (i : Int) < 100 := by omega
          obtain ⟨m, p, p', hB, hbw, hw, hlo, htk⟩ := hP
          obtain ⟨b, off, rfl, hop⟩ := HO.out.each (by omega)
          obtain ⟨KK, F, NN, xv, o0, o1, o2, o3, D⟩ := hop i t1
          obtain ⟨xa, xl, xc, xb, rfl, hA⟩ := D.bytes
          have HS : Hid _ := st_any w.heap.size g g' p p' m KK F NN xa xl xc xb wr.drew hB.drew hw D.froms D.nums (by omega) (by omega) hA.len_eq hA.le hA.bound hA.isNil (fun X hX => hA.row.later (hbw.drew.trans hX))
          have HA : Hid _ := fun (m1 : Wm) (p1 p1' : Wp) (X : World) (h : Both w.heap.size g g' p1 p1' m1 X) (hw1 : m1.Wf) => alike_any w.heap.size g g' p1 p1' m1 F NN X h hw1 D.froms D.nums
          have HC : Hid _ := And.intro o0 (And.intro o1 (And.intro o2 o3))
          have HL : Hid _ := And.intro hlo htk
          have Sd : Below w.heap.size w wr.drew := hbw.drew
          clear hB hbw hw hlo htk hop o0 o1 o2 o3 D hA HP HPi
          go_upto_region 10 with fail
          refine wp_region_held_drew (S := fun W => Below w.heap.size w W) (by as_aux_lemma => kernel_rfl) Sd (fun hS => ?_)
          have B0 : Below w.heap.size w wr.drew := Sd
          have l0 : ∀ W, Below w.heap.size w W → W.cell? ⟨b, off + i * 4, none⟩ = some (.int .i64 KK) := fun W hW => cell_later hW HC.out.1
          have l1 : ∀ W, Below w.heap.size w W → W.cell? ⟨b, off + i * 4 + 1, none⟩ = some (.int .i64 F) := fun W hW => cell_later hW HC.out.2.1
          have l2 : ∀ W, Below w.heap.size w W → W.cell? ⟨b, off + i * 4 + 2, none⟩ = some (.int .i64 NN) := fun W hW => cell_later hW HC.out.2.2.1
          have l3 : ∀ W, Below w.heap.size w W → W.cell? ⟨b, off + i * 4 + 3, none⟩ = some (.slice xa xl xc) := fun W hW => cell_later hW HC.out.2.2.2
          refine any_take (i := 0) (v := ?_) rfl (by as_aux_lemma => kernel_rfl) (by as_aux_lemma => kernel_rfl) (by as_aux_lemma => kernel_rfl) (by exact fun _ _ _ h => h) (by rfl) ?_ hS ?_
          rotate_left
          · ((intro w hSw; (try dsimp only at hSw); go_simp) <;> with_reducible rfl)
          (try simp only [Act.put, List.setIfInBounds_toArray, List.set_cons_zero, List.set_cons_succ])
          refine any_take (i := 1) (v := ?_) rfl (by as_aux_lemma => kernel_rfl) (by as_aux_lemma => kernel_rfl) (by as_aux_lemma => kernel_rfl) (by exact fun _ _ _ h => h) (by rfl) ?_ hS ?_
          rotate_left
          · ((intro w hSw; (try dsimp only at hSw); go_simp) <;> with_reducible rfl)
          (try simp only [Act.put, List.setIfInBounds_toArray, List.set_cons_zero, List.set_cons_succ])
          refine any_take (i := 2) (v := ?_) rfl (by as_aux_lemma => kernel_rfl) (by as_aux_lemma => kernel_rfl) (by as_aux_lemma => kernel_rfl) (by exact fun _ _ _ h => h) (by rfl) ?_ hS ?_
          rotate_left
          · ((intro w hSw; (try dsimp only at hSw); go_simp) <;> with_reducible rfl)
          (try simp only [Act.put, List.setIfInBounds_toArray, List.set_cons_zero, List.set_cons_succ])
          refine any_take (i := 3) (v := ?_) rfl (by as_aux_lemma => kernel_rfl) (by as_aux_lemma => kernel_rfl) (by as_aux_lemma => kernel_rfl) (by exact fun _ _ _ h => h) (by rfl) ?_ hS ?_
          rotate_left
          · ((intro w hSw; (try dsimp only at hSw); go_simp) <;> with_reducible rfl)
          (try simp only [Act.put, List.setIfInBounds_toArray, List.set_cons_zero, List.set_cons_succ])
          refine any_take (i := 4) (v := ?_) rfl (by as_aux_lemma => kernel_rfl) (by as_aux_lemma => kernel_rfl) (by as_aux_lemma => kernel_rfl) (by exact fun _ _ _ h => h) (by rfl) ?_ hS ?_
          rotate_left
          · ((intro w hSw; (try dsimp only at hSw); go_simp) <;> with_reducible rfl)
          (try simp only [Act.put, List.setIfInBounds_toArray, List.set_cons_zero, List.set_cons_succ])
          refine any_take (i := 5) (v := ?_) rfl (by as_aux_lemma => kernel_rfl) (by as_aux_lemma => kernel_rfl) (by as_aux_lemma => kernel_rfl) (by exact fun _ _ _ h => h) (by rfl) ?_ hS ?_
          rotate_left
          · ((intro w hSw; (try dsimp only at hSw); go_simp) <;> with_reducible rfl)
          (try simp only [Act.put, List.setIfInBounds_toArray, List.set_cons_zero, List.set_cons_succ])
          refine any_one (i := 6) rfl (by as_aux_lemma => kernel_rfl) (fun K hK => ?_)
          go_simp
          refine (Calls.mono (HS.out)) ?_
          rintro e x1 ⟨rfl, hMv⟩
          have HM : Hid (Moved w.heap.size g g' m wr.drew x1) := hMv
          clear hMv
          go_wp2_with fail
          refine hK.out _ _ (Moved.below HM.out w Sd) ?_
          clear hK K hS
          have hS := Moved.below HM.out w Sd
          obtain ⟨m1, p1, p1', hB1, hb1, hw1, hlo1, htk1⟩ := HM.out
          have HA1 : Hid _ := HA.out m1 p1 p1' x1 hB1 hw1
          have HM2 : Hid _ := And.intro hb1 (And.intro hw1 (And.intro hlo1 htk1))
          clear hB1 hb1 hw1 hlo1 htk1
          refine any_take (i := 7) (v := ?_) rfl (by as_aux_lemma => kernel_rfl) (by as_aux_lemma => kernel_rfl) (by as_aux_lemma => kernel_rfl) (by exact fun _ _ _ h => h) (by rfl) ?_ hS ?_
          rotate_left
          · ((intro w hSw; (try dsimp only at hSw); go_simp) <;> with_reducible rfl)
          (try simp only [Act.put, List.setIfInBounds_toArray, List.set_cons_zero, List.set_cons_succ])
          refine any_take (i := 8) (v := ?_) rfl (by as_aux_lemma => kernel_rfl) (by as_aux_lemma => kernel_rfl) (by as_aux_lemma => kernel_rfl) (by exact fun _ _ _ h => h) (by rfl) ?_ hS ?_
          rotate_left
          · ((intro w hSw; (try dsimp only at hSw); go_simp) <;> with_reducible rfl)
          (try simp only [Act.put, List.setIfInBounds_toArray, List.set_cons_zero, List.set_cons_succ])
          refine any_take (i := 9) (v := ?_) rfl (by as_aux_lemma => kernel_rfl) (by as_aux_lemma => kernel_rfl) (by as_aux_lemma => kernel_rfl) (by exact fun _ _ _ h => h) (by rfl) ?_ hS ?_
          rotate_left
          · ((intro w hSw; (try dsimp only at hSw); go_simp) <;> with_reducible rfl)
          (try simp only [Act.put, List.setIfInBounds_toArray, List.set_cons_zero, List.set_cons_succ])
          refine any_take (i := 10) (v := ?_) rfl (by as_aux_lemma => kernel_rfl) (by as_aux_lemma => kernel_rfl) (by as_aux_lemma => kernel_rfl) (by exact fun _ _ _ h => h) (by rfl) ?_ hS ?_
          rotate_left
          · ((intro w hSw; (try dsimp only at hSw); go_simp) <;> with_reducible rfl)
          (try simp only [Act.put, List.setIfInBounds_toArray, List.set_cons_zero, List.set_cons_succ])
          refine any_take (i := 11) (v := ?_) rfl (by as_aux_lemma => kernel_rfl) (by as_aux_lemma => kernel_rfl) (by as_aux_lemma => kernel_rfl) (by exact fun _ _ _ h => h) (by rfl) ?_ hS ?_
          rotate_left
          · ((intro w hSw; (try dsimp only at hSw); go_simp) <;> with_reducible rfl)
          (try simp only [Act.put, List.setIfInBounds_toArray, List.set_cons_zero, List.set_cons_succ])
          refine any_take (i := 12) (v := ?_) rfl (by as_aux_lemma => kernel_rfl) (by as_aux_lemma => kernel_rfl) (by as_aux_lemma => kernel_rfl) (by exact fun _ _ _ h => h) (by rfl) ?_ hS ?_
          rotate_left
          · ((intro w hSw; (try dsimp only at hSw); go_simp) <;> with_reducible rfl)
          (try simp only [Act.put, List.setIfInBounds_toArray, List.set_cons_zero, List.set_cons_succ])
          refine any_take (i := 13) (v := ?_) rfl (by as_aux_lemma => kernel_rfl) (by as_aux_lemma => kernel_rfl) (by as_aux_lemma => kernel_rfl) (by exact fun _ _ _ h => h) (by rfl) ?_ hS ?_
          rotate_left
          · ((intro w hSw; (try dsimp only at hSw); go_simp) <;> with_reducible rfl)
          (try simp only [Act.put, List.setIfInBounds_toArray, List.set_cons_zero, List.set_cons_succ])
          refine any_take (i := 14) (v := ?_) rfl (by as_aux_lemma => kernel_rfl) (by as_aux_lemma => kernel_rfl) (by as_aux_lemma => kernel_rfl) (by exact fun _ _ _ h => h) (by rfl) ?_ hS ?_
          rotate_left
          · ((intro w hSw; (try dsimp only at hSw); go_simp) <;> with_reducible rfl)
          (try simp only [Act.put, List.setIfInBounds_toArray, List.set_cons_zero, List.set_cons_succ])
          refine any_take (i := 15) (v := ?_) rfl (by as_aux_lemma => kernel_rfl) (by as_aux_lemma => kernel_rfl) (by as_aux_lemma => kernel_rfl) (by exact fun _ _ _ h => h) (by rfl) ?_ hS ?_
          rotate_left
          · ((intro w hSw; (try dsimp only at hSw); go_simp) <;> with_reducible rfl)
          (try simp only [Act.put, List.setIfInBounds_toArray, List.set_cons_zero, List.set_cons_succ])
          refine any_take (i := 16) (v := ?_) rfl (by as_aux_lemma => kernel_rfl) (by as_aux_lemma => kernel_rfl) (by as_aux_lemma => kernel_rfl) (by exact fun _ _ _ h => h) (by rfl) ?_ hS ?_
          rotate_left
          · ((intro w hSw; (try dsimp only at hSw); go_simp) <;> with_reducible rfl)
          (try simp only [Act.put, List.setIfInBounds_toArray, List.set_cons_zero, List.set_cons_succ])
          refine any_take (i := 17) (v := ?_) rfl (by as_aux_lemma => kernel_rfl) (by as_aux_lemma => kernel_rfl) (by as_aux_lemma => kernel_rfl) (by exact fun _ _ _ h => h) (by rfl) ?_ hS ?_
          rotate_left
          · ((intro w hSw; (try dsimp only at hSw); go_simp) <;> with_reducible rfl)
          (try simp only [Act.put, List.setIfInBounds_toArray, List.set_cons_zero, List.set_cons_succ])
          refine any_take (i := 18) (v := ?_) rfl (by as_aux_lemma => kernel_rfl) (by as_aux_lemma => kernel_rfl) (by as_aux_lemma => kernel_rfl) (by exact fun _ _ _ h => h) (by rfl) ?_ hS ?_
          rotate_left
          · ((intro w hSw; (try dsimp only at hSw); go_simp) <;> with_reducible rfl)
          (try simp only [Act.put, List.setIfInBounds_toArray, List.set_cons_zero, List.set_cons_succ])
          refine any_take (i := 19) (v := ?_) rfl (by as_aux_lemma => kernel_rfl) (by as_aux_lemma => kernel_rfl) (by as_aux_lemma => kernel_rfl) (by exact fun _ _ _ h => h) (by rfl) ?_ hS ?_
          rotate_left
          · ((intro w hSw; (try dsimp only at hSw); go_simp) <;> with_reducible rfl)
          (try simp only [Act.put, List.setIfInBounds_toArray, List.set_cons_zero, List.set_cons_succ])
          refine any_take (i := 20) (v := ?_) rfl (by as_aux_lemma => kernel_rfl) (by as_aux_lemma => kernel_rfl) (by as_aux_lemma => kernel_rfl) (by exact fun _ _ _ h => h) (by rfl) ?_ hS ?_
          rotate_left
          · ((intro w hSw; (try dsimp only at hSw); go_simp) <;> with_reducible rfl)
          (try simp only [Act.put, List.setIfInBounds_toArray, List.set_cons_zero, List.set_cons_succ])
          refine any_one (i := 21) rfl (by as_aux_lemma => kernel_rfl) (fun K hK => ?_)
          go_simp
          refine (Calls.mono (HA1.out)) ?_
          rintro e x2 ⟨rfl, hAf⟩
          obtain ⟨r1, r1', hB2, hb2⟩ := hAf
          have HM3 : Hid _ := And.intro hB2 (Sd.trans (HM2.out.1.trans hb2))
          clear hB2 hb2
          go_wp2_with fail
          refine hK.out _ _ (HM3.out.2) ?_
          clear hK K hS
          have hS := HM3.out.2
          refine any_take (i := 22) (v := ?_) rfl (by as_aux_lemma => kernel_rfl) (by as_aux_lemma => kernel_rfl) (by as_aux_lemma => kernel_rfl) (by exact fun _ _ _ h => h) (by rfl) ?_ hS ?_
          rotate_left
          · ((intro w hSw; (try dsimp only at hSw); go_simp) <;> with_reducible rfl)
          (try simp only [Act.put, List.setIfInBounds_toArray, List.set_cons_zero, List.set_cons_succ])
          refine any_take (i := 23) (v := ?_) rfl (by as_aux_lemma => kernel_rfl) (by as_aux_lemma => kernel_rfl) (by as_aux_lemma => kernel_rfl) (by exact fun _ _ _ h => h) (by rfl) ?_ hS ?_
          rotate_left
          · ((intro w hSw; (try dsimp only at hSw); go_simp) <;> with_reducible rfl)
          (try simp only [Act.put, List.setIfInBounds_toArray, List.set_cons_zero, List.set_cons_succ])
          refine wpAnyH_done (by as_aux_lemma => kernel_rfl) ?_ _
          have HF : Hid (Played w.heap.size g g' (i + 1) w x2) := ⟨m1, r1, r1', HM3.out.1, HM3.out.2, HM2.out.2.1, (by have := HL.out; have := HM2.out; omega), (by have := HL.out; have := HM2.out; omega)⟩
          clear l0 l1 l2 l3 HM HM2 HM3 HL HC HS HA HA1 Sd hS
          go_wp2
          go_roundw
          case rel => exact ⟨i + 1, by omega, by omega, by go_num, HF.out⟩
          case measure => simp [intOf]; omega
        · have q2 : ¬ ((i : Int) < 100) := by omega
          have HB : Hid (Below w.heap.size w wr) := (by obtain ⟨m, p, p', hB, hbw, -⟩ := hP; exact hbw)
          clear hP HPi HP HO
          go_wp2_with (go_at_call 11; refine (known8_any _).mono ?_; rintro e w3 ⟨rfl, b3⟩)
          go_ret
          exact ⟨rfl, below_then HB.out b3⟩
      · have q1 : ¬ ((i : Int) < (len : Int)) := by omega
        have HB : Hid (Below w.heap.size w wr) := (by obtain ⟨m, p, p', hB, hbw, -⟩ := hP; exact hbw)
        clear hP HPi HP HO
        go_wp2_with (go_at_call 11; refine (known8_any _).mono ?_; rintro e w3 ⟨rfl, b3⟩)
        go_ret
        exact ⟨rfl, below_then HB.out b3⟩
  · go_enter Try.func3, Try.ntmps3
    go_wp2_with fail
    refine (woNew_no n r w hn hr hc).mono ?_
    rintro e _ ⟨rfl, rfl⟩
    go_wp2_with fail
    refine (rwNew_no n r w hn hr hc).mono ?_
    rintro e _ ⟨rfl, rfl⟩
    go_wp2_with (go_at_call 11; refine (known8_any _).mono ?_; rintro e w3 ⟨rfl, b3⟩)
    go_ret
    exact ⟨rfl, b3⟩
end Go.Proofs.Ytjfodmdijajfbaa
