/- extent: any bytes are an image, or are refused. -/
import Derived.Test.YtmkacgdbmojomaaXLf2
import Derived.Test.YtmkacgdbmojomaaXLe4
import Derived.Test.YtmkacgdbmojomaaXEr7
namespace Go.Proofs.Ytmkacgdbmojomaa
open Go.RowKit
set_option linter.unusedVariables false
set_option linter.unusedSimpArgs false
set_option maxRecDepth 8000

theorem PlR.bel {L : List (BitVec 8)} {w w' : World} {e : Ending} (h : PlR L w e w') : Below w.heap.size w w' := h.elim (fun h => h.2.2) (fun ⟨_, _, _, _, _, _, h⟩ => h)
theorem LdR.bel {L : List (BitVec 8)} {w w' : World} {e : Ending} (h : LdR L w e w') : Below w.heap.size w w' := h.elim (fun h => h.2.2) (fun ⟨_, _, _, _, _, _, _, h⟩ => h)
theorem row_block_lt {w : World} {a : Option Addr} {l : List (BitVec 8)} (h : Row w a l) {ad : Addr} (e : a = some ad) (hl : 0 < l.length) : ad.block < w.heap.size := by
  rcases h with h | ⟨b, off, hb, hc⟩
  · rw [h] at hl; simp at hl
  · rw [hb] at e; cases e
    exact cell_lt (hc 0 hl)
theorem row_kept {w w' : World} {a : Option Addr} {l : List (BitVec 8)} {R : Nat → Prop} (h : Row w a l) (ht : Turned R w w') (hn : ∀ ad, a = some ad → 0 < l.length → ¬ R ad.block) : Row w' a l := by
  rcases h with h | ⟨b, off, rfl, hc⟩
  · exact .inl h
  · refine .inr ⟨b, off, rfl, fun i hi => ?_⟩
    rw [← hc i hi]
    exact World.cell?_of_block (w := w) (a := ⟨b, off + i, none⟩) (ht.block b (cell_lt (hc i hi)) (hn _ rfl (by omega)))
set_option maxHeartbeats 16000000 in
theorem extentLoads_walk (a1 : Option Addr) (len1 c1 : Nat) (l : List (BitVec 8)) (w : World) (A : Arg 140737488351232 w a1 len1 c1 l) :
    Calls Try.prog 4 #[.slice a1 len1 c1] w fun e w' => e = .returned (.bool true) ∧ Below w.heap.size w w' := by
  have HA : Hid _ := A
  have hlen := A.len_eq
  subst hlen
  have HB : Hid (l.length ≤ 140737488351232) := by have h1 := A.le; have h2 := A.bound; unfold Hid; omega
  have HLt : Hid _ := Lent_any a1 l.length c1 l w A
  clear A
  go_enter Try.func4, Try.ntmps4
  go_wp2_with fail
  refine (Calls.mono HLt.out) ?_
  rintro e w1 ⟨g0, c0, rfl, ho, hg0, hc0, hm0, b1⟩
  clear HLt
  have H1 : Hid _ := And.intro ho (And.intro hc0 (And.intro b1 hg0))
  have HPl : Hid _ := imLoad_any (some ⟨g0, 0, none⟩) l.length c0 l w1 rfl (by omega) (row_pre (own_row5 ho)) (fun h => by cases h) HB.out
  clear ho hg0 hc0 hm0 b1
  go_wp2_with fail
  refine (Calls.mono HPl.out) ?_
  intro e w2 hP2
  clear HPl
  have b2 := hP2.bel
  have HLd : Hid _ := riLoad_any a1 l.length c1 l w2 rfl HA.out.le ((HA.out.row.later H1.out.2.2.1).later b2) HA.out.isNil HB.out
  by_cases h0 : (ldM l).1 = 0
  · obtain ⟨g, b, rfl, hok, hnew, -⟩ : ∃ g b, e = .returned (.tuple #[.pointer (some ⟨g, 0, none⟩), .int .i64 0]) ∧ (im g b (ldM l).2).Ok w2 ∧ (∀ k, k ∈ (im g b (ldM l).2).W ∨ k ∈ (im g b (ldM l).2).V → w1.heap.size ≤ k) ∧ True := by
      rcases hP2 with ⟨h, -⟩ | ⟨-, g, b, h1, h2, h3, -⟩
      · exact absurd h0 h
      · exact ⟨g, b, h1, h2, h3, trivial⟩
    clear hP2
    go_wp2_with fail
    refine (Calls.mono HLd.out) ?_
    intro e w3 hR3
    clear HLd
    have b3 := hR3.bel
    have H3 : Hid _ := And.intro (H1.out.1.later (below_then b2 b3)) (And.intro H1.out.2.1 (And.intro (below_then H1.out.2.2.1 (below_then b2 b3)) (And.intro ((HA.out.row.later H1.out.2.2.1).later (below_then b2 b3)) (And.intro H1.out.2.2.2 (show g0 < w1.heap.size from (World.ownsRow.lt H1.out.1 g0 rfl).2)))))
    obtain ⟨r, lb, V, rfl, hrk, hrn, -⟩ : ∃ r lb V, e = .returned (.tuple #[.pointer (some ⟨r, 0, none⟩), .int .i64 0]) ∧ (ri r lb V (ldM l).2).Ok w3 ∧ (∀ k, k ∈ (ri r lb V (ldM l).2).W ∨ k ∈ (ri r lb V (ldM l).2).V → w2.heap.size ≤ k) ∧ True := by
      rcases hR3 with ⟨h, -⟩ | ⟨-, r, lb, V, h1, h2, h3, -⟩
      · exact absurd h0 h
      · exact ⟨r, lb, V, h1, h2, h3, trivial⟩
    clear hR3
    have HM3 : Hid _ := And.intro (hok.later b3) (And.intro hrk (And.intro hnew (And.intro hrn (And.intro b2.size (And.intro (ldM_wf h0) (ldM_back h0))))))
    clear hok hrk hnew hrn b2 b3 h0 H1
    have HKp : Hid _ := Kept_yes g0 l.length c0 a1 c1 l w3 rfl H3.out.2.1 HB.out (own_row5 H3.out.1) H3.out.2.2.2.1
    go_wp2_with fail
    refine (Calls.mono HKp.out) ?_
    rintro e w4 ⟨rfl, hw4⟩
    subst hw4
    clear HKp
    have HSp : Hid _ := spoil_lent5 H3.out.1 HB.out H3.out.2.1
    go_wp2_with fail
    refine (Calls.mono HSp.out) ?_
    rintro e w5 ⟨rfl, g5⟩
    clear HSp
    have t5 : Turned (fun k => k = g0) w4 w5 := turned_grown g5 (fun k e => (Option.some.inj e).symm)
    have hlA : ∀ ad, a1 = some ad → 0 < l.length → ad.block < w.heap.size := fun ad e hl => row_block_lt HA.out.row e hl
    have hrb : Row w5 a1 l := row_kept H3.out.2.2.2.1 t5 (fun ad e hl => by show ¬ (ad.block = g0); have := hlA ad e hl; have := H3.out.2.2.2.2.1; omega)
    have hcb := str_conv (c := c1) hrb
    have HM : Hid _ := And.intro (HM3.out.1.turned t5 (fun k hk e => by have h1 := HM3.out.2.2.1 k hk; have h2 := H3.out.2.2.2.2.2; omega)) (And.intro (HM3.out.2.1.turned t5 (fun k hk e => by have h1 := HM3.out.2.2.2.1 k hk; have h2 := H3.out.2.2.2.2.2; have h3 := HM3.out.2.2.2.2.1; omega)) HM3.out.2.2.2.2.2)
    have HB5 : Hid _ := H3.out.2.2.1.grown g5 H3.out.2.2.1.size (fun k e => by rw [← Option.some.inj e]; exact H3.out.2.2.2.2.1)
    have Sd : Below w5.heap.size w5 w5.drew := (Below.refl _ _).drew
    clear hlA hrb t5 g5 H3 HM3
    go_wp2_with fail
    refine wp_region_held_drew (S := fun W => Below w5.heap.size w5 W) (by kernel_rfl) Sd (fun hS => ?_)
    have B0 : Below w5.heap.size w5 w5.drew := Sd
    refine any_take (i := 0) (v := ?_) rfl (by kernel_rfl) (by kernel_rfl) (by kernel_rfl) (by exact fun _ _ _ h => h) (by rfl) ?_ hS ?_
    rotate_left
    · ((intro w hSw; (try dsimp only at hSw); go_simp) <;> with_reducible rfl)
    (try simp only [Act.put, List.setIfInBounds_toArray, List.set_cons_zero, List.set_cons_succ])
    refine any_take (i := 3) (v := ?_) rfl (by kernel_rfl) (by kernel_rfl) (by kernel_rfl) (by exact fun _ _ _ h => h) (by rfl) ?_ hS ?_
    rotate_left
    · ((intro w hSw; (try dsimp only at hSw); go_simp) <;> with_reducible rfl)
    (try simp only [Act.put, List.setIfInBounds_toArray, List.set_cons_zero, List.set_cons_succ])
    refine any_take (i := 4) (v := ?_) rfl (by kernel_rfl) (by kernel_rfl) (by kernel_rfl) (by exact fun _ _ _ h => h) (by rfl) ?_ hS ?_
    rotate_left
    · ((intro w hSw; (try dsimp only at hSw); go_simp) <;> with_reducible rfl)
    (try simp only [Act.put, List.setIfInBounds_toArray, List.set_cons_zero, List.set_cons_succ])
    have K1 : Hid _ := imBytes_str g b (ldM l).2 _ (HM.out.1.later B0) HM.out.2.2.1 l HM.out.2.2.2
    refine any_one (i := 1) rfl (by kernel_rfl) (fun K hK => ?_)
    go_simp
    refine (Calls.mono (K1.out)) ?_
    rintro e x1 ⟨a1, l1, c1, rfl, hc1, -, hbR⟩
    have B1 : Below w5.heap.size w5 x1 := below_then B0 hbR
    clear K1
    go_wp2_with fail
    refine hK.out _ _ (by first | exact B1 | exact hbR | exact below_then hS hbR) (any_weaken (S' := fun W => Below x1.heap.size x1 W) (fun W hW => by first | exact below_then B1 hW | exact below_then hbR hW | exact below_then (below_then hS hbR) hW) _ _ _ _ ?_)
    clear hK K hS hbR
    have hS : Below x1.heap.size x1 x1 := Below.refl _ _
    refine any_take (i := 2) (v := ?_) rfl (by kernel_rfl) (by kernel_rfl) (by kernel_rfl) (by exact fun _ _ _ h => h) (by rfl) ?_ hS ?_
    rotate_left
    · ((intro w hSw; (try dsimp only at hSw); go_simp) <;> with_reducible rfl)
    (try simp only [Act.put, List.setIfInBounds_toArray, List.set_cons_zero, List.set_cons_succ])
    refine any_take (i := 5) (v := ?_) rfl (by kernel_rfl) (by kernel_rfl) (by kernel_rfl) (by exact fun _ _ _ h => h) (by rfl) ?_ hS ?_
    rotate_left
    · ((intro w hSw; (try dsimp only at hSw); go_simp) <;> with_reducible rfl)
    (try simp only [Act.put, List.setIfInBounds_toArray, List.set_cons_zero, List.set_cons_succ])
    refine any_take (i := 6) (v := ?_) rfl (by kernel_rfl) (by kernel_rfl) (by kernel_rfl) (by exact fun _ _ _ h => h) (by rfl) ?_ hS ?_
    rotate_left
    · ((intro w hSw; (try dsimp only at hSw); go_simp) <;> with_reducible rfl)
    (try simp only [Act.put, List.setIfInBounds_toArray, List.set_cons_zero, List.set_cons_succ])
    refine any_take (i := 7) (v := ?_) rfl (by kernel_rfl) (by kernel_rfl) (by kernel_rfl) (by exact fun _ _ _ h => h) (by rfl) ?_ hS ?_
    rotate_left
    · ((intro w hSw; (try dsimp only at hSw); go_simp) <;> with_reducible rfl)
    (try simp only [Act.put, List.setIfInBounds_toArray, List.set_cons_zero, List.set_cons_succ])
    refine any_take (i := 8) (v := ?_) rfl (by kernel_rfl) (by kernel_rfl) (by kernel_rfl) (by exact fun _ _ _ h => h) (by rfl) ?_ hS ?_
    rotate_left
    · ((intro w hSw; (try dsimp only at hSw); go_simp) <;> with_reducible rfl)
    (try simp only [Act.put, List.setIfInBounds_toArray, List.set_cons_zero, List.set_cons_succ])
    have K2 : Hid _ := alike_any g b r lb V (ldM l).2 0 1 _ (HM.out.1.later B1) (HM.out.2.1.later B1) HM.out.2.2.1 (by unfold I64; omega) (by unfold I64; omega)
    refine any_one (i := 9) rfl (by kernel_rfl) (fun K hK => ?_)
    go_simp
    refine (Calls.mono (K2.out)) ?_
    rintro e x2 ⟨rfl, hbR⟩
    have B2 : Below w5.heap.size w5 x2 := below_then B1 hbR
    clear K2
    go_wp2_with fail
    refine hK.out _ _ (by first | exact B2 | exact hbR | exact below_then hS hbR) (any_weaken (S' := fun W => Below x2.heap.size x2 W) (fun W hW => by first | exact below_then B2 hW | exact below_then hbR hW | exact below_then (below_then hS hbR) hW) _ _ _ _ ?_)
    clear hK K hS hbR
    have hS : Below x2.heap.size x2 x2 := Below.refl _ _
    refine any_take (i := 10) (v := ?_) rfl (by kernel_rfl) (by kernel_rfl) (by kernel_rfl) (by exact fun _ _ _ h => h) (by rfl) ?_ hS ?_
    rotate_left
    · ((intro w hSw; (try dsimp only at hSw); go_simp) <;> with_reducible rfl)
    (try simp only [Act.put, List.setIfInBounds_toArray, List.set_cons_zero, List.set_cons_succ])
    refine any_take (i := 11) (v := ?_) rfl (by kernel_rfl) (by kernel_rfl) (by kernel_rfl) (by exact fun _ _ _ h => h) (by rfl) ?_ hS ?_
    rotate_left
    · ((intro w hSw; (try dsimp only at hSw); go_simp) <;> with_reducible rfl)
    (try simp only [Act.put, List.setIfInBounds_toArray, List.set_cons_zero, List.set_cons_succ])
    refine any_one (i := 12) rfl (by kernel_rfl) (fun K hK => ?_)
    go_simp
    refine (Calls.mono (known5_any _)) ?_
    rintro e x3 ⟨rfl, hbR⟩
    have B3 : Below w5.heap.size w5 x3 := below_then B2 hbR
    go_wp2_with fail
    refine hK.out _ _ (by first | exact B3 | exact hbR | exact below_then hS hbR) (any_weaken (S' := fun W => Below x3.heap.size x3 W) (fun W hW => by first | exact below_then B3 hW | exact below_then hbR hW | exact below_then (below_then hS hbR) hW) _ _ _ _ ?_)
    clear hK K hS hbR
    have hS : Below x3.heap.size x3 x3 := Below.refl _ _
    refine any_take (i := 13) (v := ?_) rfl (by kernel_rfl) (by kernel_rfl) (by kernel_rfl) (by exact fun _ _ _ h => h) (by rfl) ?_ hS ?_
    rotate_left
    · ((intro w hSw; (try dsimp only at hSw); go_simp) <;> with_reducible rfl)
    (try simp only [Act.put, List.setIfInBounds_toArray, List.set_cons_zero, List.set_cons_succ])
    refine any_take (i := 14) (v := ?_) rfl (by kernel_rfl) (by kernel_rfl) (by kernel_rfl) (by exact fun _ _ _ h => h) (by rfl) ?_ hS ?_
    rotate_left
    · ((intro w hSw; (try dsimp only at hSw); go_simp) <;> with_reducible rfl)
    (try simp only [Act.put, List.setIfInBounds_toArray, List.set_cons_zero, List.set_cons_succ])
    refine wpAnyH_done (by kernel_rfl) ?_ _
    go_wp2_with fail
    go_ret
    exact ⟨rfl, below_then HB5.out B3⟩
  · obtain rfl : e = .returned (.tuple #[.pointer none, .int .i64 (ldM l).1]) := by
      rcases hP2 with ⟨-, h, -⟩ | ⟨h, -⟩
      · exact h
      · exact absurd h h0
    clear hP2
    go_wp2_with fail
    refine (Calls.mono HLd.out) ?_
    intro e w3 hR3
    clear HLd
    have b3 := hR3.bel
    have H3 : Hid _ := And.intro (H1.out.1.later (below_then b2 b3)) (And.intro H1.out.2.1 (And.intro (below_then H1.out.2.2.1 (below_then b2 b3)) (And.intro ((HA.out.row.later H1.out.2.2.1).later (below_then b2 b3)) (And.intro H1.out.2.2.2 (show g0 < w1.heap.size from (World.ownsRow.lt H1.out.1 g0 rfl).2)))))
    obtain rfl : e = .returned (.tuple #[.pointer none, .int .i64 (ldM l).1]) := by
      rcases hR3 with ⟨-, h, -⟩ | ⟨h, -⟩
      · exact h
      · exact absurd h h0
    clear hR3 b2 b3
    have hE3 : (ldM l).1 = 1 ∨ (ldM l).1 = 10 ∨ (ldM l).1 = 11 := by have := ldM_err l; omega
    clear h0
    generalize (ldM l).1 = E at *
    rcases hE3 with rfl | rfl | rfl
    · have HKp : Hid _ := Kept_yes g0 l.length c0 a1 c1 l w3 rfl H3.out.2.1 HB.out (own_row5 H3.out.1) H3.out.2.2.2.1
      go_wp2_with fail
      refine (Calls.mono HKp.out) ?_
      rintro e w4 ⟨rfl, hw4⟩
      subst hw4
      clear HKp
      have HSp : Hid _ := spoil_lent5 H3.out.1 HB.out H3.out.2.1
      go_wp2_with fail
      refine (Calls.mono HSp.out) ?_
      rintro e w5 ⟨rfl, g5⟩
      clear HSp
      have HB5 : Hid _ := H3.out.2.2.1.grown g5 H3.out.2.2.1.size (fun k e => by rw [← Option.some.inj e]; exact H3.out.2.2.2.2.1)
      clear g5 H3
      go_wp2_with (go_at_call 8; refine (known5_any _).mono ?_; rintro e wk ⟨rfl, hbk⟩)
      go_ret
      exact ⟨rfl, below_then HB5.out hbk⟩
    · have HKp : Hid _ := Kept_yes g0 l.length c0 a1 c1 l w3 rfl H3.out.2.1 HB.out (own_row5 H3.out.1) H3.out.2.2.2.1
      go_wp2_with fail
      refine (Calls.mono HKp.out) ?_
      rintro e w4 ⟨rfl, hw4⟩
      subst hw4
      clear HKp
      have HSp : Hid _ := spoil_lent5 H3.out.1 HB.out H3.out.2.1
      go_wp2_with fail
      refine (Calls.mono HSp.out) ?_
      rintro e w5 ⟨rfl, g5⟩
      clear HSp
      have HB5 : Hid _ := H3.out.2.2.1.grown g5 H3.out.2.2.1.size (fun k e => by rw [← Option.some.inj e]; exact H3.out.2.2.2.2.1)
      clear g5 H3
      go_wp2_with (go_at_call 8; refine (known5_any _).mono ?_; rintro e wk ⟨rfl, hbk⟩)
      go_ret
      exact ⟨rfl, below_then HB5.out hbk⟩
    · have HKp : Hid _ := Kept_yes g0 l.length c0 a1 c1 l w3 rfl H3.out.2.1 HB.out (own_row5 H3.out.1) H3.out.2.2.2.1
      go_wp2_with fail
      refine (Calls.mono HKp.out) ?_
      rintro e w4 ⟨rfl, hw4⟩
      subst hw4
      clear HKp
      have HSp : Hid _ := spoil_lent5 H3.out.1 HB.out H3.out.2.1
      go_wp2_with fail
      refine (Calls.mono HSp.out) ?_
      rintro e w5 ⟨rfl, g5⟩
      clear HSp
      have HB5 : Hid _ := H3.out.2.2.1.grown g5 H3.out.2.2.1.size (fun k e => by rw [← Option.some.inj e]; exact H3.out.2.2.2.2.1)
      clear g5 H3
      go_wp2_with (go_at_call 8; refine (known5_any _).mono ?_; rintro e wk ⟨rfl, hbk⟩)
      go_ret
      exact ⟨rfl, below_then HB5.out hbk⟩
end Go.Proofs.Ytmkacgdbmojomaa

