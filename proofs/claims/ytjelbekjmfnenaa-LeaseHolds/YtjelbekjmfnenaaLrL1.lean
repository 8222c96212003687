/- LeaseHolds. -/
import Derived.Test.YtjelbekjmfnenaaLr2
import Derived.Test.YtjelbekjmfnenaaLsL1
namespace Go.Proofs.Ytjelbekjmfnenaa
open Go.RowKit Go.Shelf
set_option linter.unusedVariables false
set_option linter.unusedSimpArgs false
set_option maxRecDepth 4000

theorem rl_reset {g : Nat} {q p : Option Nat} {n r : Int} {l : List (Int × Int)} {w : World} (h : (rlOb g q p n r l).Ok w) :
    (∃ v, w.cell? ⟨g, 2, none⟩ = some v ∧ ∃ a b c, v = .slice a b c) ∧ w.frozen? ⟨g, 2, none⟩ = false ∧ (∃ u, (w.setCell ⟨g, 2, none⟩ (.slice none 0 0)).cell? ⟨g, 3, none⟩ = some u ∧ ∃ a b c, u = .slice a b c) ∧ (w.setCell ⟨g, 2, none⟩ (.slice none 0 0)).frozen? ⟨g, 3, none⟩ = false ∧
    Step w ((w.setCell ⟨g, 2, none⟩ (.slice none 0 0)).setCell ⟨g, 3, none⟩ (.slice none 0 0)) (rlOb g q p n r l) (rlOb g none none n r []) := by
  obtain ⟨-, v, u, hG, hv, hu⟩ := id h.holds
  obtain ⟨⟨d2, f2⟩, B6, hv6, hu6, st6⟩ := rl2_put1 (v' := .slice none 0 0) (q' := none) (L' := []) (h : (rl2 g q p n r (l.map (·.1)) (l.map (·.2))).Ok w) hG hu (turned_refl _ _) (NSl.nil _) (fun b hb => by cases hb)
  obtain ⟨⟨d3, f3⟩, B9, hv9, hu9, st9⟩ := rl2_put2 (u' := .slice none 0 0) (p' := none) (M' := []) st6.ok B6 hv6 (turned_refl _ _) (NSl.nil _) (fun b hb => by cases hb)
  obtain ⟨va, vc, hva, -⟩ := hv.open
  obtain ⟨ua, uc, hua, -⟩ := hu.open
  exact ⟨⟨v, d2, _, _, _, hva⟩, f2, ⟨u, d3, _, _, _, hua⟩, f3, st6.trans st9⟩
/-- both sides, between two rounds -/
structure LhI (w : World) (g h : Nat) (n r : Int) (wr : World) : Prop where
  ex : ∃ q q1 p1 l, Sep w.heap.size [lsOb g q (n - 2 * r) l, rlOb h q1 p1 n r l] wr ∧ LsWf (n - 2 * r) l
  below : Below w.heap.size w wr
set_option maxHeartbeats 16000000 in
theorem leaseHolds_walk (n r : Int) (sa : Option Addr) (sl sc : Nat) (rd now : Int) (w : World) (hn : I64 n) (hr : I64 r) (S : TArg w sa sl sc) (h1 : I64 rd) (h2 : I64 now) :
    Calls Try.prog 3 #[.int .i64 n, .int .i64 r, .slice sa sl sc, .int .i64 rd, .int .i64 now] w fun e w' => e = .returned (.bool true) ∧ Below w.heap.size w w' := by
  by_cases hok : 1 ≤ n ∧ n ≤ 1000 ∧ 1 ≤ r ∧ r ≤ 1000
  · have H1 : Hid _ := lsNew_yes n r w hok
    have H2 : Hid _ := fun W => rlNew_yes n r W hok
    have HK : Hid _ := known11_any
    have HS : Hid _ := S
    have HN : Hid _ := hok
    clear S hok hn hr h1 h2
    go_enter Try.func3, Try.ntmps3
    go_wp2_with fail
    refine (Calls.mono H1.out) ?_
    rintro e w1 ⟨g, rfl, hg, ho1, b1⟩
    have H3 : Hid _ := H2.out w1
    have HO : Hid _ := And.intro hg (And.intro ho1 b1)
    clear H1 H2 hg ho1 b1
    go_wp2_with fail
    refine (Calls.mono H3.out) ?_
    rintro e w2 ⟨h, rfl, hh, ho2, b2⟩
    obtain ⟨hg, ho1, b1⟩ := HO.out
    have S1 : Sep w.heap.size [lsOb g none (n - 2 * r) []] w1 := Sep.nil.fresh b1 ho1 (fun k hk => by
      rcases hk with hk | hk
      · simp only [lsOb, qu, List.mem_cons, Option.mem_toList, reduceCtorEq, or_false] at hk; omega
      · cases hk)
    have S2 := (S1.fresh b2 ho2 (fun k hk => by
      rcases hk with hk | hk
      · simp only [rlOb, List.mem_cons, List.mem_append, Option.mem_toList, reduceCtorEq, or_false] at hk; omega
      · cases hk)).swap
    have I0 : Hid (LhI w g h n r w2) := ⟨⟨none, none, none, [], S2, ⟨by simp, (fun x hx => by cases hx), .nil, by have := HN.out; omega, by have := HN.out; omega⟩⟩, below_then b1 b2⟩
    clear H3 HO hg ho1 b1 hh ho2 b2 S1 S2
    go_wp2_with fail
    go_loopw [15] (fun iv wr => ∃ (k : Nat), iv = .int .i64 k ∧ k ≤ 200 ∧ LhI w g h n r wr) (fun iv _ => 200 - (intOf iv).toNat)
    case atStart => exact ⟨0, rfl, by omega, I0.out⟩
    case round =>
      clear I0
      obtain ⟨k, rfl, hk, hI⟩ := hrel
      have HI : Hid _ := hI
      clear hI
      by_cases hcc : k < sl ∧ k < 200
      · obtain ⟨c1, c2⟩ := hcc
        obtain ⟨sb, so, rfl, hss⟩ := HS.out.each (by omega)
        obtain ⟨kd, a, b, x1, x2, x3, hk6, ha6, hb6⟩ := hss k c1
        have y1 := cell_later HI.out.below x1
        have y2 := cell_later HI.out.below x2
        have y3 := cell_later HI.out.below x3
        have q1 : (k : Int) < sl := by omega
        have q2 : (k : Int) < 200 := by omega
        have bn : Below wr.heap.size wr (wr.alloc (.cells #[.int .i64 kd, .int .i64 a, .int .i64 b] 32)) := (Below.refl _ _).alloc (Nat.le_refl _) _
        have N := Blk.new' wr 32 [.int .i64 kd, .int .i64 a, .int .i64 b]
        have n0 := blk_at N 0
        simp only [List.getElem?_cons_zero] at n0
        obtain ⟨q, qr, pr, l, hs, hwf⟩ := HI.out.ex
        have HG : Hid _ := And.intro (hs.later bn) (And.intro hwf (And.intro (below_then HI.out.below bn) N))
        have hsz : ∀ o ∈ [lsOb g q (n - 2 * r) l, rlOb h qr pr n r l], ∀ k ∈ o.W, k < wr.heap.size := fun o ho k hk => (hs.each o ho).lt k (.inl hk)
        clear hss x1 x2 x3 bn N hs hwf HI
        by_cases hk4 : kd = 4
        · subst hk4
          have HR : Hid _ := lsReset_any g q (n - 2 * r) l _ HG.out.1.head
          have hrn : ∀ o ∈ [lsOb g q (n - 2 * r) l, rlOb h qr pr n r l], wr.heap.size ∉ o.W := fun o ho e => by have := hsz o ho _ e; omega
          go_wp2_with fail
          generalize wr.alloc (.cells #[.int .i64 4, .int .i64 a, .int .i64 b] 32) = w3 at *
          generalize hrc : wr.heap.size = rc at *
          refine (Calls.mono HR.out) ?_
          rintro e x1 ⟨q9, rfl, st1⟩
          have S1 := HG.out.1.step st1
          have bb1 := HG.out.2.2.1.trans (HG.out.1.below st1)
          have N1 := HG.out.2.2.2.turned st1.turned (fun e => hrn _ (by simp) e)
          obtain ⟨⟨v2, d2, z1, z2, z3, rfl⟩, f2, ⟨u2, d3, z4, z5, z6, rfl⟩, f3, st2⟩ := rl_reset S1.swap.head
          have S2 := (S1.swap.step st2).swap
          have bb2 := bb1.trans (S1.swap.below st2)
          have N2 := N1.turned st2.turned (fun e => hrn _ (by simp) e)
          have wf0 : LsWf (n - 2 * r) [] := ⟨by simp, (fun x hx => by cases hx), .nil, HG.out.2.1.lo, HG.out.2.1.hi⟩
          have R8 : Hid _ := And.intro S2 (And.intro wf0 (And.intro bb2 N2))
          clear S1 bb1 N1 st1 st2 S2 bb2 N2 wf0 HR HG hsz hrn
          go_wp2_with fail
          generalize hx9 : (x1.setCell ⟨h, 2, none⟩ (.slice none 0 0)).setCell ⟨h, 3, none⟩ (.slice none 0 0) = x9 at *
          obtain ⟨q8, p8, l9, R9⟩ : ∃ q8 p8 l9, Hid (Sep w.heap.size [lsOb g q9 (n - 2 * r) l9, rlOb h q8 p8 n r l9] x9 ∧ LsWf (n - 2 * r) l9 ∧ Below w.heap.size w x9 ∧ Blk x9 rc 32 [.int .i64 4, .int .i64 a, .int .i64 b]) := ⟨none, none, [], R8.out⟩
          clear R8 d2 d3 f2 f3 hx9
          obtain ⟨-, v9, u9, hG9, hv9, -⟩ := R9.out.1.swap.head.holds
          have c9 := blk_at hG9 2
          simp at c9
          obtain ⟨va9, vc9, hva9, -, -, -⟩ := hv9.open
          rw [List.length_map] at hva9
          subst hva9
          have r1 := blk_at R9.out.2.2.2 1
          have r2 := blk_at R9.out.2.2.2 2
          simp only [List.getElem?_cons_zero, List.getElem?_cons_succ] at r1 r2
          clear hG9 hv9
          go_wp2_with fail
          generalize x9 = w9 at *
          have Sd : Below w9.heap.size w9 w9.drew := (Below.refl _ _).drew
          refine wp_region_held_drew (S := fun W => Below w9.heap.size w9 W) (by as_aux_lemma => kernel_rfl) Sd (fun hS => ?_)
          have B0 : Below w9.heap.size w9 w9.drew := Sd
          have m0 : ∀ W, Below w9.heap.size w9 W → W.cell? ⟨h, 2, none⟩ = some (.slice va9 l9.length vc9) := fun W hW => cell_later hW c9
          refine any_take (i := 0) (v := ?_) rfl (by as_aux_lemma => kernel_rfl) (by as_aux_lemma => kernel_rfl) (by as_aux_lemma => kernel_rfl) (by exact fun _ _ _ h => h) (by rfl) ?_ hS ?_
          rotate_left
          · ((intro w hSw; (try dsimp only at hSw); go_simp) <;> with_reducible rfl)
          (try simp only [Act.put, List.setIfInBounds_toArray, List.set_cons_zero, List.set_cons_succ])
          refine any_take (i := 2) (v := ?_) rfl (by as_aux_lemma => kernel_rfl) (by as_aux_lemma => kernel_rfl) (by as_aux_lemma => kernel_rfl) (by exact fun _ _ _ h => h) (by rfl) ?_ hS ?_
          rotate_left
          · ((intro w hSw; (try dsimp only at hSw); go_simp) <;> with_reducible rfl)
          (try simp only [Act.put, List.setIfInBounds_toArray, List.set_cons_zero, List.set_cons_succ])
          refine any_take (i := 3) (v := ?_) rfl (by as_aux_lemma => kernel_rfl) (by as_aux_lemma => kernel_rfl) (by as_aux_lemma => kernel_rfl) (by exact fun _ _ _ h => h) (by rfl) ?_ hS ?_
          rotate_left
          · ((intro w hSw; (try dsimp only at hSw); go_simp) <;> with_reducible rfl)
          (try simp only [Act.put, List.setIfInBounds_toArray, List.set_cons_zero, List.set_cons_succ])
          refine any_take (i := 4) (v := ?_) rfl (by as_aux_lemma => kernel_rfl) (by as_aux_lemma => kernel_rfl) (by as_aux_lemma => kernel_rfl) (by exact fun _ _ _ h => h) (by rfl) ?_ hS ?_
          rotate_left
          · ((intro w hSw; (try dsimp only at hSw); go_simp) <;> with_reducible rfl)
          (try simp only [Act.put, List.setIfInBounds_toArray, List.set_cons_zero, List.set_cons_succ])
          refine any_take (i := 5) (v := ?_) rfl (by as_aux_lemma => kernel_rfl) (by as_aux_lemma => kernel_rfl) (by as_aux_lemma => kernel_rfl) (by exact fun _ _ _ h => h) (by rfl) ?_ hS ?_
          rotate_left
          · ((intro w hSw; (try dsimp only at hSw); go_simp) <;> with_reducible rfl)
          (try simp only [Act.put, List.setIfInBounds_toArray, List.set_cons_zero, List.set_cons_succ])
          refine any_take (i := 6) (v := ?_) rfl (by as_aux_lemma => kernel_rfl) (by as_aux_lemma => kernel_rfl) (by as_aux_lemma => kernel_rfl) (by exact fun _ _ _ h => h) (by rfl) ?_ hS ?_
          rotate_left
          · ((intro w hSw; (try dsimp only at hSw); go_simp) <;> with_reducible rfl)
          (try simp only [Act.put, List.setIfInBounds_toArray, List.set_cons_zero, List.set_cons_succ])
          have K1 : Hid _ := lsLen_any g q9 (n - 2 * r) l9 _ ((R9.out.1.later B0).each (lsOb g q9 (n - 2 * r) l9) (by simp))
          refine any_one (i := 1) rfl (by as_aux_lemma => kernel_rfl) (fun K hK => ?_)
          go_simp
          refine (Calls.mono (K1.out)) ?_
          rintro e _ ⟨rfl, rfl⟩
          clear K1
          go_wp2_with fail
          refine hK.out _ _ hS ?_
          clear hK K
          refine any_take (i := 7) (v := ?_) rfl (by as_aux_lemma => kernel_rfl) (by as_aux_lemma => kernel_rfl) (by as_aux_lemma => kernel_rfl) (by exact fun _ _ _ h => h) (by rfl) ?_ hS ?_
          rotate_left
          · ((intro w hSw; (try dsimp only at hSw); go_simp) <;> with_reducible rfl)
          (try simp only [Act.put, List.setIfInBounds_toArray, List.set_cons_zero, List.set_cons_succ])
          refine any_take (i := 8) (v := ?_) rfl (by as_aux_lemma => kernel_rfl) (by as_aux_lemma => kernel_rfl) (by as_aux_lemma => kernel_rfl) (by exact fun _ _ _ h => h) (by rfl) ?_ hS ?_
          rotate_left
          · ((intro w hSw; (try dsimp only at hSw); go_simp) <;> with_reducible rfl)
          (try simp only [Act.put, List.setIfInBounds_toArray, List.set_cons_zero, List.set_cons_succ])
          refine any_take (i := 9) (v := ?_) rfl (by as_aux_lemma => kernel_rfl) (by as_aux_lemma => kernel_rfl) (by as_aux_lemma => kernel_rfl) (by exact fun _ _ _ h => h) (by rfl) ?_ hS ?_
          rotate_left
          · ((intro w hSw; (try dsimp only at hSw); go_simp) <;> with_reducible rfl)
          (try simp only [Act.put, List.setIfInBounds_toArray, List.set_cons_zero, List.set_cons_succ])
          refine any_take (i := 10) (v := ?_) rfl (by as_aux_lemma => kernel_rfl) (by as_aux_lemma => kernel_rfl) (by as_aux_lemma => kernel_rfl) (by exact fun _ _ _ h => h) (by rfl) ?_ hS ?_
          rotate_left
          · ((intro w hSw; (try dsimp only at hSw); go_simp) <;> with_reducible rfl)
          (try simp only [Act.put, List.setIfInBounds_toArray, List.set_cons_zero, List.set_cons_succ])
          refine any_take (i := 12) (v := ?_) rfl (by as_aux_lemma => kernel_rfl) (by as_aux_lemma => kernel_rfl) (by as_aux_lemma => kernel_rfl) (by exact fun _ _ _ h => h) (by rfl) ?_ hS ?_
          rotate_left
          · ((intro w hSw; (try dsimp only at hSw); go_simp) <;> with_reducible rfl)
          (try simp only [Act.put, List.setIfInBounds_toArray, List.set_cons_zero, List.set_cons_succ])
          refine any_take (i := 13) (v := ?_) rfl (by as_aux_lemma => kernel_rfl) (by as_aux_lemma => kernel_rfl) (by as_aux_lemma => kernel_rfl) (by exact fun _ _ _ h => h) (by rfl) ?_ hS ?_
          rotate_left
          · ((intro w hSw; (try dsimp only at hSw); go_simp) <;> with_reducible rfl)
          (try simp only [Act.put, List.setIfInBounds_toArray, List.set_cons_zero, List.set_cons_succ])
          clear m0
          have K2 : Hid _ := lsUntil_any g q9 (n - 2 * r) l9 rd _ ((R9.out.1.later B0).each (lsOb g q9 (n - 2 * r) l9) (by simp)) R9.out.2.1
          refine any_one (i := 11) rfl (by as_aux_lemma => kernel_rfl) (fun K hK => ?_)
          go_simp
          refine (Calls.mono (K2.out)) ?_
          rintro e x2 ⟨rfl, hbR⟩
          have B2 : Below w9.heap.size w9 x2 := below_then B0 hbR
          clear K2
          go_wp2_with fail
          refine hK.out _ _ (by first | exact B2 | exact hbR | exact below_then hS hbR) (any_weaken (S' := fun W => Below x2.heap.size x2 W) (fun W hW => by first | exact below_then B2 hW | exact below_then hbR hW | exact below_then (below_then hS hbR) hW) _ _ _ _ ?_)
          clear hK K hS hbR
          have hS : Below x2.heap.size x2 x2 := Below.refl _ _
          have K3 : Hid _ := rlUntil_any h q8 p8 n r l9 rd _ ((R9.out.1.later B2).each (rlOb h q8 p8 n r l9) (by simp)) R9.out.2.1 ⟨HN.out.1, HN.out.2.1⟩ ⟨HN.out.2.2.1, HN.out.2.2.2⟩
          refine any_one (i := 14) rfl (by as_aux_lemma => kernel_rfl) (fun K hK => ?_)
          go_simp
          refine (Calls.mono (K3.out)) ?_
          rintro e x3 ⟨rfl, hbR⟩
          have B3 : Below w9.heap.size w9 x3 := below_then B2 hbR
          clear K3
          go_wp2_with fail
          refine hK.out _ _ (by first | exact B3 | exact hbR | exact below_then hS hbR) (any_weaken (S' := fun W => Below x3.heap.size x3 W) (fun W hW => by first | exact below_then B3 hW | exact below_then hbR hW | exact below_then (below_then hS hbR) hW) _ _ _ _ ?_)
          clear hK K hS hbR
          have hS : Below x3.heap.size x3 x3 := Below.refl _ _
          refine any_take (i := 15) (v := ?_) rfl (by as_aux_lemma => kernel_rfl) (by as_aux_lemma => kernel_rfl) (by as_aux_lemma => kernel_rfl) (by exact fun _ _ _ h => h) (by rfl) ?_ hS ?_
          rotate_left
          · ((intro w hSw; (try dsimp only at hSw); go_simp) <;> with_reducible rfl)
          (try simp only [Act.put, List.setIfInBounds_toArray, List.set_cons_zero, List.set_cons_succ])
          refine any_take (i := 16) (v := ?_) rfl (by as_aux_lemma => kernel_rfl) (by as_aux_lemma => kernel_rfl) (by as_aux_lemma => kernel_rfl) (by exact fun _ _ _ h => h) (by rfl) ?_ hS ?_
          rotate_left
          · ((intro w hSw; (try dsimp only at hSw); go_simp) <;> with_reducible rfl)
          (try simp only [Act.put, List.setIfInBounds_toArray, List.set_cons_zero, List.set_cons_succ])
          refine any_take (i := 17) (v := ?_) rfl (by as_aux_lemma => kernel_rfl) (by as_aux_lemma => kernel_rfl) (by as_aux_lemma => kernel_rfl) (by exact fun _ _ _ h => h) (by rfl) ?_ hS ?_
          rotate_left
          · ((intro w hSw; (try dsimp only at hSw); go_simp) <;> with_reducible rfl)
          (try simp only [Act.put, List.setIfInBounds_toArray, List.set_cons_zero, List.set_cons_succ])
          refine any_take (i := 18) (v := ?_) rfl (by as_aux_lemma => kernel_rfl) (by as_aux_lemma => kernel_rfl) (by as_aux_lemma => kernel_rfl) (by exact fun _ _ _ h => h) (by rfl) ?_ hS ?_
          rotate_left
          · ((intro w hSw; (try dsimp only at hSw); go_simp) <;> with_reducible rfl)
          (try simp only [Act.put, List.setIfInBounds_toArray, List.set_cons_zero, List.set_cons_succ])
          refine any_take (i := 19) (v := ?_) rfl (by as_aux_lemma => kernel_rfl) (by as_aux_lemma => kernel_rfl) (by as_aux_lemma => kernel_rfl) (by exact fun _ _ _ h => h) (by rfl) ?_ hS ?_
          rotate_left
          · ((intro w hSw; (try dsimp only at hSw); go_simp) <;> with_reducible rfl)
          (try simp only [Act.put, List.setIfInBounds_toArray, List.set_cons_zero, List.set_cons_succ])
          refine any_take (i := 20) (v := ?_) rfl (by as_aux_lemma => kernel_rfl) (by as_aux_lemma => kernel_rfl) (by as_aux_lemma => kernel_rfl) (by exact fun _ _ _ h => h) (by rfl) ?_ hS ?_
          rotate_left
          · ((intro w hSw; (try dsimp only at hSw); go_simp) <;> with_reducible rfl)
          (try simp only [Act.put, List.setIfInBounds_toArray, List.set_cons_zero, List.set_cons_succ])
          refine any_take (i := 22) (v := ?_) rfl (by as_aux_lemma => kernel_rfl) (by as_aux_lemma => kernel_rfl) (by as_aux_lemma => kernel_rfl) (by exact fun _ _ _ h => h) (by rfl) ?_ hS ?_
          rotate_left
          · ((intro w hSw; (try dsimp only at hSw); go_simp) <;> with_reducible rfl)
          (try simp only [Act.put, List.setIfInBounds_toArray, List.set_cons_zero, List.set_cons_succ])
          refine any_take (i := 23) (v := ?_) rfl (by as_aux_lemma => kernel_rfl) (by as_aux_lemma => kernel_rfl) (by as_aux_lemma => kernel_rfl) (by exact fun _ _ _ h => h) (by rfl) ?_ hS ?_
          rotate_left
          · ((intro w hSw; (try dsimp only at hSw); go_simp) <;> with_reducible rfl)
          (try simp only [Act.put, List.setIfInBounds_toArray, List.set_cons_zero, List.set_cons_succ])
          refine any_take (i := 24) (v := ?_) rfl (by as_aux_lemma => kernel_rfl) (by as_aux_lemma => kernel_rfl) (by as_aux_lemma => kernel_rfl) (by exact fun _ _ _ h => h) (by rfl) ?_ hS ?_
          rotate_left
          · ((intro w hSw; (try dsimp only at hSw); go_simp) <;> with_reducible rfl)
          (try simp only [Act.put, List.setIfInBounds_toArray, List.set_cons_zero, List.set_cons_succ])
          have K4 : Hid _ := lsHolds_any g q9 (n - 2 * r) l9 rd now _ ((R9.out.1.later B3).each (lsOb g q9 (n - 2 * r) l9) (by simp)) R9.out.2.1
          refine any_one (i := 21) rfl (by as_aux_lemma => kernel_rfl) (fun K hK => ?_)
          go_simp
          refine (Calls.mono (K4.out)) ?_
          rintro e x4 ⟨rfl, hbR⟩
          have B4 : Below w9.heap.size w9 x4 := below_then B3 hbR
          clear K4
          go_wp2_with fail
          refine hK.out _ _ (by first | exact B4 | exact hbR | exact below_then hS hbR) (any_weaken (S' := fun W => Below x4.heap.size x4 W) (fun W hW => by first | exact below_then B4 hW | exact below_then hbR hW | exact below_then (below_then hS hbR) hW) _ _ _ _ ?_)
          clear hK K hS hbR
          have hS : Below x4.heap.size x4 x4 := Below.refl _ _
          have K5 : Hid _ := rlHolds_any h q8 p8 n r l9 rd now _ ((R9.out.1.later B4).each (rlOb h q8 p8 n r l9) (by simp)) R9.out.2.1 ⟨HN.out.1, HN.out.2.1⟩ ⟨HN.out.2.2.1, HN.out.2.2.2⟩
          refine any_one (i := 25) rfl (by as_aux_lemma => kernel_rfl) (fun K hK => ?_)
          go_simp
          refine (Calls.mono (K5.out)) ?_
          rintro e x5 ⟨rfl, hbR⟩
          have B5 : Below w9.heap.size w9 x5 := below_then B4 hbR
          clear K5
          go_wp2_with fail
          refine hK.out _ _ (by first | exact B5 | exact hbR | exact below_then hS hbR) (any_weaken (S' := fun W => Below x5.heap.size x5 W) (fun W hW => by first | exact below_then B5 hW | exact below_then hbR hW | exact below_then (below_then hS hbR) hW) _ _ _ _ ?_)
          clear hK K hS hbR
          have hS : Below x5.heap.size x5 x5 := Below.refl _ _
          have m1 : ∀ W, Below x5.heap.size x5 W → W.cell? ⟨rc, 1, none⟩ = some (.int .i64 a) := fun W hW => cell_later (below_then B5 hW) r1
          have m2 : ∀ W, Below x5.heap.size x5 W → W.cell? ⟨rc, 2, none⟩ = some (.int .i64 b) := fun W hW => cell_later (below_then B5 hW) r2
          refine any_take (i := 26) (v := ?_) rfl (by as_aux_lemma => kernel_rfl) (by as_aux_lemma => kernel_rfl) (by as_aux_lemma => kernel_rfl) (by exact fun _ _ _ h => h) (by rfl) ?_ hS ?_
          rotate_left
          · ((intro w hSw; (try dsimp only at hSw); go_simp) <;> with_reducible rfl)
          (try simp only [Act.put, List.setIfInBounds_toArray, List.set_cons_zero, List.set_cons_succ])
          refine any_take (i := 27) (v := ?_) rfl (by as_aux_lemma => kernel_rfl) (by as_aux_lemma => kernel_rfl) (by as_aux_lemma => kernel_rfl) (by exact fun _ _ _ h => h) (by rfl) ?_ hS ?_
          rotate_left
          · ((intro w hSw; (try dsimp only at hSw); go_simp) <;> with_reducible rfl)
          (try simp only [Act.put, List.setIfInBounds_toArray, List.set_cons_zero, List.set_cons_succ])
          refine any_take (i := 28) (v := ?_) rfl (by as_aux_lemma => kernel_rfl) (by as_aux_lemma => kernel_rfl) (by as_aux_lemma => kernel_rfl) (by exact fun _ _ _ h => h) (by rfl) ?_ hS ?_
          rotate_left
          · ((intro w hSw; (try dsimp only at hSw); go_simp) <;> with_reducible rfl)
          (try simp only [Act.put, List.setIfInBounds_toArray, List.set_cons_zero, List.set_cons_succ])
          refine any_take (i := 29) (v := ?_) rfl (by as_aux_lemma => kernel_rfl) (by as_aux_lemma => kernel_rfl) (by as_aux_lemma => kernel_rfl) (by exact fun _ _ _ h => h) (by rfl) ?_ hS ?_
          rotate_left
          · ((intro w hSw; (try dsimp only at hSw); go_simp) <;> with_reducible rfl)
          (try simp only [Act.put, List.setIfInBounds_toArray, List.set_cons_zero, List.set_cons_succ])
          refine any_take (i := 30) (v := ?_) rfl (by as_aux_lemma => kernel_rfl) (by as_aux_lemma => kernel_rfl) (by as_aux_lemma => kernel_rfl) (by exact fun _ _ _ h => h) (by rfl) ?_ hS ?_
          rotate_left
          · ((intro w hSw; (try dsimp only at hSw); go_simp) <;> with_reducible rfl)
          (try simp only [Act.put, List.setIfInBounds_toArray, List.set_cons_zero, List.set_cons_succ])
          refine any_take (i := 31) (v := ?_) rfl (by as_aux_lemma => kernel_rfl) (by as_aux_lemma => kernel_rfl) (by as_aux_lemma => kernel_rfl) (by exact fun _ _ _ h => h) (by rfl) ?_ hS ?_
          rotate_left
          · ((intro w hSw; (try dsimp only at hSw); go_simp) <;> with_reducible rfl)
          (try simp only [Act.put, List.setIfInBounds_toArray, List.set_cons_zero, List.set_cons_succ])
          refine any_take (i := 33) (v := ?_) rfl (by as_aux_lemma => kernel_rfl) (by as_aux_lemma => kernel_rfl) (by as_aux_lemma => kernel_rfl) (by exact fun _ _ _ h => h) (by rfl) ?_ hS ?_
          rotate_left
          · ((intro w hSw; (try dsimp only at hSw); go_simp) <;> with_reducible rfl)
          (try simp only [Act.put, List.setIfInBounds_toArray, List.set_cons_zero, List.set_cons_succ])
          refine any_take (i := 34) (v := ?_) rfl (by as_aux_lemma => kernel_rfl) (by as_aux_lemma => kernel_rfl) (by as_aux_lemma => kernel_rfl) (by exact fun _ _ _ h => h) (by rfl) ?_ hS ?_
          rotate_left
          · ((intro w hSw; (try dsimp only at hSw); go_simp) <;> with_reducible rfl)
          (try simp only [Act.put, List.setIfInBounds_toArray, List.set_cons_zero, List.set_cons_succ])
          refine any_take (i := 35) (v := ?_) rfl (by as_aux_lemma => kernel_rfl) (by as_aux_lemma => kernel_rfl) (by as_aux_lemma => kernel_rfl) (by exact fun _ _ _ h => h) (by rfl) ?_ hS ?_
          rotate_left
          · ((intro w hSw; (try dsimp only at hSw); go_simp) <;> with_reducible rfl)
          (try simp only [Act.put, List.setIfInBounds_toArray, List.set_cons_zero, List.set_cons_succ])
          clear m1 m2
          have K6 : Hid _ := lsUntil_any g q9 (n - 2 * r) l9 a _ ((R9.out.1.later B5).each (lsOb g q9 (n - 2 * r) l9) (by simp)) R9.out.2.1
          refine any_one (i := 32) rfl (by as_aux_lemma => kernel_rfl) (fun K hK => ?_)
          go_simp
          refine (Calls.mono (K6.out)) ?_
          rintro e x6 ⟨rfl, hbR⟩
          have B6 : Below w9.heap.size w9 x6 := below_then B5 hbR
          clear K6
          go_wp2_with fail
          refine hK.out _ _ (by first | exact B6 | exact hbR | exact below_then hS hbR) (any_weaken (S' := fun W => Below x6.heap.size x6 W) (fun W hW => by first | exact below_then B6 hW | exact below_then hbR hW | exact below_then (below_then hS hbR) hW) _ _ _ _ ?_)
          clear hK K hS hbR
          have hS : Below x6.heap.size x6 x6 := Below.refl _ _
          have K7 : Hid _ := rlUntil_any h q8 p8 n r l9 a _ ((R9.out.1.later B6).each (rlOb h q8 p8 n r l9) (by simp)) R9.out.2.1 ⟨HN.out.1, HN.out.2.1⟩ ⟨HN.out.2.2.1, HN.out.2.2.2⟩
          refine any_one (i := 36) rfl (by as_aux_lemma => kernel_rfl) (fun K hK => ?_)
          go_simp
          refine (Calls.mono (K7.out)) ?_
          rintro e x7 ⟨rfl, hbR⟩
          have B7 : Below w9.heap.size w9 x7 := below_then B6 hbR
          clear K7
          go_wp2_with fail
          refine hK.out _ _ (by first | exact B7 | exact hbR | exact below_then hS hbR) (any_weaken (S' := fun W => Below x7.heap.size x7 W) (fun W hW => by first | exact below_then B7 hW | exact below_then hbR hW | exact below_then (below_then hS hbR) hW) _ _ _ _ ?_)
          clear hK K hS hbR
          have hS : Below x7.heap.size x7 x7 := Below.refl _ _
          have m1 : ∀ W, Below x7.heap.size x7 W → W.cell? ⟨rc, 1, none⟩ = some (.int .i64 a) := fun W hW => cell_later (below_then B7 hW) r1
          have m2 : ∀ W, Below x7.heap.size x7 W → W.cell? ⟨rc, 2, none⟩ = some (.int .i64 b) := fun W hW => cell_later (below_then B7 hW) r2
          refine any_take (i := 37) (v := ?_) rfl (by as_aux_lemma => kernel_rfl) (by as_aux_lemma => kernel_rfl) (by as_aux_lemma => kernel_rfl) (by exact fun _ _ _ h => h) (by rfl) ?_ hS ?_
          rotate_left
          · ((intro w hSw; (try dsimp only at hSw); go_simp) <;> with_reducible rfl)
          (try simp only [Act.put, List.setIfInBounds_toArray, List.set_cons_zero, List.set_cons_succ])
          refine any_take (i := 38) (v := ?_) rfl (by as_aux_lemma => kernel_rfl) (by as_aux_lemma => kernel_rfl) (by as_aux_lemma => kernel_rfl) (by exact fun _ _ _ h => h) (by rfl) ?_ hS ?_
          rotate_left
          · ((intro w hSw; (try dsimp only at hSw); go_simp) <;> with_reducible rfl)
          (try simp only [Act.put, List.setIfInBounds_toArray, List.set_cons_zero, List.set_cons_succ])
          refine any_take (i := 39) (v := ?_) rfl (by as_aux_lemma => kernel_rfl) (by as_aux_lemma => kernel_rfl) (by as_aux_lemma => kernel_rfl) (by exact fun _ _ _ h => h) (by rfl) ?_ hS ?_
          rotate_left
          · ((intro w hSw; (try dsimp only at hSw); go_simp) <;> with_reducible rfl)
          (try simp only [Act.put, List.setIfInBounds_toArray, List.set_cons_zero, List.set_cons_succ])
          refine any_take (i := 40) (v := ?_) rfl (by as_aux_lemma => kernel_rfl) (by as_aux_lemma => kernel_rfl) (by as_aux_lemma => kernel_rfl) (by exact fun _ _ _ h => h) (by rfl) ?_ hS ?_
          rotate_left
          · ((intro w hSw; (try dsimp only at hSw); go_simp) <;> with_reducible rfl)
          (try simp only [Act.put, List.setIfInBounds_toArray, List.set_cons_zero, List.set_cons_succ])
          refine any_take (i := 41) (v := ?_) rfl (by as_aux_lemma => kernel_rfl) (by as_aux_lemma => kernel_rfl) (by as_aux_lemma => kernel_rfl) (by exact fun _ _ _ h => h) (by rfl) ?_ hS ?_
          rotate_left
          · ((intro w hSw; (try dsimp only at hSw); go_simp) <;> with_reducible rfl)
          (try simp only [Act.put, List.setIfInBounds_toArray, List.set_cons_zero, List.set_cons_succ])
          refine any_take (i := 42) (v := ?_) rfl (by as_aux_lemma => kernel_rfl) (by as_aux_lemma => kernel_rfl) (by as_aux_lemma => kernel_rfl) (by exact fun _ _ _ h => h) (by rfl) ?_ hS ?_
          rotate_left
          · ((intro w hSw; (try dsimp only at hSw); go_simp) <;> with_reducible rfl)
          (try simp only [Act.put, List.setIfInBounds_toArray, List.set_cons_zero, List.set_cons_succ])
          refine any_take (i := 43) (v := ?_) rfl (by as_aux_lemma => kernel_rfl) (by as_aux_lemma => kernel_rfl) (by as_aux_lemma => kernel_rfl) (by exact fun _ _ _ h => h) (by rfl) ?_ hS ?_
          rotate_left
          · ((intro w hSw; (try dsimp only at hSw); go_simp) <;> with_reducible rfl)
          (try simp only [Act.put, List.setIfInBounds_toArray, List.set_cons_zero, List.set_cons_succ])
          refine any_take (i := 44) (v := ?_) rfl (by as_aux_lemma => kernel_rfl) (by as_aux_lemma => kernel_rfl) (by as_aux_lemma => kernel_rfl) (by exact fun _ _ _ h => h) (by rfl) ?_ hS ?_
          rotate_left
          · ((intro w hSw; (try dsimp only at hSw); go_simp) <;> with_reducible rfl)
          (try simp only [Act.put, List.setIfInBounds_toArray, List.set_cons_zero, List.set_cons_succ])
          refine any_take (i := 46) (v := ?_) rfl (by as_aux_lemma => kernel_rfl) (by as_aux_lemma => kernel_rfl) (by as_aux_lemma => kernel_rfl) (by exact fun _ _ _ h => h) (by rfl) ?_ hS ?_
          rotate_left
          · ((intro w hSw; (try dsimp only at hSw); go_simp) <;> with_reducible rfl)
          (try simp only [Act.put, List.setIfInBounds_toArray, List.set_cons_zero, List.set_cons_succ])
          refine any_take (i := 47) (v := ?_) rfl (by as_aux_lemma => kernel_rfl) (by as_aux_lemma => kernel_rfl) (by as_aux_lemma => kernel_rfl) (by exact fun _ _ _ h => h) (by rfl) ?_ hS ?_
          rotate_left
          · ((intro w hSw; (try dsimp only at hSw); go_simp) <;> with_reducible rfl)
          (try simp only [Act.put, List.setIfInBounds_toArray, List.set_cons_zero, List.set_cons_succ])
          refine any_take (i := 48) (v := ?_) rfl (by as_aux_lemma => kernel_rfl) (by as_aux_lemma => kernel_rfl) (by as_aux_lemma => kernel_rfl) (by exact fun _ _ _ h => h) (by rfl) ?_ hS ?_
          rotate_left
          · ((intro w hSw; (try dsimp only at hSw); go_simp) <;> with_reducible rfl)
          (try simp only [Act.put, List.setIfInBounds_toArray, List.set_cons_zero, List.set_cons_succ])
          refine any_take (i := 49) (v := ?_) rfl (by as_aux_lemma => kernel_rfl) (by as_aux_lemma => kernel_rfl) (by as_aux_lemma => kernel_rfl) (by exact fun _ _ _ h => h) (by rfl) ?_ hS ?_
          rotate_left
          · ((intro w hSw; (try dsimp only at hSw); go_simp) <;> with_reducible rfl)
          (try simp only [Act.put, List.setIfInBounds_toArray, List.set_cons_zero, List.set_cons_succ])
          refine any_take (i := 50) (v := ?_) rfl (by as_aux_lemma => kernel_rfl) (by as_aux_lemma => kernel_rfl) (by as_aux_lemma => kernel_rfl) (by exact fun _ _ _ h => h) (by rfl) ?_ hS ?_
          rotate_left
          · ((intro w hSw; (try dsimp only at hSw); go_simp) <;> with_reducible rfl)
          (try simp only [Act.put, List.setIfInBounds_toArray, List.set_cons_zero, List.set_cons_succ])
          clear m1 m2
          have K8 : Hid _ := lsHolds_any g q9 (n - 2 * r) l9 a b _ ((R9.out.1.later B7).each (lsOb g q9 (n - 2 * r) l9) (by simp)) R9.out.2.1
          refine any_one (i := 45) rfl (by as_aux_lemma => kernel_rfl) (fun K hK => ?_)
          go_simp
          refine (Calls.mono (K8.out)) ?_
          rintro e x8 ⟨rfl, hbR⟩
          have B8 : Below w9.heap.size w9 x8 := below_then B7 hbR
          clear K8
          go_wp2_with fail
          refine hK.out _ _ (by first | exact B8 | exact hbR | exact below_then hS hbR) (any_weaken (S' := fun W => Below x8.heap.size x8 W) (fun W hW => by first | exact below_then B8 hW | exact below_then hbR hW | exact below_then (below_then hS hbR) hW) _ _ _ _ ?_)
          clear hK K hS hbR
          have hS : Below x8.heap.size x8 x8 := Below.refl _ _
          have K9 : Hid _ := rlHolds_any h q8 p8 n r l9 a b _ ((R9.out.1.later B8).each (rlOb h q8 p8 n r l9) (by simp)) R9.out.2.1 ⟨HN.out.1, HN.out.2.1⟩ ⟨HN.out.2.2.1, HN.out.2.2.2⟩
          refine any_one (i := 51) rfl (by as_aux_lemma => kernel_rfl) (fun K hK => ?_)
          go_simp
          refine (Calls.mono (K9.out)) ?_
          rintro e x9 ⟨rfl, hbR⟩
          have B9 : Below w9.heap.size w9 x9 := below_then B8 hbR
          clear K9
          go_wp2_with fail
          refine hK.out _ _ (by first | exact B9 | exact hbR | exact below_then hS hbR) (any_weaken (S' := fun W => Below x9.heap.size x9 W) (fun W hW => by first | exact below_then B9 hW | exact below_then hbR hW | exact below_then (below_then hS hbR) hW) _ _ _ _ ?_)
          clear hK K hS hbR
          have hS : Below x9.heap.size x9 x9 := Below.refl _ _
          refine any_take (i := 52) (v := ?_) rfl (by as_aux_lemma => kernel_rfl) (by as_aux_lemma => kernel_rfl) (by as_aux_lemma => kernel_rfl) (by exact fun _ _ _ h => h) (by rfl) ?_ hS ?_
          rotate_left
          · ((intro w hSw; (try dsimp only at hSw); go_simp) <;> with_reducible rfl)
          (try simp only [Act.put, List.setIfInBounds_toArray, List.set_cons_zero, List.set_cons_succ])
          refine any_take (i := 53) (v := ?_) rfl (by as_aux_lemma => kernel_rfl) (by as_aux_lemma => kernel_rfl) (by as_aux_lemma => kernel_rfl) (by exact fun _ _ _ h => h) (by rfl) ?_ hS ?_
          rotate_left
          · ((intro w hSw; (try dsimp only at hSw); go_simp) <;> with_reducible rfl)
          (try simp only [Act.put, List.setIfInBounds_toArray, List.set_cons_zero, List.set_cons_succ])
          refine wpAnyH_done (by as_aux_lemma => kernel_rfl) ?_ _
          have R7 : Hid (LhI w g h n r x9) := ⟨⟨q9, q8, p8, l9, R9.out.1.later B9, R9.out.2.1⟩, below_then R9.out.2.2.1 B9⟩
          clear R9 hS B0 B2 B3 B4 B5 B6 B7 B8 B9
          go_wp2
          go_roundw
          case rel => exact ⟨k + 1, by go_num, by omega, R7.out⟩
          case measure => simp [intOf]; omega
        · have hrn : ∀ o ∈ [lsOb g q (n - 2 * r) l, rlOb h qr pr n r l], wr.heap.size ∉ o.W := fun o ho e => by have := hsz o ho _ e; omega
          go_wp2_with fail
          generalize wr.alloc (.cells #[.int .i64 kd, .int .i64 a, .int .i64 b] 32) = w3 at *
          generalize hrc : wr.heap.size = rc at *
          have m1 : ∀ W, Blk W rc 32 [.int .i64 kd, .int .i64 a, .int .i64 b] → W.cell? ⟨rc, 1, none⟩ = some (.int .i64 a) := fun W h => by have := blk_at h 1; simpa using this
          have m2 : ∀ W, Blk W rc 32 [.int .i64 kd, .int .i64 a, .int .i64 b] → W.cell? ⟨rc, 2, none⟩ = some (.int .i64 b) := fun W h => by have := blk_at h 2; simpa using this
          generalize hse : sentE l a b = se at *
          refine wp_region_held_drew (S := fun W => Blk W rc 32 [.int .i64 kd, .int .i64 a, .int .i64 b]) (by as_aux_lemma => kernel_rfl) (HG.out.2.2.2) (fun hS => ?_)
          refine any_take (i := 0) (v := ?_) rfl (by as_aux_lemma => kernel_rfl) (by as_aux_lemma => kernel_rfl) (by as_aux_lemma => kernel_rfl) (by exact fun _ _ _ h => h) (by rfl) ?_ hS ?_
          rotate_left
          · ((intro w hSw; (try dsimp only at hSw); go_simp) <;> with_reducible rfl)
          (try simp only [Act.put, List.setIfInBounds_toArray, List.set_cons_zero, List.set_cons_succ])
          refine any_take (i := 1) (v := ?_) rfl (by as_aux_lemma => kernel_rfl) (by as_aux_lemma => kernel_rfl) (by as_aux_lemma => kernel_rfl) (by exact fun _ _ _ h => h) (by rfl) ?_ hS ?_
          rotate_left
          · ((intro w hSw; (try dsimp only at hSw); go_simp) <;> with_reducible rfl)
          (try simp only [Act.put, List.setIfInBounds_toArray, List.set_cons_zero, List.set_cons_succ])
          refine any_take (i := 2) (v := ?_) rfl (by as_aux_lemma => kernel_rfl) (by as_aux_lemma => kernel_rfl) (by as_aux_lemma => kernel_rfl) (by exact fun _ _ _ h => h) (by rfl) ?_ hS ?_
          rotate_left
          · ((intro w hSw; (try dsimp only at hSw); go_simp) <;> with_reducible rfl)
          (try simp only [Act.put, List.setIfInBounds_toArray, List.set_cons_zero, List.set_cons_succ])
          refine any_take (i := 3) (v := ?_) rfl (by as_aux_lemma => kernel_rfl) (by as_aux_lemma => kernel_rfl) (by as_aux_lemma => kernel_rfl) (by exact fun _ _ _ h => h) (by rfl) ?_ hS ?_
          rotate_left
          · ((intro w hSw; (try dsimp only at hSw); go_simp) <;> with_reducible rfl)
          (try simp only [Act.put, List.setIfInBounds_toArray, List.set_cons_zero, List.set_cons_succ])
          refine any_take (i := 4) (v := ?_) rfl (by as_aux_lemma => kernel_rfl) (by as_aux_lemma => kernel_rfl) (by as_aux_lemma => kernel_rfl) (by exact fun _ _ _ h => h) (by rfl) ?_ hS ?_
          rotate_left
          · ((intro w hSw; (try dsimp only at hSw); go_simp) <;> with_reducible rfl)
          (try simp only [Act.put, List.setIfInBounds_toArray, List.set_cons_zero, List.set_cons_succ])
          refine any_take (i := 6) (v := ?_) rfl (by as_aux_lemma => kernel_rfl) (by as_aux_lemma => kernel_rfl) (by as_aux_lemma => kernel_rfl) (by exact fun _ _ _ h => h) (by rfl) ?_ hS ?_
          rotate_left
          · ((intro w hSw; (try dsimp only at hSw); go_simp) <;> with_reducible rfl)
          (try simp only [Act.put, List.setIfInBounds_toArray, List.set_cons_zero, List.set_cons_succ])
          refine any_take (i := 7) (v := ?_) rfl (by as_aux_lemma => kernel_rfl) (by as_aux_lemma => kernel_rfl) (by as_aux_lemma => kernel_rfl) (by exact fun _ _ _ h => h) (by rfl) ?_ hS ?_
          rotate_left
          · ((intro w hSw; (try dsimp only at hSw); go_simp) <;> with_reducible rfl)
          (try simp only [Act.put, List.setIfInBounds_toArray, List.set_cons_zero, List.set_cons_succ])
          refine any_take (i := 8) (v := ?_) rfl (by as_aux_lemma => kernel_rfl) (by as_aux_lemma => kernel_rfl) (by as_aux_lemma => kernel_rfl) (by exact fun _ _ _ h => h) (by rfl) ?_ hS ?_
          rotate_left
          · ((intro w hSw; (try dsimp only at hSw); go_simp) <;> with_reducible rfl)
          (try simp only [Act.put, List.setIfInBounds_toArray, List.set_cons_zero, List.set_cons_succ])
          refine any_take (i := 9) (v := ?_) rfl (by as_aux_lemma => kernel_rfl) (by as_aux_lemma => kernel_rfl) (by as_aux_lemma => kernel_rfl) (by exact fun _ _ _ h => h) (by rfl) ?_ hS ?_
          rotate_left
          · ((intro w hSw; (try dsimp only at hSw); go_simp) <;> with_reducible rfl)
          (try simp only [Act.put, List.setIfInBounds_toArray, List.set_cons_zero, List.set_cons_succ])
          refine any_take (i := 10) (v := ?_) rfl (by as_aux_lemma => kernel_rfl) (by as_aux_lemma => kernel_rfl) (by as_aux_lemma => kernel_rfl) (by exact fun _ _ _ h => h) (by rfl) ?_ hS ?_
          rotate_left
          · ((intro w hSw; (try dsimp only at hSw); go_simp) <;> with_reducible rfl)
          (try simp only [Act.put, List.setIfInBounds_toArray, List.set_cons_zero, List.set_cons_succ])
          have K1 : Hid _ := lsSent_any g q (n - 2 * r) l a b _ HG.out.1.drew.head HG.out.2.1
          refine any_one (i := 5) rfl (by as_aux_lemma => kernel_rfl) (fun K hK => ?_)
          go_simp
          refine (Calls.mono (K1.out)) ?_
          rintro e x1 ⟨q1, rfl, st1⟩
          have S1 := HG.out.1.drew.step st1
          have bb1 := HG.out.2.2.1.trans (((Below.refl _ _).drew).trans (HG.out.1.drew.below st1))
          have N1 := Blk.turned (xs := [.int .i64 kd, .int .i64 a, .int .i64 b]) hS st1.turned (fun e => hrn _ (by simp) e)
          clear K1
          go_wp2_with fail
          refine hK.out _ _ (N1) ?_
          clear hK K hS
          have hS := N1
          have K2 : Hid _ := rlSent_any h qr pr n r l a b _ S1.swap.head HG.out.2.1
          refine any_one (i := 11) rfl (by as_aux_lemma => kernel_rfl) (fun K hK => ?_)
          go_simp
          refine (Calls.mono (K2.out)) ?_
          rintro e x2 ⟨q2, p2, rfl, st2⟩
          have S2 := (S1.swap.step st2).swap
          have bb2 := bb1.trans (S1.swap.below st2)
          have N2 := Blk.turned (xs := [.int .i64 kd, .int .i64 a, .int .i64 b]) N1 st2.turned (fun e => hrn _ (by simp) e)
          clear K2
          go_wp2_with fail
          refine hK.out _ _ (N2) ?_
          clear hK K hS
          have hS := N2
          refine any_take (i := 12) (v := ?_) rfl (by as_aux_lemma => kernel_rfl) (by as_aux_lemma => kernel_rfl) (by as_aux_lemma => kernel_rfl) (by exact fun _ _ _ h => h) (by rfl) ?_ hS ?_
          rotate_left
          · ((intro w hSw; (try dsimp only at hSw); go_simp) <;> with_reducible rfl)
          (try simp only [Act.put, List.setIfInBounds_toArray, List.set_cons_zero, List.set_cons_succ])
          refine wpAnyH_done (by as_aux_lemma => kernel_rfl) ?_ _
          obtain ⟨q9, q8, p8, l9, x9, hx9, R9⟩ : ∃ q9 q8 p8 l9 x9, x2 = x9 ∧ Hid (Sep w.heap.size [lsOb g q9 (n - 2 * r) l9, rlOb h q8 p8 n r l9] x9 ∧ LsWf (n - 2 * r) l9 ∧ Below w.heap.size w x9 ∧ Blk x9 rc 32 [.int .i64 kd, .int .i64 a, .int .i64 b]) := ⟨q1, q2, p2, sentTo l a b, x2, rfl, S2, sentTo_wf HG.out.2.1 a b, bb2, N2⟩
          clear S1 S2 st1 st2 bb1 bb2 N1 N2 hS HG m1 m2 hsz hrn hse
          subst hx9
          obtain ⟨-, v9, u9, hG9, hv9, -⟩ := R9.out.1.swap.head.holds
          have c9 := blk_at hG9 2
          simp at c9
          obtain ⟨va9, vc9, hva9, -, -, -⟩ := hv9.open
          rw [List.length_map] at hva9
          subst hva9
          have r1 := blk_at R9.out.2.2.2 1
          have r2 := blk_at R9.out.2.2.2 2
          simp only [List.getElem?_cons_zero, List.getElem?_cons_succ] at r1 r2
          clear hG9 hv9
          go_wp2_with fail
          generalize x2 = w9 at *
          have Sd : Below w9.heap.size w9 w9.drew := (Below.refl _ _).drew
          refine wp_region_held_drew (S := fun W => Below w9.heap.size w9 W) (by as_aux_lemma => kernel_rfl) Sd (fun hS => ?_)
          have B0 : Below w9.heap.size w9 w9.drew := Sd
          have m0 : ∀ W, Below w9.heap.size w9 W → W.cell? ⟨h, 2, none⟩ = some (.slice va9 l9.length vc9) := fun W hW => cell_later hW c9
          refine any_take (i := 0) (v := ?_) rfl (by as_aux_lemma => kernel_rfl) (by as_aux_lemma => kernel_rfl) (by as_aux_lemma => kernel_rfl) (by exact fun _ _ _ h => h) (by rfl) ?_ hS ?_
          rotate_left
          · ((intro w hSw; (try dsimp only at hSw); go_simp) <;> with_reducible rfl)
          (try simp only [Act.put, List.setIfInBounds_toArray, List.set_cons_zero, List.set_cons_succ])
          refine any_take (i := 2) (v := ?_) rfl (by as_aux_lemma => kernel_rfl) (by as_aux_lemma => kernel_rfl) (by as_aux_lemma => kernel_rfl) (by exact fun _ _ _ h => h) (by rfl) ?_ hS ?_
          rotate_left
          · ((intro w hSw; (try dsimp only at hSw); go_simp) <;> with_reducible rfl)
          (try simp only [Act.put, List.setIfInBounds_toArray, List.set_cons_zero, List.set_cons_succ])
          refine any_take (i := 3) (v := ?_) rfl (by as_aux_lemma => kernel_rfl) (by as_aux_lemma => kernel_rfl) (by as_aux_lemma => kernel_rfl) (by exact fun _ _ _ h => h) (by rfl) ?_ hS ?_
          rotate_left
          · ((intro w hSw; (try dsimp only at hSw); go_simp) <;> with_reducible rfl)
          (try simp only [Act.put, List.setIfInBounds_toArray, List.set_cons_zero, List.set_cons_succ])
          refine any_take (i := 4) (v := ?_) rfl (by as_aux_lemma => kernel_rfl) (by as_aux_lemma => kernel_rfl) (by as_aux_lemma => kernel_rfl) (by exact fun _ _ _ h => h) (by rfl) ?_ hS ?_
          rotate_left
          · ((intro w hSw; (try dsimp only at hSw); go_simp) <;> with_reducible rfl)
          (try simp only [Act.put, List.setIfInBounds_toArray, List.set_cons_zero, List.set_cons_succ])
          refine any_take (i := 5) (v := ?_) rfl (by as_aux_lemma => kernel_rfl) (by as_aux_lemma => kernel_rfl) (by as_aux_lemma => kernel_rfl) (by exact fun _ _ _ h => h) (by rfl) ?_ hS ?_
          rotate_left
          · ((intro w hSw; (try dsimp only at hSw); go_simp) <;> with_reducible rfl)
          (try simp only [Act.put, List.setIfInBounds_toArray, List.set_cons_zero, List.set_cons_succ])
          refine any_take (i := 6) (v := ?_) rfl (by as_aux_lemma => kernel_rfl) (by as_aux_lemma => kernel_rfl) (by as_aux_lemma => kernel_rfl) (by exact fun _ _ _ h => h) (by rfl) ?_ hS ?_
          rotate_left
          · ((intro w hSw; (try dsimp only at hSw); go_simp) <;> with_reducible rfl)
          (try simp only [Act.put, List.setIfInBounds_toArray, List.set_cons_zero, List.set_cons_succ])
          have K1 : Hid _ := lsLen_any g q9 (n - 2 * r) l9 _ ((R9.out.1.later B0).each (lsOb g q9 (n - 2 * r) l9) (by simp))
          refine any_one (i := 1) rfl (by as_aux_lemma => kernel_rfl) (fun K hK => ?_)
          go_simp
          refine (Calls.mono (K1.out)) ?_
          rintro e _ ⟨rfl, rfl⟩
          clear K1
          go_wp2_with fail
          refine hK.out _ _ hS ?_
          clear hK K
          refine any_take (i := 7) (v := ?_) rfl (by as_aux_lemma => kernel_rfl) (by as_aux_lemma => kernel_rfl) (by as_aux_lemma => kernel_rfl) (by exact fun _ _ _ h => h) (by rfl) ?_ hS ?_
          rotate_left
          · ((intro w hSw; (try dsimp only at hSw); go_simp) <;> with_reducible rfl)
          (try simp only [Act.put, List.setIfInBounds_toArray, List.set_cons_zero, List.set_cons_succ])
          refine any_take (i := 8) (v := ?_) rfl (by as_aux_lemma => kernel_rfl) (by as_aux_lemma => kernel_rfl) (by as_aux_lemma => kernel_rfl) (by exact fun _ _ _ h => h) (by rfl) ?_ hS ?_
          rotate_left
          · ((intro w hSw; (try dsimp only at hSw); go_simp) <;> with_reducible rfl)
          (try simp only [Act.put, List.setIfInBounds_toArray, List.set_cons_zero, List.set_cons_succ])
          refine any_take (i := 9) (v := ?_) rfl (by as_aux_lemma => kernel_rfl) (by as_aux_lemma => kernel_rfl) (by as_aux_lemma => kernel_rfl) (by exact fun _ _ _ h => h) (by rfl) ?_ hS ?_
          rotate_left
          · ((intro w hSw; (try dsimp only at hSw); go_simp) <;> with_reducible rfl)
          (try simp only [Act.put, List.setIfInBounds_toArray, List.set_cons_zero, List.set_cons_succ])
          refine any_take (i := 10) (v := ?_) rfl (by as_aux_lemma => kernel_rfl) (by as_aux_lemma => kernel_rfl) (by as_aux_lemma => kernel_rfl) (by exact fun _ _ _ h => h) (by rfl) ?_ hS ?_
          rotate_left
          · ((intro w hSw; (try dsimp only at hSw); go_simp) <;> with_reducible rfl)
          (try simp only [Act.put, List.setIfInBounds_toArray, List.set_cons_zero, List.set_cons_succ])
          refine any_take (i := 12) (v := ?_) rfl (by as_aux_lemma => kernel_rfl) (by as_aux_lemma => kernel_rfl) (by as_aux_lemma => kernel_rfl) (by exact fun _ _ _ h => h) (by rfl) ?_ hS ?_
          rotate_left
          · ((intro w hSw; (try dsimp only at hSw); go_simp) <;> with_reducible rfl)
          (try simp only [Act.put, List.setIfInBounds_toArray, List.set_cons_zero, List.set_cons_succ])
          refine any_take (i := 13) (v := ?_) rfl (by as_aux_lemma => kernel_rfl) (by as_aux_lemma => kernel_rfl) (by as_aux_lemma => kernel_rfl) (by exact fun _ _ _ h => h) (by rfl) ?_ hS ?_
          rotate_left
          · ((intro w hSw; (try dsimp only at hSw); go_simp) <;> with_reducible rfl)
          (try simp only [Act.put, List.setIfInBounds_toArray, List.set_cons_zero, List.set_cons_succ])
          clear m0
          have K2 : Hid _ := lsUntil_any g q9 (n - 2 * r) l9 rd _ ((R9.out.1.later B0).each (lsOb g q9 (n - 2 * r) l9) (by simp)) R9.out.2.1
          refine any_one (i := 11) rfl (by as_aux_lemma => kernel_rfl) (fun K hK => ?_)
          go_simp
          refine (Calls.mono (K2.out)) ?_
          rintro e x2 ⟨rfl, hbR⟩
          have B2 : Below w9.heap.size w9 x2 := below_then B0 hbR
          clear K2
          go_wp2_with fail
          refine hK.out _ _ (by first | exact B2 | exact hbR | exact below_then hS hbR) (any_weaken (S' := fun W => Below x2.heap.size x2 W) (fun W hW => by first | exact below_then B2 hW | exact below_then hbR hW | exact below_then (below_then hS hbR) hW) _ _ _ _ ?_)
          clear hK K hS hbR
          have hS : Below x2.heap.size x2 x2 := Below.refl _ _
          have K3 : Hid _ := rlUntil_any h q8 p8 n r l9 rd _ ((R9.out.1.later B2).each (rlOb h q8 p8 n r l9) (by simp)) R9.out.2.1 ⟨HN.out.1, HN.out.2.1⟩ ⟨HN.out.2.2.1, HN.out.2.2.2⟩
          refine any_one (i := 14) rfl (by as_aux_lemma => kernel_rfl) (fun K hK => ?_)
          go_simp
          refine (Calls.mono (K3.out)) ?_
          rintro e x3 ⟨rfl, hbR⟩
          have B3 : Below w9.heap.size w9 x3 := below_then B2 hbR
          clear K3
          go_wp2_with fail
          refine hK.out _ _ (by first | exact B3 | exact hbR | exact below_then hS hbR) (any_weaken (S' := fun W => Below x3.heap.size x3 W) (fun W hW => by first | exact below_then B3 hW | exact below_then hbR hW | exact below_then (below_then hS hbR) hW) _ _ _ _ ?_)
          clear hK K hS hbR
          have hS : Below x3.heap.size x3 x3 := Below.refl _ _
          refine any_take (i := 15) (v := ?_) rfl (by as_aux_lemma => kernel_rfl) (by as_aux_lemma => kernel_rfl) (by as_aux_lemma => kernel_rfl) (by exact fun _ _ _ h => h) (by rfl) ?_ hS ?_
          rotate_left
          · ((intro w hSw; (try dsimp only at hSw); go_simp) <;> with_reducible rfl)
          (try simp only [Act.put, List.setIfInBounds_toArray, List.set_cons_zero, List.set_cons_succ])
          refine any_take (i := 16) (v := ?_) rfl (by as_aux_lemma => kernel_rfl) (by as_aux_lemma => kernel_rfl) (by as_aux_lemma => kernel_rfl) (by exact fun _ _ _ h => h) (by rfl) ?_ hS ?_
          rotate_left
          · ((intro w hSw; (try dsimp only at hSw); go_simp) <;> with_reducible rfl)
          (try simp only [Act.put, List.setIfInBounds_toArray, List.set_cons_zero, List.set_cons_succ])
          refine any_take (i := 17) (v := ?_) rfl (by as_aux_lemma => kernel_rfl) (by as_aux_lemma => kernel_rfl) (by as_aux_lemma => kernel_rfl) (by exact fun _ _ _ h => h) (by rfl) ?_ hS ?_
          rotate_left
          · ((intro w hSw; (try dsimp only at hSw); go_simp) <;> with_reducible rfl)
          (try simp only [Act.put, List.setIfInBounds_toArray, List.set_cons_zero, List.set_cons_succ])
          refine any_take (i := 18) (v := ?_) rfl (by as_aux_lemma => kernel_rfl) (by as_aux_lemma => kernel_rfl) (by as_aux_lemma => kernel_rfl) (by exact fun _ _ _ h => h) (by rfl) ?_ hS ?_
          rotate_left
          · ((intro w hSw; (try dsimp only at hSw); go_simp) <;> with_reducible rfl)
          (try simp only [Act.put, List.setIfInBounds_toArray, List.set_cons_zero, List.set_cons_succ])
          refine any_take (i := 19) (v := ?_) rfl (by as_aux_lemma => kernel_rfl) (by as_aux_lemma => kernel_rfl) (by as_aux_lemma => kernel_rfl) (by exact fun _ _ _ h => h) (by rfl) ?_ hS ?_
          rotate_left
          · ((intro w hSw; (try dsimp only at hSw); go_simp) <;> with_reducible rfl)
          (try simp only [Act.put, List.setIfInBounds_toArray, List.set_cons_zero, List.set_cons_succ])
          refine any_take (i := 20) (v := ?_) rfl (by as_aux_lemma => kernel_rfl) (by as_aux_lemma => kernel_rfl) (by as_aux_lemma => kernel_rfl) (by exact fun _ _ _ h => h) (by rfl) ?_ hS ?_
          rotate_left
          · ((intro w hSw; (try dsimp only at hSw); go_simp) <;> with_reducible rfl)
          (try simp only [Act.put, List.setIfInBounds_toArray, List.set_cons_zero, List.set_cons_succ])
          refine any_take (i := 22) (v := ?_) rfl (by as_aux_lemma => kernel_rfl) (by as_aux_lemma => kernel_rfl) (by as_aux_lemma => kernel_rfl) (by exact fun _ _ _ h => h) (by rfl) ?_ hS ?_
          rotate_left
          · ((intro w hSw; (try dsimp only at hSw); go_simp) <;> with_reducible rfl)
          (try simp only [Act.put, List.setIfInBounds_toArray, List.set_cons_zero, List.set_cons_succ])
          refine any_take (i := 23) (v := ?_) rfl (by as_aux_lemma => kernel_rfl) (by as_aux_lemma => kernel_rfl) (by as_aux_lemma => kernel_rfl) (by exact fun _ _ _ h => h) (by rfl) ?_ hS ?_
          rotate_left
          · ((intro w hSw; (try dsimp only at hSw); go_simp) <;> with_reducible rfl)
          (try simp only [Act.put, List.setIfInBounds_toArray, List.set_cons_zero, List.set_cons_succ])
          refine any_take (i := 24) (v := ?_) rfl (by as_aux_lemma => kernel_rfl) (by as_aux_lemma => kernel_rfl) (by as_aux_lemma => kernel_rfl) (by exact fun _ _ _ h => h) (by rfl) ?_ hS ?_
          rotate_left
          · ((intro w hSw; (try dsimp only at hSw); go_simp) <;> with_reducible rfl)
          (try simp only [Act.put, List.setIfInBounds_toArray, List.set_cons_zero, List.set_cons_succ])
          have K4 : Hid _ := lsHolds_any g q9 (n - 2 * r) l9 rd now _ ((R9.out.1.later B3).each (lsOb g q9 (n - 2 * r) l9) (by simp)) R9.out.2.1
          refine any_one (i := 21) rfl (by as_aux_lemma => kernel_rfl) (fun K hK => ?_)
          go_simp
          refine (Calls.mono (K4.out)) ?_
          rintro e x4 ⟨rfl, hbR⟩
          have B4 : Below w9.heap.size w9 x4 := below_then B3 hbR
          clear K4
          go_wp2_with fail
          refine hK.out _ _ (by first | exact B4 | exact hbR | exact below_then hS hbR) (any_weaken (S' := fun W => Below x4.heap.size x4 W) (fun W hW => by first | exact below_then B4 hW | exact below_then hbR hW | exact below_then (below_then hS hbR) hW) _ _ _ _ ?_)
          clear hK K hS hbR
          have hS : Below x4.heap.size x4 x4 := Below.refl _ _
          have K5 : Hid _ := rlHolds_any h q8 p8 n r l9 rd now _ ((R9.out.1.later B4).each (rlOb h q8 p8 n r l9) (by simp)) R9.out.2.1 ⟨HN.out.1, HN.out.2.1⟩ ⟨HN.out.2.2.1, HN.out.2.2.2⟩
          refine any_one (i := 25) rfl (by as_aux_lemma => kernel_rfl) (fun K hK => ?_)
          go_simp
          refine (Calls.mono (K5.out)) ?_
          rintro e x5 ⟨rfl, hbR⟩
          have B5 : Below w9.heap.size w9 x5 := below_then B4 hbR
          clear K5
          go_wp2_with fail
          refine hK.out _ _ (by first | exact B5 | exact hbR | exact below_then hS hbR) (any_weaken (S' := fun W => Below x5.heap.size x5 W) (fun W hW => by first | exact below_then B5 hW | exact below_then hbR hW | exact below_then (below_then hS hbR) hW) _ _ _ _ ?_)
          clear hK K hS hbR
          have hS : Below x5.heap.size x5 x5 := Below.refl _ _
          have m1 : ∀ W, Below x5.heap.size x5 W → W.cell? ⟨rc, 1, none⟩ = some (.int .i64 a) := fun W hW => cell_later (below_then B5 hW) r1
          have m2 : ∀ W, Below x5.heap.size x5 W → W.cell? ⟨rc, 2, none⟩ = some (.int .i64 b) := fun W hW => cell_later (below_then B5 hW) r2
          refine any_take (i := 26) (v := ?_) rfl (by as_aux_lemma => kernel_rfl) (by as_aux_lemma => kernel_rfl) (by as_aux_lemma => kernel_rfl) (by exact fun _ _ _ h => h) (by rfl) ?_ hS ?_
          rotate_left
          · ((intro w hSw; (try dsimp only at hSw); go_simp) <;> with_reducible rfl)
          (try simp only [Act.put, List.setIfInBounds_toArray, List.set_cons_zero, List.set_cons_succ])
          refine any_take (i := 27) (v := ?_) rfl (by as_aux_lemma => kernel_rfl) (by as_aux_lemma => kernel_rfl) (by as_aux_lemma => kernel_rfl) (by exact fun _ _ _ h => h) (by rfl) ?_ hS ?_
          rotate_left
          · ((intro w hSw; (try dsimp only at hSw); go_simp) <;> with_reducible rfl)
          (try simp only [Act.put, List.setIfInBounds_toArray, List.set_cons_zero, List.set_cons_succ])
          refine any_take (i := 28) (v := ?_) rfl (by as_aux_lemma => kernel_rfl) (by as_aux_lemma => kernel_rfl) (by as_aux_lemma => kernel_rfl) (by exact fun _ _ _ h => h) (by rfl) ?_ hS ?_
          rotate_left
          · ((intro w hSw; (try dsimp only at hSw); go_simp) <;> with_reducible rfl)
          (try simp only [Act.put, List.setIfInBounds_toArray, List.set_cons_zero, List.set_cons_succ])
          refine any_take (i := 29) (v := ?_) rfl (by as_aux_lemma => kernel_rfl) (by as_aux_lemma => kernel_rfl) (by as_aux_lemma => kernel_rfl) (by exact fun _ _ _ h => h) (by rfl) ?_ hS ?_
          rotate_left
          · ((intro w hSw; (try dsimp only at hSw); go_simp) <;> with_reducible rfl)
          (try simp only [Act.put, List.setIfInBounds_toArray, List.set_cons_zero, List.set_cons_succ])
          refine any_take (i := 30) (v := ?_) rfl (by as_aux_lemma => kernel_rfl) (by as_aux_lemma => kernel_rfl) (by as_aux_lemma => kernel_rfl) (by exact fun _ _ _ h => h) (by rfl) ?_ hS ?_
          rotate_left
          · ((intro w hSw; (try dsimp only at hSw); go_simp) <;> with_reducible rfl)
          (try simp only [Act.put, List.setIfInBounds_toArray, List.set_cons_zero, List.set_cons_succ])
          refine any_take (i := 31) (v := ?_) rfl (by as_aux_lemma => kernel_rfl) (by as_aux_lemma => kernel_rfl) (by as_aux_lemma => kernel_rfl) (by exact fun _ _ _ h => h) (by rfl) ?_ hS ?_
          rotate_left
          · ((intro w hSw; (try dsimp only at hSw); go_simp) <;> with_reducible rfl)
          (try simp only [Act.put, List.setIfInBounds_toArray, List.set_cons_zero, List.set_cons_succ])
          refine any_take (i := 33) (v := ?_) rfl (by as_aux_lemma => kernel_rfl) (by as_aux_lemma => kernel_rfl) (by as_aux_lemma => kernel_rfl) (by exact fun _ _ _ h => h) (by rfl) ?_ hS ?_
          rotate_left
          · ((intro w hSw; (try dsimp only at hSw); go_simp) <;> with_reducible rfl)
          (try simp only [Act.put, List.setIfInBounds_toArray, List.set_cons_zero, List.set_cons_succ])
          refine any_take (i := 34) (v := ?_) rfl (by as_aux_lemma => kernel_rfl) (by as_aux_lemma => kernel_rfl) (by as_aux_lemma => kernel_rfl) (by exact fun _ _ _ h => h) (by rfl) ?_ hS ?_
          rotate_left
          · ((intro w hSw; (try dsimp only at hSw); go_simp) <;> with_reducible rfl)
          (try simp only [Act.put, List.setIfInBounds_toArray, List.set_cons_zero, List.set_cons_succ])
          refine any_take (i := 35) (v := ?_) rfl (by as_aux_lemma => kernel_rfl) (by as_aux_lemma => kernel_rfl) (by as_aux_lemma => kernel_rfl) (by exact fun _ _ _ h => h) (by rfl) ?_ hS ?_
          rotate_left
          · ((intro w hSw; (try dsimp only at hSw); go_simp) <;> with_reducible rfl)
          (try simp only [Act.put, List.setIfInBounds_toArray, List.set_cons_zero, List.set_cons_succ])
          clear m1 m2
          have K6 : Hid _ := lsUntil_any g q9 (n - 2 * r) l9 a _ ((R9.out.1.later B5).each (lsOb g q9 (n - 2 * r) l9) (by simp)) R9.out.2.1
          refine any_one (i := 32) rfl (by as_aux_lemma => kernel_rfl) (fun K hK => ?_)
          go_simp
          refine (Calls.mono (K6.out)) ?_
          rintro e x6 ⟨rfl, hbR⟩
          have B6 : Below w9.heap.size w9 x6 := below_then B5 hbR
          clear K6
          go_wp2_with fail
          refine hK.out _ _ (by first | exact B6 | exact hbR | exact below_then hS hbR) (any_weaken (S' := fun W => Below x6.heap.size x6 W) (fun W hW => by first | exact below_then B6 hW | exact below_then hbR hW | exact below_then (below_then hS hbR) hW) _ _ _ _ ?_)
          clear hK K hS hbR
          have hS : Below x6.heap.size x6 x6 := Below.refl _ _
          have K7 : Hid _ := rlUntil_any h q8 p8 n r l9 a _ ((R9.out.1.later B6).each (rlOb h q8 p8 n r l9) (by simp)) R9.out.2.1 ⟨HN.out.1, HN.out.2.1⟩ ⟨HN.out.2.2.1, HN.out.2.2.2⟩
          refine any_one (i := 36) rfl (by as_aux_lemma => kernel_rfl) (fun K hK => ?_)
          go_simp
          refine (Calls.mono (K7.out)) ?_
          rintro e x7 ⟨rfl, hbR⟩
          have B7 : Below w9.heap.size w9 x7 := below_then B6 hbR
          clear K7
          go_wp2_with fail
          refine hK.out _ _ (by first | exact B7 | exact hbR | exact below_then hS hbR) (any_weaken (S' := fun W => Below x7.heap.size x7 W) (fun W hW => by first | exact below_then B7 hW | exact below_then hbR hW | exact below_then (below_then hS hbR) hW) _ _ _ _ ?_)
          clear hK K hS hbR
          have hS : Below x7.heap.size x7 x7 := Below.refl _ _
          have m1 : ∀ W, Below x7.heap.size x7 W → W.cell? ⟨rc, 1, none⟩ = some (.int .i64 a) := fun W hW => cell_later (below_then B7 hW) r1
          have m2 : ∀ W, Below x7.heap.size x7 W → W.cell? ⟨rc, 2, none⟩ = some (.int .i64 b) := fun W hW => cell_later (below_then B7 hW) r2
          refine any_take (i := 37) (v := ?_) rfl (by as_aux_lemma => kernel_rfl) (by as_aux_lemma => kernel_rfl) (by as_aux_lemma => kernel_rfl) (by exact fun _ _ _ h => h) (by rfl) ?_ hS ?_
          rotate_left
          · ((intro w hSw; (try dsimp only at hSw); go_simp) <;> with_reducible rfl)
          (try simp only [Act.put, List.setIfInBounds_toArray, List.set_cons_zero, List.set_cons_succ])
          refine any_take (i := 38) (v := ?_) rfl (by as_aux_lemma => kernel_rfl) (by as_aux_lemma => kernel_rfl) (by as_aux_lemma => kernel_rfl) (by exact fun _ _ _ h => h) (by rfl) ?_ hS ?_
          rotate_left
          · ((intro w hSw; (try dsimp only at hSw); go_simp) <;> with_reducible rfl)
          (try simp only [Act.put, List.setIfInBounds_toArray, List.set_cons_zero, List.set_cons_succ])
          refine any_take (i := 39) (v := ?_) rfl (by as_aux_lemma => kernel_rfl) (by as_aux_lemma => kernel_rfl) (by as_aux_lemma => kernel_rfl) (by exact fun _ _ _ h => h) (by rfl) ?_ hS ?_
          rotate_left
          · ((intro w hSw; (try dsimp only at hSw); go_simp) <;> with_reducible rfl)
          (try simp only [Act.put, List.setIfInBounds_toArray, List.set_cons_zero, List.set_cons_succ])
          refine any_take (i := 40) (v := ?_) rfl (by as_aux_lemma => kernel_rfl) (by as_aux_lemma => kernel_rfl) (by as_aux_lemma => kernel_rfl) (by exact fun _ _ _ h => h) (by rfl) ?_ hS ?_
          rotate_left
          · ((intro w hSw; (try dsimp only at hSw); go_simp) <;> with_reducible rfl)
          (try simp only [Act.put, List.setIfInBounds_toArray, List.set_cons_zero, List.set_cons_succ])
          refine any_take (i := 41) (v := ?_) rfl (by as_aux_lemma => kernel_rfl) (by as_aux_lemma => kernel_rfl) (by as_aux_lemma => kernel_rfl) (by exact fun _ _ _ h => h) (by rfl) ?_ hS ?_
          rotate_left
          · ((intro w hSw; (try dsimp only at hSw); go_simp) <;> with_reducible rfl)
          (try simp only [Act.put, List.setIfInBounds_toArray, List.set_cons_zero, List.set_cons_succ])
          refine any_take (i := 42) (v := ?_) rfl (by as_aux_lemma => kernel_rfl) (by as_aux_lemma => kernel_rfl) (by as_aux_lemma => kernel_rfl) (by exact fun _ _ _ h => h) (by rfl) ?_ hS ?_
          rotate_left
          · ((intro w hSw; (try dsimp only at hSw); go_simp) <;> with_reducible rfl)
          (try simp only [Act.put, List.setIfInBounds_toArray, List.set_cons_zero, List.set_cons_succ])
          refine any_take (i := 43) (v := ?_) rfl (by as_aux_lemma => kernel_rfl) (by as_aux_lemma => kernel_rfl) (by as_aux_lemma => kernel_rfl) (by exact fun _ _ _ h => h) (by rfl) ?_ hS ?_
          rotate_left
          · ((intro w hSw; (try dsimp only at hSw); go_simp) <;> with_reducible rfl)
          (try simp only [Act.put, List.setIfInBounds_toArray, List.set_cons_zero, List.set_cons_succ])
          refine any_take (i := 44) (v := ?_) rfl (by as_aux_lemma => kernel_rfl) (by as_aux_lemma => kernel_rfl) (by as_aux_lemma => kernel_rfl) (by exact fun _ _ _ h => h) (by rfl) ?_ hS ?_
          rotate_left
          · ((intro w hSw; (try dsimp only at hSw); go_simp) <;> with_reducible rfl)
          (try simp only [Act.put, List.setIfInBounds_toArray, List.set_cons_zero, List.set_cons_succ])
          refine any_take (i := 46) (v := ?_) rfl (by as_aux_lemma => kernel_rfl) (by as_aux_lemma => kernel_rfl) (by as_aux_lemma => kernel_rfl) (by exact fun _ _ _ h => h) (by rfl) ?_ hS ?_
          rotate_left
          · ((intro w hSw; (try dsimp only at hSw); go_simp) <;> with_reducible rfl)
          (try simp only [Act.put, List.setIfInBounds_toArray, List.set_cons_zero, List.set_cons_succ])
          refine any_take (i := 47) (v := ?_) rfl (by as_aux_lemma => kernel_rfl) (by as_aux_lemma => kernel_rfl) (by as_aux_lemma => kernel_rfl) (by exact fun _ _ _ h => h) (by rfl) ?_ hS ?_
          rotate_left
          · ((intro w hSw; (try dsimp only at hSw); go_simp) <;> with_reducible rfl)
          (try simp only [Act.put, List.setIfInBounds_toArray, List.set_cons_zero, List.set_cons_succ])
          refine any_take (i := 48) (v := ?_) rfl (by as_aux_lemma => kernel_rfl) (by as_aux_lemma => kernel_rfl) (by as_aux_lemma => kernel_rfl) (by exact fun _ _ _ h => h) (by rfl) ?_ hS ?_
          rotate_left
          · ((intro w hSw; (try dsimp only at hSw); go_simp) <;> with_reducible rfl)
          (try simp only [Act.put, List.setIfInBounds_toArray, List.set_cons_zero, List.set_cons_succ])
          refine any_take (i := 49) (v := ?_) rfl (by as_aux_lemma => kernel_rfl) (by as_aux_lemma => kernel_rfl) (by as_aux_lemma => kernel_rfl) (by exact fun _ _ _ h => h) (by rfl) ?_ hS ?_
          rotate_left
          · ((intro w hSw; (try dsimp only at hSw); go_simp) <;> with_reducible rfl)
          (try simp only [Act.put, List.setIfInBounds_toArray, List.set_cons_zero, List.set_cons_succ])
          refine any_take (i := 50) (v := ?_) rfl (by as_aux_lemma => kernel_rfl) (by as_aux_lemma => kernel_rfl) (by as_aux_lemma => kernel_rfl) (by exact fun _ _ _ h => h) (by rfl) ?_ hS ?_
          rotate_left
          · ((intro w hSw; (try dsimp only at hSw); go_simp) <;> with_reducible rfl)
          (try simp only [Act.put, List.setIfInBounds_toArray, List.set_cons_zero, List.set_cons_succ])
          clear m1 m2
          have K8 : Hid _ := lsHolds_any g q9 (n - 2 * r) l9 a b _ ((R9.out.1.later B7).each (lsOb g q9 (n - 2 * r) l9) (by simp)) R9.out.2.1
          refine any_one (i := 45) rfl (by as_aux_lemma => kernel_rfl) (fun K hK => ?_)
          go_simp
          refine (Calls.mono (K8.out)) ?_
          rintro e x8 ⟨rfl, hbR⟩
          have B8 : Below w9.heap.size w9 x8 := below_then B7 hbR
          clear K8
          go_wp2_with fail
          refine hK.out _ _ (by first | exact B8 | exact hbR | exact below_then hS hbR) (any_weaken (S' := fun W => Below x8.heap.size x8 W) (fun W hW => by first | exact below_then B8 hW | exact below_then hbR hW | exact below_then (below_then hS hbR) hW) _ _ _ _ ?_)
          clear hK K hS hbR
          have hS : Below x8.heap.size x8 x8 := Below.refl _ _
          have K9 : Hid _ := rlHolds_any h q8 p8 n r l9 a b _ ((R9.out.1.later B8).each (rlOb h q8 p8 n r l9) (by simp)) R9.out.2.1 ⟨HN.out.1, HN.out.2.1⟩ ⟨HN.out.2.2.1, HN.out.2.2.2⟩
          refine any_one (i := 51) rfl (by as_aux_lemma => kernel_rfl) (fun K hK => ?_)
          go_simp
          refine (Calls.mono (K9.out)) ?_
          rintro e x9 ⟨rfl, hbR⟩
          have B9 : Below w9.heap.size w9 x9 := below_then B8 hbR
          clear K9
          go_wp2_with fail
          refine hK.out _ _ (by first | exact B9 | exact hbR | exact below_then hS hbR) (any_weaken (S' := fun W => Below x9.heap.size x9 W) (fun W hW => by first | exact below_then B9 hW | exact below_then hbR hW | exact below_then (below_then hS hbR) hW) _ _ _ _ ?_)
          clear hK K hS hbR
          have hS : Below x9.heap.size x9 x9 := Below.refl _ _
          refine any_take (i := 52) (v := ?_) rfl (by as_aux_lemma => kernel_rfl) (by as_aux_lemma => kernel_rfl) (by as_aux_lemma => kernel_rfl) (by exact fun _ _ _ h => h) (by rfl) ?_ hS ?_
          rotate_left
          · ((intro w hSw; (try dsimp only at hSw); go_simp) <;> with_reducible rfl)
          (try simp only [Act.put, List.setIfInBounds_toArray, List.set_cons_zero, List.set_cons_succ])
          refine any_take (i := 53) (v := ?_) rfl (by as_aux_lemma => kernel_rfl) (by as_aux_lemma => kernel_rfl) (by as_aux_lemma => kernel_rfl) (by exact fun _ _ _ h => h) (by rfl) ?_ hS ?_
          rotate_left
          · ((intro w hSw; (try dsimp only at hSw); go_simp) <;> with_reducible rfl)
          (try simp only [Act.put, List.setIfInBounds_toArray, List.set_cons_zero, List.set_cons_succ])
          refine wpAnyH_done (by as_aux_lemma => kernel_rfl) ?_ _
          have R7 : Hid (LhI w g h n r x9) := ⟨⟨q9, q8, p8, l9, R9.out.1.later B9, R9.out.2.1⟩, below_then R9.out.2.2.1 B9⟩
          clear R9 hS B0 B2 B3 B4 B5 B6 B7 B8 B9
          go_wp2
          go_roundw
          case rel => exact ⟨k + 1, by go_num, by omega, R7.out⟩
          case measure => simp [intOf]; omega
      · have hcs : ¬ (k : Int) < sl ∨ ((k : Int) < sl ∧ ¬ (k : Int) < 200) := by omega
        clear hcc
        have HR : Hid _ := lsReset_nil wr
        have HT : Hid _ := lsSent_nil 1 1 wr
        have HU : Hid _ := lsUntil_nil 1 wr
        have HH : Hid _ := lsHolds_nil 1 1 wr
        have HL : Hid _ := lsLen_nil wr
        rcases hcs with h1 | ⟨h1, h2⟩
        all_goals
          go_wp2_with fail
          refine (Calls.mono HR.out) ?_
          rintro e x1 ⟨rfl, rfl⟩
          go_wp2_with fail
          refine (Calls.mono HT.out) ?_
          rintro e x1 ⟨rfl, rfl⟩
          go_wp2_with fail
          refine (Calls.mono HU.out) ?_
          rintro e x1 ⟨rfl, rfl⟩
          go_wp2_with fail
          refine (Calls.mono HH.out) ?_
          rintro e x1 ⟨rfl, rfl⟩
          go_wp2_with fail
          refine (Calls.mono HL.out) ?_
          rintro e x1 ⟨rfl, rfl⟩
          go_wp2_with fail
          refine (Calls.mono (HK.out _)) ?_
          rintro e x5 ⟨rfl, b5⟩
          have F : Hid _ := below_then HI.out.below b5
          clear b5
          go_wp2
          go_ret
          exact ⟨rfl, F.out⟩
  · have H1 : Hid _ := lsNew_no n r w hok
    have H2 : Hid _ := rlNew_no n r w hok
    have HK : Hid _ := known11_any w
    clear S hok
    go_enter Try.func3, Try.ntmps3
    go_wp2_with fail
    refine (Calls.mono H1.out) ?_
    rintro e w1 ⟨rfl, rfl⟩
    go_wp2_with fail
    refine (Calls.mono H2.out) ?_
    rintro e w1 ⟨rfl, rfl⟩
    go_wp2_with fail
    refine (Calls.mono HK.out) ?_
    rintro e w2 ⟨rfl, b2⟩
    have F : Hid _ := b2
    clear b2
    go_wp2
    go_ret
    exact ⟨rfl, F.out⟩
end Go.Proofs.Ytjelbekjmfnenaa
