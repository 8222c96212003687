/- LeaseReads. -/
import Derived.Test.YtjelbekjmfnenaaRd6
import Derived.Test.YtjelbekjmfnenaaLsA
namespace Go.Proofs.Ytjelbekjmfnenaa
open Go.RowKit Go.Shelf
set_option linter.unusedVariables false
set_option linter.unusedSimpArgs false
set_option maxRecDepth 4000

/-- both sides, between two rounds -/
structure RrI (w : World) (g h : Nat) (wr : World) : Prop where
  ex : ∃ q p l, Sep w.heap.size [rdOb g q l, rqOb h p l] wr ∧ l.length ≤ 100 ∧ (∀ x ∈ l, x.2 ≤ 9223372036854775807)
  below : Below w.heap.size w wr
theorem askTo_top {l : List (Int × Int)} {a b : Int} (h : ∀ x ∈ l, x.2 ≤ 9223372036854775807) (hb : b ≤ 9223372036854775807) : ∀ x ∈ askTo l a b, x.2 ≤ 9223372036854775807 := by
  unfold askTo
  split
  · intro x hx
    rcases List.mem_append.1 hx with hx | hx
    · exact h x hx
    · rw [List.mem_singleton.1 hx]; exact hb
  · exact h
theorem above_len (r : Int) (l : List (Int × Int)) : (above r l).length ≤ l.length := List.length_filter_le _ _
theorem above_mem {r : Int} {l : List (Int × Int)} {x : Int × Int} (h : x ∈ above r l) : x ∈ l := (List.mem_filter.1 h).1
set_option maxHeartbeats 16000000 in
theorem leaseReads_walk (sa : Option Addr) (sl sc : Nat) (w : World) (S : TArg w sa sl sc) :
    Calls Try.prog 4 #[.slice sa sl sc] w fun e w' => e = .returned (.bool true) ∧ Below w.heap.size w w' := by
  have H1 : Hid _ := rdNew_any w
  have HS : Hid _ := S
  have HK : Hid _ := known11_any
  clear S
  go_enter Try.func4, Try.ntmps4
  go_wp2_with fail
  refine (Calls.mono H1.out) ?_
  rintro e w1 ⟨g, rfl, hg, ho1, b1⟩
  have bn : Below w1.heap.size w1 (w1.alloc (.cells #[.slice none 0 0] 47)) := (Below.refl _ _).alloc (Nat.le_refl _) _
  have N := Blk.new' w1 47 [.slice none 0 0]
  have S1 : Sep w.heap.size [rdOb g none []] w1 := Sep.nil.fresh b1 ho1 (fun k hk => by
    rcases hk with hk | hk
    · simp only [rdOb, qu, List.mem_cons, Option.mem_toList, reduceCtorEq, or_false] at hk; omega
    · cases hk)
  have S2 := (S1.fresh bn (qu_ok (T := 47) (E := 88) (g := w1.heap.size) (q := none) (hd := []) (l := []) ⟨by simp, _, rfl, N, PrOwn.nil _ _⟩) (fun k hk => by
    rcases hk with hk | hk
    · simp only [qu, List.mem_cons, Option.mem_toList, reduceCtorEq, or_false] at hk; omega
    · cases hk)).swap
  have I0 : Hid (RrI w g w1.heap.size (w1.alloc (.cells #[.slice none 0 0] 47))) := ⟨⟨none, none, [], S2, by simp, (fun x hx => by cases hx)⟩, below_then b1 bn⟩
  clear H1 ho1 b1 bn N S1 S2 hg
  go_wp2_with fail
  generalize w1.alloc (.cells #[.slice none 0 0] 47) = w2 at *
  generalize w1.heap.size = h at *
  go_loopw [5] (fun iv wr => ∃ (k : Nat), iv = .int .i64 k ∧ k ≤ 250 ∧ RrI w g h wr) (fun iv _ => 250 - (intOf iv).toNat)
  case atStart => exact ⟨0, rfl, by omega, I0.out⟩
  case round =>
    clear I0
    obtain ⟨k, rfl, hk, hI⟩ := hrel
    have HI : Hid _ := hI
    clear hI
    by_cases hcc : k < sl ∧ k < 250
    · obtain ⟨c1, c2⟩ := hcc
      obtain ⟨sb, so, rfl, hss⟩ := HS.out.each (by omega)
      obtain ⟨kd, a, b, x1, x2, x3, hk6, ha6, hb6⟩ := hss k c1
      have y1 := cell_later HI.out.below x1
      have y2 := cell_later HI.out.below x2
      have y3 := cell_later HI.out.below x3
      have q1 : (k : Int) < sl := by omega
      have q2 : (k : Int) < 250 := by omega
      have bn : Below wr.heap.size wr (wr.alloc (.cells #[.int .i64 kd, .int .i64 a, .int .i64 b] 48)) := (Below.refl _ _).alloc (Nat.le_refl _) _
      have N := Blk.new' wr 48 [.int .i64 kd, .int .i64 a, .int .i64 b]
      have n0 := blk_at N 0
      have n1 := blk_at N 1
      have n2 := blk_at N 2
      simp only [List.getElem?_cons_zero, List.getElem?_cons_succ] at n0 n1 n2
      obtain ⟨q, p, l, hs, hl, htop⟩ := HI.out.ex
      have HG : Hid _ := And.intro (hs.later bn) (And.intro hl (And.intro htop (And.intro (below_then HI.out.below bn) N)))
      have hs0 : Hid _ := hs
      clear hss x1 x2 x3 bn N hs hl htop HI
      have hsz : ∀ o ∈ [rdOb g q l, rqOb h p l], ∀ k ∈ o.W, k < wr.heap.size := fun o ho k hk => (hs0.out.each o ho).lt k (.inl hk)
      by_cases hk0 : kd = 0 ∨ kd = 1 ∨ kd = 2
      · rcases hk0 with rfl | rfl | rfl
        · go_wp2_with fail
          generalize wr.alloc (.cells #[.int .i64 0, .int .i64 a, .int .i64 b] 48) = w3 at *
          generalize hrc : wr.heap.size = rc at *
          have m1 : ∀ W, Blk W rc 48 [.int .i64 0, .int .i64 a, .int .i64 b] → W.cell? ⟨rc, 1, none⟩ = some (.int .i64 a) := fun W h => by have := blk_at h 1; simpa using this
          have m2 : ∀ W, Blk W rc 48 [.int .i64 0, .int .i64 a, .int .i64 b] → W.cell? ⟨rc, 2, none⟩ = some (.int .i64 b) := fun W h => by have := blk_at h 2; simpa using this
          have hrn : ∀ o ∈ [rdOb g q l, rqOb h p l], rc ∉ o.W := fun o ho e => by have := hsz o ho rc e; omega
          generalize hae : askE l a b = ae at *
          refine wp_region_held_drew (S := fun W => Blk W rc 48 [.int .i64 0, .int .i64 a, .int .i64 b]) (by as_aux_lemma => kernel_rfl) (HG.out.2.2.2.2) (fun hS => ?_)
          refine any_take (i := 0) (v := ?_) rfl (by as_aux_lemma => kernel_rfl) (by as_aux_lemma => kernel_rfl) (by as_aux_lemma => kernel_rfl) (by exact fun _ _ _ h => h) (by rfl) ?_ hS ?_
          rotate_left
          · ((intro w hSw; (try dsimp only at hSw); go_simp) <;> with_reducible rfl)
          (try simp only [Act.put, List.setIfInBounds_toArray, List.set_cons_zero, List.set_cons_succ])
          refine any_take (i := 1) (v := ?_) rfl (by as_aux_lemma => kernel_rfl) (by as_aux_lemma => kernel_rfl) (by as_aux_lemma => kernel_rfl) (by exact fun _ _ _ h => h) (by rfl) ?_ hS ?_
          rotate_left
          · ((intro w hSw; (try dsimp only at hSw); go_simp) <;> with_reducible rfl)
          (try simp only [Act.put, List.setIfInBounds_toArray, List.set_cons_zero, List.set_cons_succ])
          refine any_take (i := 2) (v := ?_) rfl (by as_aux_lemma => kernel_rfl) (by as_aux_lemma => kernel_rfl) (by as_aux_lemma => kernel_rfl) (by exact fun _ _ _ h => h) (by rfl) ?_ hS ?_
          rotate_left
          · ((intro w hSw; (try dsimp only at hSw); go_simp) <;> with_reducible rfl)
          (try simp only [Act.put, List.setIfInBounds_toArray, List.set_cons_zero, List.set_cons_succ])
          refine any_take (i := 3) (v := ?_) rfl (by as_aux_lemma => kernel_rfl) (by as_aux_lemma => kernel_rfl) (by as_aux_lemma => kernel_rfl) (by exact fun _ _ _ h => h) (by rfl) ?_ hS ?_
          rotate_left
          · ((intro w hSw; (try dsimp only at hSw); go_simp) <;> with_reducible rfl)
          (try simp only [Act.put, List.setIfInBounds_toArray, List.set_cons_zero, List.set_cons_succ])
          refine any_take (i := 4) (v := ?_) rfl (by as_aux_lemma => kernel_rfl) (by as_aux_lemma => kernel_rfl) (by as_aux_lemma => kernel_rfl) (by exact fun _ _ _ h => h) (by rfl) ?_ hS ?_
          rotate_left
          · ((intro w hSw; (try dsimp only at hSw); go_simp) <;> with_reducible rfl)
          (try simp only [Act.put, List.setIfInBounds_toArray, List.set_cons_zero, List.set_cons_succ])
          refine any_take (i := 6) (v := ?_) rfl (by as_aux_lemma => kernel_rfl) (by as_aux_lemma => kernel_rfl) (by as_aux_lemma => kernel_rfl) (by exact fun _ _ _ h => h) (by rfl) ?_ hS ?_
          rotate_left
          · ((intro w hSw; (try dsimp only at hSw); go_simp) <;> with_reducible rfl)
          (try simp only [Act.put, List.setIfInBounds_toArray, List.set_cons_zero, List.set_cons_succ])
          refine any_take (i := 7) (v := ?_) rfl (by as_aux_lemma => kernel_rfl) (by as_aux_lemma => kernel_rfl) (by as_aux_lemma => kernel_rfl) (by exact fun _ _ _ h => h) (by rfl) ?_ hS ?_
          rotate_left
          · ((intro w hSw; (try dsimp only at hSw); go_simp) <;> with_reducible rfl)
          (try simp only [Act.put, List.setIfInBounds_toArray, List.set_cons_zero, List.set_cons_succ])
          refine any_take (i := 8) (v := ?_) rfl (by as_aux_lemma => kernel_rfl) (by as_aux_lemma => kernel_rfl) (by as_aux_lemma => kernel_rfl) (by exact fun _ _ _ h => h) (by rfl) ?_ hS ?_
          rotate_left
          · ((intro w hSw; (try dsimp only at hSw); go_simp) <;> with_reducible rfl)
          (try simp only [Act.put, List.setIfInBounds_toArray, List.set_cons_zero, List.set_cons_succ])
          refine any_take (i := 9) (v := ?_) rfl (by as_aux_lemma => kernel_rfl) (by as_aux_lemma => kernel_rfl) (by as_aux_lemma => kernel_rfl) (by exact fun _ _ _ h => h) (by rfl) ?_ hS ?_
          rotate_left
          · ((intro w hSw; (try dsimp only at hSw); go_simp) <;> with_reducible rfl)
          (try simp only [Act.put, List.setIfInBounds_toArray, List.set_cons_zero, List.set_cons_succ])
          refine any_take (i := 10) (v := ?_) rfl (by as_aux_lemma => kernel_rfl) (by as_aux_lemma => kernel_rfl) (by as_aux_lemma => kernel_rfl) (by exact fun _ _ _ h => h) (by rfl) ?_ hS ?_
          rotate_left
          · ((intro w hSw; (try dsimp only at hSw); go_simp) <;> with_reducible rfl)
          (try simp only [Act.put, List.setIfInBounds_toArray, List.set_cons_zero, List.set_cons_succ])
          have K1 : Hid _ := rdAsk_any g q l a b _ HG.out.1.drew.head HG.out.2.1
          refine any_one (i := 5) rfl (by as_aux_lemma => kernel_rfl) (fun K hK => ?_)
          go_simp
          refine (Calls.mono (K1.out)) ?_
          rintro e x1 ⟨q1, rfl, st1⟩
          have S1 := HG.out.1.drew.step st1
          have bb1 := HG.out.2.2.2.1.trans (((Below.refl _ _).drew).trans (HG.out.1.drew.below st1))
          have N1 := Blk.turned (xs := [.int .i64 0, .int .i64 a, .int .i64 b]) hS st1.turned (fun e => hrn _ (by simp) e)
          clear K1
          go_wp2_with fail
          refine hK.out _ _ (N1) ?_
          clear hK K hS
          have hS := N1
          have K2 : Hid _ := rqAsk_any h p l a b _ S1.swap.head HG.out.2.1
          refine any_one (i := 11) rfl (by as_aux_lemma => kernel_rfl) (fun K hK => ?_)
          go_simp
          refine (Calls.mono (K2.out)) ?_
          rintro e x2 ⟨p1, rfl, st2⟩
          have S2 := (S1.swap.step st2).swap
          have bb2 := bb1.trans (S1.swap.below st2)
          have N2 := Blk.turned (xs := [.int .i64 0, .int .i64 a, .int .i64 b]) N1 st2.turned (fun e => hrn _ (by simp) e)
          clear K2
          go_wp2_with fail
          refine hK.out _ _ (N2) ?_
          clear hK K hS
          have hS := N2
          refine any_take (i := 12) (v := ?_) rfl (by as_aux_lemma => kernel_rfl) (by as_aux_lemma => kernel_rfl) (by as_aux_lemma => kernel_rfl) (by exact fun _ _ _ h => h) (by rfl) ?_ hS ?_
          rotate_left
          · ((intro w hSw; (try dsimp only at hSw); go_simp) <;> with_reducible rfl)
          (try simp only [Act.put, List.setIfInBounds_toArray, List.set_cons_zero, List.set_cons_succ])
          refine wpAnyH_done (by as_aux_lemma => kernel_rfl) ?_ _
          have R9 : Hid ((∃ q p l, Sep w.heap.size [rdOb g q l, rqOb h p l] x2 ∧ l.length ≤ 100 ∧ (∀ x ∈ l, x.2 ≤ 9223372036854775807)) ∧ Below w.heap.size w x2) := ⟨⟨q1, p1, askTo l a b, S2, askTo_len HG.out.2.1 a b, askTo_top HG.out.2.2.1 hb6.2⟩, bb2⟩
          clear S1 S2 st1 st2 bb1 bb2 N1 N2 hS HG
          obtain ⟨q9, p9, l9, hs9, hl9, ht9⟩ := R9.out.1
          have HL9 : Hid _ := hs9.head.drew
          obtain ⟨-, v9, hq9, hG9, ho9⟩ := hs9.swap.head.holds
          have c9 := blk_at hG9 0
          simp at c9
          obtain ⟨va9, vc9, rfl, -, -⟩ := ho9.open
          have R8 : Hid (RrI w g h (x2).drew) := ⟨⟨q9, p9, l9, hs9.drew, hl9, ht9⟩, R9.out.2.trans ((Below.refl _ _).drew)⟩
          clear R9 hs9 hl9 ht9 hG9 ho9 hq9
          go_wp2_with fail
          refine wp_region_held_drew (S := fun W => W.cell? ⟨h, 0, none⟩ = some (.slice va9 l9.length vc9)) (by as_aux_lemma => kernel_rfl) (c9) (fun hS => ?_)
          refine any_take (i := 0) (v := ?_) rfl (by as_aux_lemma => kernel_rfl) (by as_aux_lemma => kernel_rfl) (by as_aux_lemma => kernel_rfl) (by exact fun _ _ _ h => h) (by rfl) ?_ hS ?_
          rotate_left
          · ((intro w hSw; (try dsimp only at hSw); go_simp) <;> with_reducible rfl)
          (try simp only [Act.put, List.setIfInBounds_toArray, List.set_cons_zero, List.set_cons_succ])
          refine any_take (i := 2) (v := ?_) rfl (by as_aux_lemma => kernel_rfl) (by as_aux_lemma => kernel_rfl) (by as_aux_lemma => kernel_rfl) (by exact fun _ _ _ h => h) (by rfl) ?_ hS ?_
          rotate_left
          · ((intro w hSw; (try dsimp only at hSw); go_simp) <;> with_reducible rfl)
          (try simp only [Act.put, List.setIfInBounds_toArray, List.set_cons_zero, List.set_cons_succ])
          refine any_take (i := 3) (v := ?_) rfl (by as_aux_lemma => kernel_rfl) (by as_aux_lemma => kernel_rfl) (by as_aux_lemma => kernel_rfl) (by exact fun _ _ _ h => h) (by rfl) ?_ hS ?_
          rotate_left
          · ((intro w hSw; (try dsimp only at hSw); go_simp) <;> with_reducible rfl)
          (try simp only [Act.put, List.setIfInBounds_toArray, List.set_cons_zero, List.set_cons_succ])
          refine any_take (i := 4) (v := ?_) rfl (by as_aux_lemma => kernel_rfl) (by as_aux_lemma => kernel_rfl) (by as_aux_lemma => kernel_rfl) (by exact fun _ _ _ h => h) (by rfl) ?_ hS ?_
          rotate_left
          · ((intro w hSw; (try dsimp only at hSw); go_simp) <;> with_reducible rfl)
          (try simp only [Act.put, List.setIfInBounds_toArray, List.set_cons_zero, List.set_cons_succ])
          refine any_take (i := 5) (v := ?_) rfl (by as_aux_lemma => kernel_rfl) (by as_aux_lemma => kernel_rfl) (by as_aux_lemma => kernel_rfl) (by exact fun _ _ _ h => h) (by rfl) ?_ hS ?_
          rotate_left
          · ((intro w hSw; (try dsimp only at hSw); go_simp) <;> with_reducible rfl)
          (try simp only [Act.put, List.setIfInBounds_toArray, List.set_cons_zero, List.set_cons_succ])
          refine any_take (i := 6) (v := ?_) rfl (by as_aux_lemma => kernel_rfl) (by as_aux_lemma => kernel_rfl) (by as_aux_lemma => kernel_rfl) (by exact fun _ _ _ h => h) (by rfl) ?_ hS ?_
          rotate_left
          · ((intro w hSw; (try dsimp only at hSw); go_simp) <;> with_reducible rfl)
          (try simp only [Act.put, List.setIfInBounds_toArray, List.set_cons_zero, List.set_cons_succ])
          have K1 : Hid _ := rdLen_any g q9 l9 _ HL9.out
          refine any_one (i := 1) rfl (by as_aux_lemma => kernel_rfl) (fun K hK => ?_)
          go_simp
          refine (Calls.mono (K1.out)) ?_
          rintro e _ ⟨rfl, rfl⟩
          clear K1
          go_wp2_with fail
          refine hK.out _ _ hS ?_
          clear hK K
          refine any_take (i := 7) (v := ?_) rfl (by as_aux_lemma => kernel_rfl) (by as_aux_lemma => kernel_rfl) (by as_aux_lemma => kernel_rfl) (by exact fun _ _ _ h => h) (by rfl) ?_ hS ?_
          rotate_left
          · ((intro w hSw; (try dsimp only at hSw); go_simp) <;> with_reducible rfl)
          (try simp only [Act.put, List.setIfInBounds_toArray, List.set_cons_zero, List.set_cons_succ])
          refine wpAnyH_done (by as_aux_lemma => kernel_rfl) ?_ _
          go_wp2
          go_roundw
          case rel => exact ⟨k + 1, by go_num, by omega, R8.out⟩
          case measure => simp [intOf]; omega
        · go_wp2_with fail
          generalize wr.alloc (.cells #[.int .i64 1, .int .i64 a, .int .i64 b] 48) = w3 at *
          generalize hrc : wr.heap.size = rc at *
          have m1 : ∀ W, Blk W rc 48 [.int .i64 1, .int .i64 a, .int .i64 b] → W.cell? ⟨rc, 1, none⟩ = some (.int .i64 a) := fun W h => by have := blk_at h 1; simpa using this
          have m2 : ∀ W, Blk W rc 48 [.int .i64 1, .int .i64 a, .int .i64 b] → W.cell? ⟨rc, 2, none⟩ = some (.int .i64 b) := fun W h => by have := blk_at h 2; simpa using this
          have hrn : ∀ o ∈ [rdOb g q l, rqOb h p l], rc ∉ o.W := fun o ho e => by have := hsz o ho rc e; omega
          generalize hae : askE l a b = ae at *
          refine wp_region_held_drew (S := fun W => Blk W rc 48 [.int .i64 1, .int .i64 a, .int .i64 b]) (by as_aux_lemma => kernel_rfl) (HG.out.2.2.2.2) (fun hS => ?_)
          refine any_take (i := 0) (v := ?_) rfl (by as_aux_lemma => kernel_rfl) (by as_aux_lemma => kernel_rfl) (by as_aux_lemma => kernel_rfl) (by exact fun _ _ _ h => h) (by rfl) ?_ hS ?_
          rotate_left
          · ((intro w hSw; (try dsimp only at hSw); go_simp) <;> with_reducible rfl)
          (try simp only [Act.put, List.setIfInBounds_toArray, List.set_cons_zero, List.set_cons_succ])
          refine any_take (i := 1) (v := ?_) rfl (by as_aux_lemma => kernel_rfl) (by as_aux_lemma => kernel_rfl) (by as_aux_lemma => kernel_rfl) (by exact fun _ _ _ h => h) (by rfl) ?_ hS ?_
          rotate_left
          · ((intro w hSw; (try dsimp only at hSw); go_simp) <;> with_reducible rfl)
          (try simp only [Act.put, List.setIfInBounds_toArray, List.set_cons_zero, List.set_cons_succ])
          refine any_take (i := 2) (v := ?_) rfl (by as_aux_lemma => kernel_rfl) (by as_aux_lemma => kernel_rfl) (by as_aux_lemma => kernel_rfl) (by exact fun _ _ _ h => h) (by rfl) ?_ hS ?_
          rotate_left
          · ((intro w hSw; (try dsimp only at hSw); go_simp) <;> with_reducible rfl)
          (try simp only [Act.put, List.setIfInBounds_toArray, List.set_cons_zero, List.set_cons_succ])
          refine any_take (i := 3) (v := ?_) rfl (by as_aux_lemma => kernel_rfl) (by as_aux_lemma => kernel_rfl) (by as_aux_lemma => kernel_rfl) (by exact fun _ _ _ h => h) (by rfl) ?_ hS ?_
          rotate_left
          · ((intro w hSw; (try dsimp only at hSw); go_simp) <;> with_reducible rfl)
          (try simp only [Act.put, List.setIfInBounds_toArray, List.set_cons_zero, List.set_cons_succ])
          refine any_take (i := 4) (v := ?_) rfl (by as_aux_lemma => kernel_rfl) (by as_aux_lemma => kernel_rfl) (by as_aux_lemma => kernel_rfl) (by exact fun _ _ _ h => h) (by rfl) ?_ hS ?_
          rotate_left
          · ((intro w hSw; (try dsimp only at hSw); go_simp) <;> with_reducible rfl)
          (try simp only [Act.put, List.setIfInBounds_toArray, List.set_cons_zero, List.set_cons_succ])
          refine any_take (i := 6) (v := ?_) rfl (by as_aux_lemma => kernel_rfl) (by as_aux_lemma => kernel_rfl) (by as_aux_lemma => kernel_rfl) (by exact fun _ _ _ h => h) (by rfl) ?_ hS ?_
          rotate_left
          · ((intro w hSw; (try dsimp only at hSw); go_simp) <;> with_reducible rfl)
          (try simp only [Act.put, List.setIfInBounds_toArray, List.set_cons_zero, List.set_cons_succ])
          refine any_take (i := 7) (v := ?_) rfl (by as_aux_lemma => kernel_rfl) (by as_aux_lemma => kernel_rfl) (by as_aux_lemma => kernel_rfl) (by exact fun _ _ _ h => h) (by rfl) ?_ hS ?_
          rotate_left
          · ((intro w hSw; (try dsimp only at hSw); go_simp) <;> with_reducible rfl)
          (try simp only [Act.put, List.setIfInBounds_toArray, List.set_cons_zero, List.set_cons_succ])
          refine any_take (i := 8) (v := ?_) rfl (by as_aux_lemma => kernel_rfl) (by as_aux_lemma => kernel_rfl) (by as_aux_lemma => kernel_rfl) (by exact fun _ _ _ h => h) (by rfl) ?_ hS ?_
          rotate_left
          · ((intro w hSw; (try dsimp only at hSw); go_simp) <;> with_reducible rfl)
          (try simp only [Act.put, List.setIfInBounds_toArray, List.set_cons_zero, List.set_cons_succ])
          refine any_take (i := 9) (v := ?_) rfl (by as_aux_lemma => kernel_rfl) (by as_aux_lemma => kernel_rfl) (by as_aux_lemma => kernel_rfl) (by exact fun _ _ _ h => h) (by rfl) ?_ hS ?_
          rotate_left
          · ((intro w hSw; (try dsimp only at hSw); go_simp) <;> with_reducible rfl)
          (try simp only [Act.put, List.setIfInBounds_toArray, List.set_cons_zero, List.set_cons_succ])
          refine any_take (i := 10) (v := ?_) rfl (by as_aux_lemma => kernel_rfl) (by as_aux_lemma => kernel_rfl) (by as_aux_lemma => kernel_rfl) (by exact fun _ _ _ h => h) (by rfl) ?_ hS ?_
          rotate_left
          · ((intro w hSw; (try dsimp only at hSw); go_simp) <;> with_reducible rfl)
          (try simp only [Act.put, List.setIfInBounds_toArray, List.set_cons_zero, List.set_cons_succ])
          have K1 : Hid _ := rdAsk_any g q l a b _ HG.out.1.drew.head HG.out.2.1
          refine any_one (i := 5) rfl (by as_aux_lemma => kernel_rfl) (fun K hK => ?_)
          go_simp
          refine (Calls.mono (K1.out)) ?_
          rintro e x1 ⟨q1, rfl, st1⟩
          have S1 := HG.out.1.drew.step st1
          have bb1 := HG.out.2.2.2.1.trans (((Below.refl _ _).drew).trans (HG.out.1.drew.below st1))
          have N1 := Blk.turned (xs := [.int .i64 1, .int .i64 a, .int .i64 b]) hS st1.turned (fun e => hrn _ (by simp) e)
          clear K1
          go_wp2_with fail
          refine hK.out _ _ (N1) ?_
          clear hK K hS
          have hS := N1
          have K2 : Hid _ := rqAsk_any h p l a b _ S1.swap.head HG.out.2.1
          refine any_one (i := 11) rfl (by as_aux_lemma => kernel_rfl) (fun K hK => ?_)
          go_simp
          refine (Calls.mono (K2.out)) ?_
          rintro e x2 ⟨p1, rfl, st2⟩
          have S2 := (S1.swap.step st2).swap
          have bb2 := bb1.trans (S1.swap.below st2)
          have N2 := Blk.turned (xs := [.int .i64 1, .int .i64 a, .int .i64 b]) N1 st2.turned (fun e => hrn _ (by simp) e)
          clear K2
          go_wp2_with fail
          refine hK.out _ _ (N2) ?_
          clear hK K hS
          have hS := N2
          refine any_take (i := 12) (v := ?_) rfl (by as_aux_lemma => kernel_rfl) (by as_aux_lemma => kernel_rfl) (by as_aux_lemma => kernel_rfl) (by exact fun _ _ _ h => h) (by rfl) ?_ hS ?_
          rotate_left
          · ((intro w hSw; (try dsimp only at hSw); go_simp) <;> with_reducible rfl)
          (try simp only [Act.put, List.setIfInBounds_toArray, List.set_cons_zero, List.set_cons_succ])
          refine wpAnyH_done (by as_aux_lemma => kernel_rfl) ?_ _
          have R9 : Hid ((∃ q p l, Sep w.heap.size [rdOb g q l, rqOb h p l] x2 ∧ l.length ≤ 100 ∧ (∀ x ∈ l, x.2 ≤ 9223372036854775807)) ∧ Below w.heap.size w x2) := ⟨⟨q1, p1, askTo l a b, S2, askTo_len HG.out.2.1 a b, askTo_top HG.out.2.2.1 hb6.2⟩, bb2⟩
          clear S1 S2 st1 st2 bb1 bb2 N1 N2 hS HG
          obtain ⟨q9, p9, l9, hs9, hl9, ht9⟩ := R9.out.1
          have HL9 : Hid _ := hs9.head.drew
          obtain ⟨-, v9, hq9, hG9, ho9⟩ := hs9.swap.head.holds
          have c9 := blk_at hG9 0
          simp at c9
          obtain ⟨va9, vc9, rfl, -, -⟩ := ho9.open
          have R8 : Hid (RrI w g h (x2).drew) := ⟨⟨q9, p9, l9, hs9.drew, hl9, ht9⟩, R9.out.2.trans ((Below.refl _ _).drew)⟩
          clear R9 hs9 hl9 ht9 hG9 ho9 hq9
          go_wp2_with fail
          refine wp_region_held_drew (S := fun W => W.cell? ⟨h, 0, none⟩ = some (.slice va9 l9.length vc9)) (by as_aux_lemma => kernel_rfl) (c9) (fun hS => ?_)
          refine any_take (i := 0) (v := ?_) rfl (by as_aux_lemma => kernel_rfl) (by as_aux_lemma => kernel_rfl) (by as_aux_lemma => kernel_rfl) (by exact fun _ _ _ h => h) (by rfl) ?_ hS ?_
          rotate_left
          · ((intro w hSw; (try dsimp only at hSw); go_simp) <;> with_reducible rfl)
          (try simp only [Act.put, List.setIfInBounds_toArray, List.set_cons_zero, List.set_cons_succ])
          refine any_take (i := 2) (v := ?_) rfl (by as_aux_lemma => kernel_rfl) (by as_aux_lemma => kernel_rfl) (by as_aux_lemma => kernel_rfl) (by exact fun _ _ _ h => h) (by rfl) ?_ hS ?_
          rotate_left
          · ((intro w hSw; (try dsimp only at hSw); go_simp) <;> with_reducible rfl)
          (try simp only [Act.put, List.setIfInBounds_toArray, List.set_cons_zero, List.set_cons_succ])
          refine any_take (i := 3) (v := ?_) rfl (by as_aux_lemma => kernel_rfl) (by as_aux_lemma => kernel_rfl) (by as_aux_lemma => kernel_rfl) (by exact fun _ _ _ h => h) (by rfl) ?_ hS ?_
          rotate_left
          · ((intro w hSw; (try dsimp only at hSw); go_simp) <;> with_reducible rfl)
          (try simp only [Act.put, List.setIfInBounds_toArray, List.set_cons_zero, List.set_cons_succ])
          refine any_take (i := 4) (v := ?_) rfl (by as_aux_lemma => kernel_rfl) (by as_aux_lemma => kernel_rfl) (by as_aux_lemma => kernel_rfl) (by exact fun _ _ _ h => h) (by rfl) ?_ hS ?_
          rotate_left
          · ((intro w hSw; (try dsimp only at hSw); go_simp) <;> with_reducible rfl)
          (try simp only [Act.put, List.setIfInBounds_toArray, List.set_cons_zero, List.set_cons_succ])
          refine any_take (i := 5) (v := ?_) rfl (by as_aux_lemma => kernel_rfl) (by as_aux_lemma => kernel_rfl) (by as_aux_lemma => kernel_rfl) (by exact fun _ _ _ h => h) (by rfl) ?_ hS ?_
          rotate_left
          · ((intro w hSw; (try dsimp only at hSw); go_simp) <;> with_reducible rfl)
          (try simp only [Act.put, List.setIfInBounds_toArray, List.set_cons_zero, List.set_cons_succ])
          refine any_take (i := 6) (v := ?_) rfl (by as_aux_lemma => kernel_rfl) (by as_aux_lemma => kernel_rfl) (by as_aux_lemma => kernel_rfl) (by exact fun _ _ _ h => h) (by rfl) ?_ hS ?_
          rotate_left
          · ((intro w hSw; (try dsimp only at hSw); go_simp) <;> with_reducible rfl)
          (try simp only [Act.put, List.setIfInBounds_toArray, List.set_cons_zero, List.set_cons_succ])
          have K1 : Hid _ := rdLen_any g q9 l9 _ HL9.out
          refine any_one (i := 1) rfl (by as_aux_lemma => kernel_rfl) (fun K hK => ?_)
          go_simp
          refine (Calls.mono (K1.out)) ?_
          rintro e _ ⟨rfl, rfl⟩
          clear K1
          go_wp2_with fail
          refine hK.out _ _ hS ?_
          clear hK K
          refine any_take (i := 7) (v := ?_) rfl (by as_aux_lemma => kernel_rfl) (by as_aux_lemma => kernel_rfl) (by as_aux_lemma => kernel_rfl) (by exact fun _ _ _ h => h) (by rfl) ?_ hS ?_
          rotate_left
          · ((intro w hSw; (try dsimp only at hSw); go_simp) <;> with_reducible rfl)
          (try simp only [Act.put, List.setIfInBounds_toArray, List.set_cons_zero, List.set_cons_succ])
          refine wpAnyH_done (by as_aux_lemma => kernel_rfl) ?_ _
          go_wp2
          go_roundw
          case rel => exact ⟨k + 1, by go_num, by omega, R8.out⟩
          case measure => simp [intOf]; omega
        · go_wp2_with fail
          generalize wr.alloc (.cells #[.int .i64 2, .int .i64 a, .int .i64 b] 48) = w3 at *
          generalize hrc : wr.heap.size = rc at *
          have m1 : ∀ W, Blk W rc 48 [.int .i64 2, .int .i64 a, .int .i64 b] → W.cell? ⟨rc, 1, none⟩ = some (.int .i64 a) := fun W h => by have := blk_at h 1; simpa using this
          have m2 : ∀ W, Blk W rc 48 [.int .i64 2, .int .i64 a, .int .i64 b] → W.cell? ⟨rc, 2, none⟩ = some (.int .i64 b) := fun W h => by have := blk_at h 2; simpa using this
          have hrn : ∀ o ∈ [rdOb g q l, rqOb h p l], rc ∉ o.W := fun o ho e => by have := hsz o ho rc e; omega
          generalize hae : askE l a b = ae at *
          refine wp_region_held_drew (S := fun W => Blk W rc 48 [.int .i64 2, .int .i64 a, .int .i64 b]) (by as_aux_lemma => kernel_rfl) (HG.out.2.2.2.2) (fun hS => ?_)
          refine any_take (i := 0) (v := ?_) rfl (by as_aux_lemma => kernel_rfl) (by as_aux_lemma => kernel_rfl) (by as_aux_lemma => kernel_rfl) (by exact fun _ _ _ h => h) (by rfl) ?_ hS ?_
          rotate_left
          · ((intro w hSw; (try dsimp only at hSw); go_simp) <;> with_reducible rfl)
          (try simp only [Act.put, List.setIfInBounds_toArray, List.set_cons_zero, List.set_cons_succ])
          refine any_take (i := 1) (v := ?_) rfl (by as_aux_lemma => kernel_rfl) (by as_aux_lemma => kernel_rfl) (by as_aux_lemma => kernel_rfl) (by exact fun _ _ _ h => h) (by rfl) ?_ hS ?_
          rotate_left
          · ((intro w hSw; (try dsimp only at hSw); go_simp) <;> with_reducible rfl)
          (try simp only [Act.put, List.setIfInBounds_toArray, List.set_cons_zero, List.set_cons_succ])
          refine any_take (i := 2) (v := ?_) rfl (by as_aux_lemma => kernel_rfl) (by as_aux_lemma => kernel_rfl) (by as_aux_lemma => kernel_rfl) (by exact fun _ _ _ h => h) (by rfl) ?_ hS ?_
          rotate_left
          · ((intro w hSw; (try dsimp only at hSw); go_simp) <;> with_reducible rfl)
          (try simp only [Act.put, List.setIfInBounds_toArray, List.set_cons_zero, List.set_cons_succ])
          refine any_take (i := 3) (v := ?_) rfl (by as_aux_lemma => kernel_rfl) (by as_aux_lemma => kernel_rfl) (by as_aux_lemma => kernel_rfl) (by exact fun _ _ _ h => h) (by rfl) ?_ hS ?_
          rotate_left
          · ((intro w hSw; (try dsimp only at hSw); go_simp) <;> with_reducible rfl)
          (try simp only [Act.put, List.setIfInBounds_toArray, List.set_cons_zero, List.set_cons_succ])
          refine any_take (i := 4) (v := ?_) rfl (by as_aux_lemma => kernel_rfl) (by as_aux_lemma => kernel_rfl) (by as_aux_lemma => kernel_rfl) (by exact fun _ _ _ h => h) (by rfl) ?_ hS ?_
          rotate_left
          · ((intro w hSw; (try dsimp only at hSw); go_simp) <;> with_reducible rfl)
          (try simp only [Act.put, List.setIfInBounds_toArray, List.set_cons_zero, List.set_cons_succ])
          refine any_take (i := 6) (v := ?_) rfl (by as_aux_lemma => kernel_rfl) (by as_aux_lemma => kernel_rfl) (by as_aux_lemma => kernel_rfl) (by exact fun _ _ _ h => h) (by rfl) ?_ hS ?_
          rotate_left
          · ((intro w hSw; (try dsimp only at hSw); go_simp) <;> with_reducible rfl)
          (try simp only [Act.put, List.setIfInBounds_toArray, List.set_cons_zero, List.set_cons_succ])
          refine any_take (i := 7) (v := ?_) rfl (by as_aux_lemma => kernel_rfl) (by as_aux_lemma => kernel_rfl) (by as_aux_lemma => kernel_rfl) (by exact fun _ _ _ h => h) (by rfl) ?_ hS ?_
          rotate_left
          · ((intro w hSw; (try dsimp only at hSw); go_simp) <;> with_reducible rfl)
          (try simp only [Act.put, List.setIfInBounds_toArray, List.set_cons_zero, List.set_cons_succ])
          refine any_take (i := 8) (v := ?_) rfl (by as_aux_lemma => kernel_rfl) (by as_aux_lemma => kernel_rfl) (by as_aux_lemma => kernel_rfl) (by exact fun _ _ _ h => h) (by rfl) ?_ hS ?_
          rotate_left
          · ((intro w hSw; (try dsimp only at hSw); go_simp) <;> with_reducible rfl)
          (try simp only [Act.put, List.setIfInBounds_toArray, List.set_cons_zero, List.set_cons_succ])
          refine any_take (i := 9) (v := ?_) rfl (by as_aux_lemma => kernel_rfl) (by as_aux_lemma => kernel_rfl) (by as_aux_lemma => kernel_rfl) (by exact fun _ _ _ h => h) (by rfl) ?_ hS ?_
          rotate_left
          · ((intro w hSw; (try dsimp only at hSw); go_simp) <;> with_reducible rfl)
          (try simp only [Act.put, List.setIfInBounds_toArray, List.set_cons_zero, List.set_cons_succ])
          refine any_take (i := 10) (v := ?_) rfl (by as_aux_lemma => kernel_rfl) (by as_aux_lemma => kernel_rfl) (by as_aux_lemma => kernel_rfl) (by exact fun _ _ _ h => h) (by rfl) ?_ hS ?_
          rotate_left
          · ((intro w hSw; (try dsimp only at hSw); go_simp) <;> with_reducible rfl)
          (try simp only [Act.put, List.setIfInBounds_toArray, List.set_cons_zero, List.set_cons_succ])
          have K1 : Hid _ := rdAsk_any g q l a b _ HG.out.1.drew.head HG.out.2.1
          refine any_one (i := 5) rfl (by as_aux_lemma => kernel_rfl) (fun K hK => ?_)
          go_simp
          refine (Calls.mono (K1.out)) ?_
          rintro e x1 ⟨q1, rfl, st1⟩
          have S1 := HG.out.1.drew.step st1
          have bb1 := HG.out.2.2.2.1.trans (((Below.refl _ _).drew).trans (HG.out.1.drew.below st1))
          have N1 := Blk.turned (xs := [.int .i64 2, .int .i64 a, .int .i64 b]) hS st1.turned (fun e => hrn _ (by simp) e)
          clear K1
          go_wp2_with fail
          refine hK.out _ _ (N1) ?_
          clear hK K hS
          have hS := N1
          have K2 : Hid _ := rqAsk_any h p l a b _ S1.swap.head HG.out.2.1
          refine any_one (i := 11) rfl (by as_aux_lemma => kernel_rfl) (fun K hK => ?_)
          go_simp
          refine (Calls.mono (K2.out)) ?_
          rintro e x2 ⟨p1, rfl, st2⟩
          have S2 := (S1.swap.step st2).swap
          have bb2 := bb1.trans (S1.swap.below st2)
          have N2 := Blk.turned (xs := [.int .i64 2, .int .i64 a, .int .i64 b]) N1 st2.turned (fun e => hrn _ (by simp) e)
          clear K2
          go_wp2_with fail
          refine hK.out _ _ (N2) ?_
          clear hK K hS
          have hS := N2
          refine any_take (i := 12) (v := ?_) rfl (by as_aux_lemma => kernel_rfl) (by as_aux_lemma => kernel_rfl) (by as_aux_lemma => kernel_rfl) (by exact fun _ _ _ h => h) (by rfl) ?_ hS ?_
          rotate_left
          · ((intro w hSw; (try dsimp only at hSw); go_simp) <;> with_reducible rfl)
          (try simp only [Act.put, List.setIfInBounds_toArray, List.set_cons_zero, List.set_cons_succ])
          refine wpAnyH_done (by as_aux_lemma => kernel_rfl) ?_ _
          have R9 : Hid ((∃ q p l, Sep w.heap.size [rdOb g q l, rqOb h p l] x2 ∧ l.length ≤ 100 ∧ (∀ x ∈ l, x.2 ≤ 9223372036854775807)) ∧ Below w.heap.size w x2) := ⟨⟨q1, p1, askTo l a b, S2, askTo_len HG.out.2.1 a b, askTo_top HG.out.2.2.1 hb6.2⟩, bb2⟩
          clear S1 S2 st1 st2 bb1 bb2 N1 N2 hS HG
          obtain ⟨q9, p9, l9, hs9, hl9, ht9⟩ := R9.out.1
          have HL9 : Hid _ := hs9.head.drew
          obtain ⟨-, v9, hq9, hG9, ho9⟩ := hs9.swap.head.holds
          have c9 := blk_at hG9 0
          simp at c9
          obtain ⟨va9, vc9, rfl, -, -⟩ := ho9.open
          have R8 : Hid (RrI w g h (x2).drew) := ⟨⟨q9, p9, l9, hs9.drew, hl9, ht9⟩, R9.out.2.trans ((Below.refl _ _).drew)⟩
          clear R9 hs9 hl9 ht9 hG9 ho9 hq9
          go_wp2_with fail
          refine wp_region_held_drew (S := fun W => W.cell? ⟨h, 0, none⟩ = some (.slice va9 l9.length vc9)) (by as_aux_lemma => kernel_rfl) (c9) (fun hS => ?_)
          refine any_take (i := 0) (v := ?_) rfl (by as_aux_lemma => kernel_rfl) (by as_aux_lemma => kernel_rfl) (by as_aux_lemma => kernel_rfl) (by exact fun _ _ _ h => h) (by rfl) ?_ hS ?_
          rotate_left
          · ((intro w hSw; (try dsimp only at hSw); go_simp) <;> with_reducible rfl)
          (try simp only [Act.put, List.setIfInBounds_toArray, List.set_cons_zero, List.set_cons_succ])
          refine any_take (i := 2) (v := ?_) rfl (by as_aux_lemma => kernel_rfl) (by as_aux_lemma => kernel_rfl) (by as_aux_lemma => kernel_rfl) (by exact fun _ _ _ h => h) (by rfl) ?_ hS ?_
          rotate_left
          · ((intro w hSw; (try dsimp only at hSw); go_simp) <;> with_reducible rfl)
          (try simp only [Act.put, List.setIfInBounds_toArray, List.set_cons_zero, List.set_cons_succ])
          refine any_take (i := 3) (v := ?_) rfl (by as_aux_lemma => kernel_rfl) (by as_aux_lemma => kernel_rfl) (by as_aux_lemma => kernel_rfl) (by exact fun _ _ _ h => h) (by rfl) ?_ hS ?_
          rotate_left
          · ((intro w hSw; (try dsimp only at hSw); go_simp) <;> with_reducible rfl)
          (try simp only [Act.put, List.setIfInBounds_toArray, List.set_cons_zero, List.set_cons_succ])
          refine any_take (i := 4) (v := ?_) rfl (by as_aux_lemma => kernel_rfl) (by as_aux_lemma => kernel_rfl) (by as_aux_lemma => kernel_rfl) (by exact fun _ _ _ h => h) (by rfl) ?_ hS ?_
          rotate_left
          · ((intro w hSw; (try dsimp only at hSw); go_simp) <;> with_reducible rfl)
          (try simp only [Act.put, List.setIfInBounds_toArray, List.set_cons_zero, List.set_cons_succ])
          refine any_take (i := 5) (v := ?_) rfl (by as_aux_lemma => kernel_rfl) (by as_aux_lemma => kernel_rfl) (by as_aux_lemma => kernel_rfl) (by exact fun _ _ _ h => h) (by rfl) ?_ hS ?_
          rotate_left
          · ((intro w hSw; (try dsimp only at hSw); go_simp) <;> with_reducible rfl)
          (try simp only [Act.put, List.setIfInBounds_toArray, List.set_cons_zero, List.set_cons_succ])
          refine any_take (i := 6) (v := ?_) rfl (by as_aux_lemma => kernel_rfl) (by as_aux_lemma => kernel_rfl) (by as_aux_lemma => kernel_rfl) (by exact fun _ _ _ h => h) (by rfl) ?_ hS ?_
          rotate_left
          · ((intro w hSw; (try dsimp only at hSw); go_simp) <;> with_reducible rfl)
          (try simp only [Act.put, List.setIfInBounds_toArray, List.set_cons_zero, List.set_cons_succ])
          have K1 : Hid _ := rdLen_any g q9 l9 _ HL9.out
          refine any_one (i := 1) rfl (by as_aux_lemma => kernel_rfl) (fun K hK => ?_)
          go_simp
          refine (Calls.mono (K1.out)) ?_
          rintro e _ ⟨rfl, rfl⟩
          clear K1
          go_wp2_with fail
          refine hK.out _ _ hS ?_
          clear hK K
          refine any_take (i := 7) (v := ?_) rfl (by as_aux_lemma => kernel_rfl) (by as_aux_lemma => kernel_rfl) (by as_aux_lemma => kernel_rfl) (by exact fun _ _ _ h => h) (by rfl) ?_ hS ?_
          rotate_left
          · ((intro w hSw; (try dsimp only at hSw); go_simp) <;> with_reducible rfl)
          (try simp only [Act.put, List.setIfInBounds_toArray, List.set_cons_zero, List.set_cons_succ])
          refine wpAnyH_done (by as_aux_lemma => kernel_rfl) ?_ _
          go_wp2
          go_roundw
          case rel => exact ⟨k + 1, by go_num, by omega, R8.out⟩
          case measure => simp [intOf]; omega
      · by_cases hk3 : kd = 3 ∨ kd = 4
        · clear hk0
          rcases hk3 with rfl | rfl
          · go_wp2_with fail
            generalize wr.alloc (.cells #[.int .i64 3, .int .i64 a, .int .i64 b] 48) = w3 at *
            generalize hrc : wr.heap.size = rc at *
            have m1 : ∀ W, Blk W rc 48 [.int .i64 3, .int .i64 a, .int .i64 b] → W.cell? ⟨rc, 1, none⟩ = some (.int .i64 a) := fun W h => by have := blk_at h 1; simpa using this
            have m2 : ∀ W, Blk W rc 48 [.int .i64 3, .int .i64 a, .int .i64 b] → W.cell? ⟨rc, 2, none⟩ = some (.int .i64 b) := fun W h => by have := blk_at h 2; simpa using this
            have hrn : ∀ o ∈ [rdOb g q l, rqOb h p l], rc ∉ o.W := fun o ho e => by have := hsz o ho rc e; omega
            refine wp_region_held_drew (S := fun W => Blk W rc 48 [.int .i64 3, .int .i64 a, .int .i64 b]) (by as_aux_lemma => kernel_rfl) (HG.out.2.2.2.2) (fun hS => ?_)
            refine any_take (i := 0) (v := ?_) rfl (by as_aux_lemma => kernel_rfl) (by as_aux_lemma => kernel_rfl) (by as_aux_lemma => kernel_rfl) (by exact fun _ _ _ h => h) (by rfl) ?_ hS ?_
            rotate_left
            · ((intro w hSw; (try dsimp only at hSw); go_simp) <;> with_reducible rfl)
            (try simp only [Act.put, List.setIfInBounds_toArray, List.set_cons_zero, List.set_cons_succ])
            refine any_take (i := 1) (v := ?_) rfl (by as_aux_lemma => kernel_rfl) (by as_aux_lemma => kernel_rfl) (by as_aux_lemma => kernel_rfl) (by exact fun _ _ _ h => h) (by rfl) ?_ hS ?_
            rotate_left
            · ((intro w hSw; (try dsimp only at hSw); go_simp) <;> with_reducible rfl)
            (try simp only [Act.put, List.setIfInBounds_toArray, List.set_cons_zero, List.set_cons_succ])
            refine any_take (i := 2) (v := ?_) rfl (by as_aux_lemma => kernel_rfl) (by as_aux_lemma => kernel_rfl) (by as_aux_lemma => kernel_rfl) (by exact fun _ _ _ h => h) (by rfl) ?_ hS ?_
            rotate_left
            · ((intro w hSw; (try dsimp only at hSw); go_simp) <;> with_reducible rfl)
            (try simp only [Act.put, List.setIfInBounds_toArray, List.set_cons_zero, List.set_cons_succ])
            refine any_take (i := 4) (v := ?_) rfl (by as_aux_lemma => kernel_rfl) (by as_aux_lemma => kernel_rfl) (by as_aux_lemma => kernel_rfl) (by exact fun _ _ _ h => h) (by rfl) ?_ hS ?_
            rotate_left
            · ((intro w hSw; (try dsimp only at hSw); go_simp) <;> with_reducible rfl)
            (try simp only [Act.put, List.setIfInBounds_toArray, List.set_cons_zero, List.set_cons_succ])
            refine any_take (i := 5) (v := ?_) rfl (by as_aux_lemma => kernel_rfl) (by as_aux_lemma => kernel_rfl) (by as_aux_lemma => kernel_rfl) (by exact fun _ _ _ h => h) (by rfl) ?_ hS ?_
            rotate_left
            · ((intro w hSw; (try dsimp only at hSw); go_simp) <;> with_reducible rfl)
            (try simp only [Act.put, List.setIfInBounds_toArray, List.set_cons_zero, List.set_cons_succ])
            refine any_take (i := 6) (v := ?_) rfl (by as_aux_lemma => kernel_rfl) (by as_aux_lemma => kernel_rfl) (by as_aux_lemma => kernel_rfl) (by exact fun _ _ _ h => h) (by rfl) ?_ hS ?_
            rotate_left
            · ((intro w hSw; (try dsimp only at hSw); go_simp) <;> with_reducible rfl)
            (try simp only [Act.put, List.setIfInBounds_toArray, List.set_cons_zero, List.set_cons_succ])
            have K1 : Hid _ := lawready_any g q l b _ HG.out.1.drew.head (by have := HG.out.2.1; omega)
            refine any_one (i := 3) rfl (by as_aux_lemma => kernel_rfl) (fun K hK => ?_)
            go_simp
            refine (Calls.mono (K1.out)) ?_
            rintro e x1 ⟨v1, q1, rfl, ho1, hf1, st1⟩
            have S1 := HG.out.1.drew.step st1
            have bb1 := HG.out.2.2.2.1.trans (((Below.refl _ _).drew).trans (HG.out.1.drew.below st1))
            have N1 := Blk.turned (xs := [.int .i64 3, .int .i64 a, .int .i64 b]) hS st1.turned (fun e => hrn _ (by simp) e)
            clear K1
            go_wp2_with fail
            refine hK.out _ _ (N1) ?_
            clear hK K hS
            have hS := N1
            have K2 : Hid _ := rqReady_any h p l b _ S1.swap.head (by have := HG.out.2.1; omega)
            refine any_one (i := 7) rfl (by as_aux_lemma => kernel_rfl) (fun K hK => ?_)
            go_simp
            refine (Calls.mono (K2.out)) ?_
            rintro e x2 ⟨v2, p1, rfl, ho2, hf2, st2⟩
            have S2 := (S1.swap.step st2).swap
            have bb2 := bb1.trans (S1.swap.below st2)
            have N2 := Blk.turned (xs := [.int .i64 3, .int .i64 a, .int .i64 b]) N1 st2.turned (fun e => hrn _ (by simp) e)
            have ho1' := ho1.same (fun k hk => st2.turned.block k (ho1.lt k hk) (fun e => by have h1 := (hf1 k hk).1; have h2 := (HG.out.1.each (rqOb h p l) (by simp)).lt k (.inl e); exact absurd h2 (Nat.not_lt.2 h1)))
            clear K2
            go_wp2_with fail
            refine hK.out _ _ (N2) ?_
            clear hK K hS
            have hS := N2
            have K3 : Hid _ := same11_yes v1 v2 _ _ ho1' ho2
            refine any_one (i := 8) rfl (by as_aux_lemma => kernel_rfl) (fun K hK => ?_)
            go_simp
            refine (Calls.mono (K3.out)) ?_
            rintro e x3 ⟨rfl, b3⟩
            have S3 := S2.later b3
            have bb3 := below_then bb2 b3
            have N3 := N2.laterB b3
            clear K3
            go_wp2_with fail
            refine hK.out _ _ (N3) ?_
            clear hK K hS
            have hS := N3
            refine any_take (i := 9) (v := ?_) rfl (by as_aux_lemma => kernel_rfl) (by as_aux_lemma => kernel_rfl) (by as_aux_lemma => kernel_rfl) (by exact fun _ _ _ h => h) (by rfl) ?_ hS ?_
            rotate_left
            · ((intro w hSw; (try dsimp only at hSw); go_simp) <;> with_reducible rfl)
            (try simp only [Act.put, List.setIfInBounds_toArray, List.set_cons_zero, List.set_cons_succ])
            refine wpAnyH_done (by as_aux_lemma => kernel_rfl) ?_ _
            have R9 : Hid ((∃ q p l, Sep w.heap.size [rdOb g q l, rqOb h p l] x3 ∧ l.length ≤ 100 ∧ (∀ x ∈ l, x.2 ≤ 9223372036854775807)) ∧ Below w.heap.size w x3) := ⟨⟨q1, p1, above b l, S3, Nat.le_trans (above_len b l) HG.out.2.1, fun x hx => HG.out.2.2.1 x (above_mem hx)⟩, bb3⟩
            clear S1 S2 S3 st1 st2 bb1 bb2 bb3 N1 N2 N3 hS HG ho1 ho2 ho1' hf1 hf2 b3
            obtain ⟨q9, p9, l9, hs9, hl9, ht9⟩ := R9.out.1
            have HL9 : Hid _ := hs9.head.drew
            obtain ⟨-, v9, hq9, hG9, ho9⟩ := hs9.swap.head.holds
            have c9 := blk_at hG9 0
            simp at c9
            obtain ⟨va9, vc9, rfl, -, -⟩ := ho9.open
            have R8 : Hid (RrI w g h (x3).drew) := ⟨⟨q9, p9, l9, hs9.drew, hl9, ht9⟩, R9.out.2.trans ((Below.refl _ _).drew)⟩
            clear R9 hs9 hl9 ht9 hG9 ho9 hq9
            go_wp2_with fail
            refine wp_region_held_drew (S := fun W => W.cell? ⟨h, 0, none⟩ = some (.slice va9 l9.length vc9)) (by as_aux_lemma => kernel_rfl) (c9) (fun hS => ?_)
            refine any_take (i := 0) (v := ?_) rfl (by as_aux_lemma => kernel_rfl) (by as_aux_lemma => kernel_rfl) (by as_aux_lemma => kernel_rfl) (by exact fun _ _ _ h => h) (by rfl) ?_ hS ?_
            rotate_left
            · ((intro w hSw; (try dsimp only at hSw); go_simp) <;> with_reducible rfl)
            (try simp only [Act.put, List.setIfInBounds_toArray, List.set_cons_zero, List.set_cons_succ])
            refine any_take (i := 2) (v := ?_) rfl (by as_aux_lemma => kernel_rfl) (by as_aux_lemma => kernel_rfl) (by as_aux_lemma => kernel_rfl) (by exact fun _ _ _ h => h) (by rfl) ?_ hS ?_
            rotate_left
            · ((intro w hSw; (try dsimp only at hSw); go_simp) <;> with_reducible rfl)
            (try simp only [Act.put, List.setIfInBounds_toArray, List.set_cons_zero, List.set_cons_succ])
            refine any_take (i := 3) (v := ?_) rfl (by as_aux_lemma => kernel_rfl) (by as_aux_lemma => kernel_rfl) (by as_aux_lemma => kernel_rfl) (by exact fun _ _ _ h => h) (by rfl) ?_ hS ?_
            rotate_left
            · ((intro w hSw; (try dsimp only at hSw); go_simp) <;> with_reducible rfl)
            (try simp only [Act.put, List.setIfInBounds_toArray, List.set_cons_zero, List.set_cons_succ])
            refine any_take (i := 4) (v := ?_) rfl (by as_aux_lemma => kernel_rfl) (by as_aux_lemma => kernel_rfl) (by as_aux_lemma => kernel_rfl) (by exact fun _ _ _ h => h) (by rfl) ?_ hS ?_
            rotate_left
            · ((intro w hSw; (try dsimp only at hSw); go_simp) <;> with_reducible rfl)
            (try simp only [Act.put, List.setIfInBounds_toArray, List.set_cons_zero, List.set_cons_succ])
            refine any_take (i := 5) (v := ?_) rfl (by as_aux_lemma => kernel_rfl) (by as_aux_lemma => kernel_rfl) (by as_aux_lemma => kernel_rfl) (by exact fun _ _ _ h => h) (by rfl) ?_ hS ?_
            rotate_left
            · ((intro w hSw; (try dsimp only at hSw); go_simp) <;> with_reducible rfl)
            (try simp only [Act.put, List.setIfInBounds_toArray, List.set_cons_zero, List.set_cons_succ])
            refine any_take (i := 6) (v := ?_) rfl (by as_aux_lemma => kernel_rfl) (by as_aux_lemma => kernel_rfl) (by as_aux_lemma => kernel_rfl) (by exact fun _ _ _ h => h) (by rfl) ?_ hS ?_
            rotate_left
            · ((intro w hSw; (try dsimp only at hSw); go_simp) <;> with_reducible rfl)
            (try simp only [Act.put, List.setIfInBounds_toArray, List.set_cons_zero, List.set_cons_succ])
            have K1 : Hid _ := rdLen_any g q9 l9 _ HL9.out
            refine any_one (i := 1) rfl (by as_aux_lemma => kernel_rfl) (fun K hK => ?_)
            go_simp
            refine (Calls.mono (K1.out)) ?_
            rintro e _ ⟨rfl, rfl⟩
            clear K1
            go_wp2_with fail
            refine hK.out _ _ hS ?_
            clear hK K
            refine any_take (i := 7) (v := ?_) rfl (by as_aux_lemma => kernel_rfl) (by as_aux_lemma => kernel_rfl) (by as_aux_lemma => kernel_rfl) (by exact fun _ _ _ h => h) (by rfl) ?_ hS ?_
            rotate_left
            · ((intro w hSw; (try dsimp only at hSw); go_simp) <;> with_reducible rfl)
            (try simp only [Act.put, List.setIfInBounds_toArray, List.set_cons_zero, List.set_cons_succ])
            refine wpAnyH_done (by as_aux_lemma => kernel_rfl) ?_ _
            go_wp2
            go_roundw
            case rel => exact ⟨k + 1, by go_num, by omega, R8.out⟩
            case measure => simp [intOf]; omega
          · go_wp2_with fail
            generalize wr.alloc (.cells #[.int .i64 4, .int .i64 a, .int .i64 b] 48) = w3 at *
            generalize hrc : wr.heap.size = rc at *
            have m1 : ∀ W, Blk W rc 48 [.int .i64 4, .int .i64 a, .int .i64 b] → W.cell? ⟨rc, 1, none⟩ = some (.int .i64 a) := fun W h => by have := blk_at h 1; simpa using this
            have m2 : ∀ W, Blk W rc 48 [.int .i64 4, .int .i64 a, .int .i64 b] → W.cell? ⟨rc, 2, none⟩ = some (.int .i64 b) := fun W h => by have := blk_at h 2; simpa using this
            have hrn : ∀ o ∈ [rdOb g q l, rqOb h p l], rc ∉ o.W := fun o ho e => by have := hsz o ho rc e; omega
            refine wp_region_held_drew (S := fun W => Blk W rc 48 [.int .i64 4, .int .i64 a, .int .i64 b]) (by as_aux_lemma => kernel_rfl) (HG.out.2.2.2.2) (fun hS => ?_)
            refine any_take (i := 0) (v := ?_) rfl (by as_aux_lemma => kernel_rfl) (by as_aux_lemma => kernel_rfl) (by as_aux_lemma => kernel_rfl) (by exact fun _ _ _ h => h) (by rfl) ?_ hS ?_
            rotate_left
            · ((intro w hSw; (try dsimp only at hSw); go_simp) <;> with_reducible rfl)
            (try simp only [Act.put, List.setIfInBounds_toArray, List.set_cons_zero, List.set_cons_succ])
            refine any_take (i := 1) (v := ?_) rfl (by as_aux_lemma => kernel_rfl) (by as_aux_lemma => kernel_rfl) (by as_aux_lemma => kernel_rfl) (by exact fun _ _ _ h => h) (by rfl) ?_ hS ?_
            rotate_left
            · ((intro w hSw; (try dsimp only at hSw); go_simp) <;> with_reducible rfl)
            (try simp only [Act.put, List.setIfInBounds_toArray, List.set_cons_zero, List.set_cons_succ])
            refine any_take (i := 2) (v := ?_) rfl (by as_aux_lemma => kernel_rfl) (by as_aux_lemma => kernel_rfl) (by as_aux_lemma => kernel_rfl) (by exact fun _ _ _ h => h) (by rfl) ?_ hS ?_
            rotate_left
            · ((intro w hSw; (try dsimp only at hSw); go_simp) <;> with_reducible rfl)
            (try simp only [Act.put, List.setIfInBounds_toArray, List.set_cons_zero, List.set_cons_succ])
            refine any_take (i := 4) (v := ?_) rfl (by as_aux_lemma => kernel_rfl) (by as_aux_lemma => kernel_rfl) (by as_aux_lemma => kernel_rfl) (by exact fun _ _ _ h => h) (by rfl) ?_ hS ?_
            rotate_left
            · ((intro w hSw; (try dsimp only at hSw); go_simp) <;> with_reducible rfl)
            (try simp only [Act.put, List.setIfInBounds_toArray, List.set_cons_zero, List.set_cons_succ])
            refine any_take (i := 5) (v := ?_) rfl (by as_aux_lemma => kernel_rfl) (by as_aux_lemma => kernel_rfl) (by as_aux_lemma => kernel_rfl) (by exact fun _ _ _ h => h) (by rfl) ?_ hS ?_
            rotate_left
            · ((intro w hSw; (try dsimp only at hSw); go_simp) <;> with_reducible rfl)
            (try simp only [Act.put, List.setIfInBounds_toArray, List.set_cons_zero, List.set_cons_succ])
            refine any_take (i := 6) (v := ?_) rfl (by as_aux_lemma => kernel_rfl) (by as_aux_lemma => kernel_rfl) (by as_aux_lemma => kernel_rfl) (by exact fun _ _ _ h => h) (by rfl) ?_ hS ?_
            rotate_left
            · ((intro w hSw; (try dsimp only at hSw); go_simp) <;> with_reducible rfl)
            (try simp only [Act.put, List.setIfInBounds_toArray, List.set_cons_zero, List.set_cons_succ])
            have K1 : Hid _ := lawready_any g q l b _ HG.out.1.drew.head (by have := HG.out.2.1; omega)
            refine any_one (i := 3) rfl (by as_aux_lemma => kernel_rfl) (fun K hK => ?_)
            go_simp
            refine (Calls.mono (K1.out)) ?_
            rintro e x1 ⟨v1, q1, rfl, ho1, hf1, st1⟩
            have S1 := HG.out.1.drew.step st1
            have bb1 := HG.out.2.2.2.1.trans (((Below.refl _ _).drew).trans (HG.out.1.drew.below st1))
            have N1 := Blk.turned (xs := [.int .i64 4, .int .i64 a, .int .i64 b]) hS st1.turned (fun e => hrn _ (by simp) e)
            clear K1
            go_wp2_with fail
            refine hK.out _ _ (N1) ?_
            clear hK K hS
            have hS := N1
            have K2 : Hid _ := rqReady_any h p l b _ S1.swap.head (by have := HG.out.2.1; omega)
            refine any_one (i := 7) rfl (by as_aux_lemma => kernel_rfl) (fun K hK => ?_)
            go_simp
            refine (Calls.mono (K2.out)) ?_
            rintro e x2 ⟨v2, p1, rfl, ho2, hf2, st2⟩
            have S2 := (S1.swap.step st2).swap
            have bb2 := bb1.trans (S1.swap.below st2)
            have N2 := Blk.turned (xs := [.int .i64 4, .int .i64 a, .int .i64 b]) N1 st2.turned (fun e => hrn _ (by simp) e)
            have ho1' := ho1.same (fun k hk => st2.turned.block k (ho1.lt k hk) (fun e => by have h1 := (hf1 k hk).1; have h2 := (HG.out.1.each (rqOb h p l) (by simp)).lt k (.inl e); exact absurd h2 (Nat.not_lt.2 h1)))
            clear K2
            go_wp2_with fail
            refine hK.out _ _ (N2) ?_
            clear hK K hS
            have hS := N2
            have K3 : Hid _ := same11_yes v1 v2 _ _ ho1' ho2
            refine any_one (i := 8) rfl (by as_aux_lemma => kernel_rfl) (fun K hK => ?_)
            go_simp
            refine (Calls.mono (K3.out)) ?_
            rintro e x3 ⟨rfl, b3⟩
            have S3 := S2.later b3
            have bb3 := below_then bb2 b3
            have N3 := N2.laterB b3
            clear K3
            go_wp2_with fail
            refine hK.out _ _ (N3) ?_
            clear hK K hS
            have hS := N3
            refine any_take (i := 9) (v := ?_) rfl (by as_aux_lemma => kernel_rfl) (by as_aux_lemma => kernel_rfl) (by as_aux_lemma => kernel_rfl) (by exact fun _ _ _ h => h) (by rfl) ?_ hS ?_
            rotate_left
            · ((intro w hSw; (try dsimp only at hSw); go_simp) <;> with_reducible rfl)
            (try simp only [Act.put, List.setIfInBounds_toArray, List.set_cons_zero, List.set_cons_succ])
            refine wpAnyH_done (by as_aux_lemma => kernel_rfl) ?_ _
            have R9 : Hid ((∃ q p l, Sep w.heap.size [rdOb g q l, rqOb h p l] x3 ∧ l.length ≤ 100 ∧ (∀ x ∈ l, x.2 ≤ 9223372036854775807)) ∧ Below w.heap.size w x3) := ⟨⟨q1, p1, above b l, S3, Nat.le_trans (above_len b l) HG.out.2.1, fun x hx => HG.out.2.2.1 x (above_mem hx)⟩, bb3⟩
            clear S1 S2 S3 st1 st2 bb1 bb2 bb3 N1 N2 N3 hS HG ho1 ho2 ho1' hf1 hf2 b3
            obtain ⟨q9, p9, l9, hs9, hl9, ht9⟩ := R9.out.1
            have HL9 : Hid _ := hs9.head.drew
            obtain ⟨-, v9, hq9, hG9, ho9⟩ := hs9.swap.head.holds
            have c9 := blk_at hG9 0
            simp at c9
            obtain ⟨va9, vc9, rfl, -, -⟩ := ho9.open
            have R8 : Hid (RrI w g h (x3).drew) := ⟨⟨q9, p9, l9, hs9.drew, hl9, ht9⟩, R9.out.2.trans ((Below.refl _ _).drew)⟩
            clear R9 hs9 hl9 ht9 hG9 ho9 hq9
            go_wp2_with fail
            refine wp_region_held_drew (S := fun W => W.cell? ⟨h, 0, none⟩ = some (.slice va9 l9.length vc9)) (by as_aux_lemma => kernel_rfl) (c9) (fun hS => ?_)
            refine any_take (i := 0) (v := ?_) rfl (by as_aux_lemma => kernel_rfl) (by as_aux_lemma => kernel_rfl) (by as_aux_lemma => kernel_rfl) (by exact fun _ _ _ h => h) (by rfl) ?_ hS ?_
            rotate_left
            · ((intro w hSw; (try dsimp only at hSw); go_simp) <;> with_reducible rfl)
            (try simp only [Act.put, List.setIfInBounds_toArray, List.set_cons_zero, List.set_cons_succ])
            refine any_take (i := 2) (v := ?_) rfl (by as_aux_lemma => kernel_rfl) (by as_aux_lemma => kernel_rfl) (by as_aux_lemma => kernel_rfl) (by exact fun _ _ _ h => h) (by rfl) ?_ hS ?_
            rotate_left
            · ((intro w hSw; (try dsimp only at hSw); go_simp) <;> with_reducible rfl)
            (try simp only [Act.put, List.setIfInBounds_toArray, List.set_cons_zero, List.set_cons_succ])
            refine any_take (i := 3) (v := ?_) rfl (by as_aux_lemma => kernel_rfl) (by as_aux_lemma => kernel_rfl) (by as_aux_lemma => kernel_rfl) (by exact fun _ _ _ h => h) (by rfl) ?_ hS ?_
            rotate_left
            · ((intro w hSw; (try dsimp only at hSw); go_simp) <;> with_reducible rfl)
            (try simp only [Act.put, List.setIfInBounds_toArray, List.set_cons_zero, List.set_cons_succ])
            refine any_take (i := 4) (v := ?_) rfl (by as_aux_lemma => kernel_rfl) (by as_aux_lemma => kernel_rfl) (by as_aux_lemma => kernel_rfl) (by exact fun _ _ _ h => h) (by rfl) ?_ hS ?_
            rotate_left
            · ((intro w hSw; (try dsimp only at hSw); go_simp) <;> with_reducible rfl)
            (try simp only [Act.put, List.setIfInBounds_toArray, List.set_cons_zero, List.set_cons_succ])
            refine any_take (i := 5) (v := ?_) rfl (by as_aux_lemma => kernel_rfl) (by as_aux_lemma => kernel_rfl) (by as_aux_lemma => kernel_rfl) (by exact fun _ _ _ h => h) (by rfl) ?_ hS ?_
            rotate_left
            · ((intro w hSw; (try dsimp only at hSw); go_simp) <;> with_reducible rfl)
            (try simp only [Act.put, List.setIfInBounds_toArray, List.set_cons_zero, List.set_cons_succ])
            refine any_take (i := 6) (v := ?_) rfl (by as_aux_lemma => kernel_rfl) (by as_aux_lemma => kernel_rfl) (by as_aux_lemma => kernel_rfl) (by exact fun _ _ _ h => h) (by rfl) ?_ hS ?_
            rotate_left
            · ((intro w hSw; (try dsimp only at hSw); go_simp) <;> with_reducible rfl)
            (try simp only [Act.put, List.setIfInBounds_toArray, List.set_cons_zero, List.set_cons_succ])
            have K1 : Hid _ := rdLen_any g q9 l9 _ HL9.out
            refine any_one (i := 1) rfl (by as_aux_lemma => kernel_rfl) (fun K hK => ?_)
            go_simp
            refine (Calls.mono (K1.out)) ?_
            rintro e _ ⟨rfl, rfl⟩
            clear K1
            go_wp2_with fail
            refine hK.out _ _ hS ?_
            clear hK K
            refine any_take (i := 7) (v := ?_) rfl (by as_aux_lemma => kernel_rfl) (by as_aux_lemma => kernel_rfl) (by as_aux_lemma => kernel_rfl) (by exact fun _ _ _ h => h) (by rfl) ?_ hS ?_
            rotate_left
            · ((intro w hSw; (try dsimp only at hSw); go_simp) <;> with_reducible rfl)
            (try simp only [Act.put, List.setIfInBounds_toArray, List.set_cons_zero, List.set_cons_succ])
            refine wpAnyH_done (by as_aux_lemma => kernel_rfl) ?_ _
            go_wp2
            go_roundw
            case rel => exact ⟨k + 1, by go_num, by omega, R8.out⟩
            case measure => simp [intOf]; omega
        · by_cases hk5 : kd = 5
          · subst hk5
            clear hk0 hk3
            go_wp2_with fail
            generalize wr.alloc (.cells #[.int .i64 5, .int .i64 a, .int .i64 b] 48) = w3 at *
            generalize hrc : wr.heap.size = rc at *
            have H1 : Hid _ := rdDrop_any g q l w3 HG.out.1.head (by have := HG.out.2.1; omega) HG.out.2.2.1
            refine (Calls.mono H1.out) ?_
            rintro e x1 ⟨v1, q1, rfl, ho1, hf1, st1⟩
            have S1 := HG.out.1.step st1
            have bb1 := HG.out.2.2.2.1.trans (HG.out.1.below st1)
            have H2 : Hid _ := rqDrop_any h p l x1 S1.swap.head (by have := HG.out.2.1; omega)
            have HF1 : Hid _ := And.intro ho1 (And.intro hf1 (And.intro st1 (And.intro S1 bb1)))
            clear ho1 hf1 st1 S1 bb1 H1
            go_wp2_with fail
            refine (Calls.mono H2.out) ?_
            rintro e x2 ⟨v2, p1, rfl, ho2, hf2, st2⟩
            obtain ⟨ho1, hf1, st1, S1, bb1⟩ := HF1.out
            have S2 := (S1.swap.step st2).swap
            have bb2 := bb1.trans (S1.swap.below st2)
            have ho1' := ho1.same (fun k hk => st2.turned.block k (ho1.lt k hk) (fun e => by have h1 := (hf1 k hk).1; have h2 := (HG.out.1.each (rqOb h p l) (by simp)).lt k (.inl e); exact absurd h2 (Nat.not_lt.2 h1)))
            have H3 : Hid _ := same11_yes v1 v2 _ _ ho1' ho2
            have HF2 : Hid _ := And.intro S2 bb2
            clear ho1 hf1 st1 S1 bb1 ho2 hf2 st2 S2 bb2 ho1' HF1 H2
            go_wp2_with fail
            refine (Calls.mono H3.out) ?_
            rintro e x3 ⟨rfl, b3⟩
            have R9 : Hid ((∃ q p l, Sep w.heap.size [rdOb g q l, rqOb h p l] x3 ∧ l.length ≤ 100 ∧ (∀ x ∈ l, x.2 ≤ 9223372036854775807)) ∧ Below w.heap.size w x3) := ⟨⟨q1, p1, [], HF2.out.1.later b3, by simp, (fun x hx => by cases hx)⟩, below_then HF2.out.2 b3⟩
            clear HF2 b3 H3 HG
            obtain ⟨q9, p9, l9, hs9, hl9, ht9⟩ := R9.out.1
            have HL9 : Hid _ := hs9.head.drew
            obtain ⟨-, v9, hq9, hG9, ho9⟩ := hs9.swap.head.holds
            have c9 := blk_at hG9 0
            simp at c9
            obtain ⟨va9, vc9, rfl, -, -⟩ := ho9.open
            have R8 : Hid (RrI w g h (x3).drew) := ⟨⟨q9, p9, l9, hs9.drew, hl9, ht9⟩, R9.out.2.trans ((Below.refl _ _).drew)⟩
            clear R9 hs9 hl9 ht9 hG9 ho9 hq9
            go_wp2_with fail
            refine wp_region_held_drew (S := fun W => W.cell? ⟨h, 0, none⟩ = some (.slice va9 l9.length vc9)) (by as_aux_lemma => kernel_rfl) (c9) (fun hS => ?_)
            refine any_take (i := 0) (v := ?_) rfl (by as_aux_lemma => kernel_rfl) (by as_aux_lemma => kernel_rfl) (by as_aux_lemma => kernel_rfl) (by exact fun _ _ _ h => h) (by rfl) ?_ hS ?_
            rotate_left
            · ((intro w hSw; (try dsimp only at hSw); go_simp) <;> with_reducible rfl)
            (try simp only [Act.put, List.setIfInBounds_toArray, List.set_cons_zero, List.set_cons_succ])
            refine any_take (i := 2) (v := ?_) rfl (by as_aux_lemma => kernel_rfl) (by as_aux_lemma => kernel_rfl) (by as_aux_lemma => kernel_rfl) (by exact fun _ _ _ h => h) (by rfl) ?_ hS ?_
            rotate_left
            · ((intro w hSw; (try dsimp only at hSw); go_simp) <;> with_reducible rfl)
            (try simp only [Act.put, List.setIfInBounds_toArray, List.set_cons_zero, List.set_cons_succ])
            refine any_take (i := 3) (v := ?_) rfl (by as_aux_lemma => kernel_rfl) (by as_aux_lemma => kernel_rfl) (by as_aux_lemma => kernel_rfl) (by exact fun _ _ _ h => h) (by rfl) ?_ hS ?_
            rotate_left
            · ((intro w hSw; (try dsimp only at hSw); go_simp) <;> with_reducible rfl)
            (try simp only [Act.put, List.setIfInBounds_toArray, List.set_cons_zero, List.set_cons_succ])
            refine any_take (i := 4) (v := ?_) rfl (by as_aux_lemma => kernel_rfl) (by as_aux_lemma => kernel_rfl) (by as_aux_lemma => kernel_rfl) (by exact fun _ _ _ h => h) (by rfl) ?_ hS ?_
            rotate_left
            · ((intro w hSw; (try dsimp only at hSw); go_simp) <;> with_reducible rfl)
            (try simp only [Act.put, List.setIfInBounds_toArray, List.set_cons_zero, List.set_cons_succ])
            refine any_take (i := 5) (v := ?_) rfl (by as_aux_lemma => kernel_rfl) (by as_aux_lemma => kernel_rfl) (by as_aux_lemma => kernel_rfl) (by exact fun _ _ _ h => h) (by rfl) ?_ hS ?_
            rotate_left
            · ((intro w hSw; (try dsimp only at hSw); go_simp) <;> with_reducible rfl)
            (try simp only [Act.put, List.setIfInBounds_toArray, List.set_cons_zero, List.set_cons_succ])
            refine any_take (i := 6) (v := ?_) rfl (by as_aux_lemma => kernel_rfl) (by as_aux_lemma => kernel_rfl) (by as_aux_lemma => kernel_rfl) (by exact fun _ _ _ h => h) (by rfl) ?_ hS ?_
            rotate_left
            · ((intro w hSw; (try dsimp only at hSw); go_simp) <;> with_reducible rfl)
            (try simp only [Act.put, List.setIfInBounds_toArray, List.set_cons_zero, List.set_cons_succ])
            have K1 : Hid _ := rdLen_any g q9 l9 _ HL9.out
            refine any_one (i := 1) rfl (by as_aux_lemma => kernel_rfl) (fun K hK => ?_)
            go_simp
            refine (Calls.mono (K1.out)) ?_
            rintro e _ ⟨rfl, rfl⟩
            clear K1
            go_wp2_with fail
            refine hK.out _ _ hS ?_
            clear hK K
            refine any_take (i := 7) (v := ?_) rfl (by as_aux_lemma => kernel_rfl) (by as_aux_lemma => kernel_rfl) (by as_aux_lemma => kernel_rfl) (by exact fun _ _ _ h => h) (by rfl) ?_ hS ?_
            rotate_left
            · ((intro w hSw; (try dsimp only at hSw); go_simp) <;> with_reducible rfl)
            (try simp only [Act.put, List.setIfInBounds_toArray, List.set_cons_zero, List.set_cons_succ])
            refine wpAnyH_done (by as_aux_lemma => kernel_rfl) ?_ _
            go_wp2
            go_roundw
            case rel => exact ⟨k + 1, by go_num, by omega, R8.out⟩
            case measure => simp [intOf]; omega
          · have e0 : ¬ kd = 0 ∧ ¬ kd = 1 ∧ ¬ kd = 2 ∧ ¬ kd = 3 ∧ ¬ kd = 4 := by omega
            obtain ⟨e0, e1, e2, e3, e4⟩ := e0
            clear hk0 hk3
            have R9 : Hid ((∃ q p l, Sep w.heap.size [rdOb g q l, rqOb h p l] (wr.alloc (.cells #[.int .i64 kd, .int .i64 a, .int .i64 b] 48)) ∧ l.length ≤ 100 ∧ (∀ x ∈ l, x.2 ≤ 9223372036854775807)) ∧ Below w.heap.size w (wr.alloc (.cells #[.int .i64 kd, .int .i64 a, .int .i64 b] 48))) := ⟨⟨q, p, l, HG.out.1, HG.out.2.1, HG.out.2.2.1⟩, HG.out.2.2.2.1⟩
            clear HG
            obtain ⟨q9, p9, l9, hs9, hl9, ht9⟩ := R9.out.1
            have HL9 : Hid _ := hs9.head.drew
            obtain ⟨-, v9, hq9, hG9, ho9⟩ := hs9.swap.head.holds
            have c9 := blk_at hG9 0
            simp at c9
            obtain ⟨va9, vc9, rfl, -, -⟩ := ho9.open
            have R8 : Hid (RrI w g h ((wr.alloc (.cells #[.int .i64 kd, .int .i64 a, .int .i64 b] 48))).drew) := ⟨⟨q9, p9, l9, hs9.drew, hl9, ht9⟩, R9.out.2.trans ((Below.refl _ _).drew)⟩
            clear R9 hs9 hl9 ht9 hG9 ho9 hq9
            go_wp2_with fail
            refine wp_region_held_drew (S := fun W => W.cell? ⟨h, 0, none⟩ = some (.slice va9 l9.length vc9)) (by as_aux_lemma => kernel_rfl) (c9) (fun hS => ?_)
            refine any_take (i := 0) (v := ?_) rfl (by as_aux_lemma => kernel_rfl) (by as_aux_lemma => kernel_rfl) (by as_aux_lemma => kernel_rfl) (by exact fun _ _ _ h => h) (by rfl) ?_ hS ?_
            rotate_left
            · ((intro w hSw; (try dsimp only at hSw); go_simp) <;> with_reducible rfl)
            (try simp only [Act.put, List.setIfInBounds_toArray, List.set_cons_zero, List.set_cons_succ])
            refine any_take (i := 2) (v := ?_) rfl (by as_aux_lemma => kernel_rfl) (by as_aux_lemma => kernel_rfl) (by as_aux_lemma => kernel_rfl) (by exact fun _ _ _ h => h) (by rfl) ?_ hS ?_
            rotate_left
            · ((intro w hSw; (try dsimp only at hSw); go_simp) <;> with_reducible rfl)
            (try simp only [Act.put, List.setIfInBounds_toArray, List.set_cons_zero, List.set_cons_succ])
            refine any_take (i := 3) (v := ?_) rfl (by as_aux_lemma => kernel_rfl) (by as_aux_lemma => kernel_rfl) (by as_aux_lemma => kernel_rfl) (by exact fun _ _ _ h => h) (by rfl) ?_ hS ?_
            rotate_left
            · ((intro w hSw; (try dsimp only at hSw); go_simp) <;> with_reducible rfl)
            (try simp only [Act.put, List.setIfInBounds_toArray, List.set_cons_zero, List.set_cons_succ])
            refine any_take (i := 4) (v := ?_) rfl (by as_aux_lemma => kernel_rfl) (by as_aux_lemma => kernel_rfl) (by as_aux_lemma => kernel_rfl) (by exact fun _ _ _ h => h) (by rfl) ?_ hS ?_
            rotate_left
            · ((intro w hSw; (try dsimp only at hSw); go_simp) <;> with_reducible rfl)
            (try simp only [Act.put, List.setIfInBounds_toArray, List.set_cons_zero, List.set_cons_succ])
            refine any_take (i := 5) (v := ?_) rfl (by as_aux_lemma => kernel_rfl) (by as_aux_lemma => kernel_rfl) (by as_aux_lemma => kernel_rfl) (by exact fun _ _ _ h => h) (by rfl) ?_ hS ?_
            rotate_left
            · ((intro w hSw; (try dsimp only at hSw); go_simp) <;> with_reducible rfl)
            (try simp only [Act.put, List.setIfInBounds_toArray, List.set_cons_zero, List.set_cons_succ])
            refine any_take (i := 6) (v := ?_) rfl (by as_aux_lemma => kernel_rfl) (by as_aux_lemma => kernel_rfl) (by as_aux_lemma => kernel_rfl) (by exact fun _ _ _ h => h) (by rfl) ?_ hS ?_
            rotate_left
            · ((intro w hSw; (try dsimp only at hSw); go_simp) <;> with_reducible rfl)
            (try simp only [Act.put, List.setIfInBounds_toArray, List.set_cons_zero, List.set_cons_succ])
            have K1 : Hid _ := rdLen_any g q9 l9 _ HL9.out
            refine any_one (i := 1) rfl (by as_aux_lemma => kernel_rfl) (fun K hK => ?_)
            go_simp
            refine (Calls.mono (K1.out)) ?_
            rintro e _ ⟨rfl, rfl⟩
            clear K1
            go_wp2_with fail
            refine hK.out _ _ hS ?_
            clear hK K
            refine any_take (i := 7) (v := ?_) rfl (by as_aux_lemma => kernel_rfl) (by as_aux_lemma => kernel_rfl) (by as_aux_lemma => kernel_rfl) (by exact fun _ _ _ h => h) (by rfl) ?_ hS ?_
            rotate_left
            · ((intro w hSw; (try dsimp only at hSw); go_simp) <;> with_reducible rfl)
            (try simp only [Act.put, List.setIfInBounds_toArray, List.set_cons_zero, List.set_cons_succ])
            refine wpAnyH_done (by as_aux_lemma => kernel_rfl) ?_ _
            go_wp2
            go_roundw
            case rel => exact ⟨k + 1, by go_num, by omega, R8.out⟩
            case measure => simp [intOf]; omega
    · have hcs : ¬ (k : Int) < sl ∨ ((k : Int) < sl ∧ ¬ (k : Int) < 250) := by omega
      clear hcc
      have HA : Hid _ := rdAsk_nil 1 1 wr
      rcases hcs with h1 | ⟨h1, h2⟩
      all_goals
        go_wp2_with fail
        refine (Calls.mono HA.out) ?_
        rintro e x1 ⟨rfl, b1⟩
        have B1 : Hid _ := below_then HI.out.below b1
        have H2 : Hid _ := lawready_nil 5 x1
        clear b1 HA
        go_wp2_with fail
        refine (Calls.mono H2.out) ?_
        rintro e x2 ⟨⟨ra, rc, rfl⟩, b2⟩
        have B2 : Hid _ := below_then B1.out b2
        have H3 : Hid _ := rdDrop_nil x2
        clear b2 H2 B1
        go_wp2_with fail
        refine (Calls.mono H3.out) ?_
        rintro e x3 ⟨rfl, b3⟩
        have B3 : Hid _ := below_then B2.out b3
        have H4 : Hid _ := rdLen_nil x3
        clear b3 H3 B2
        go_wp2_with fail
        refine (Calls.mono H4.out) ?_
        rintro e x4 ⟨rfl, rfl⟩
        clear H4
        go_wp2_with fail
        refine (Calls.mono (HK.out _)) ?_
        rintro e x5 ⟨rfl, b5⟩
        have F : Hid _ := below_then B3.out b5
        clear b5 B3
        go_wp2
        go_ret
        exact ⟨rfl, F.out⟩
end Go.Proofs.Ytjelbekjmfnenaa
