/- An answer put where its number stands. -/
import Derived.Test.YtkcbbaanlkpeiaaXDd15
import Derived.Test.YtkcbbaanlkpeiaaXDrawE
namespace Go.Proofs.Ytkcbbaanlkpeiaa
open Go.RowKit
set_option linter.unusedVariables false
set_option linter.unusedSimpArgs false
set_option maxRecDepth 4000

theorem slot_uniq {l : List An} {n : Int} {i j : Nat} (h : SlotIs l n i) (k : SlotIs l n j) : i = j := by
  have := h.le
  have := k.le
  rcases Nat.lt_trichotomy i j with e | e | e
  · have h1 := h.hi i (by omega) (Nat.le_refl _)
    have h2 := k.lo i (by omega) e
    omega
  · exact e
  · have h1 := k.hi j (by omega) (Nat.le_refl _)
    have h2 := h.lo j (by omega) e
    omega
theorem tnd_of {R : Nat → Prop} {w w' : World} (h : Below w.heap.size w w') : Turned R w w' := (turned_below h).mono (fun _ h => h.elim)
/-- what Insert must do -/
def InsC (w : World) (v : Value) (i : Nat) (a b : Int) (s : ByteArray) (l' : List An) : Prop :=
  ∀ (W : World) (k : Nat), Below w.heap.size w W → Blk W k 90 [.int .i64 a, .int .i64 b, .string s] → w.heap.size ≤ k →
    Calls Try.prog 76 #[v, .int .i64 i, .slice (some ⟨k, 0, none⟩) 1 1] W fun e w' => ∃ v', e = .returned v' ∧ AOwn w' v' l' ∧ W.grownBy w' v.ownBlock ∧ (∀ k, v'.ownBlock = some k → v.ownBlock = some k ∨ W.heap.size ≤ k)
/-- what put leaves -/
structure PutR (R : Nat → Prop) (g o : Nat) (w : World) (v : Value) (l' : List An) (w' : World) (W : World) (v' : Value) : Prop where
  eq : w' = W.setCell ⟨g, o, none⟩ v'
  turned : Turned R w W
  own : AOwn W v' l'
  or : ∀ k, v'.ownBlock = some k → v.ownBlock = some k ∨ w.heap.size ≤ k
set_option maxHeartbeats 4000000 in
theorem ddput_any (R : Nat → Prop) (g o TG : Nat) (cs : List Value) (v : Value) (l l' : List An) (a b : Int) (s : ByteArray) (i : Nat) (w : World) (hG : Blk w g TG cs) (hco : cs[o]? = some v) (hRg : ¬ R g) (hRv : ∀ k, v.ownBlock = some k → R k) (hRn : ∀ k, R k → k < w.heap.size)
    (ho : AOwn w v l) (hr : Rise l) (hl : l.length ≤ 1000) (hi : SlotIs l b i) (hI : InsC w v i a b s l') :
    Calls Try.prog 57 #[.pointer (some ⟨g, o, none⟩), .agg #[.int .i64 a, .int .i64 b, .string s]] w fun e w' => e = .returned (.tuple #[]) ∧ ∃ W v', PutR R g o w v l' w' W v' := by
  have b0 : Below w.heap.size w (w.alloc (.cells #[.int .i64 a, .int .i64 b, .string s] 90)) := (Below.refl _ _).alloc (Nat.le_refl _) _
  have z0 : (w.alloc (.cells #[.int .i64 a, .int .i64 b, .string s] 90)).heap.size = w.heap.size + 1 := by simp
  have A0 := Blk.new' w 90 [.int .i64 a, .int .i64 b, .string s]
  have hm := meth_answer a b s
  have HN : Hid _ := an_number a b s
  have HI : Hid _ := hI
  have HO : Hid _ := And.intro ho (And.intro hr (And.intro hl hi))
  have HR : Hid _ := And.intro hRg (And.intro hRv hRn)
  obtain ⟨va, vc, hv, hvc, -⟩ := ho.open
  have hnew : ¬ R w.heap.size := fun e => by have := hRn _ e; omega
  have hG1 := hG.laterB b0
  have hcl : ∀ W, Turned R (w.alloc (.cells #[.int .i64 a, .int .i64 b, .string s] 90)) W → W.cell? ⟨g, o, none⟩ = some v := fun W hW => by rw [blk_at (hG1.turned hW hRg), hco]
  have hfz : Hid (∀ W, Turned R (w.alloc (.cells #[.int .i64 a, .int .i64 b, .string s] 90)) W → W.frozen? ⟨g, o, none⟩ = false) := fun W hW => blk_frozen (hG1.turned hW hRg) _
  have k0 : ∀ W, Turned R (w.alloc (.cells #[.int .i64 a, .int .i64 b, .string s] 90)) W → W.cell? ⟨w.heap.size, 0, none⟩ = some (.int .i64 a) := fun W hW => by rw [blk_at (A0.turned hW hnew)]; rfl
  have k1 : ∀ W, Turned R (w.alloc (.cells #[.int .i64 a, .int .i64 b, .string s] 90)) W → W.cell? ⟨w.heap.size, 1, none⟩ = some (.int .i64 b) := fun W hW => by rw [blk_at (A0.turned hW hnew)]; rfl
  have k2 : ∀ W, Turned R (w.alloc (.cells #[.int .i64 a, .int .i64 b, .string s] 90)) W → W.cell? ⟨w.heap.size, 2, none⟩ = some (.string s) := fun W hW => by rw [blk_at (A0.turned hW hnew)]; rfl
  have hsl : Hid (∀ W, Below w.heap.size w W → Calls Try.prog 70 #[.pointer (some ⟨g, o, none⟩), .int .i64 b] W fun e w' => e = .returned (.int .i64 i) ∧ Below W.heap.size W w') := fun W hW => by
    refine (ddslot_any g o v l b W (cell_later hW (by rw [blk_at hG, hco])) (ho.later hW) hr hl).mono ?_
    rintro e w' ⟨⟨j, rfl, hj⟩, hb⟩
    rw [slot_uniq hj hi]
    exact ⟨rfl, hb⟩
  have B0 : Hid _ := And.intro b0 z0
  rw [hv] at hcl
  have HV : Hid _ := hv
  clear hG hG1 hco A0 hI ho hr hi hRg hRv hRn hnew b0 z0 hv hl
  go_enter Try.func57, Try.ntmps57
  go_wp2_with fail
  generalize w.alloc (.cells #[.int .i64 a, .int .i64 b, .string s] 90) = w1 at *
  refine e_begin (S := fun W => Turned R w1 W) 15 (by kernel_rfl) (tnd_of (Below.refl _ _).drew) (fun hS => ?_)
  have C0 : Below w1.heap.size w1 w1.drew := (Below.refl _ _).drew
  refine e_take (i := 0) (v := ?_) [13, 14, 15] rfl (by kernel_rfl) (by kernel_rfl) (by kernel_rfl) (by kernel_rfl) (by exact fun _ _ _ h => h) (by rfl) ?_ hS ?_
  rotate_left
  · ((intro w hSw; (try dsimp only at hSw); go_simp) <;> with_reducible rfl)
  (try simp only [Act.put, List.setIfInBounds_toArray, List.set_cons_zero, List.set_cons_succ])
  refine e_take (i := 1) (v := ?_) [2, 3, 4, 12, 15] rfl (by kernel_rfl) (by kernel_rfl) (by kernel_rfl) (by kernel_rfl) (by exact fun _ _ _ h => h) (by rfl) ?_ hS ?_
  rotate_left
  · ((intro w hSw; (try dsimp only at hSw); go_simp) <;> with_reducible rfl)
  (try simp only [Act.put, List.setIfInBounds_toArray, List.set_cons_zero, List.set_cons_succ])
  refine e_take (i := 2) (v := ?_) [3, 4, 12, 15] rfl (by kernel_rfl) (by kernel_rfl) (by kernel_rfl) (by kernel_rfl) (by exact fun _ _ _ h => h) (by rfl) ?_ hS ?_
  rotate_left
  · ((intro w hSw; (try dsimp only at hSw); go_simp) <;> with_reducible rfl)
  (try simp only [Act.put, List.setIfInBounds_toArray, List.set_cons_zero, List.set_cons_succ])
  refine e_take (i := 3) (v := ?_) [4, 12, 15] rfl (by kernel_rfl) (by kernel_rfl) (by kernel_rfl) (by kernel_rfl) (by exact fun _ _ _ h => h) (by rfl) ?_ hS ?_
  rotate_left
  · ((intro w hSw; (try dsimp only at hSw); go_simp) <;> with_reducible rfl)
  (try simp only [Act.put, List.setIfInBounds_toArray, List.set_cons_zero, List.set_cons_succ])
  refine e_take (i := 4) (v := ?_) [12, 15] rfl (by kernel_rfl) (by kernel_rfl) (by kernel_rfl) (by kernel_rfl) (by exact fun _ _ _ h => h) (by rfl) ?_ hS ?_
  rotate_left
  · ((intro w hSw; (try dsimp only at hSw); go_simp) <;> with_reducible rfl)
  (try simp only [Act.put, List.setIfInBounds_toArray, List.set_cons_zero, List.set_cons_succ])
  refine e_take (i := 5) (v := ?_) [9, 12, 15] rfl (by kernel_rfl) (by kernel_rfl) (by kernel_rfl) (by kernel_rfl) (by exact fun _ _ _ h => h) (by rfl) ?_ hS ?_
  rotate_left
  · ((intro w hSw; (try dsimp only at hSw); go_simp) <;> with_reducible rfl)
  (try simp only [Act.put, List.setIfInBounds_toArray, List.set_cons_zero, List.set_cons_succ])
  refine e_take (i := 6) (v := ?_) [7, 8, 9, 12, 15] rfl (by kernel_rfl) (by kernel_rfl) (by kernel_rfl) (by kernel_rfl) (by exact fun _ _ _ h => h) (by rfl) ?_ hS ?_
  rotate_left
  · ((intro w hSw; (try dsimp only at hSw); go_simp) <;> with_reducible rfl)
  (try simp only [Act.put, List.setIfInBounds_toArray, List.set_cons_zero, List.set_cons_succ])
  refine e_take (i := 7) (v := ?_) [8, 9, 12, 15] rfl (by kernel_rfl) (by kernel_rfl) (by kernel_rfl) (by kernel_rfl) (by exact fun _ _ _ h => h) (by rfl) ?_ hS ?_
  rotate_left
  · ((intro w hSw; (try dsimp only at hSw); go_simp) <;> with_reducible rfl)
  (try simp only [Act.put, List.setIfInBounds_toArray, List.set_cons_zero, List.set_cons_succ])
  refine e_take (i := 10) (v := ?_) [11, 12, 15] rfl (by kernel_rfl) (by kernel_rfl) (by kernel_rfl) (by kernel_rfl) (by exact fun _ _ _ h => h) (by rfl) ?_ hS ?_
  rotate_left
  · ((intro w hSw; (try dsimp only at hSw); go_simp) <;> with_reducible rfl)
  (try simp only [Act.put, List.setIfInBounds_toArray, List.set_cons_zero, List.set_cons_succ])
  refine e_two (i := 8) (j := 11) rfl rfl (by kernel_rfl) (fun K hK => ?_) (fun K hK => ?_)
  · go_simp
    refine (Calls.mono (HN.out _)) ?_
    rintro e x1 ⟨rfl, hbR⟩
    have C1 : Below w1.heap.size w1 x1 := below_then C0 hbR
    go_wp2_with fail
    refine hK.out _ _ (tnd_of C1) (fun hS => ?_)
    clear hK K hbR
    refine e_two (i := 9) (j := 11) rfl rfl (by kernel_rfl) (fun K hK => ?_) (fun K hK => ?_)
    · go_simp
      refine (Calls.mono (hsl.out _ (below_then B0.out.1 C1))) ?_
      rintro e x2 ⟨rfl, hbR⟩
      have C2 : Below w1.heap.size w1 x2 := below_then C1 hbR
      go_wp2_with fail
      refine hK.out _ _ (tnd_of C2) (fun hS => ?_)
      clear hK K hbR
      refine e_one (i := 11) rfl (by kernel_rfl) (fun K hK => ?_)
      go_simp
      have C3 := (C2.alloc C2.size (.cells #[.int .i64 a, .int .i64 b, .string s] 90))
      have BK := Blk.new' x2 90 [.int .i64 a, .int .i64 b, .string s]
      refine hK.out _ _ (tnd_of C3) (fun hS => ?_)
      clear hK K
      have I1 : Hid _ := HI.out _ _ (below_then B0.out.1 C3) BK (by have := B0.out.2; have := C2.size; first | omega | (simp; omega))
      have CB : Hid _ := C3
      refine e_one (i := 12) rfl (by kernel_rfl) (fun K hK => ?_)
      go_simp
      rw [← HV.out]
      refine (Calls.mono I1.out) ?_
      rintro e y ⟨v', rfl, ho', hgr, hor⟩
      obtain ⟨va', vc', hv', -, -⟩ := ho'.open
      have HY : Turned R w1 y := (tnd_of CB.out).trans (turned_grown hgr (fun k e => .inl (HR.out.2.1 k e)))
      have y1 := hcl y HY
      have y2 := hfz.out y HY
      have F : Hid (PutR R g o w v l' (y.setCell ⟨g, o, none⟩ v') y v') := ⟨rfl, (tnd_of B0.out.1).trans (HY.mono (fun k e => .inl e)), ho', fun k e => (hor k e).imp id (fun q => by have := B0.out.2; have := CB.out.size; first | omega | (simp at q; omega))⟩
      have HV' : Hid _ := hv'
      clear ho' hgr hor
      subst hv'
      go_wp2_with fail
      refine hK.out _ _ HY (fun hS => ?_)
      clear hK K HY
      refine e_take (i := 13) (v := ?_) [14, 15] rfl (by kernel_rfl) (by kernel_rfl) (by kernel_rfl) (by kernel_rfl) (by exact fun _ _ _ h => h) (by rfl) ?_ hS ?_
      rotate_left
      · ((intro w hSw; (try dsimp only at hSw); go_simp) <;> with_reducible rfl)
      (try simp only [Act.put, List.setIfInBounds_toArray, List.set_cons_zero, List.set_cons_succ])
      refine e_take (i := 14) (v := ?_) [15] rfl (by kernel_rfl) (by kernel_rfl) (by kernel_rfl) (by kernel_rfl) (by exact fun _ _ _ h => h) (by rfl) ?_ hS ?_
      rotate_left
      · ((intro w hSw; (try dsimp only at hSw); go_simp) <;> with_reducible rfl)
      (try simp only [Act.put, List.setIfInBounds_toArray, List.set_cons_zero, List.set_cons_succ])
      clear hS
      refine e_last (z := 15) rfl (by kernel_rfl) (fun K hK => ?_)
      go_simp
      refine hK.out _ _ ?_
      clear hK K
      refine e_done (by kernel_rfl) ?_ _
      go_wp2
      go_end0
      exact ⟨rfl, y, _, F.out⟩
    · go_simp
      have C2 := (C1.alloc C1.size (.cells #[.int .i64 a, .int .i64 b, .string s] 90))
      have BK := Blk.new' x1 90 [.int .i64 a, .int .i64 b, .string s]
      refine hK.out _ _ (tnd_of C2) (fun hS => ?_)
      clear hK K
      refine e_one (i := 9) rfl (by kernel_rfl) (fun K hK => ?_)
      go_simp
      refine (Calls.mono (hsl.out _ (below_then B0.out.1 C2))) ?_
      rintro e x2 ⟨rfl, hbR⟩
      have C3 : Below w1.heap.size w1 x2 := below_then C2 hbR
      go_wp2_with fail
      refine hK.out _ _ (tnd_of C3) (fun hS => ?_)
      have BK := BK.laterB hbR
      clear hK K hbR
      have I1 : Hid _ := HI.out _ _ (below_then B0.out.1 C3) BK (by have := B0.out.2; have := C1.size; first | omega | (simp; omega))
      have CB : Hid _ := C3
      refine e_one (i := 12) rfl (by kernel_rfl) (fun K hK => ?_)
      go_simp
      rw [← HV.out]
      refine (Calls.mono I1.out) ?_
      rintro e y ⟨v', rfl, ho', hgr, hor⟩
      obtain ⟨va', vc', hv', -, -⟩ := ho'.open
      have HY : Turned R w1 y := (tnd_of CB.out).trans (turned_grown hgr (fun k e => .inl (HR.out.2.1 k e)))
      have y1 := hcl y HY
      have y2 := hfz.out y HY
      have F : Hid (PutR R g o w v l' (y.setCell ⟨g, o, none⟩ v') y v') := ⟨rfl, (tnd_of B0.out.1).trans (HY.mono (fun k e => .inl e)), ho', fun k e => (hor k e).imp id (fun q => by have := B0.out.2; have := CB.out.size; first | omega | (simp at q; omega))⟩
      have HV' : Hid _ := hv'
      clear ho' hgr hor
      subst hv'
      go_wp2_with fail
      refine hK.out _ _ HY (fun hS => ?_)
      clear hK K HY
      refine e_take (i := 13) (v := ?_) [14, 15] rfl (by kernel_rfl) (by kernel_rfl) (by kernel_rfl) (by kernel_rfl) (by exact fun _ _ _ h => h) (by rfl) ?_ hS ?_
      rotate_left
      · ((intro w hSw; (try dsimp only at hSw); go_simp) <;> with_reducible rfl)
      (try simp only [Act.put, List.setIfInBounds_toArray, List.set_cons_zero, List.set_cons_succ])
      refine e_take (i := 14) (v := ?_) [15] rfl (by kernel_rfl) (by kernel_rfl) (by kernel_rfl) (by kernel_rfl) (by exact fun _ _ _ h => h) (by rfl) ?_ hS ?_
      rotate_left
      · ((intro w hSw; (try dsimp only at hSw); go_simp) <;> with_reducible rfl)
      (try simp only [Act.put, List.setIfInBounds_toArray, List.set_cons_zero, List.set_cons_succ])
      clear hS
      refine e_last (z := 15) rfl (by kernel_rfl) (fun K hK => ?_)
      go_simp
      refine hK.out _ _ ?_
      clear hK K
      refine e_done (by kernel_rfl) ?_ _
      go_wp2
      go_end0
      exact ⟨rfl, y, _, F.out⟩
  · go_simp
    have C1 := (C0.alloc C0.size (.cells #[.int .i64 a, .int .i64 b, .string s] 90))
    have BK := Blk.new' w1.drew 90 [.int .i64 a, .int .i64 b, .string s]
    refine hK.out _ _ (tnd_of C1) (fun hS => ?_)
    clear hK K
    refine e_one (i := 8) rfl (by kernel_rfl) (fun K hK => ?_)
    go_simp
    refine (Calls.mono (HN.out _)) ?_
    rintro e x1 ⟨rfl, hbR⟩
    have C2 : Below w1.heap.size w1 x1 := below_then C1 hbR
    go_wp2_with fail
    refine hK.out _ _ (tnd_of C2) (fun hS => ?_)
    have BK := BK.laterB hbR
    clear hK K hbR
    refine e_one (i := 9) rfl (by kernel_rfl) (fun K hK => ?_)
    go_simp
    refine (Calls.mono (hsl.out _ (below_then B0.out.1 C2))) ?_
    rintro e x2 ⟨rfl, hbR⟩
    have C3 : Below w1.heap.size w1 x2 := below_then C2 hbR
    go_wp2_with fail
    refine hK.out _ _ (tnd_of C3) (fun hS => ?_)
    have BK := BK.laterB hbR
    clear hK K hbR
    have I1 : Hid _ := HI.out _ _ (below_then B0.out.1 C3) BK (by have := B0.out.2; have := C0.size; first | omega | (simp; omega))
    have CB : Hid _ := C3
    refine e_one (i := 12) rfl (by kernel_rfl) (fun K hK => ?_)
    go_simp
    rw [← HV.out]
    refine (Calls.mono I1.out) ?_
    rintro e y ⟨v', rfl, ho', hgr, hor⟩
    obtain ⟨va', vc', hv', -, -⟩ := ho'.open
    have HY : Turned R w1 y := (tnd_of CB.out).trans (turned_grown hgr (fun k e => .inl (HR.out.2.1 k e)))
    have y1 := hcl y HY
    have y2 := hfz.out y HY
    have F : Hid (PutR R g o w v l' (y.setCell ⟨g, o, none⟩ v') y v') := ⟨rfl, (tnd_of B0.out.1).trans (HY.mono (fun k e => .inl e)), ho', fun k e => (hor k e).imp id (fun q => by have := B0.out.2; have := CB.out.size; first | omega | (simp at q; omega))⟩
    have HV' : Hid _ := hv'
    clear ho' hgr hor
    subst hv'
    go_wp2_with fail
    refine hK.out _ _ HY (fun hS => ?_)
    clear hK K HY
    refine e_take (i := 13) (v := ?_) [14, 15] rfl (by kernel_rfl) (by kernel_rfl) (by kernel_rfl) (by kernel_rfl) (by exact fun _ _ _ h => h) (by rfl) ?_ hS ?_
    rotate_left
    · ((intro w hSw; (try dsimp only at hSw); go_simp) <;> with_reducible rfl)
    (try simp only [Act.put, List.setIfInBounds_toArray, List.set_cons_zero, List.set_cons_succ])
    refine e_take (i := 14) (v := ?_) [15] rfl (by kernel_rfl) (by kernel_rfl) (by kernel_rfl) (by kernel_rfl) (by exact fun _ _ _ h => h) (by rfl) ?_ hS ?_
    rotate_left
    · ((intro w hSw; (try dsimp only at hSw); go_simp) <;> with_reducible rfl)
    (try simp only [Act.put, List.setIfInBounds_toArray, List.set_cons_zero, List.set_cons_succ])
    clear hS
    refine e_last (z := 15) rfl (by kernel_rfl) (fun K hK => ?_)
    go_simp
    refine hK.out _ _ ?_
    clear hK K
    refine e_done (by kernel_rfl) ?_ _
    go_wp2
    go_end0
    exact ⟨rfl, y, _, F.out⟩
end Go.Proofs.Ytkcbbaanlkpeiaa

