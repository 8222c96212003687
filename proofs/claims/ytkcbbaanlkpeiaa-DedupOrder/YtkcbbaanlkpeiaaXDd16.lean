/- An answer put where its number stands. -/
import Derived.Test.YtkcbbaanlkpeiaaXDd10
import Derived.Test.YtkcbbaanlkpeiaaXDraw
namespace Go.Proofs.Ytkcbbaanlkpeiaa
open Go.RowKit
set_option linter.unusedVariables false
set_option linter.unusedSimpArgs false
set_option maxRecDepth 4000

theorem slot_uniq {l : List An} {n : Int} {i j : Nat} (h : SlotIs l n i) (k : SlotIs l n j) : i = j := by
  have := h.le
  have := k.le
  rcases Nat.lt_trichotomy i j with e | e | e
  · have h1 := h.hi i (by omega) (Nat.le_refl _)
    have h2 := k.lo i (by omega) e
    omega
  · exact e
  · have h1 := k.hi j (by omega) (Nat.le_refl _)
    have h2 := h.lo j (by omega) e
    omega
theorem tnd_of {R : Nat → Prop} {w w' : World} (h : Below w.heap.size w w') : Turned R w w' := (turned_below h).mono (fun _ h => h.elim)
/-- what Insert must do -/
def InsC (w : World) (v : Value) (i : Nat) (a b : Int) (s : ByteArray) (l' : List An) : Prop :=
  ∀ (W : World) (k : Nat), Below w.heap.size w W → Blk W k 90 [.int .i64 a, .int .i64 b, .string s] → w.heap.size ≤ k →
    Calls Try.prog 76 #[v, .int .i64 i, .slice (some ⟨k, 0, none⟩) 1 1] W fun e w' => ∃ v', e = .returned v' ∧ AOwn w' v' l' ∧ W.grownBy w' v.ownBlock ∧ (∀ k, v'.ownBlock = some k → v.ownBlock = some k ∨ W.heap.size ≤ k)
/-- what put leaves -/
structure PutR (R : Nat → Prop) (g o : Nat) (w : World) (v : Value) (l' : List An) (w' : World) (W : World) (v' : Value) : Prop where
  eq : w' = W.setCell ⟨g, o, none⟩ v'
  turned : Turned R w W
  own : AOwn W v' l'
  or : ∀ k, v'.ownBlock = some k → v.ownBlock = some k ∨ w.heap.size ≤ k
set_option maxHeartbeats 4000000 in
theorem ddput_any (R : Nat → Prop) (g o TG : Nat) (cs : List Value) (v : Value) (l l' : List An) (a b : Int) (s : ByteArray) (i : Nat) (w : World) (hG : Blk w g TG cs) (hco : cs[o]? = some v) (hRg : ¬ R g) (hRv : ∀ k, v.ownBlock = some k → R k) (hRn : ∀ k, R k → k < w.heap.size)
    (ho : AOwn w v l) (hr : Rise l) (hl : l.length ≤ 1000) (hi : SlotIs l b i) (hI : InsC w v i a b s l') :
    Calls Try.prog 57 #[.pointer (some ⟨g, o, none⟩), .agg #[.int .i64 a, .int .i64 b, .string s]] w fun e w' => e = .returned (.tuple #[]) ∧ ∃ W v', PutR R g o w v l' w' W v' := by
  have b0 : Below w.heap.size w (w.alloc (.cells #[.int .i64 a, .int .i64 b, .string s] 90)) := (Below.refl _ _).alloc (Nat.le_refl _) _
  have z0 : (w.alloc (.cells #[.int .i64 a, .int .i64 b, .string s] 90)).heap.size = w.heap.size + 1 := by simp
  have A0 := Blk.new' w 90 [.int .i64 a, .int .i64 b, .string s]
  have hm := meth_answer a b s
  have HN : Hid _ := an_number a b s
  have HI : Hid _ := hI
  have HO : Hid _ := And.intro ho (And.intro hr (And.intro hl hi))
  have HR : Hid _ := And.intro hRg (And.intro hRv hRn)
  obtain ⟨va, vc, hv, hvc, -⟩ := ho.open
  have hnew : ¬ R w.heap.size := fun e => by have := hRn _ e; omega
  have hG1 := hG.laterB b0
  have hcl : ∀ W, Turned R (w.alloc (.cells #[.int .i64 a, .int .i64 b, .string s] 90)) W → W.cell? ⟨g, o, none⟩ = some v := fun W hW => by rw [blk_at (hG1.turned hW hRg), hco]
  have hfz : Hid (∀ W, Turned R (w.alloc (.cells #[.int .i64 a, .int .i64 b, .string s] 90)) W → W.frozen? ⟨g, o, none⟩ = false) := fun W hW => blk_frozen (hG1.turned hW hRg) _
  have k0 : ∀ W, Turned R (w.alloc (.cells #[.int .i64 a, .int .i64 b, .string s] 90)) W → W.cell? ⟨w.heap.size, 0, none⟩ = some (.int .i64 a) := fun W hW => by rw [blk_at (A0.turned hW hnew)]; rfl
  have k1 : ∀ W, Turned R (w.alloc (.cells #[.int .i64 a, .int .i64 b, .string s] 90)) W → W.cell? ⟨w.heap.size, 1, none⟩ = some (.int .i64 b) := fun W hW => by rw [blk_at (A0.turned hW hnew)]; rfl
  have k2 : ∀ W, Turned R (w.alloc (.cells #[.int .i64 a, .int .i64 b, .string s] 90)) W → W.cell? ⟨w.heap.size, 2, none⟩ = some (.string s) := fun W hW => by rw [blk_at (A0.turned hW hnew)]; rfl
  have hsl : Hid (∀ W, Below w.heap.size w W → Calls Try.prog 70 #[.pointer (some ⟨g, o, none⟩), .int .i64 b] W fun e w' => e = .returned (.int .i64 i) ∧ Below W.heap.size W w') := fun W hW => by
    refine (ddslot_any g o v l b W (cell_later hW (by rw [blk_at hG, hco])) (ho.later hW) hr hl).mono ?_
    rintro e w' ⟨⟨j, rfl, hj⟩, hb⟩
    rw [slot_uniq hj hi]
    exact ⟨rfl, hb⟩
  have B0 : Hid _ := And.intro b0 z0
  rw [hv] at hcl
  have HV : Hid _ := hv
  clear hG hG1 hco A0 hI ho hr hi hRg hRv hRn hnew b0 z0 hv hl
  go_enter Try.func57, Try.ntmps57
  go_wp2_with fail
  generalize w.alloc (.cells #[.int .i64 a, .int .i64 b, .string s] 90) = w1 at *
  refine e_begin (S := fun W => Turned R w1 W) 15 (by kernel_rfl) (tnd_of (Below.refl _ _).drew) (fun hS => ?_)
  have C0 : Below w1.heap.size w1 w1.drew := (Below.refl _ _).drew
  refine e_take (i := 0) (v := ?_) [13, 14, 15] rfl (by kernel_rfl) (by kernel_rfl) (by kernel_rfl) (by kernel_rfl) (by exact fun _ _ _ h => h) (by rfl) ?_ hS ?_
  rotate_left
  · ((intro w hSw; (try dsimp only at hSw); go_simp) <;> with_reducible rfl)
  (try simp only [Act.put, List.setIfInBounds_toArray, List.set_cons_zero, List.set_cons_succ])
  refine e_take (i := 1) (v := ?_) [2, 3, 4, 12, 15] rfl (by kernel_rfl) (by kernel_rfl) (by kernel_rfl) (by kernel_rfl) (by exact fun _ _ _ h => h) (by rfl) ?_ hS ?_
  rotate_left
  · ((intro w hSw; (try dsimp only at hSw); go_simp) <;> with_reducible rfl)
  (try simp only [Act.put, List.setIfInBounds_toArray, List.set_cons_zero, List.set_cons_succ])
  refine e_take (i := 2) (v := ?_) [3, 4, 12, 15] rfl (by kernel_rfl) (by kernel_rfl) (by kernel_rfl) (by kernel_rfl) (by exact fun _ _ _ h => h) (by rfl) ?_ hS ?_
  rotate_left
  · ((intro w hSw; (try dsimp only at hSw); go_simp) <;> with_reducible rfl)
  (try simp only [Act.put, List.setIfInBounds_toArray, List.set_cons_zero, List.set_cons_succ])
  refine e_take (i := 3) (v := ?_) [4, 12, 15] rfl (by kernel_rfl) (by kernel_rfl) (by kernel_rfl) (by kernel_rfl) (by exact fun _ _ _ h => h) (by rfl) ?_ hS ?_
  rotate_left
  · ((intro w hSw; (try dsimp only at hSw); go_simp) <;> with_reducible rfl)
  (try simp only [Act.put, List.setIfInBounds_toArray, List.set_cons_zero, List.set_cons_succ])
  refine e_take (i := 4) (v := ?_) [12, 15] rfl (by kernel_rfl) (by kernel_rfl) (by kernel_rfl) (by kernel_rfl) (by exact fun _ _ _ h => h) (by rfl) ?_ hS ?_
  rotate_left
  · ((intro w hSw; (try dsimp only at hSw); go_simp) <;> with_reducible rfl)
  (try simp only [Act.put, List.setIfInBounds_toArray, List.set_cons_zero, List.set_cons_succ])
  refine e_take (i := 5) (v := ?_) [9, 12, 15] rfl (by kernel_rfl) (by kernel_rfl) (by kernel_rfl) (by kernel_rfl) (by exact fun _ _ _ h => h) (by rfl) ?_ hS ?_
  rotate_left
  · ((intro w hSw; (try dsimp only at hSw); go_simp) <;> with_reducible rfl)
  (try simp only [Act.put, List.setIfInBounds_toArray, List.set_cons_zero, List.set_cons_succ])
  refine e_take (i := 6) (v := ?_) [7, 8, 9, 12, 15] rfl (by kernel_rfl) (by kernel_rfl) (by kernel_rfl) (by kernel_rfl) (by exact fun _ _ _ h => h) (by rfl) ?_ hS ?_
  rotate_left
  · ((intro w hSw; (try dsimp only at hSw); go_simp) <;> with_reducible rfl)
  (try simp only [Act.put, List.setIfInBounds_toArray, List.set_cons_zero, List.set_cons_succ])
  refine e_take (i := 7) (v := ?_) [8, 9, 12, 15] rfl (by kernel_rfl) (by kernel_rfl) (by kernel_rfl) (by kernel_rfl) (by exact fun _ _ _ h => h) (by rfl) ?_ hS ?_
  rotate_left
  · ((intro w hSw; (try dsimp only at hSw); go_simp) <;> with_reducible rfl)
  (try simp only [Act.put, List.setIfInBounds_toArray, List.set_cons_zero, List.set_cons_succ])
  refine e_take (i := 10) (v := ?_) [11, 12, 15] rfl (by kernel_rfl) (by kernel_rfl) (by kernel_rfl) (by kernel_rfl) (by exact fun _ _ _ h => h) (by rfl) ?_ hS ?_
  rotate_left
  · ((intro w hSw; (try dsimp only at hSw); go_simp) <;> with_reducible rfl)
  (try simp only [Act.put, List.setIfInBounds_toArray, List.set_cons_zero, List.set_cons_succ])
  refine e_two (i := 8) (j := 11) rfl rfl (by kernel_rfl) (fun K hK => ?_) (fun K hK => ?_)
  · go_simp
    refine (Calls.mono (HN.out _)) ?_
    rintro e x1 ⟨rfl, hbR⟩
    have C1 : Below w1.heap.size w1 x1 := below_then C0 hbR
    go_wp2_with fail
    refine hK.out _ _ (tnd_of C1) (fun hS => ?_)
    clear hK K hbR
    refine e_two (i := 9) (j := 11) rfl rfl (by kernel_rfl) (fun K hK => ?_) (fun K hK => ?_)
    · go_simp
      refine (Calls.mono (hsl.out _ (below_then B0.out.1 C1))) ?_
      rintro e x2 ⟨rfl, hbR⟩
      have C2 : Below w1.heap.size w1 x2 := below_then C1 hbR
      go_wp2_with fail
      refine hK.out _ _ (tnd_of C2) (fun hS => ?_)
      clear hK K hbR
      refine e_one (i := 11) rfl (by kernel_rfl) (fun K hK => ?_)
      go_simp
      have C3 := (C2.alloc C2.size (.cells #[.int .i64 a, .int .i64 b, .string s] 90))
      have BK := Blk.new' x2 90 [.int .i64 a, .int .i64 b, .string s]
      refine hK.out _ _ (tnd_of C3) (fun hS => ?_)
      clear hK K
      have I1 : Hid _ := HI.out _ _ (below_then B0.out.1 C3) BK (by have := B0.out.2; have := C2.size; first | omega | (simp; omega))
      have CB : Hid _ := C3
      refine e_one (i := 12) rfl (by kernel_rfl) (fun K hK => ?_)
      go_simp
      rw [← HV.out]
      refine (Calls.mono I1.out) ?_
      rintro e y ⟨v', rfl, ho', hgr, hor⟩
      obtain ⟨va', vc', hv', -, -⟩ := ho'.open
      have HY : Turned R w1 y := (tnd_of CB.out).trans (turned_grown hgr (fun k e => .inl (HR.out.2.1 k e)))
      have y1 := hcl y HY
      have y2 := hfz.out y HY
      have F : Hid (PutR R g o w v l' (y.setCell ⟨g, o, none⟩ v') y v') := ⟨rfl, (tnd_of B0.out.1).trans (HY.mono (fun k e => .inl e)), ho', fun k e => (hor k e).imp id (fun q => by have := B0.out.2; have := CB.out.size; first | omega | (simp at q; omega))⟩
      have HV' : Hid _ := hv'
      clear ho' hgr hor
      subst hv'
      go_wp2_with fail
      refine hK.out _ _ HY (fun hS => ?_)
      clear hK K HY
      refine e_take (i := 13) (v := ?_) [14, 15] rfl (by kernel_rfl) (by kernel_rfl) (by kernel_rfl) (by kernel_rfl) (by exact fun _ _ _ h => h) (by rfl) ?_ hS ?_
      rotate_left
      · ((intro w hSw; (try dsimp only at hSw); go_simp) <;> with_reducible rfl)
      (try simp only [Act.put, List.setIfInBounds_toArray, List.set_cons_zero, List.set_cons_succ])
      refine e_take (i := 14) (v := ?_) [15] rfl (by kernel_rfl) (by kernel_rfl) (by kernel_rfl) (by kernel_rfl) (by exact fun _ _ _ h => h) (by rfl) ?_ hS ?_
      rotate_left
      · ((intro w hSw; (try dsimp only at hSw); go_simp) <;> with_reducible rfl)
      (try simp only [Act.put, List.setIfInBounds_toArray, List.set_cons_zero, List.set_cons_succ])
      clear hS
      refine e_last (z := 15) rfl (by kernel_rfl) (fun K hK => ?_)
      go_simp
      refine hK.out _ _ ?_
      clear hK K
      refine e_done (by kernel_rfl) ?_ _
      go_wp2
      go_end0
      exact ⟨rfl, y, _, F.out⟩
    · go_simp
      have C2 := (C1.alloc C1.size (.cells #[.int .i64 a, .int .i64 b, .string s] 90))
      have BK := Blk.new' x1 90 [.int .i64 a, .int .i64 b, .string s]
      refine hK.out _ _ (tnd_of C2) (fun hS => ?_)
      clear hK K
      refine e_one (i := 9) rfl (by kernel_rfl) (fun K hK => ?_)
      go_simp
      refine (Calls.mono (hsl.out _ (below_then B0.out.1 C2))) ?_
      rintro e x2 ⟨rfl, hbR⟩
      have C3 : Below w1.heap.size w1 x2 := below_then C2 hbR
      go_wp2_with fail
      refine hK.out _ _ (tnd_of C3) (fun hS => ?_)
      have BK := BK.laterB hbR
      clear hK K hbR
      have I1 : Hid _ := HI.out _ _ (below_then B0.out.1 C3) BK (by have := B0.out.2; have := C1.size; first | omega | (simp; omega))
      have CB : Hid _ := C3
      refine e_one (i := 12) rfl (by kernel_rfl) (fun K hK => ?_)
      go_simp
      rw [← HV.out]
      refine (Calls.mono I1.out) ?_
      rintro e y ⟨v', rfl, ho', hgr, hor⟩
      obtain ⟨va', vc', hv', -, -⟩ := ho'.open
      have HY : Turned R w1 y := (tnd_of CB.out).trans (turned_grown hgr (fun k e => .inl (HR.out.2.1 k e)))
      have y1 := hcl y HY
      have y2 := hfz.out y HY
      have F : Hid (PutR R g o w v l' (y.setCell ⟨g, o, none⟩ v') y v') := ⟨rfl, (tnd_of B0.out.1).trans (HY.mono (fun k e => .inl e)), ho', fun k e => (hor k e).imp id (fun q => by have := B0.out.2; have := CB.out.size; first | omega | (simp at q; omega))⟩
      have HV' : Hid _ := hv'
      clear ho' hgr hor
      subst hv'
      go_wp2_with fail
      refine hK.out _ _ HY (fun hS => ?_)
      clear hK K HY
      refine e_take (i := 13) (v := ?_) [14, 15] rfl (by kernel_rfl) (by kernel_rfl) (by kernel_rfl) (by kernel_rfl) (by exact fun _ _ _ h => h) (by rfl) ?_ hS ?_
      rotate_left
      · ((intro w hSw; (try dsimp only at hSw); go_simp) <;> with_reducible rfl)
      (try simp only [Act.put, List.setIfInBounds_toArray, List.set_cons_zero, List.set_cons_succ])
      refine e_take (i := 14) (v := ?_) [15] rfl (by kernel_rfl) (by kernel_rfl) (by kernel_rfl) (by kernel_rfl) (by exact fun _ _ _ h => h) (by rfl) ?_ hS ?_
      rotate_left
      · ((intro w hSw; (try dsimp only at hSw); go_simp) <;> with_reducible rfl)
      (try simp only [Act.put, List.setIfInBounds_toArray, List.set_cons_zero, List.set_cons_succ])
      clear hS
      refine e_last (z := 15) rfl (by kernel_rfl) (fun K hK => ?_)
      go_simp
      refine hK.out _ _ ?_
      clear hK K
      refine e_done (by kernel_rfl) ?_ _
      go_wp2
      go_end0
      exact ⟨rfl, y, _, F.out⟩
  · go_simp
    have C1 := (C0.alloc C0.size (.cells #[.int .i64 a, .int .i64 b, .string s] 90))
    have BK := Blk.new' w1.drew 90 [.int .i64 a, .int .i64 b, .string s]
    refine hK.out _ _ (tnd_of C1) (fun hS => ?_)
    clear hK K
    refine e_one (i := 8) rfl (by kernel_rfl) (fun K hK => ?_)
    go_simp
    refine (Calls.mono (HN.out _)) ?_
    rintro e x1 ⟨rfl, hbR⟩
    have C2 : Below w1.heap.size w1 x1 := below_then C1 hbR
    go_wp2_with fail
    refine hK.out _ _ (tnd_of C2) (fun hS => ?_)
    have BK := BK.laterB hbR
    clear hK K hbR
    refine e_one (i := 9) rfl (by kernel_rfl) (fun K hK => ?_)
    go_simp
    refine (Calls.mono (hsl.out _ (below_then B0.out.1 C2))) ?_
    rintro e x2 ⟨rfl, hbR⟩
    have C3 : Below w1.heap.size w1 x2 := below_then C2 hbR
    go_wp2_with fail
    refine hK.out _ _ (tnd_of C3) (fun hS => ?_)
    have BK := BK.laterB hbR
    clear hK K hbR
    have I1 : Hid _ := HI.out _ _ (below_then B0.out.1 C3) BK (by have := B0.out.2; have := C0.size; first | omega | (simp; omega))
    have CB : Hid _ := C3
    refine e_one (i := 12) rfl (by kernel_rfl) (fun K hK => ?_)
    go_simp
    rw [← HV.out]
    refine (Calls.mono I1.out) ?_
    rintro e y ⟨v', rfl, ho', hgr, hor⟩
    obtain ⟨va', vc', hv', -, -⟩ := ho'.open
    have HY : Turned R w1 y := (tnd_of CB.out).trans (turned_grown hgr (fun k e => .inl (HR.out.2.1 k e)))
    have y1 := hcl y HY
    have y2 := hfz.out y HY
    have F : Hid (PutR R g o w v l' (y.setCell ⟨g, o, none⟩ v') y v') := ⟨rfl, (tnd_of B0.out.1).trans (HY.mono (fun k e => .inl e)), ho', fun k e => (hor k e).imp id (fun q => by have := B0.out.2; have := CB.out.size; first | omega | (simp at q; omega))⟩
    have HV' : Hid _ := hv'
    clear ho' hgr hor
    subst hv'
    go_wp2_with fail
    refine hK.out _ _ HY (fun hS => ?_)
    clear hK K HY
    refine e_take (i := 13) (v := ?_) [14, 15] rfl (by kernel_rfl) (by kernel_rfl) (by kernel_rfl) (by kernel_rfl) (by exact fun _ _ _ h => h) (by rfl) ?_ hS ?_
    rotate_left
    · ((intro w hSw; (try dsimp only at hSw); go_simp) <;> with_reducible rfl)
    (try simp only [Act.put, List.setIfInBounds_toArray, List.set_cons_zero, List.set_cons_succ])
    refine e_take (i := 14) (v := ?_) [15] rfl (by kernel_rfl) (by kernel_rfl) (by kernel_rfl) (by kernel_rfl) (by exact fun _ _ _ h => h) (by rfl) ?_ hS ?_
    rotate_left
    · ((intro w hSw; (try dsimp only at hSw); go_simp) <;> with_reducible rfl)
    (try simp only [Act.put, List.setIfInBounds_toArray, List.set_cons_zero, List.set_cons_succ])
    clear hS
    refine e_last (z := 15) rfl (by kernel_rfl) (fun K hK => ?_)
    go_simp
    refine hK.out _ _ ?_
    clear hK K
    refine e_done (by kernel_rfl) ?_ _
    go_wp2
    go_end0
    exact ⟨rfl, y, _, F.out⟩
end Go.Proofs.Ytkcbbaanlkpeiaa

/- An answer is kept, and none goes. -/
namespace Go.Proofs.Ytkcbbaanlkpeiaa
open Go.RowKit
set_option linter.unusedVariables false
set_option linter.unusedSimpArgs false
set_option maxRecDepth 4000

theorem InsC.later {w w' : World} {v : Value} {i : Nat} {a b : Int} {s : ByteArray} {l' : List An} (h : InsC w v i a b s l') (hb : Below w.heap.size w w') : InsC w' v i a b s l' :=
  fun W k hW hB hk => h W k (below_then hb hW) hB (Nat.le_trans hb.size hk)
theorem PutR.since {R : Nat → Prop} {g o : Nat} {w w0 w' W : World} {v v' : Value} {l' : List An} (h : PutR R g o w v l' w' W v') (hb : Below w0.heap.size w0 w) : PutR R g o w0 v l' w' W v' :=
  ⟨h.eq, (tnd_of hb).trans (h.turned.mono (fun k e => .inl e)), h.own, fun k e => (h.or k e).imp id (fun q => Nat.le_trans hb.size q)⟩
theorem ddsize_any (g o : Nat) (va : Option Addr) (n vc : Nat) (w : World) (hc : w.cell? ⟨g, o, none⟩ = some (.slice va n vc)) :
    Calls Try.prog 34 #[.pointer (some ⟨g, o, none⟩)] w fun e w' => e = .returned (.int .i64 n) ∧ w = w' := by
  go_enter Try.func34, Try.ntmps34
  go_wp2
  go_ret
  exact ⟨rfl, rfl⟩
set_option maxHeartbeats 4000000 in
theorem ddkeep_few (R : Nat → Prop) (g o TG : Nat) (cs : List Value) (v : Value) (l l' : List An) (a b : Int) (s : ByteArray) (i : Nat) (w : World) (hG : Blk w g TG cs) (hco : cs[o + 1]? = some v) (hRg : ¬ R g) (hRv : ∀ k, v.ownBlock = some k → R k) (hRn : ∀ k, R k → k < w.heap.size)
    (ho : AOwn w v l) (hr : Rise l) (hl : l.length ≤ 1000) (hi : SlotIs l b i) (hI : InsC w v i a b s l') (hfew : l'.length ≤ 64) :
    Calls Try.prog 44 #[.pointer (some ⟨g, o, none⟩), .agg #[.int .i64 a, .int .i64 b, .string s]] w fun e w' => e = .returned (.tuple #[]) ∧ ∃ W v', PutR R g (o + 1) w v l' w' W v' := by
  have b0 : Below w.heap.size w (w.alloc (.cells #[.int .i64 a, .int .i64 b, .string s] 90)) := (Below.refl _ _).alloc (Nat.le_refl _) _
  have A0 := Blk.new' w 90 [.int .i64 a, .int .i64 b, .string s]
  have HP : Hid (∀ W, Below w.heap.size w W → Calls Try.prog 57 #[.pointer (some ⟨g, o + 1, none⟩), .agg #[.int .i64 a, .int .i64 b, .string s]] W fun e w' => e = .returned (.tuple #[]) ∧ ∃ W1 v', PutR R g (o + 1) w v l' w' W1 v') := fun W hW => by
    refine (ddput_any R g (o + 1) TG cs v l l' a b s i W (hG.laterB hW) hco hRg hRv (fun k e => Nat.lt_of_lt_of_le (hRn k e) hW.size) (ho.later hW) hr hl hi (hI.later hW)).mono ?_
    rintro e w' ⟨rfl, W1, v', h⟩
    exact ⟨rfl, W1, v', h.since hW⟩
  have cellP : ∀ {w' W1 : World} {v' : Value}, PutR R g (o + 1) w v l' w' W1 v' → w'.cell? ⟨g, o + 1, none⟩ = some v' := fun {w' W1 v'} h => by
    have B1 := (hG.turned h.turned hRg).set (o + 1) v'
    rw [h.eq, blk_at B1, List.getElem?_set_self (by
      rcases Nat.lt_or_ge (o + 1) cs.length with q | q
      · exact q
      · rw [List.getElem?_eq_none q] at hco; cases hco)]
  have k0 : ∀ W, Below (w.alloc (.cells #[.int .i64 a, .int .i64 b, .string s] 90)).heap.size (w.alloc (.cells #[.int .i64 a, .int .i64 b, .string s] 90)) W → W.cell? ⟨w.heap.size, 0, none⟩ = some (.int .i64 a) := fun W hW => by rw [blk_at (A0.laterB hW)]; rfl
  have k1 : ∀ W, Below (w.alloc (.cells #[.int .i64 a, .int .i64 b, .string s] 90)).heap.size (w.alloc (.cells #[.int .i64 a, .int .i64 b, .string s] 90)) W → W.cell? ⟨w.heap.size, 1, none⟩ = some (.int .i64 b) := fun W hW => by rw [blk_at (A0.laterB hW)]; rfl
  have k2 : ∀ W, Below (w.alloc (.cells #[.int .i64 a, .int .i64 b, .string s] 90)).heap.size (w.alloc (.cells #[.int .i64 a, .int .i64 b, .string s] 90)) W → W.cell? ⟨w.heap.size, 2, none⟩ = some (.string s) := fun W hW => by rw [blk_at (A0.laterB hW)]; rfl
  have bd : Below w.heap.size w (w.alloc (.cells #[.int .i64 a, .int .i64 b, .string s] 90)).drew := below_then b0 (Below.refl _ _).drew
  have B0 : Hid _ := And.intro b0 bd
  clear hG hco A0 hI ho hr hi hRg hRv hRn b0 bd hl
  go_enter Try.func44, Try.ntmps44
  go_wp2_with fail
  generalize w.alloc (.cells #[.int .i64 a, .int .i64 b, .string s] 90) = w1 at *
  refine e_begin (S := fun W => Below w1.heap.size w1 W) 4 (by kernel_rfl) ((Below.refl _ _).drew) (fun hS => ?_)
  refine e_take (i := 0) (v := ?_) [1, 2, 4] rfl (by kernel_rfl) (by kernel_rfl) (by kernel_rfl) (by kernel_rfl) (by exact fun _ _ _ h => h) (by rfl) ?_ hS ?_
  rotate_left
  · ((intro w hSw; (try dsimp only at hSw); go_simp) <;> with_reducible rfl)
  (try simp only [Act.put, List.setIfInBounds_toArray, List.set_cons_zero, List.set_cons_succ])
  refine e_take (i := 1) (v := ?_) [2, 4] rfl (by kernel_rfl) (by kernel_rfl) (by kernel_rfl) (by kernel_rfl) (by exact fun _ _ _ h => h) (by rfl) ?_ hS ?_
  rotate_left
  · ((intro w hSw; (try dsimp only at hSw); go_simp) <;> with_reducible rfl)
  (try simp only [Act.put, List.setIfInBounds_toArray, List.set_cons_zero, List.set_cons_succ])
  refine e_take (i := 2) (v := ?_) [4] rfl (by kernel_rfl) (by kernel_rfl) (by kernel_rfl) (by kernel_rfl) (by exact fun _ _ _ h => h) (by rfl) ?_ hS ?_
  rotate_left
  · ((intro w hSw; (try dsimp only at hSw); go_simp) <;> with_reducible rfl)
  (try simp only [Act.put, List.setIfInBounds_toArray, List.set_cons_zero, List.set_cons_succ])
  refine e_take (i := 3) (v := ?_) [4] rfl (by kernel_rfl) (by kernel_rfl) (by kernel_rfl) (by kernel_rfl) (by exact fun _ _ _ h => h) (by rfl) ?_ hS ?_
  rotate_left
  · ((intro w hSw; (try dsimp only at hSw); go_simp) <;> with_reducible rfl)
  (try simp only [Act.put, List.setIfInBounds_toArray, List.set_cons_zero, List.set_cons_succ])
  clear hS
  refine e_last (z := 4) rfl (by kernel_rfl) (fun K hK => ?_)
  go_simp
  refine (Calls.mono (HP.out _ B0.out.2)) ?_
  rintro e w2 ⟨rfl, W, v', hP⟩
  obtain ⟨va', vc', hv', -, -⟩ := hP.own.open
  have y1 := cellP hP
  have F : Hid _ := hP
  rw [hv'] at y1
  clear hP HP
  go_wp2_with fail
  refine hK.out _ _ ?_
  clear hK K
  refine e_done (by kernel_rfl) ?_ _
  have hfew' : ¬ (l'.length : Int) > 64 := by omega
  have HS : Hid _ := ddsize_any g (o + 1) va' l'.length vc' w2 y1
  clear k0 k1 k2 B0 y1 cellP
  go_wp2_with fail
  refine (Calls.mono HS.out) ?_
  rintro e w3 ⟨rfl, rfl⟩
  go_wp2
  go_end0
  exact ⟨rfl, W, v', F.out⟩
theorem own12_strs {w : World} {base : Nat} {v : Value} {l : List (BitVec 8)} (h : Own w base v l) : ∃ a len cap, v = .slice a len cap ∧ ∀ X, Below w.heap.size w X → (convert 22 9 (.slice a len cap)).run Try.prog X = .ok (.string (str l)) X := by
  obtain ⟨a, cap, hv, _, _, hr, _, _⟩ := h.open
  exact ⟨a, _, cap, hv, fun X hX => (hr.later hX).str _ _ rfl⟩
set_option maxHeartbeats 4000000 in
theorem ddPut_few (R : Nat → Prop) (g q : Nat) (cs : List Value) (v : Value) (l l' : List An) (n fl : Int) (ra rb rc rd : Int) (rx : Option Addr) (cp : Nat) (dl : List (BitVec 8)) (i : Nat) (w : World) (hq : q < 16) (hcan : canP q n = true) (hE : prE ra rb rc rd dl.length = 0)
    (hG : Blk w g 62 cs) (hcf : cs[q * 2]? = some (.int .i64 fl)) (hco : cs[q * 2 + 1]? = some v) (hRg : ¬ R g) (hRv : ∀ k, v.ownBlock = some k → R k) (hRn : ∀ k, R k → k < w.heap.size)
    (ho : AOwn w v l) (hr : Rise l) (hl : l.length ≤ 1000) (hfl : ¬ n ≤ fl) (hno : ¬ ((fromOf l n).1 = q ∧ (fromOf l n).2.1 = n)) (hi : SlotIs l n i) (hI : InsC w v i q n (str (prB ra rb rc rd dl)) l') (hfew : l'.length ≤ 64)
    (hdl : dl.length ≤ 140737488351232) (hdc : dl.length ≤ cp) (hdn : rx = none → cp = 0) (hdr : Row w rx dl) :
    Calls Try.prog 15 #[.pointer (some ⟨g, 0, none⟩), .int .i64 q, .int .i64 n, .agg #[.int .i64 ra, .int .i64 rb, .int .i64 rc, .int .i64 rd, .slice rx dl.length cp]] w fun e w' => e = .returned (.int .i64 0) ∧ ∃ W v', PutR R g (q * 2 + 1) w v l' w' W v' := by
  have b1 : Below w.heap.size w (w.alloc (.cells #[.int .i64 ra, .int .i64 rb, .int .i64 rc, .int .i64 rd, .slice rx dl.length cp] 38)) := (Below.refl _ _).alloc (Nat.le_refl _) _
  have A1 := Blk.new' w 38 [.int .i64 ra, .int .i64 rb, .int .i64 rc, .int .i64 rd, .slice rx dl.length cp]
  have b2 : Below (w.alloc (.cells #[.int .i64 ra, .int .i64 rb, .int .i64 rc, .int .i64 rd, .slice rx dl.length cp] 38)).heap.size (w.alloc (.cells #[.int .i64 ra, .int .i64 rb, .int .i64 rc, .int .i64 rd, .slice rx dl.length cp] 38)) ((w.alloc (.cells #[.int .i64 ra, .int .i64 rb, .int .i64 rc, .int .i64 rd, .slice rx dl.length cp] 38)).alloc (.cells #[.int .i64 q, .int .i64 n] 88)) := (Below.refl _ _).alloc (Nat.le_refl _) _
  have P2 := Blk.new' (w.alloc (.cells #[.int .i64 ra, .int .i64 rb, .int .i64 rc, .int .i64 rd, .slice rx dl.length cp] 38)) 88 [.int .i64 q, .int .i64 n]
  rw [show (w.alloc (.cells #[.int .i64 ra, .int .i64 rb, .int .i64 rc, .int .i64 rd, .slice rx dl.length cp] 38)).heap.size = w.heap.size + 1 by simp] at P2
  have A2 := A1.laterB b2
  have bb := below_then b1 b2
  have a0 := blk_at P2 0
  have a1 := blk_at P2 1
  simp only [List.getElem?_cons_zero, List.getElem?_cons_succ] at a0 a1
  have HG : Hid (∀ W, Below w.heap.size w W → MemAt W g q fl v l) := fun W hW => ⟨by rw [blk_at (hG.laterB hW), hcf], by rw [blk_at (hG.laterB hW), hco], ho.later hW, hr, hl⟩
  have HKe : Hid (∀ W, Below w.heap.size w W → Calls Try.prog 44 #[.pointer (some ⟨g, q * 2, none⟩), .agg #[.int .i64 q, .int .i64 n, .string (str (prB ra rb rc rd dl))]] W fun e w' => e = .returned (.tuple #[]) ∧ ∃ W1 v', PutR R g (q * 2 + 1) w v l' w' W1 v') := fun W hW => by
    refine (ddkeep_few R g (q * 2) 62 cs v l l' q n _ i W (hG.laterB hW) hco hRg hRv (fun k e => Nat.lt_of_lt_of_le (hRn k e) hW.size) (ho.later hW) hr hl hi (hI.later hW) hfew).mono ?_
    rintro e w' ⟨rfl, W1, v', h⟩
    exact ⟨rfl, W1, v', h.since hW⟩
  have HN : Hid _ := canBe_any q n ((w.alloc (.cells #[.int .i64 ra, .int .i64 rb, .int .i64 rc, .int .i64 rd, .slice rx dl.length cp] 38)).alloc (.cells #[.int .i64 q, .int .i64 n] 88))
  rw [hcan] at HN
  have HPr : Hid (∀ W, Below w.heap.size w W → Calls Try.prog 43 #[.agg #[.int .i64 ra, .int .i64 rb, .int .i64 rc, .int .i64 rd, .slice rx dl.length cp]] W fun e w' => ∃ z, e = .returned (.tuple #[z, .int .i64 0]) ∧ Own w' W.heap.size z (prB ra rb rc rd dl) ∧ Below W.heap.size W w') := fun W hW => by
    have := putReply_any ra rb rc rd rx cp dl W hdl hdc hdn (hdr.later hW)
    rw [hE] at this
    exact this
  have HCh : Hid (∀ W, Below w.heap.size w W → Calls Try.prog 18 #[.pointer (some ⟨g, 0, none⟩), .int .i64 q, .int .i64 n] W fun e w' => e = .returned (.tuple #[.int .i64 0, .agg #[.int .i64 0, .int .i64 0, .int .i64 0, .int .i64 0, .slice none 0 0]]) ∧ Below W.heap.size W w') := fun W hW => by
    have := check_none g q n fl v l W hq hcan (HG.out W hW) hno
    rw [if_neg hfl] at this
    exact this
  have H2 : Hid _ := And.intro bb (And.intro A2 P2)
  have q1 : (q : Int) < 16 := by omega
  clear hG hcf hco hRg hRv hRn ho hr hl hfl hno hi hI hfew hdl hdc hdn hdr hE hcan b1 A1 b2 P2 A2 bb HG
  go_enter Try.func15, Try.ntmps15
  go_wp2_with fail
  generalize ((w.alloc (.cells #[.int .i64 ra, .int .i64 rb, .int .i64 rc, .int .i64 rd, .slice rx dl.length cp] 38)).alloc (.cells #[.int .i64 q, .int .i64 n] 88)) = w2 at *
  clear a0 a1
  refine (Calls.mono HN.out) ?_
  rintro r w3 ⟨rfl, b3⟩
  have H3 : Hid (Below w.heap.size w w3 ∧ Blk w3 w.heap.size 38 [.int .i64 ra, .int .i64 rb, .int .i64 rc, .int .i64 rd, .slice rx dl.length cp] ∧ Blk w3 (w.heap.size + 1) 88 [.int .i64 q, .int .i64 n]) := ⟨below_then H2.out.1 b3, H2.out.2.1.laterB b3, H2.out.2.2.laterB b3⟩
  have y0 := blk_at H3.out.2.1 0
  have y1 := blk_at H3.out.2.1 1
  have y2 := blk_at H3.out.2.1 2
  have y3 := blk_at H3.out.2.1 3
  have y4 := blk_at H3.out.2.1 4
  simp only [List.getElem?_cons_zero, List.getElem?_cons_succ] at y0 y1 y2 y3 y4
  clear H2 HN b3
  go_wp2_with fail
  clear y0 y1 y2 y3 y4
  refine (Calls.mono (HPr.out _ H3.out.1)) ?_
  rintro r w4 ⟨z, rfl, o4, b4⟩
  obtain ⟨za, zn, zc, rfl, hz⟩ := own12_strs o4
  have H4 : Hid (Below w.heap.size w w4 ∧ Blk w4 (w.heap.size + 1) 88 [.int .i64 q, .int .i64 n]) := ⟨below_then H3.out.1 b4, H3.out.2.2.laterB b4⟩
  have HZ : Hid _ := hz
  clear H3 HPr b4 o4 hz
  go_wp2_with fail
  refine (Calls.mono (HCh.out _ H4.out.1)) ?_
  rintro r w5 ⟨rfl, b5⟩
  have b6 : Below w5.heap.size w5 (w5.alloc (.cells #[.int .i64 0, .int .i64 0, .int .i64 0, .int .i64 0, .slice none 0 0] 38)) := (Below.refl _ _).alloc (Nat.le_refl _) _
  have b46 := below_then b5 b6
  have H6 : Hid (Below w.heap.size w (w5.alloc (.cells #[.int .i64 0, .int .i64 0, .int .i64 0, .int .i64 0, .slice none 0 0] 38)) ∧ Blk (w5.alloc (.cells #[.int .i64 0, .int .i64 0, .int .i64 0, .int .i64 0, .slice none 0 0] 38)) (w.heap.size + 1) 88 [.int .i64 q, .int .i64 n]) := ⟨below_then H4.out.1 b46, H4.out.2.laterB b46⟩
  have hz : ∀ W, Below (w5.alloc (.cells #[.int .i64 0, .int .i64 0, .int .i64 0, .int .i64 0, .slice none 0 0] 38)).heap.size (w5.alloc (.cells #[.int .i64 0, .int .i64 0, .int .i64 0, .int .i64 0, .slice none 0 0] 38)) W → (convert 22 9 (.slice za zn zc)).run Try.prog W = .ok (.string (str (prB ra rb rc rd dl))) W := fun W hW => HZ.out W (below_then b46 hW)
  have p0 : ∀ W, Below (w5.alloc (.cells #[.int .i64 0, .int .i64 0, .int .i64 0, .int .i64 0, .slice none 0 0] 38)).heap.size (w5.alloc (.cells #[.int .i64 0, .int .i64 0, .int .i64 0, .int .i64 0, .slice none 0 0] 38)) W → W.cell? ⟨w.heap.size + 1, 0, none⟩ = some (.int .i64 q) := fun W hW => by rw [blk_at (H6.out.2.laterB hW)]; rfl
  have p1 : ∀ W, Below (w5.alloc (.cells #[.int .i64 0, .int .i64 0, .int .i64 0, .int .i64 0, .slice none 0 0] 38)).heap.size (w5.alloc (.cells #[.int .i64 0, .int .i64 0, .int .i64 0, .int .i64 0, .slice none 0 0] 38)) W → W.cell? ⟨w.heap.size + 1, 1, none⟩ = some (.int .i64 n) := fun W hW => by rw [blk_at (H6.out.2.laterB hW)]; rfl
  have HKeep : Hid (∀ W, Below (w5.alloc (.cells #[.int .i64 0, .int .i64 0, .int .i64 0, .int .i64 0, .slice none 0 0] 38)).heap.size (w5.alloc (.cells #[.int .i64 0, .int .i64 0, .int .i64 0, .int .i64 0, .slice none 0 0] 38)) W → _) := fun W hW => HKe.out W (below_then H6.out.1 hW)
  clear H4 HCh b5 b6 b46 HZ HKe
  go_wp2_with fail
  generalize (w5.alloc (.cells #[.int .i64 0, .int .i64 0, .int .i64 0, .int .i64 0, .slice none 0 0] 38)) = w6 at *
  refine e_begin (S := fun W => Below w6.heap.size w6 W) 9 (by kernel_rfl) ((Below.refl _ _).drew) (fun hS => ?_)
  refine e_take (i := 0) (v := ?_) [2, 3, 4, 9] rfl (by kernel_rfl) (by kernel_rfl) (by kernel_rfl) (by kernel_rfl) (by exact fun _ _ _ h => h) (by rfl) ?_ hS ?_
  rotate_left
  · ((intro w hSw; (try dsimp only at hSw); go_simp) <;> with_reducible rfl)
  (try simp only [Act.put, List.setIfInBounds_toArray, List.set_cons_zero, List.set_cons_succ])
  refine e_take (i := 1) (v := ?_) [4, 9] rfl (by kernel_rfl) (by kernel_rfl) (by kernel_rfl) (by kernel_rfl) (by exact fun _ _ _ h => h) (by rfl) ?_ hS ?_
  rotate_left
  · ((intro w hSw; (try dsimp only at hSw); go_simp) <;> with_reducible rfl)
  (try simp only [Act.put, List.setIfInBounds_toArray, List.set_cons_zero, List.set_cons_succ])
  refine e_take (i := 2) (v := ?_) [3, 4, 9] rfl (by kernel_rfl) (by kernel_rfl) (by kernel_rfl) (by kernel_rfl) (by exact fun _ _ _ h => h) (by rfl) ?_ hS ?_
  rotate_left
  · ((intro w hSw; (try dsimp only at hSw); go_simp) <;> with_reducible rfl)
  (try simp only [Act.put, List.setIfInBounds_toArray, List.set_cons_zero, List.set_cons_succ])
  refine e_take (i := 3) (v := ?_) [4, 9] rfl (by kernel_rfl) (by kernel_rfl) (by kernel_rfl) (by kernel_rfl) (by exact fun _ _ _ h => h) (by rfl) ?_ hS ?_
  rotate_left
  · ((intro w hSw; (try dsimp only at hSw); go_simp) <;> with_reducible rfl)
  (try simp only [Act.put, List.setIfInBounds_toArray, List.set_cons_zero, List.set_cons_succ])
  refine e_take (i := 4) (v := ?_) [9] rfl (by kernel_rfl) (by kernel_rfl) (by kernel_rfl) (by kernel_rfl) (by exact fun _ _ _ h => h) (by rfl) ?_ hS ?_
  rotate_left
  · ((intro w hSw; (try dsimp only at hSw); go_simp) <;> with_reducible rfl)
  (try simp only [Act.put, List.setIfInBounds_toArray, List.set_cons_zero, List.set_cons_succ])
  refine e_take (i := 5) (v := ?_) [8, 9] rfl (by kernel_rfl) (by kernel_rfl) (by kernel_rfl) (by kernel_rfl) (by exact fun _ _ _ h => h) (by rfl) ?_ hS ?_
  rotate_left
  · ((intro w hSw; (try dsimp only at hSw); go_simp) <;> with_reducible rfl)
  (try simp only [Act.put, List.setIfInBounds_toArray, List.set_cons_zero, List.set_cons_succ])
  refine e_take (i := 6) (v := ?_) [7, 8, 9] rfl (by kernel_rfl) (by kernel_rfl) (by kernel_rfl) (by kernel_rfl) (by exact fun _ _ _ h => h) (by rfl) ?_ hS ?_
  rotate_left
  · ((intro w hSw; (try dsimp only at hSw); go_simp) <;> with_reducible rfl)
  (try simp only [Act.put, List.setIfInBounds_toArray, List.set_cons_zero, List.set_cons_succ])
  refine e_take (i := 7) (v := ?_) [8, 9] rfl (by kernel_rfl) (by kernel_rfl) (by kernel_rfl) (by kernel_rfl) (by exact fun _ _ _ h => h) (by rfl) ?_ hS ?_
  rotate_left
  · ((intro w hSw; (try dsimp only at hSw); go_simp) <;> with_reducible rfl)
  (try simp only [Act.put, List.setIfInBounds_toArray, List.set_cons_zero, List.set_cons_succ])
  refine e_take (i := 8) (v := ?_) [9] rfl (by kernel_rfl) (by kernel_rfl) (by kernel_rfl) (by kernel_rfl) (by exact fun _ _ _ h => h) (by rfl) ?_ hS ?_
  rotate_left
  · ((intro w hSw; (try dsimp only at hSw); go_simp) <;> with_reducible rfl)
  (try simp only [Act.put, List.setIfInBounds_toArray, List.set_cons_zero, List.set_cons_succ])
  clear hS
  refine e_last (z := 9) rfl (by kernel_rfl) (fun K hK => ?_)
  go_simp
  refine (Calls.mono (HKeep.out _ (Below.refl _ _).drew)) ?_
  rintro e w7 ⟨rfl, W, v', hP⟩
  have F : Hid _ := hP
  clear hP HKeep
  go_wp2_with fail
  refine hK.out _ _ ?_
  clear hK K
  refine e_done (by kernel_rfl) ?_ _
  clear hz p0 p1
  go_wp2
  go_ret
  exact ⟨rfl, W, v', F.out⟩
end Go.Proofs.Ytkcbbaanlkpeiaa

/- What must come of fixed calls. -/
namespace Go.Proofs.Ytkcbbaanlkpeiaa
open Go.RowKit
set_option linter.unusedVariables false
set_option linter.unusedSimpArgs false
set_option maxRecDepth 4000

theorem insC_end {w : World} {v : Value} {l : List An} (ho : AOwn w v l) (hl : l.length ≤ 1000) (a b : Int) (s : ByteArray) : InsC w v l.length a b s (l ++ [(a, b, s)]) := by
  intro W k hW hB hk
  refine (insert_end v l a b s k W (ho.later hW) hl hB).mono ?_
  rintro e w' ⟨v', rfl, h1, h2, h3⟩
  refine ⟨v', rfl, h1, h2, fun k hk => ?_⟩
  rcases h3 with h3 | h3
  · exact .inl (by rw [← h3]; exact hk)
  · rw [h3] at hk; exact .inr (by injection hk with hk; omega)
def kb12 : List (BitVec 8) := prB 0 5 0 0 []
theorem kE12 : prE 0 5 0 0 ([] : List (BitVec 8)).length = 0 := by simp [prE, fourOk, byteOk]
def zero32 : List Value := (List.replicate 16 [Value.int .i64 0, Value.slice none 0 0]).flatten
set_option maxHeartbeats 1000000 in
theorem kput12 (g : Nat) (w : World) (hG : Blk w g 62 zero32) :
    Calls Try.prog 15 #[.pointer (some ⟨g, 0, none⟩), .int .i64 3, .int .i64 7, .agg #[.int .i64 0, .int .i64 5, .int .i64 0, .int .i64 0, .slice none 0 0]] w fun e w' => e = .returned (.int .i64 0) ∧ ∃ v', MemAt w' g 3 0 v' [(3, 7, str kb12)] ∧ Turned (fun k => k = g) w w' := by
  have := ddPut_few (fun _ => False) g 3 zero32 (.slice none 0 0) [] ([] ++ [(3, 7, str kb12)]) 7 0 0 5 0 0 none 0 [] 0 w (by omega) (by decide) kE12 hG rfl rfl (fun h => h) (fun k h => by cases h) (fun k h => h.elim)
    (AOwn.nil w) List.Pairwise.nil (by simp) (by decide) (by simp [fromOf]) ⟨by simp, by simp, by simp⟩ (insC_end (AOwn.nil w) (by simp) 3 7 _) (by simp) (by simp) (by simp) (fun _ => rfl) (.inl rfl)
  refine Calls.mono this ?_
  rintro e w' ⟨rfl, W, v', h⟩
  have B1 := (hG.turned h.turned (fun h => h)).set 7 v'
  have lg := hG.lt
  have hne : ∀ k, v'.ownBlock = some k → k ≠ g := fun k hk e => by
    rcases h.or k hk with e1 | e1
    · cases e1
    · omega
  refine ⟨rfl, v', ?_, ?_⟩
  · rw [h.eq]
    refine ⟨by rw [blk_at B1]; rfl, by rw [blk_at B1]; rfl, h.own.same (fun k hk => Below.heap_setCell _ _ _ _ (hne k hk)), by simp [Rise], by simp⟩
  · rw [h.eq]
    refine (h.turned.mono (R' := fun k => k = g) (fun k e => e.elim)).trans ⟨rfl, rfl, rfl, by simp [World.setCell], fun k hk hn => Below.heap_setCell _ _ _ _ (fun e => hn (.inl e))⟩
theorem kc1 (g : Nat) (v : Value) (w : World) (h : MemAt w g 3 0 v [(3, 7, str kb12)]) :
    Calls Try.prog 18 #[.pointer (some ⟨g, 0, none⟩), .int .i64 3, .int .i64 7] w fun e w' => ∃ x c, e = .returned (.tuple #[.int .i64 1, .agg #[.int .i64 0, .int .i64 5, .int .i64 0, .int .i64 0, .slice x 0 c]]) ∧ Below w.heap.size w w' := by
  refine Calls.mono (check_done g 3 7 0 v _ kb12 w (by omega) (by decide) h (by simp [fromOf]) (by decide)) ?_
  rintro e w' ⟨x, c, rfl, -, hb⟩
  have := (there_back kE12).2
  have e1 : grR kb12 = (0, 5, 0, 0, []) := this
  rw [e1]
  exact ⟨x, c, rfl, hb⟩
theorem kc2 (g : Nat) (v : Value) (w : World) (h : MemAt w g 3 0 v [(3, 7, str kb12)]) :
    Calls Try.prog 18 #[.pointer (some ⟨g, 0, none⟩), .int .i64 3, .int .i64 6] w fun e w' => e = .returned (.tuple #[.int .i64 0, .agg #[.int .i64 0, .int .i64 0, .int .i64 0, .int .i64 0, .slice none 0 0]]) ∧ Below w.heap.size w w' :=
  check_none g 3 6 0 v _ w (by omega) (by decide) h (by simp [fromOf])
theorem kc3 (g : Nat) (w : World) :
    Calls Try.prog 18 #[.pointer (some ⟨g, 0, none⟩), .int .i64 16, .int .i64 1] w fun e w' => e = .returned (.tuple #[.int .i64 3, .agg #[.int .i64 0, .int .i64 0, .int .i64 0, .int .i64 0, .slice none 0 0]]) ∧ Below w.heap.size w w' :=
  check_wrong _ 16 1 w (.inr (by decide))
set_option maxHeartbeats 2000000 in
theorem known12_any (w : World) : Calls Try.prog 11 #[] w fun e w' => e = .returned (.bool true) ∧ Below w.heap.size w w' := by
  have H1 : Hid _ := ddNew_any w
  go_enter Try.func11, Try.ntmps11
  go_wp2_with fail
  refine (Calls.mono H1.out) ?_
  rintro e w1 ⟨rfl, hG, b1⟩
  have H2 : Hid _ := kput12 w.heap.size w1 hG
  have HB : Hid _ := b1
  clear H1 hG b1
  have hnn : (binOp .eql 24 (.pointer (some ⟨w.heap.size, 0, none⟩)) (.pointer none)).run Try.prog w1 = .ok (.bool false) w1 := by first | rfl | kernel_rfl
  go_wp2_with fail
  clear hnn
  refine (Calls.mono H2.out) ?_
  rintro e w2 ⟨rfl, v, hM, ht⟩
  have b2 : Hid (Below w.heap.size w w2) := HB.out.trans (ht.below w.heap.size HB.out.size (fun k e => by omega))
  have H3 : Hid _ := kc1 w.heap.size v w2 hM
  have HM : Hid _ := hM
  clear hM ht H2 HB
  go_wp2_with fail
  refine (Calls.mono H3.out) ?_
  rintro e w3 ⟨x, c, rfl, b3⟩
  have b4 : Below w3.heap.size w3 (w3.alloc (.cells #[.int .i64 0, .int .i64 5, .int .i64 0, .int .i64 0, .slice x 0 c] 38)) := (Below.refl _ _).alloc (Nat.le_refl _) _
  have A4 := Blk.new' w3 38 [.int .i64 0, .int .i64 5, .int .i64 0, .int .i64 0, .slice x 0 c]
  have b24 := below_then b3 b4
  have HJ : Hid _ := And.intro A4 (And.intro (HM.out.later b24) (below_then b2.out b24))
  have H5 : Hid _ := kc2 w.heap.size v _ (HM.out.later b24)
  clear HM b2 H3 b3 b4 A4 b24
  go_wp2_with fail
  generalize (w3.alloc (.cells #[.int .i64 0, .int .i64 5, .int .i64 0, .int .i64 0, .slice x 0 c] 38)) = w4 at *
  refine (Calls.mono H5.out) ?_
  rintro e w5 ⟨rfl, b5⟩
  have b6 : Below w5.heap.size w5 (w5.alloc (.cells #[.int .i64 0, .int .i64 0, .int .i64 0, .int .i64 0, .slice none 0 0] 38)) := (Below.refl _ _).alloc (Nat.le_refl _) _
  have b46 := below_then b5 b6
  have HL : Hid _ := And.intro (HJ.out.1.laterB b46) (below_then HJ.out.2.2 b46)
  have H6 : Hid _ := kc3 w.heap.size (w5.alloc (.cells #[.int .i64 0, .int .i64 0, .int .i64 0, .int .i64 0, .slice none 0 0] 38))
  clear HJ H5 b5 b6 b46
  go_wp2_with fail
  generalize (w5.alloc (.cells #[.int .i64 0, .int .i64 0, .int .i64 0, .int .i64 0, .slice none 0 0] 38)) = w6 at *
  refine (Calls.mono H6.out) ?_
  rintro e w7 ⟨rfl, b7⟩
  have b8 : Below w7.heap.size w7 (w7.alloc (.cells #[.int .i64 0, .int .i64 0, .int .i64 0, .int .i64 0, .slice none 0 0] 38)) := (Below.refl _ _).alloc (Nat.le_refl _) _
  have b68 := below_then b7 b8
  have HN : Hid _ := below_then HL.out.2 b68
  have y1 := blk_at (HL.out.1.laterB b68) 1
  simp only [List.getElem?_cons_zero, List.getElem?_cons_succ] at y1
  clear HL H6 b7 b8 b68
  go_wp2
  go_ret
  exact ⟨rfl, HN.out⟩
end Go.Proofs.Ytkcbbaanlkpeiaa
