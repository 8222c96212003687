/- What the program's Split refuses; SameAll of lists that are alike; pieces lie apart. -/
import Derived.Test.YtgonglbgejaffaaXCpM
namespace Go.Proofs.Ytgonglbgejaffaa
open Go.RowKit Go.Shelf
set_option linter.unusedVariables false
set_option linter.unusedSimpArgs false
set_option maxRecDepth 8000

set_option maxHeartbeats 4000000 in
theorem split_no2 (id : Int) (a : Option Addr) (cap : Nat) (b : List (BitVec 8)) (s : Int) (w : World) (hb9 : b.length ≤ 140737488351232) (h : ¬ (idB id = true ∧ 1 ≤ s ∧ s ≤ 4096 ∧ b.length ≤ 65536 ∧ npc b.length s.toNat ≤ 256)) (hs64 : -9223372036854775808 ≤ s ∧ s ≤ 9223372036854775807) :
    Calls Try.prog 6 #[.int .i64 id, .slice a b.length cap, .int .i64 s] w fun e w' => e = .returned (.tuple #[.slice none 0 0, .int .i64 (splE id b.length s)]) ∧ w = w' := by
  have HI : Hid _ := isId_any id w
  by_cases h1 : idB id = true ∧ 1 ≤ s ∧ s ≤ 4096
  · obtain ⟨h1, h2, h3⟩ := h1
    have hE : splE id b.length s = 3 := by
      unfold splE
      rw [if_pos ⟨h1, h2, h3⟩, if_neg (fun e => h ⟨h1, h2, h3, e.1, e.2⟩)]
    rw [hE]
    rw [h1] at HI
    obtain ⟨n, rfl⟩ : ∃ n : Nat, s = n := ⟨s.toNat, by omega⟩
    rw [Int.toNat_natCast] at h
    by_cases hb : b.length ≤ 65536
    · have HP : Hid _ := pieces_any b.length n hb (by omega) (by omega) w
      have hQ : 256 < npc b.length n := by
        by_cases hx : 256 < npc b.length n
        · exact hx
        · exact absurd ⟨h1, h2, h3, hb, by omega⟩ h
      generalize npc b.length n = Q at *
      have g1 : ¬ ((65536 : Int) < (b.length : Int)) := by omega
      have g2 : (256 : Int) < (Q : Int) := by omega
      clear h hE
      go_enter Try.func6, Try.ntmps6
      go_wp2_with fail
      refine (Calls.mono HI.out) ?_
      rintro e _ ⟨rfl, rfl⟩
      go_wp2_with fail
      refine (Calls.mono HP.out) ?_
      rintro e _ ⟨rfl, rfl⟩
      go_wp2
      go_ret2
      exact ⟨rfl, rfl⟩
    · have g1 : (65536 : Int) < (b.length : Int) := by omega
      clear h hE
      go_enter Try.func6, Try.ntmps6
      go_wp2_with fail
      refine (Calls.mono HI.out) ?_
      rintro e _ ⟨rfl, rfl⟩
      go_wp2
      go_ret2
      exact ⟨rfl, rfl⟩
  · have hE : splE id b.length s = 1 := by unfold splE; rw [if_neg h1]
    rw [hE]
    clear h hE
    cases hib : idB id with
    | false =>
      rw [hib] at HI
      go_enter Try.func6, Try.ntmps6
      go_wp2_with fail
      refine (Calls.mono HI.out) ?_
      rintro e _ ⟨rfl, rfl⟩
      go_wp2
      go_ret2
      exact ⟨rfl, rfl⟩
    | true =>
      rw [hib] at HI h1
      by_cases g1 : s < 1
      · clear h1
        go_enter Try.func6, Try.ntmps6
        go_wp2_with fail
        refine (Calls.mono HI.out) ?_
        rintro e _ ⟨rfl, rfl⟩
        go_wp2
        go_ret2
        exact ⟨rfl, rfl⟩
      · have g2 : 4096 < s := by
          by_cases hx : 4096 < s
          · exact hx
          · exact absurd ⟨rfl, by omega, by omega⟩ h1
        clear h1
        go_enter Try.func6, Try.ntmps6
        go_wp2_with fail
        refine (Calls.mono HI.out) ?_
        rintro e _ ⟨rfl, rfl⟩
        go_wp2
        go_ret2
        exact ⟨rfl, rfl⟩
/-- slices of bytes, as they are read -/
def LsR (w : World) (a : Option Addr) (ls : List (List (BitVec 8))) : Prop := ∀ i (h : i < ls.length), ∃ b off x c, a = some ⟨b, off, none⟩ ∧ w.cell? ⟨b, off + i, none⟩ = some (.slice x ls[i].length c) ∧ Row w x ls[i]
set_option maxHeartbeats 8000000 in
theorem sameAll_yes7 (xa ya : Option Addr) (xc yc : Nat) (ls : List (List (BitVec 8))) (w : World) (hn : ls.length ≤ 1000) (hX : LsR w xa ls) (hY : LsR w ya ls) :
    Calls Try.prog 8 #[.slice xa ls.length xc, .slice ya ls.length yc] w fun e w' => e = .returned (.bool true) ∧ Below w.heap.size w w' := by
  have HX : Hid _ := And.intro hX hY
  clear hX hY
  go_enter Try.func8, Try.ntmps8
  go_wp2_with fail
  go_loopw [5] (fun iv wr => ∃ k : Nat, k ≤ ls.length ∧ iv = .int .i64 k ∧ Below w.heap.size w wr) (fun iv _ => ls.length - (intOf iv).toNat)
  case atStart => exact ⟨0, by omega, rfl, Below.refl _ _⟩
  case round =>
    obtain ⟨k, hk, rfl, hb⟩ := hrel
    by_cases hlt : k < ls.length
    · obtain ⟨b1, o1, x1, c1, rfl, hc1, hr1⟩ := HX.out.1 k hlt
      obtain ⟨b2, o2, x2, c2, rfl, hc2, hr2⟩ := HX.out.2 k hlt
      have q1 : (k : Int) < (ls.length : Int) := by omega
      have HQ : Hid (∀ W, Below w.heap.size w W → (convert 22 9 (.slice x1 ls[k].length c1)).run Try.prog W = .ok (.string (str ls[k])) W ∧ (convert 22 9 (.slice x2 ls[k].length c2)).run Try.prog W = .ok (.string (str ls[k])) W ∧ W.cell? ⟨b1, o1 + k, none⟩ = some (.slice x1 ls[k].length c1) ∧ W.cell? ⟨b2, o2 + k, none⟩ = some (.slice x2 ls[k].length c2)) := fun W hW =>
        ⟨(hr1.later hW).str ls[k].length c1 rfl, (hr2.later hW).str ls[k].length c2 rfl, cell_later7 hW hc1, cell_later7 hW hc2⟩
      have HB : Hid _ := hb
      clear hc1 hr1 hc2 hr2 hb
      generalize ls[k] = lk at *
      go_upto_region 6 with fail
      refine wp_region_held_drew (S := fun W => Below w.heap.size w W) (by kernel_rfl) (HB.out.drew) (fun hS => ?_)
      refine any_take (i := 0) (v := ?_) rfl (by kernel_rfl) (by kernel_rfl) (by kernel_rfl) (by exact fun _ _ _ h => h) (by rfl) ?_ hS ?_
      rotate_left
      · ((intro w hSw; have s1 := (HQ.out w hSw).1; have s2 := (HQ.out w hSw).2.1; have y0 := (HQ.out w hSw).2.2.1; have y3 := (HQ.out w hSw).2.2.2; clear hSw; go_simp) <;> with_reducible rfl)
      (try simp only [Act.put, List.setIfInBounds_toArray, List.set_cons_zero, List.set_cons_succ])
      refine any_take (i := 1) (v := ?_) rfl (by kernel_rfl) (by kernel_rfl) (by kernel_rfl) (by exact fun _ _ _ h => h) (by rfl) ?_ hS ?_
      rotate_left
      · ((intro w hSw; have s1 := (HQ.out w hSw).1; have s2 := (HQ.out w hSw).2.1; have y0 := (HQ.out w hSw).2.2.1; have y3 := (HQ.out w hSw).2.2.2; clear hSw; go_simp) <;> with_reducible rfl)
      (try simp only [Act.put, List.setIfInBounds_toArray, List.set_cons_zero, List.set_cons_succ])
      refine any_take (i := 2) (v := ?_) rfl (by kernel_rfl) (by kernel_rfl) (by kernel_rfl) (by exact fun _ _ _ h => h) (by rfl) ?_ hS ?_
      rotate_left
      · ((intro w hSw; have s1 := (HQ.out w hSw).1; have s2 := (HQ.out w hSw).2.1; have y0 := (HQ.out w hSw).2.2.1; have y3 := (HQ.out w hSw).2.2.2; clear hSw; go_simp) <;> with_reducible rfl)
      (try simp only [Act.put, List.setIfInBounds_toArray, List.set_cons_zero, List.set_cons_succ])
      refine any_take (i := 3) (v := ?_) rfl (by kernel_rfl) (by kernel_rfl) (by kernel_rfl) (by exact fun _ _ _ h => h) (by rfl) ?_ hS ?_
      rotate_left
      · ((intro w hSw; have s1 := (HQ.out w hSw).1; have s2 := (HQ.out w hSw).2.1; have y0 := (HQ.out w hSw).2.2.1; have y3 := (HQ.out w hSw).2.2.2; clear hSw; go_simp) <;> with_reducible rfl)
      (try simp only [Act.put, List.setIfInBounds_toArray, List.set_cons_zero, List.set_cons_succ])
      refine any_take (i := 4) (v := ?_) rfl (by kernel_rfl) (by kernel_rfl) (by kernel_rfl) (by exact fun _ _ _ h => h) (by rfl) ?_ hS ?_
      rotate_left
      · ((intro w hSw; have s1 := (HQ.out w hSw).1; have s2 := (HQ.out w hSw).2.1; have y0 := (HQ.out w hSw).2.2.1; have y3 := (HQ.out w hSw).2.2.2; clear hSw; go_simp) <;> with_reducible rfl)
      (try simp only [Act.put, List.setIfInBounds_toArray, List.set_cons_zero, List.set_cons_succ])
      refine any_take (i := 5) (v := ?_) rfl (by kernel_rfl) (by kernel_rfl) (by kernel_rfl) (by exact fun _ _ _ h => h) (by rfl) ?_ hS ?_
      rotate_left
      · ((intro w hSw; have s1 := (HQ.out w hSw).1; have s2 := (HQ.out w hSw).2.1; have y0 := (HQ.out w hSw).2.2.1; have y3 := (HQ.out w hSw).2.2.2; clear hSw; go_simp) <;> with_reducible rfl)
      (try simp only [Act.put, List.setIfInBounds_toArray, List.set_cons_zero, List.set_cons_succ])
      refine any_take (i := 6) (v := ?_) rfl (by kernel_rfl) (by kernel_rfl) (by kernel_rfl) (by exact fun _ _ _ h => h) (by rfl) ?_ hS ?_
      rotate_left
      · ((intro w hSw; have s1 := (HQ.out w hSw).1; have s2 := (HQ.out w hSw).2.1; have y0 := (HQ.out w hSw).2.2.1; have y3 := (HQ.out w hSw).2.2.2; clear hSw; go_simp) <;> with_reducible rfl)
      (try simp only [Act.put, List.setIfInBounds_toArray, List.set_cons_zero, List.set_cons_succ])
      refine any_take (i := 7) (v := ?_) rfl (by kernel_rfl) (by kernel_rfl) (by kernel_rfl) (by exact fun _ _ _ h => h) (by rfl) ?_ hS ?_
      rotate_left
      · ((intro w hSw; have s1 := (HQ.out w hSw).1; have s2 := (HQ.out w hSw).2.1; have y0 := (HQ.out w hSw).2.2.1; have y3 := (HQ.out w hSw).2.2.2; clear hSw; go_simp) <;> with_reducible rfl)
      (try simp only [Act.put, List.setIfInBounds_toArray, List.set_cons_zero, List.set_cons_succ])
      refine any_take (i := 8) (v := ?_) rfl (by kernel_rfl) (by kernel_rfl) (by kernel_rfl) (by exact fun _ _ _ h => h) (by rfl) ?_ hS ?_
      rotate_left
      · ((intro w hSw; have s1 := (HQ.out w hSw).1; have s2 := (HQ.out w hSw).2.1; have y0 := (HQ.out w hSw).2.2.1; have y3 := (HQ.out w hSw).2.2.2; clear hSw; go_simp) <;> with_reducible rfl)
      (try simp only [Act.put, List.setIfInBounds_toArray, List.set_cons_zero, List.set_cons_succ])
      refine any_take (i := 9) (v := ?_) rfl (by kernel_rfl) (by kernel_rfl) (by kernel_rfl) (by exact fun _ _ _ h => h) (by rfl) ?_ hS ?_
      rotate_left
      · ((intro w hSw; have s1 := (HQ.out w hSw).1; have s2 := (HQ.out w hSw).2.1; have y0 := (HQ.out w hSw).2.2.1; have y3 := (HQ.out w hSw).2.2.2; clear hSw; go_simp) <;> with_reducible rfl)
      (try simp only [Act.put, List.setIfInBounds_toArray, List.set_cons_zero, List.set_cons_succ])
      refine any_take (i := 10) (v := ?_) rfl (by kernel_rfl) (by kernel_rfl) (by kernel_rfl) (by exact fun _ _ _ h => h) (by rfl) ?_ hS ?_
      rotate_left
      · ((intro w hSw; have s1 := (HQ.out w hSw).1; have s2 := (HQ.out w hSw).2.1; have y0 := (HQ.out w hSw).2.2.1; have y3 := (HQ.out w hSw).2.2.2; clear hSw; go_simp) <;> with_reducible rfl)
      (try simp only [Act.put, List.setIfInBounds_toArray, List.set_cons_zero, List.set_cons_succ])
      refine wpAnyH_done (by kernel_rfl) ?_ _
      have F : Hid _ := hS
      clear hS HQ
      go_wp2
      go_roundw
      case rel => exact ⟨k + 1, by omega, by go_num, F.out⟩
      case measure => simp [intOf]; omega
    · have hst : ¬ (k : Int) < (ls.length : Int) := by omega
      have F : Hid _ := hb
      clear hb HX
      go_wp2
      go_ret
      exact ⟨rfl, F.out⟩
theorem LsO.reads {w : World} {base : Nat} {v : Value} {vs : List Value} {ls : List (List (BitVec 8))} (h : LsO w base v vs ls) : ∃ a c, v = .slice a ls.length c ∧ LsR w a ls := by
  have h0 := h.own
  obtain ⟨h1, ⟨rfl, h2⟩ | ⟨g, cap, cur, rfl, r⟩⟩ := h.own
  · exact ⟨none, 0, by rw [h2], fun i hi => by omega⟩
  · refine ⟨_, _, rfl, fun i hi => ?_⟩
    obtain ⟨u, hu, ho⟩ := h.each i hi
    obtain ⟨x, c, rfl, -, -, hr, -⟩ := ho.open
    refine ⟨g, 0, x, c, rfl, ?_, hr⟩
    have := World.ownsRow.cellAt h0 i (by omega)
    rw [hu] at this
    simpa using this
/-- pieces that are still to be written over -/
structure SpI (w : World) (base D : Nat) (vs : List Value) (id : Int) (b : List (BitVec 8)) (s n i : Nat) : Prop where
  blk : Blk w D 22 vs
  each : ∀ j, i ≤ j → j < n → ∃ u, vs[j]? = some u ∧ Own w base u (pieceI id b s j)
theorem piece_apart {w : World} {base : Nat} {u v : Value} {id : Int} {b : List (BitVec 8)} {s i j : Nat} (hn : npc b.length s ≤ 256) (hi : i < 256) (hj : j < 256) (hij : i ≠ j) (hu : Own w base u (pieceI id b s i)) (hv : Own w base v (pieceI id b s j)) : ∀ k, v.ownBlock = some k → u.ownBlock ≠ some k := by
  intro k hk e
  obtain ⟨x, c, rfl, -, -, rx, -, gx⟩ := hu.open
  obtain ⟨y, d, rfl, -, -, ry, -, gy⟩ := hv.open
  have l1 : 22 ≤ (pieceI id b s i).length := by rw [piece_len]; omega
  have l2 : 22 ≤ (pieceI id b s j).length := by rw [piece_len]; omega
  have n1 := (piece_bytes (id := id) (b := b) (s := s) hi hn).2.1
  have n2 := (piece_bytes (id := id) (b := b) (s := s) hj hn).2.1
  rcases rx with rx | ⟨b1, o1, rfl, c1⟩
  · rw [rx] at l1; simp at l1
  rcases ry with ry | ⟨b2, o2, rfl, c2⟩
  · rw [ry] at l2; simp at l2
  obtain ⟨g1, e1, -⟩ := gx _ rfl
  obtain ⟨g2, e2, -⟩ := gy _ rfl
  cases e1
  cases e2
  cases hk
  cases e
  have h1 := c1 9 (by omega)
  have h2 := c2 9 (by omega)
  rw [h1] at h2
  rw [n1, n2] at h2
  simp at h2
  omega
theorem SpI.step {w w' : World} {base D : Nat} {vs : List Value} {id : Int} {b : List (BitVec 8)} {s n i : Nat} {u : Value} (h : SpI w base D vs id b s n i) (hn : npc b.length s ≤ 256) (hn2 : n ≤ 256) (hi : i < n) (hu : vs[i]? = some u) (hg : w.grownBy w' u.ownBlock) : SpI w' base D vs id b s n (i + 1) := by
  obtain ⟨u', h1, h2⟩ := h.each i (Nat.le_refl _) hi
  rw [hu] at h1
  cases h1
  refine ⟨h.blk.grown hg (fun e => own_apart h2 h.blk (by decide) D e.symm rfl), fun j hj hjn => ?_⟩
  obtain ⟨v, h3, h4⟩ := h.each j (by omega) hjn
  exact ⟨v, h3, h4.keep hg (fun k hk e => piece_apart hn (by omega) (by omega) (by omega) h2 h4 k hk e.symm)⟩
end Go.Proofs.Ytgonglbgejaffaa

