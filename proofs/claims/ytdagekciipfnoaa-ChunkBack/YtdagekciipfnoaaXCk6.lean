/- begin: a reader that has no piece of an image yet. -/
import Derived.Test.YtdagekciipfnoaaXCk5
import Derived.Deep.CutRange
namespace Go.Proofs.Ytdagekciipfnoaa
open Go.RowKit
set_option linter.unusedVariables false
set_option linter.unusedSimpArgs false
set_option maxRecDepth 4000

theorem tnd6 {R : Nat → Prop} {w w' : World} (h : Below w.heap.size w w') : Turned R w w' := (turned_below h).mono (fun _ h => h.elim)
theorem made_bools (u : World) (N : Nat) : Blk (u.alloc (.cells (madeCells #[.bool false] N) 4)) u.heap.size 4 (List.replicate N (.bool false)) := by
  have e : (madeCells #[Value.bool false] N) = (List.replicate N (Value.bool false)).toArray := by
    apply Array.ext
    · simp [madeCells]
    · intro i h1 h2; simp [madeCells, Nat.mod_one]
  rw [e]; exact Blk.new' u _ _
theorem info_bool : (Try.prog.info? 4).map (fun i => (i.zero, i.size, i.bytes)) = some (some (.bool false), 1, 1) := by kernel_rfl
theorem make_bools (N : Nat) (hN : N ≤ 1000) (u : World) : (Instr.makeSlice 33 (.int .i64 N) (.int .i64 N)).run Try.prog u = .ok (.slice (some ⟨u.heap.size, 0, none⟩) N N) (u.alloc (.cells (madeCells #[.bool false] N) 4)) := by
  obtain ⟨i0, hi, hz0, hz1, hz2⟩ := info_parts info_bool
  have h := run_make (P := Try.prog) u 33 4 i0 (.bool false) Try.underlying33 hi hz0 .i64 .i64 N N (by omega) (by omega) (by rw [hz2]; omega) (by omega)
  rw [hz1] at h
  simpa [Value.cells] using h
set_option maxHeartbeats 4000000 in
theorem begin_raw (g : Nat) (a0 a1 c2 c3 a4 c5 c6 c7 c8 c9 : Value) (id num : Int) (cnt : Nat) (s : Int) (x : Option Addr) (n c : Nat) (w : World) (hG : Blk w g 67 [a0, a1, c2, c3, a4, c5, c6, c7, c8, c9]) (hc : cnt ≤ 256) :
    Calls Try.prog 23 #[.pointer (some ⟨g, 0, none⟩), .agg #[.int .i64 id, .int .i64 num, .int .i64 cnt, .int .u32 s, .slice x n c]] w fun e w' => e = .returned (.tuple #[]) ∧ ∃ t d, w.heap.size ≤ t ∧ w.heap.size ≤ d ∧
      Blk w' g 67 [.int .i64 id, .int .u32 s, .slice (some ⟨t, 0, none⟩) cnt cnt, .slice (some ⟨d, 0, none⟩) cnt cnt, .int .i64 0, c5, c6, c7, c8, c9] ∧ Blk w' t 4 (List.replicate cnt (.bool false)) ∧ Blk w' d 22 (List.replicate cnt (.slice none 0 0)) ∧ Turned (fun k => k = g) w w' := by
  have b1 : Below w.heap.size w (w.alloc (.cells #[.int .i64 id, .int .i64 num, .int .i64 cnt, .int .u32 s, .slice x n c] 49)) := (Below.refl _ _).alloc (Nat.le_refl _) _
  have hP0 := Blk.new' w 49 [.int .i64 id, .int .i64 num, .int .i64 cnt, .int .u32 s, .slice x n c]
  have hG1 := hG.laterB b1
  have hz1 : (w.alloc (.cells #[.int .i64 id, .int .i64 num, .int .i64 cnt, .int .u32 s, .slice x n c] 49)).heap.size = w.heap.size + 1 := by simp
  have hgl := hG.lt
  have HG : Hid _ := And.intro hP0 (And.intro hG1 (And.intro b1 (And.intro hz1 hgl)))
  clear hP0 hG1 b1 hz1 hG
  go_enter Try.func23, Try.ntmps23
  go_upto_region 1 with fail
  generalize (w.alloc (.cells #[.int .i64 id, .int .i64 num, .int .i64 cnt, .int .u32 s, .slice x n c] 49)) = w1 at *
  obtain ⟨P, hPe⟩ : ∃ P, P = w.heap.size := ⟨_, rfl⟩
  rw [← hPe] at HG ⊢
  have hG : Blk w1 g 67 [a0, a1, c2, c3, a4, c5, c6, c7, c8, c9] := HG.out.2.1
  have hP : Blk w1 P 49 [.int .i64 id, .int .i64 num, .int .i64 cnt, .int .u32 s, .slice x n c] := HG.out.1
  have hPg : ¬ (P = g) := blk_ne hP hG (by decide)
  go_cut [8] from 4 to 28 (fun cv wx => cv = .int .i64 id ∧ Blk wx P 49 [.int .i64 id, .int .i64 num, .int .i64 cnt, .int .u32 s, .slice x n c] ∧ Blk wx g 67 [.int .i64 id, .int .u32 s, c2, c3, .int .i64 0, c5, c6, c7, c8, c9] ∧ Turned (fun k => k = g) w1 wx)
  case first =>
    clear HG hgl hPe
    refine wp_region_held_drew (S := fun W => Blk W P 49 [.int .i64 id, .int .i64 num, .int .i64 cnt, .int .u32 s, .slice x n c] ∧ (∃ y0 y1 y4, Blk W g 67 [y0, y1, c2, c3, y4, c5, c6, c7, c8, c9]) ∧ Turned (fun k => k = g) w1 W) (by kernel_rfl) (⟨hP, ⟨_, _, _, hG⟩, tnd6 (Below.refl _ _).drew⟩) (fun hS => ?_)
    refine any_take (i := 0) (v := ?_) rfl (by kernel_rfl) (by kernel_rfl) (by kernel_rfl) (by exact fun _ _ _ h => h) (by rfl) ?_ hS ?_
    rotate_left
    · ((intro w hSw; (try dsimp only at hSw); go_simp) <;> with_reducible rfl)
    (try simp only [Act.put, List.setIfInBounds_toArray, List.set_cons_zero, List.set_cons_succ])
    refine any_take (i := 1) (v := ?_) rfl (by kernel_rfl) (by kernel_rfl) (by kernel_rfl) (by exact fun _ _ _ h => h) (by rfl) ?_ hS ?_
    rotate_left
    · ((intro w hSw; (try dsimp only at hSw); go_simp) <;> with_reducible rfl)
    (try simp only [Act.put, List.setIfInBounds_toArray, List.set_cons_zero, List.set_cons_succ])
    refine any_take (i := 2) (v := ?_) rfl (by kernel_rfl) (by kernel_rfl) (by kernel_rfl) (by exact fun _ _ _ h => h) (by rfl) ?_ hS ?_
    rotate_left
    · ((intro w hSw; (try dsimp only at hSw); go_simp) <;> with_reducible rfl)
    (try simp only [Act.put, List.setIfInBounds_toArray, List.set_cons_zero, List.set_cons_succ])
    refine any_take (i := 3) (v := ?_) rfl (by kernel_rfl) (by kernel_rfl) (by kernel_rfl) (by exact fun _ _ _ h => h) (by rfl) ?_ hS ?_
    rotate_left
    · ((intro w hSw; (try dsimp only at hSw); go_simp) <;> with_reducible rfl)
    (try simp only [Act.put, List.setIfInBounds_toArray, List.set_cons_zero, List.set_cons_succ])
    refine any_take (i := 4) (v := ?_) rfl (by kernel_rfl) (by kernel_rfl) (by kernel_rfl) (by exact fun _ _ _ h => h) (by rfl) ?_ hS ?_
    rotate_left
    · intro w hSw; have hc := blk_at hSw.1 0; simp only [List.getElem?_cons_zero, List.getElem?_cons_succ] at hc; clear hSw; go_simp <;> with_reducible rfl
    (try simp only [Act.put, List.setIfInBounds_toArray, List.set_cons_zero, List.set_cons_succ])
    refine any_take (i := 5) (v := ?_) rfl (by kernel_rfl) (by kernel_rfl) (by kernel_rfl) (by exact fun _ _ _ h => h) (by rfl) ?_ hS ?_
    rotate_left
    · ((intro w hSw; (try dsimp only at hSw); go_simp) <;> with_reducible rfl)
    (try simp only [Act.put, List.setIfInBounds_toArray, List.set_cons_zero, List.set_cons_succ])
    refine any_take (i := 6) (v := ?_) rfl (by kernel_rfl) (by kernel_rfl) (by kernel_rfl) (by exact fun _ _ _ h => h) (by rfl) ?_ hS ?_
    rotate_left
    · intro w hSw; have hc := blk_at hSw.1 3; simp only [List.getElem?_cons_zero, List.getElem?_cons_succ] at hc; clear hSw; go_simp <;> with_reducible rfl
    (try simp only [Act.put, List.setIfInBounds_toArray, List.set_cons_zero, List.set_cons_succ])
    refine any_take (i := 7) (v := ?_) rfl (by kernel_rfl) (by kernel_rfl) (by kernel_rfl) (by exact fun _ _ _ h => h) (by rfl) ?_ hS ?_
    rotate_left
    · ((intro w hSw; (try dsimp only at hSw); go_simp) <;> with_reducible rfl)
    (try simp only [Act.put, List.setIfInBounds_toArray, List.set_cons_zero, List.set_cons_succ])
    refine any_take (i := 8) (v := ?_) rfl (by kernel_rfl) (by kernel_rfl) (by kernel_rfl) (by exact fun _ _ _ h => h) (by rfl) ?_ hS ?_
    rotate_left
    · ((intro w hSw; (try dsimp only at hSw); go_simp) <;> with_reducible rfl)
    (try simp only [Act.put, List.setIfInBounds_toArray, List.set_cons_zero, List.set_cons_succ])
    have B0 : Blk w1.drew g 67 [a0, a1, c2, c3, a4, c5, c6, c7, c8, c9] := hG
    generalize w1.drew = W0 at *
    refine any_on (i := 9) rfl (by kernel_rfl) (fun K hK => ?_)
    have hc := blk_at B0 0
    have hz := blk_frozen B0 0
    simp only [List.getElem?_cons_zero, List.getElem?_cons_succ] at hc
    go_simp
    have B1 := B0.set 0 (.int .i64 id)
    simp only [List.set_cons_zero, List.set_cons_succ] at B1
    clear hc hz
    refine hK.out _ _ ⟨hS.1.turned (turned_set _ g 0 _) hPg, ⟨_, _, _, B1⟩, hS.2.2.trans ((turned_set _ g 0 _).mono (fun k e => .inl e))⟩ (fun hS => ?_)
    clear hK K
    refine any_take (i := 10) (v := ?_) rfl (by kernel_rfl) (by kernel_rfl) (by kernel_rfl) (by exact fun _ _ _ h => h) (by rfl) ?_ hS ?_
    rotate_left
    · ((intro w hSw; (try dsimp only at hSw); go_simp) <;> with_reducible rfl)
    (try simp only [Act.put, List.setIfInBounds_toArray, List.set_cons_zero, List.set_cons_succ])
    refine any_take (i := 11) (v := ?_) rfl (by kernel_rfl) (by kernel_rfl) (by kernel_rfl) (by exact fun _ _ _ h => h) (by rfl) ?_ hS ?_
    rotate_left
    · ((intro w hSw; (try dsimp only at hSw); go_simp) <;> with_reducible rfl)
    (try simp only [Act.put, List.setIfInBounds_toArray, List.set_cons_zero, List.set_cons_succ])
    refine any_on (i := 12) rfl (by kernel_rfl) (fun K hK => ?_)
    have hc := blk_at B1 1
    have hz := blk_frozen B1 1
    simp only [List.getElem?_cons_zero, List.getElem?_cons_succ] at hc
    go_simp
    have B2 := B1.set 1 (.int .u32 s)
    simp only [List.set_cons_zero, List.set_cons_succ] at B2
    clear hc hz
    refine hK.out _ _ ⟨hS.1.turned (turned_set _ g 1 _) hPg, ⟨_, _, _, B2⟩, hS.2.2.trans ((turned_set _ g 1 _).mono (fun k e => .inl e))⟩ (fun hS => ?_)
    clear hK K
    refine any_take (i := 13) (v := ?_) rfl (by kernel_rfl) (by kernel_rfl) (by kernel_rfl) (by exact fun _ _ _ h => h) (by rfl) ?_ hS ?_
    rotate_left
    · ((intro w hSw; (try dsimp only at hSw); go_simp) <;> with_reducible rfl)
    (try simp only [Act.put, List.setIfInBounds_toArray, List.set_cons_zero, List.set_cons_succ])
    refine any_take (i := 14) (v := ?_) rfl (by kernel_rfl) (by kernel_rfl) (by kernel_rfl) (by exact fun _ _ _ h => h) (by rfl) ?_ hS ?_
    rotate_left
    · ((intro w hSw; (try dsimp only at hSw); go_simp) <;> with_reducible rfl)
    (try simp only [Act.put, List.setIfInBounds_toArray, List.set_cons_zero, List.set_cons_succ])
    refine any_on (i := 15) rfl (by kernel_rfl) (fun K hK => ?_)
    have hc := blk_at B2 4
    have hz := blk_frozen B2 4
    simp only [List.getElem?_cons_zero, List.getElem?_cons_succ] at hc
    go_simp
    have B3 := B2.set 4 (.int .i64 0)
    simp only [List.set_cons_zero, List.set_cons_succ] at B3
    clear hc hz
    refine hK.out _ _ ⟨hS.1.turned (turned_set _ g 4 _) hPg, ⟨_, _, _, B3⟩, hS.2.2.trans ((turned_set _ g 4 _).mono (fun k e => .inl e))⟩ (fun hS => ?_)
    clear hK K
    refine wpAnyH_done (by kernel_rfl) ?_ _
    go_wp2
    go_meet
    exact ⟨rfl, hS.1, B3, hS.2.2⟩
  case rest =>
  obtain ⟨rfl, hP2, hG2, hT2⟩ := hcut
  have hT : Turned (fun k => k = g) w _ := (tnd6 (by have := HG.out.2.2.1; rw [hPe] at this; exact this)).trans (hT2.mono (fun k e => .inl e))
  have hlt : w.heap.size ≤ wc.heap.size := hT.size
  have w1b : Below wc.heap.size wc (wc.alloc (.cells (madeCells #[.bool false] cnt) 4)) := (Below.refl _ _).alloc (Nat.le_refl _) _
  have e1 := made_bools wc cnt
  have m1 := make_bools cnt (by omega) wc
  have x1 := blk_at hP2 2
  have hG3 := hG2.laterB w1b
  have hP3 := hP2.laterB w1b
  have n1 : ¬ (wc.heap.size = g) := blk_ne e1 hG3 (by decide)
  have x2 := blk_at hG3 2
  have x3 := blk_frozen hG3 2
  have hG4 := hG3.set 2 (.slice (some ⟨wc.heap.size, 0, none⟩) cnt cnt)
  have s4 := turned_set (wc.alloc (.cells (madeCells #[.bool false] cnt) 4)) g 2 (.slice (some ⟨wc.heap.size, 0, none⟩) cnt cnt)
  have hP4 := hP3.turned s4 hPg
  have e4 := e1.turned s4 n1
  have x4 := blk_at hP4 2
  have hz2 : ((wc.alloc (.cells (madeCells #[.bool false] cnt) 4)).setCell ⟨g, 2, none⟩ (.slice (some ⟨wc.heap.size, 0, none⟩) cnt cnt)).heap.size = wc.heap.size + 1 := by simp [World.setCell]
  have w5b : Below ((wc.alloc (.cells (madeCells #[.bool false] cnt) 4)).setCell ⟨g, 2, none⟩ (.slice (some ⟨wc.heap.size, 0, none⟩) cnt cnt)).heap.size ((wc.alloc (.cells (madeCells #[.bool false] cnt) 4)).setCell ⟨g, 2, none⟩ (.slice (some ⟨wc.heap.size, 0, none⟩) cnt cnt)) (((wc.alloc (.cells (madeCells #[.bool false] cnt) 4)).setCell ⟨g, 2, none⟩ (.slice (some ⟨wc.heap.size, 0, none⟩) cnt cnt)).alloc (.cells (madeCells #[.slice none 0 0] cnt) 22)) := (Below.refl _ _).alloc (Nat.le_refl _) _
  have e5 := made_lists ((wc.alloc (.cells (madeCells #[.bool false] cnt) 4)).setCell ⟨g, 2, none⟩ (.slice (some ⟨wc.heap.size, 0, none⟩) cnt cnt)) cnt
  have m5 := make_lists cnt (by omega) ((wc.alloc (.cells (madeCells #[.bool false] cnt) 4)).setCell ⟨g, 2, none⟩ (.slice (some ⟨wc.heap.size, 0, none⟩) cnt cnt))
  rw [hz2] at e5 m5
  have hG5 := hG4.laterB w5b
  have E5 := e4.laterB w5b
  have x5 := blk_at hG5 3
  have x6 := blk_frozen hG5 3
  have hG6 := hG5.set 3 (.slice (some ⟨wc.heap.size + 1, 0, none⟩) cnt cnt)
  have s6 := turned_set (((wc.alloc (.cells (madeCells #[.bool false] cnt) 4)).setCell ⟨g, 2, none⟩ (.slice (some ⟨wc.heap.size, 0, none⟩) cnt cnt)).alloc (.cells (madeCells #[.slice none 0 0] cnt) 22)) g 3 (.slice (some ⟨wc.heap.size + 1, 0, none⟩) cnt cnt)
  have n5 : ¬ (wc.heap.size + 1 = g) := blk_ne e5 hG5 (by decide)
  have T6 := hT.trans ((tnd6 (R := fun k => k = g) w1b).trans ((s4.trans ((tnd6 (R := fun k => k = g) w5b |>.trans (s6.mono (fun k e => .inl e))).mono (fun k e => .inl e))).mono (fun k e => .inl e)) |>.mono (fun k e => .inl e))
  have F : Hid _ := And.intro hG6 (And.intro (E5.turned s6 n1) (And.intro (e5.turned s6 n5) T6))
  simp only [List.set_cons_zero, List.set_cons_succ, List.getElem?_cons_zero, List.getElem?_cons_succ] at x1 x2 x4 x5
  clear hP hG hPg hP2 hG2 hT2 hT w1b e1 hG3 hP3 n1 hG4 s4 hP4 e4 w5b e5 hG5 E5 hG6 s6 n5 T6 HG hgl hPe
  rename_i hgo
  refine hgo _ _ ?_
  clear hgo
  go_wp2
  go_end0
  exact ⟨rfl, _, _, hlt, Nat.le_succ_of_le hlt, F.out⟩
theorem lenOf_none (n : Nat) : lenOf (List.replicate n none) = 0 := by
  unfold lenOf
  rw [List.map_replicate]
  simp
/-- a reader that gathers the image of a piece -/
def begM (m : CR) (id s : Int) (cnt : Nat) : CR := ⟨id, s, List.replicate cnt none, m.ad⟩
theorem begin_any (p : CPl) (m : CR) (id num : Int) (cnt : Nat) (s : Int) (x : Option Addr) (n c : Nat) (w : World) (h : (crOb p m).Ok w) (hc : 1 ≤ cnt ∧ cnt ≤ 256) :
    Calls Try.prog 23 #[.pointer (some ⟨p.g, 0, none⟩), .agg #[.int .i64 id, .int .i64 num, .int .i64 cnt, .int .u32 s, .slice x n c]] w fun e w' => e = .returned (.tuple #[]) ∧ ∃ p', p'.g = p.g ∧ Step w w' (crOb p m) (crOb p' (begM m id s cnt)) := by
  refine (begin_raw p.g _ _ _ _ _ _ _ _ _ _ id num cnt s x n c w h.holds.blk hc.2).mono ?_
  rintro e w' ⟨rfl, t, d, ht, hd, hG, hB, hL, hT⟩
  have hne : ¬ (begM m id s cnt).ps.length = 0 := by simp [begM]; omega
  have hok : CrP w' ⟨p.g, t, d, List.replicate cnt (.slice none 0 0)⟩ (begM m id s cnt) := by
    refine ⟨?_, fun _ => ?_, fun _ => hL, by simp [begM], fun i o hi => ?_, h.holds.ad⟩
    · have : (begM m id s cnt).ps.length = cnt := by simp [begM]
      rw [this, show lenOf (begM m id s cnt).ps = 0 from lenOf_none cnt]
      unfold CPl.tv CPl.dv
      rw [if_neg (by omega), if_neg (by omega)]
      exact hG
    · have : (begM m id s cnt).ps.map isB = List.replicate cnt (.bool false) := by simp [begM, isB]
      rw [this]
      exact hB
    · have hic : i < cnt := by
        have := (List.getElem?_eq_some_iff.1 hi).1
        simpa [begM] using this
      have ho : o = none := by
        have := hi
        simp [begM, List.getElem?_replicate, hic] at this
        exact this.symm
      subst ho
      refine ⟨.slice none 0 0, by simp [List.getElem?_replicate, hic], World.ownsRow_nil _ _ _ _⟩
  refine ⟨rfl, ⟨p.g, t, d, List.replicate cnt (.slice none 0 0)⟩, rfl, hT.mono (fun k e => by subst e; simp [crOb]), crOb_ok hok, fun k hk => ?_, fun k hk => ?_⟩
  · simp only [crOb, if_neg hne, List.mem_cons, List.not_mem_nil, or_false] at hk
    rcases hk with rfl | rfl | rfl
    · exact .inl (by simp [crOb])
    · exact .inr ht
    · exact .inr hd
  · exfalso
    obtain ⟨v, hv, e⟩ := List.mem_filterMap.1 hk
    obtain rfl := (List.mem_replicate.1 hv).2
    cases e
end Go.Proofs.Ytdagekciipfnoaa

