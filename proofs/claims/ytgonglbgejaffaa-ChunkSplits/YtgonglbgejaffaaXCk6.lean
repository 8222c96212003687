/- begin: a reader that has no piece of an image yet. -/
import Derived.Test.YtgonglbgejaffaaXCk5
import Derived.Deep.CutRange
namespace Go.Proofs.Ytgonglbgejaffaa
open Go.RowKit
set_option linter.unusedVariables false
set_option linter.unusedSimpArgs false
set_option maxRecDepth 4000

theorem tnd6 {R : Nat → Prop} {w w' : World} (h : Below w.heap.size w w') : Turned R w w' := (turned_below h).mono (fun _ h => h.elim)
theorem made_bools (u : World) (N : Nat) : Blk (u.alloc (.cells (madeCells #[.bool false] N) 4)) u.heap.size 4 (List.replicate N (.bool false)) := by
  have e : (madeCells #[Value.bool false] N) = (List.replicate N (Value.bool false)).toArray := by
    apply Array.ext
    · simp [madeCells]
    · intro i h1 h2; simp [madeCells, Nat.mod_one]
  rw [e]; exact Blk.new' u _ _
theorem info_bool : (Try.prog.info? 4).map (fun i => (i.zero, i.size, i.bytes)) = some (some (.bool false), 1, 1) := by kernel_rfl
theorem make_bools (N : Nat) (hN : N ≤ 1000) (u : World) : (Instr.makeSlice 39 (.int .i64 N) (.int .i64 N)).run Try.prog u = .ok (.slice (some ⟨u.heap.size, 0, none⟩) N N) (u.alloc (.cells (madeCells #[.bool false] N) 4)) := by
  obtain ⟨i0, hi, hz0, hz1, hz2⟩ := info_parts info_bool
  have h := run_make (P := Try.prog) u 39 4 i0 (.bool false) Try.underlying39 hi hz0 .i64 .i64 N N (by omega) (by omega) (by rw [hz2]; omega) (by omega)
  rw [hz1] at h
  simpa [Value.cells] using h
set_option maxHeartbeats 4000000 in
theorem begin_raw (g : Nat) (a0 a1 c2 c3 a4 c5 c6 c7 c8 c9 : Value) (id num : Int) (cnt : Nat) (s : Int) (x : Option Addr) (n c : Nat) (w : World) (hG : Blk w g 74 [a0, a1, c2, c3, a4, c5, c6, c7, c8, c9]) (hc : cnt ≤ 256) :
    Calls Try.prog 36 #[.pointer (some ⟨g, 0, none⟩), .agg #[.int .i64 id, .int .i64 num, .int .i64 cnt, .int .u32 s, .slice x n c]] w fun e w' => e = .returned (.tuple #[]) ∧ ∃ t d, w.heap.size ≤ t ∧ w.heap.size ≤ d ∧
      Blk w' g 74 [.int .i64 id, .int .u32 s, .slice (some ⟨t, 0, none⟩) cnt cnt, .slice (some ⟨d, 0, none⟩) cnt cnt, .int .i64 0, c5, c6, c7, c8, c9] ∧ Blk w' t 4 (List.replicate cnt (.bool false)) ∧ Blk w' d 22 (List.replicate cnt (.slice none 0 0)) ∧ Turned (fun k => k = g) w w' := by
  have b1 : Below w.heap.size w (w.alloc (.cells #[.int .i64 id, .int .i64 num, .int .i64 cnt, .int .u32 s, .slice x n c] 56)) := (Below.refl _ _).alloc (Nat.le_refl _) _
  have hP0 := Blk.new' w 56 [.int .i64 id, .int .i64 num, .int .i64 cnt, .int .u32 s, .slice x n c]
  have hG1 := hG.laterB b1
  have hz1 : (w.alloc (.cells #[.int .i64 id, .int .i64 num, .int .i64 cnt, .int .u32 s, .slice x n c] 56)).heap.size = w.heap.size + 1 := by simp
  have hgl := hG.lt
  have HG : Hid _ := And.intro hP0 (And.intro hG1 (And.intro b1 (And.intro hz1 hgl)))
  clear hP0 hG1 b1 hz1 hG
  go_enter Try.func36, Try.ntmps36
  go_upto_region 1 with fail
  generalize (w.alloc (.cells #[.int .i64 id, .int .i64 num, .int .i64 cnt, .int .u32 s, .slice x n c] 56)) = w1 at *
  obtain ⟨P, hPe⟩ : ∃ P, P = w.heap.size := ⟨_, rfl⟩
  rw [← hPe] at HG ⊢
  have hG : Blk w1 g 74 [a0, a1, c2, c3, a4, c5, c6, c7, c8, c9] := HG.out.2.1
  have hP : Blk w1 P 56 [.int .i64 id, .int .i64 num, .int .i64 cnt, .int .u32 s, .slice x n c] := HG.out.1
  have hPg : ¬ (P = g) := blk_ne hP hG (by decide)
  go_cut [8] from 4 to 28 (fun cv wx => cv = .int .i64 id ∧ Blk wx P 56 [.int .i64 id, .int .i64 num, .int .i64 cnt, .int .u32 s, .slice x n c] ∧ Blk wx g 74 [.int .i64 id, .int .u32 s, c2, c3, .int .i64 0, c5, c6, c7, c8, c9] ∧ Turned (fun k => k = g) w1 wx)
  case first =>
    clear HG hgl hPe
    refine wp_region_held_drew (S := fun W => Blk W P 56 [.int .i64 id, .int .i64 num, .int .i64 cnt, .int .u32 s, .slice x n c] ∧ (∃ y0 y1 y4, Blk W g 74 [y0, y1, c2, c3, y4, c5, c6, c7, c8, c9]) ∧ Turned (fun k => k = g) w1 W) (by kernel_rfl) (⟨hP, ⟨_, _, _, hG⟩, tnd6 (Below.refl _ _).drew⟩) (fun hS => ?_)
    refine any_take (i := 0) (v := ?_) rfl (by kernel_rfl) (by kernel_rfl) (by kernel_rfl) (by exact fun _ _ _ h => h) (by rfl) ?_ hS ?_
    rotate_left
    · ((intro w hSw; (try dsimp only at hSw); go_simp) <;> with_reducible rfl)
    (try simp only [Act.put, List.setIfInBounds_toArray, List.set_cons_zero, List.set_cons_succ])
    refine any_take (i := 1) (v := ?_) rfl (by kernel_rfl) (by kernel_rfl) (by kernel_rfl) (by exact fun _ _ _ h => h) (by rfl) ?_ hS ?_
    rotate_left
    · ((intro w hSw; (try dsimp only at hSw); go_simp) <;> with_reducible rfl)
    (try simp only [Act.put, List.setIfInBounds_toArray, List.set_cons_zero, List.set_cons_succ])
    refine any_take (i := 2) (v := ?_) rfl (by kernel_rfl) (by kernel_rfl) (by kernel_rfl) (by exact fun _ _ _ h => h) (by rfl) ?_ hS ?_
    rotate_left
    · ((intro w hSw; (try dsimp only at hSw); go_simp) <;> with_reducible rfl)
    (try simp only [Act.put, List.setIfInBounds_toArray, List.set_cons_zero, List.set_cons_succ])
    refine any_take (i := 3) (v := ?_) rfl (by kernel_rfl) (by kernel_rfl) (by kernel_rfl) (by exact fun _ _ _ h => h) (by rfl) ?_ hS ?_
    rotate_left
    · ((intro w hSw; (try dsimp only at hSw); go_simp) <;> with_reducible rfl)
    (try simp only [Act.put, List.setIfInBounds_toArray, List.set_cons_zero, List.set_cons_succ])
    refine any_take (i := 4) (v := ?_) rfl (by kernel_rfl) (by kernel_rfl) (by kernel_rfl) (by exact fun _ _ _ h => h) (by rfl) ?_ hS ?_
    rotate_left
    · intro w hSw; have hc := blk_at hSw.1 0; simp only [List.getElem?_cons_zero, List.getElem?_cons_succ] at hc; clear hSw; go_simp <;> with_reducible rfl
    (try simp only [Act.put, List.setIfInBounds_toArray, List.set_cons_zero, List.set_cons_succ])
    refine any_take (i := 5) (v := ?_) rfl (by kernel_rfl) (by kernel_rfl) (by kernel_rfl) (by exact fun _ _ _ h => h) (by rfl) ?_ hS ?_
    rotate_left
    · ((intro w hSw; (try dsimp only at hSw); go_simp) <;> with_reducible rfl)
    (try simp only [Act.put, List.setIfInBounds_toArray, List.set_cons_zero, List.set_cons_succ])
    refine any_take (i := 6) (v := ?_) rfl (by kernel_rfl) (by kernel_rfl) (by kernel_rfl) (by exact fun _ _ _ h => h) (by rfl) ?_ hS ?_
    rotate_left
    · intro w hSw; have hc := blk_at hSw.1 3; simp only [List.getElem?_cons_zero, List.getElem?_cons_succ] at hc; clear hSw; go_simp <;> with_reducible rfl
    (try simp only [Act.put, List.setIfInBounds_toArray, List.set_cons_zero, List.set_cons_succ])
    refine any_take (i := 7) (v := ?_) rfl (by kernel_rfl) (by kernel_rfl) (by kernel_rfl) (by exact fun _ _ _ h => h) (by rfl) ?_ hS ?_
    rotate_left
    · ((intro w hSw; (try dsimp only at hSw); go_simp) <;> with_reducible rfl)
    (try simp only [Act.put, List.setIfInBounds_toArray, List.set_cons_zero, List.set_cons_succ])
    refine any_take (i := 8) (v := ?_) rfl (by kernel_rfl) (by kernel_rfl) (by kernel_rfl) (by exact fun _ _ _ h => h) (by rfl) ?_ hS ?_
    rotate_left
    · ((intro w hSw; (try dsimp only at hSw); go_simp) <;> with_reducible rfl)
    (try simp only [Act.put, List.setIfInBounds_toArray, List.set_cons_zero, List.set_cons_succ])
    have B0 : Blk w1.drew g 74 [a0, a1, c2, c3, a4, c5, c6, c7, c8, c9] := hG
    generalize w1.drew = W0 at *
    refine any_on (i := 9) rfl (by kernel_rfl) (fun K hK => ?_)
    have hc := blk_at B0 0
    have hz := blk_frozen B0 0
    simp only [List.getElem?_cons_zero, List.getElem?_cons_succ] at hc
    go_simp
    have B1 := B0.set 0 (.int .i64 id)
    simp only [List.set_cons_zero, List.set_cons_succ] at B1
    clear hc hz
    refine hK.out _ _ ⟨hS.1.turned (turned_set _ g 0 _) hPg, ⟨_, _, _, B1⟩, hS.2.2.trans ((turned_set _ g 0 _).mono (fun k e => .inl e))⟩ (fun hS => ?_)
    clear hK K
    refine any_take (i := 10) (v := ?_) rfl (by kernel_rfl) (by kernel_rfl) (by kernel_rfl) (by exact fun _ _ _ h => h) (by rfl) ?_ hS ?_
    rotate_left
    · ((intro w hSw; (try dsimp only at hSw); go_simp) <;> with_reducible rfl)
    (try simp only [Act.put, List.setIfInBounds_toArray, List.set_cons_zero, List.set_cons_succ])
    refine any_take (i := 11) (v := ?_) rfl (by kernel_rfl) (by kernel_rfl) (by kernel_rfl) (by exact fun _ _ _ h => h) (by rfl) ?_ hS ?_
    rotate_left
    · ((intro w hSw; (try dsimp only at hSw); go_simp) <;> with_reducible rfl)
    (try simp only [Act.put, List.setIfInBounds_toArray, List.set_cons_zero, List.set_cons_succ])
    refine any_on (i := 12) rfl (by kernel_rfl) (fun K hK => ?_)
    have hc := blk_at B1 1
    have hz := blk_frozen B1 1
    simp only [List.getElem?_cons_zero, List.getElem?_cons_succ] at hc
    go_simp
    have B2 := B1.set 1 (.int .u32 s)
    simp only [List.set_cons_zero, List.set_cons_succ] at B2
    clear hc hz
    refine hK.out _ _ ⟨hS.1.turned (turned_set _ g 1 _) hPg, ⟨_, _, _, B2⟩, hS.2.2.trans ((turned_set _ g 1 _).mono (fun k e => .inl e))⟩ (fun hS => ?_)
    clear hK K
    refine any_take (i := 13) (v := ?_) rfl (by kernel_rfl) (by kernel_rfl) (by kernel_rfl) (by exact fun _ _ _ h => h) (by rfl) ?_ hS ?_
    rotate_left
    · ((intro w hSw; (try dsimp only at hSw); go_simp) <;> with_reducible rfl)
    (try simp only [Act.put, List.setIfInBounds_toArray, List.set_cons_zero, List.set_cons_succ])
    refine any_take (i := 14) (v := ?_) rfl (by kernel_rfl) (by kernel_rfl) (by kernel_rfl) (by exact fun _ _ _ h => h) (by rfl) ?_ hS ?_
    rotate_left
    · ((intro w hSw; (try dsimp only at hSw); go_simp) <;> with_reducible rfl)
    (try simp only [Act.put, List.setIfInBounds_toArray, List.set_cons_zero, List.set_cons_succ])
    refine any_on (i := 15) rfl (by kernel_rfl) (fun K hK => ?_)
    have hc := blk_at B2 4
    have hz := blk_frozen B2 4
    simp only [List.getElem?_cons_zero, List.getElem?_cons_succ] at hc
    go_simp
    have B3 := B2.set 4 (.int .i64 0)
    simp only [List.set_cons_zero, List.set_cons_succ] at B3
    clear hc hz
    refine hK.out _ _ ⟨hS.1.turned (turned_set _ g 4 _) hPg, ⟨_, _, _, B3⟩, hS.2.2.trans ((turned_set _ g 4 _).mono (fun k e => .inl e))⟩ (fun hS => ?_)
    clear hK K
    refine wpAnyH_done (by kernel_rfl) ?_ _
    go_wp2
    go_meet
    exact ⟨rfl, hS.1, B3, hS.2.2⟩
  case rest =>
  obtain ⟨rfl, hP2, hG2, hT2⟩ := hcut
  have hT : Turned (fun k => k = g) w _ := (tnd6 (by have := HG.out.2.2.1; rw [hPe] at this; exact this)).trans (hT2.mono (fun k e => .inl e))
  have hlt : w.heap.size ≤ wc.heap.size := hT.size
  have w1b : Below wc.heap.size wc (wc.alloc (.cells (madeCells #[.bool false] cnt) 4)) := (Below.refl _ _).alloc (Nat.le_refl _) _
  have e1 := made_bools wc cnt
  have m1 := make_bools cnt (by omega) wc
  have x1 := blk_at hP2 2
  have hG3 := hG2.laterB w1b
  have hP3 := hP2.laterB w1b
  have n1 : ¬ (wc.heap.size = g) := blk_ne e1 hG3 (by decide)
  have x2 := blk_at hG3 2
  have x3 := blk_frozen hG3 2
  have hG4 := hG3.set 2 (.slice (some ⟨wc.heap.size, 0, none⟩) cnt cnt)
  have s4 := turned_set (wc.alloc (.cells (madeCells #[.bool false] cnt) 4)) g 2 (.slice (some ⟨wc.heap.size, 0, none⟩) cnt cnt)
  have hP4 := hP3.turned s4 hPg
  have e4 := e1.turned s4 n1
  have x4 := blk_at hP4 2
  have hz2 : ((wc.alloc (.cells (madeCells #[.bool false] cnt) 4)).setCell ⟨g, 2, none⟩ (.slice (some ⟨wc.heap.size, 0, none⟩) cnt cnt)).heap.size = wc.heap.size + 1 := by simp [World.setCell]
  have w5b : Below ((wc.alloc (.cells (madeCells #[.bool false] cnt) 4)).setCell ⟨g, 2, none⟩ (.slice (some ⟨wc.heap.size, 0, none⟩) cnt cnt)).heap.size ((wc.alloc (.cells (madeCells #[.bool false] cnt) 4)).setCell ⟨g, 2, none⟩ (.slice (some ⟨wc.heap.size, 0, none⟩) cnt cnt)) (((wc.alloc (.cells (madeCells #[.bool false] cnt) 4)).setCell ⟨g, 2, none⟩ (.slice (some ⟨wc.heap.size, 0, none⟩) cnt cnt)).alloc (.cells (madeCells #[.slice none 0 0] cnt) 22)) := (Below.refl _ _).alloc (Nat.le_refl _) _
  have e5 := made_lists ((wc.alloc (.cells (madeCells #[.bool false] cnt) 4)).setCell ⟨g, 2, none⟩ (.slice (some ⟨wc.heap.size, 0, none⟩) cnt cnt)) cnt
  have m5 := make_lists cnt (by omega) ((wc.alloc (.cells (madeCells #[.bool false] cnt) 4)).setCell ⟨g, 2, none⟩ (.slice (some ⟨wc.heap.size, 0, none⟩) cnt cnt))
  rw [hz2] at e5 m5
  have hG5 := hG4.laterB w5b
  have E5 := e4.laterB w5b
  have x5 := blk_at hG5 3
  have x6 := blk_frozen hG5 3
  have hG6 := hG5.set 3 (.slice (some ⟨wc.heap.size + 1, 0, none⟩) cnt cnt)
  have s6 := turned_set (((wc.alloc (.cells (madeCells #[.bool false] cnt) 4)).setCell ⟨g, 2, none⟩ (.slice (some ⟨wc.heap.size, 0, none⟩) cnt cnt)).alloc (.cells (madeCells #[.slice none 0 0] cnt) 22)) g 3 (.slice (some ⟨wc.heap.size + 1, 0, none⟩) cnt cnt)
  have n5 : ¬ (wc.heap.size + 1 = g) := blk_ne e5 hG5 (by decide)
  have T6 := hT.trans ((tnd6 (R := fun k => k = g) w1b).trans ((s4.trans ((tnd6 (R := fun k => k = g) w5b |>.trans (s6.mono (fun k e => .inl e))).mono (fun k e => .inl e))).mono (fun k e => .inl e)) |>.mono (fun k e => .inl e))
  have F : Hid _ := And.intro hG6 (And.intro (E5.turned s6 n1) (And.intro (e5.turned s6 n5) T6))
  simp only [List.set_cons_zero, List.set_cons_succ, List.getElem?_cons_zero, List.getElem?_cons_succ] at x1 x2 x4 x5
  clear hP hG hPg hP2 hG2 hT2 hT w1b e1 hG3 hP3 n1 hG4 s4 hP4 e4 w5b e5 hG5 E5 hG6 s6 n5 T6 HG hgl hPe
  rename_i hgo
  refine hgo _ _ ?_
  clear hgo
  go_wp2
  go_end0
  exact ⟨rfl, _, _, hlt, Nat.le_succ_of_le hlt, F.out⟩
theorem lenOf_none (n : Nat) : lenOf (List.replicate n none) = 0 := by
  unfold lenOf
  rw [List.map_replicate]
  simp
/-- a reader that gathers the image of a piece -/
def begM (m : CR) (id s : Int) (cnt : Nat) : CR := ⟨id, s, List.replicate cnt none, m.ad⟩
theorem begin_any (p : CPl) (m : CR) (id num : Int) (cnt : Nat) (s : Int) (x : Option Addr) (n c : Nat) (w : World) (h : (crOb p m).Ok w) (hc : 1 ≤ cnt ∧ cnt ≤ 256) :
    Calls Try.prog 36 #[.pointer (some ⟨p.g, 0, none⟩), .agg #[.int .i64 id, .int .i64 num, .int .i64 cnt, .int .u32 s, .slice x n c]] w fun e w' => e = .returned (.tuple #[]) ∧ ∃ p', p'.g = p.g ∧ Step w w' (crOb p m) (crOb p' (begM m id s cnt)) := by
  refine (begin_raw p.g _ _ _ _ _ _ _ _ _ _ id num cnt s x n c w h.holds.blk hc.2).mono ?_
  rintro e w' ⟨rfl, t, d, ht, hd, hG, hB, hL, hT⟩
  have hne : ¬ (begM m id s cnt).ps.length = 0 := by simp [begM]; omega
  have hok : CrP w' ⟨p.g, t, d, List.replicate cnt (.slice none 0 0)⟩ (begM m id s cnt) := by
    refine ⟨?_, fun _ => ?_, fun _ => hL, by simp [begM], fun i o hi => ?_, h.holds.ad⟩
    · have : (begM m id s cnt).ps.length = cnt := by simp [begM]
      rw [this, show lenOf (begM m id s cnt).ps = 0 from lenOf_none cnt]
      unfold CPl.tv CPl.dv
      rw [if_neg (by omega), if_neg (by omega)]
      exact hG
    · have : (begM m id s cnt).ps.map isB = List.replicate cnt (.bool false) := by simp [begM, isB]
      rw [this]
      exact hB
    · have hic : i < cnt := by
        have := (List.getElem?_eq_some_iff.1 hi).1
        simpa [begM] using this
      have ho : o = none := by
        have := hi
        simp [begM, List.getElem?_replicate, hic] at this
        exact this.symm
      subst ho
      refine ⟨.slice none 0 0, by simp [List.getElem?_replicate, hic], World.ownsRow_nil _ _ _ _⟩
  refine ⟨rfl, ⟨p.g, t, d, List.replicate cnt (.slice none 0 0)⟩, rfl, hT.mono (fun k e => by subst e; simp [crOb]), crOb_ok hok, fun k hk => ?_, fun k hk => ?_⟩
  · simp only [crOb, if_neg hne, List.mem_cons, List.not_mem_nil, or_false] at hk
    rcases hk with rfl | rfl | rfl
    · exact .inl (by simp [crOb])
    · exact .inr ht
    · exact .inr hd
  · exfalso
    obtain ⟨v, hv, e⟩ := List.mem_filterMap.1 hk
    obtain rfl := (List.mem_replicate.1 hv).2
    cases e
end Go.Proofs.Ytgonglbgejaffaa

/- put: one piece more. -/
namespace Go.Proofs.Ytgonglbgejaffaa
open Go.RowKit
set_option linter.unusedVariables false
set_option linter.unusedSimpArgs false
set_option maxRecDepth 4000

set_option maxHeartbeats 4000000 in
theorem put_there (g t d N num len : Nat) (bs vs : List Value) (c0 c1 c5 c6 c7 c8 c9 : Value) (id : Int) (cnt : Nat) (s : Int) (x : Option Addr) (n c : Nat) (w : World) (hG : Blk w g 74 [c0, c1, .slice (some ⟨t, 0, none⟩) N N, .slice (some ⟨d, 0, none⟩) N N, .int .i64 len, c5, c6, c7, c8, c9]) (hT : Blk w t 4 bs) (hD : Blk w d 22 vs) (hnum : num < N) (u : Value) (hv : vs[num]? = some u) (hb : bs[num]? = some (.bool true)) :
    Calls Try.prog 37 #[.pointer (some ⟨g, 0, none⟩), .agg #[.int .i64 id, .int .i64 num, .int .i64 cnt, .int .u32 s, .slice x n c]] w fun e w' => e = .returned (.tuple #[]) ∧ Below w.heap.size w w' := by
  have b0 : Below w.heap.size w (w.alloc (.cells #[.int .i64 id, .int .i64 num, .int .i64 cnt, .int .u32 s, .slice x n c] 56)).drew := ((Below.refl _ _).alloc (Nat.le_refl _) _).drew
  have HB : Hid _ := And.intro b0 trivial
  clear b0
  have b1 : Below w.heap.size w (w.alloc (.cells #[.int .i64 id, .int .i64 num, .int .i64 cnt, .int .u32 s, .slice x n c] 56)) := (Below.refl _ _).alloc (Nat.le_refl _) _
  have hP0 := Blk.new' w 56 [.int .i64 id, .int .i64 num, .int .i64 cnt, .int .u32 s, .slice x n c]
  obtain ⟨P, hPe⟩ : ∃ P, P = w.heap.size := ⟨_, rfl⟩
  have H1 : Hid (Blk (w.alloc (.cells #[.int .i64 id, .int .i64 num, .int .i64 cnt, .int .u32 s, .slice x n c] 56)) g 74 [c0, c1, .slice (some ⟨t, 0, none⟩) N N, .slice (some ⟨d, 0, none⟩) N N, .int .i64 len, c5, c6, c7, c8, c9] ∧ Blk (w.alloc (.cells #[.int .i64 id, .int .i64 num, .int .i64 cnt, .int .u32 s, .slice x n c] 56)) t 4 (bs) ∧ Blk (w.alloc (.cells #[.int .i64 id, .int .i64 num, .int .i64 cnt, .int .u32 s, .slice x n c] 56)) d 22 (vs) ∧ Blk (w.alloc (.cells #[.int .i64 id, .int .i64 num, .int .i64 cnt, .int .u32 s, .slice x n c] 56)) P 56 [.int .i64 id, .int .i64 num, .int .i64 cnt, .int .u32 s, .slice x n c] ∧ Turned (fun k => k = g ∨ k = t ∨ k = d) w (w.alloc (.cells #[.int .i64 id, .int .i64 num, .int .i64 cnt, .int .u32 s, .slice x n c] 56))) := by
    refine ⟨hG.laterB b1, hT.laterB b1, hD.laterB b1, ?_, tnd6 b1⟩
    rw [hPe]; exact hP0
  have q1 : (num : Int) < N := by omega
  clear hP0 b1 hG hT hD
  go_enter Try.func37, Try.ntmps37
  go_upto_region 1 with fail
  rw [← hPe]
  generalize (w.alloc (.cells #[.int .i64 id, .int .i64 num, .int .i64 cnt, .int .u32 s, .slice x n c] 56)) = w1 at *
  clear hPe
  refine wp_region_held_drew (S := fun W => Blk W g 74 [c0, c1, .slice (some ⟨t, 0, none⟩) N N, .slice (some ⟨d, 0, none⟩) N N, .int .i64 len, c5, c6, c7, c8, c9] ∧ Blk W t 4 (bs) ∧ Blk W d 22 (vs) ∧ Blk W P 56 [.int .i64 id, .int .i64 num, .int .i64 cnt, .int .u32 s, .slice x n c] ∧ Turned (fun k => k = g ∨ k = t ∨ k = d) w W) (by kernel_rfl) (⟨H1.out.1.laterB (Below.refl _ _).drew, H1.out.2.1.laterB (Below.refl _ _).drew, H1.out.2.2.1.laterB (Below.refl _ _).drew, H1.out.2.2.2.1.laterB (Below.refl _ _).drew, H1.out.2.2.2.2.trans (tnd6 (Below.refl _ _).drew)⟩) (fun hS => ?_)
  refine any_take (i := 0) (v := ?_) rfl (by kernel_rfl) (by kernel_rfl) (by kernel_rfl) (by exact fun _ _ _ h => h) (by rfl) ?_ hS ?_
  rotate_left
  · ((intro w hSw; have f0 := blk_at hSw.1 2; have f1 := blk_at hSw.1 3; have f2 := blk_at hSw.1 4; have f3 := blk_at hSw.2.2.2.1 1; have f4 := blk_at hSw.2.2.2.1 4; have f5 := blk_at hSw.2.1 num; have f6 := blk_frozen hSw.2.1 num; have f7 := blk_frozen hSw.1 4; have f8 := blk_at hSw.2.2.1 num; have f9 := blk_frozen hSw.2.2.1 num; rw [hb] at f5; rw [hv] at f8; simp only [List.getElem?_cons_zero, List.getElem?_cons_succ] at f0 f1 f2 f3 f4; clear hSw; go_simp) <;> with_reducible rfl)
  (try simp only [Act.put, List.setIfInBounds_toArray, List.set_cons_zero, List.set_cons_succ])
  refine any_take (i := 1) (v := ?_) rfl (by kernel_rfl) (by kernel_rfl) (by kernel_rfl) (by exact fun _ _ _ h => h) (by rfl) ?_ hS ?_
  rotate_left
  · ((intro w hSw; have f0 := blk_at hSw.1 2; have f1 := blk_at hSw.1 3; have f2 := blk_at hSw.1 4; have f3 := blk_at hSw.2.2.2.1 1; have f4 := blk_at hSw.2.2.2.1 4; have f5 := blk_at hSw.2.1 num; have f6 := blk_frozen hSw.2.1 num; have f7 := blk_frozen hSw.1 4; have f8 := blk_at hSw.2.2.1 num; have f9 := blk_frozen hSw.2.2.1 num; rw [hb] at f5; rw [hv] at f8; simp only [List.getElem?_cons_zero, List.getElem?_cons_succ] at f0 f1 f2 f3 f4; clear hSw; go_simp) <;> with_reducible rfl)
  (try simp only [Act.put, List.setIfInBounds_toArray, List.set_cons_zero, List.set_cons_succ])
  refine any_take (i := 2) (v := ?_) rfl (by kernel_rfl) (by kernel_rfl) (by kernel_rfl) (by exact fun _ _ _ h => h) (by rfl) ?_ hS ?_
  rotate_left
  · ((intro w hSw; have f0 := blk_at hSw.1 2; have f1 := blk_at hSw.1 3; have f2 := blk_at hSw.1 4; have f3 := blk_at hSw.2.2.2.1 1; have f4 := blk_at hSw.2.2.2.1 4; have f5 := blk_at hSw.2.1 num; have f6 := blk_frozen hSw.2.1 num; have f7 := blk_frozen hSw.1 4; have f8 := blk_at hSw.2.2.1 num; have f9 := blk_frozen hSw.2.2.1 num; rw [hb] at f5; rw [hv] at f8; simp only [List.getElem?_cons_zero, List.getElem?_cons_succ] at f0 f1 f2 f3 f4; clear hSw; go_simp) <;> with_reducible rfl)
  (try simp only [Act.put, List.setIfInBounds_toArray, List.set_cons_zero, List.set_cons_succ])
  refine any_take (i := 3) (v := ?_) rfl (by kernel_rfl) (by kernel_rfl) (by kernel_rfl) (by exact fun _ _ _ h => h) (by rfl) ?_ hS ?_
  rotate_left
  · ((intro w hSw; have f0 := blk_at hSw.1 2; have f1 := blk_at hSw.1 3; have f2 := blk_at hSw.1 4; have f3 := blk_at hSw.2.2.2.1 1; have f4 := blk_at hSw.2.2.2.1 4; have f5 := blk_at hSw.2.1 num; have f6 := blk_frozen hSw.2.1 num; have f7 := blk_frozen hSw.1 4; have f8 := blk_at hSw.2.2.1 num; have f9 := blk_frozen hSw.2.2.1 num; rw [hb] at f5; rw [hv] at f8; simp only [List.getElem?_cons_zero, List.getElem?_cons_succ] at f0 f1 f2 f3 f4; clear hSw; go_simp) <;> with_reducible rfl)
  (try simp only [Act.put, List.setIfInBounds_toArray, List.set_cons_zero, List.set_cons_succ])
  refine any_take (i := 4) (v := ?_) rfl (by kernel_rfl) (by kernel_rfl) (by kernel_rfl) (by exact fun _ _ _ h => h) (by rfl) ?_ hS ?_
  rotate_left
  · ((intro w hSw; have f0 := blk_at hSw.1 2; have f1 := blk_at hSw.1 3; have f2 := blk_at hSw.1 4; have f3 := blk_at hSw.2.2.2.1 1; have f4 := blk_at hSw.2.2.2.1 4; have f5 := blk_at hSw.2.1 num; have f6 := blk_frozen hSw.2.1 num; have f7 := blk_frozen hSw.1 4; have f8 := blk_at hSw.2.2.1 num; have f9 := blk_frozen hSw.2.2.1 num; rw [hb] at f5; rw [hv] at f8; simp only [List.getElem?_cons_zero, List.getElem?_cons_succ] at f0 f1 f2 f3 f4; clear hSw; go_simp) <;> with_reducible rfl)
  (try simp only [Act.put, List.setIfInBounds_toArray, List.set_cons_zero, List.set_cons_succ])
  refine any_take (i := 5) (v := ?_) rfl (by kernel_rfl) (by kernel_rfl) (by kernel_rfl) (by exact fun _ _ _ h => h) (by rfl) ?_ hS ?_
  rotate_left
  · ((intro w hSw; have f0 := blk_at hSw.1 2; have f1 := blk_at hSw.1 3; have f2 := blk_at hSw.1 4; have f3 := blk_at hSw.2.2.2.1 1; have f4 := blk_at hSw.2.2.2.1 4; have f5 := blk_at hSw.2.1 num; have f6 := blk_frozen hSw.2.1 num; have f7 := blk_frozen hSw.1 4; have f8 := blk_at hSw.2.2.1 num; have f9 := blk_frozen hSw.2.2.1 num; rw [hb] at f5; rw [hv] at f8; simp only [List.getElem?_cons_zero, List.getElem?_cons_succ] at f0 f1 f2 f3 f4; clear hSw; go_simp) <;> with_reducible rfl)
  (try simp only [Act.put, List.setIfInBounds_toArray, List.set_cons_zero, List.set_cons_succ])
  refine any_take (i := 6) (v := ?_) rfl (by kernel_rfl) (by kernel_rfl) (by kernel_rfl) (by exact fun _ _ _ h => h) (by rfl) ?_ hS ?_
  rotate_left
  · ((intro w hSw; have f0 := blk_at hSw.1 2; have f1 := blk_at hSw.1 3; have f2 := blk_at hSw.1 4; have f3 := blk_at hSw.2.2.2.1 1; have f4 := blk_at hSw.2.2.2.1 4; have f5 := blk_at hSw.2.1 num; have f6 := blk_frozen hSw.2.1 num; have f7 := blk_frozen hSw.1 4; have f8 := blk_at hSw.2.2.1 num; have f9 := blk_frozen hSw.2.2.1 num; rw [hb] at f5; rw [hv] at f8; simp only [List.getElem?_cons_zero, List.getElem?_cons_succ] at f0 f1 f2 f3 f4; clear hSw; go_simp) <;> with_reducible rfl)
  (try simp only [Act.put, List.setIfInBounds_toArray, List.set_cons_zero, List.set_cons_succ])
  refine any_take (i := 7) (v := ?_) rfl (by kernel_rfl) (by kernel_rfl) (by kernel_rfl) (by exact fun _ _ _ h => h) (by rfl) ?_ hS ?_
  rotate_left
  · ((intro w hSw; have f0 := blk_at hSw.1 2; have f1 := blk_at hSw.1 3; have f2 := blk_at hSw.1 4; have f3 := blk_at hSw.2.2.2.1 1; have f4 := blk_at hSw.2.2.2.1 4; have f5 := blk_at hSw.2.1 num; have f6 := blk_frozen hSw.2.1 num; have f7 := blk_frozen hSw.1 4; have f8 := blk_at hSw.2.2.1 num; have f9 := blk_frozen hSw.2.2.1 num; rw [hb] at f5; rw [hv] at f8; simp only [List.getElem?_cons_zero, List.getElem?_cons_succ] at f0 f1 f2 f3 f4; clear hSw; go_simp) <;> with_reducible rfl)
  (try simp only [Act.put, List.setIfInBounds_toArray, List.set_cons_zero, List.set_cons_succ])
  refine wpAnyH_done (by kernel_rfl) ?_ _
  clear hS
  clear H1
  go_wp2
  (try simp only [Exit.inBlock, Exit.then])
  refine bodyPost_ret (results_none rfl _ _ _) rfl ?_
  exact ⟨rfl, HB.out.1⟩
set_option maxHeartbeats 4000000 in
theorem put_raw (g t d N num len : Nat) (bs vs : List Value) (c0 c1 c5 c6 c7 c8 c9 : Value) (id : Int) (cnt : Nat) (s : Int) (x : Option Addr) (n c : Nat) (w : World) (hG : Blk w g 74 [c0, c1, .slice (some ⟨t, 0, none⟩) N N, .slice (some ⟨d, 0, none⟩) N N, .int .i64 len, c5, c6, c7, c8, c9]) (hT : Blk w t 4 bs) (hD : Blk w d 22 vs) (hnum : num < N) (u : Value) (hv : vs[num]? = some u) (hb : bs[num]? = some (.bool false)) (hlen : len + n ≤ 65536) :
    Calls Try.prog 37 #[.pointer (some ⟨g, 0, none⟩), .agg #[.int .i64 id, .int .i64 num, .int .i64 cnt, .int .u32 s, .slice x n c]] w fun e w' => e = .returned (.tuple #[]) ∧ Blk w' g 74 [c0, c1, .slice (some ⟨t, 0, none⟩) N N, .slice (some ⟨d, 0, none⟩) N N, .int .i64 ((len : Int) + n), c5, c6, c7, c8, c9] ∧ Blk w' t 4 (bs.set num (.bool true)) ∧ Blk w' d 22 (vs.set num (.slice x n c)) ∧ Turned (fun k => k = g ∨ k = t ∨ k = d) w w' := by
  have b1 : Below w.heap.size w (w.alloc (.cells #[.int .i64 id, .int .i64 num, .int .i64 cnt, .int .u32 s, .slice x n c] 56)) := (Below.refl _ _).alloc (Nat.le_refl _) _
  have hP0 := Blk.new' w 56 [.int .i64 id, .int .i64 num, .int .i64 cnt, .int .u32 s, .slice x n c]
  obtain ⟨P, hPe⟩ : ∃ P, P = w.heap.size := ⟨_, rfl⟩
  have H1 : Hid (Blk (w.alloc (.cells #[.int .i64 id, .int .i64 num, .int .i64 cnt, .int .u32 s, .slice x n c] 56)) g 74 [c0, c1, .slice (some ⟨t, 0, none⟩) N N, .slice (some ⟨d, 0, none⟩) N N, .int .i64 len, c5, c6, c7, c8, c9] ∧ Blk (w.alloc (.cells #[.int .i64 id, .int .i64 num, .int .i64 cnt, .int .u32 s, .slice x n c] 56)) t 4 (bs) ∧ Blk (w.alloc (.cells #[.int .i64 id, .int .i64 num, .int .i64 cnt, .int .u32 s, .slice x n c] 56)) d 22 (vs) ∧ Blk (w.alloc (.cells #[.int .i64 id, .int .i64 num, .int .i64 cnt, .int .u32 s, .slice x n c] 56)) P 56 [.int .i64 id, .int .i64 num, .int .i64 cnt, .int .u32 s, .slice x n c] ∧ Turned (fun k => k = g ∨ k = t ∨ k = d) w (w.alloc (.cells #[.int .i64 id, .int .i64 num, .int .i64 cnt, .int .u32 s, .slice x n c] 56))) := by
    refine ⟨hG.laterB b1, hT.laterB b1, hD.laterB b1, ?_, tnd6 b1⟩
    rw [hPe]; exact hP0
  have q1 : (num : Int) < N := by omega
  clear hP0 b1 hG hT hD
  go_enter Try.func37, Try.ntmps37
  go_upto_region 1 with fail
  rw [← hPe]
  generalize (w.alloc (.cells #[.int .i64 id, .int .i64 num, .int .i64 cnt, .int .u32 s, .slice x n c] 56)) = w1 at *
  clear hPe
  have q2 : (len : Int) + n ≤ 65536 := by omega
  refine wp_region_held_drew (S := fun W => Blk W g 74 [c0, c1, .slice (some ⟨t, 0, none⟩) N N, .slice (some ⟨d, 0, none⟩) N N, .int .i64 len, c5, c6, c7, c8, c9] ∧ Blk W t 4 (bs) ∧ Blk W d 22 (vs) ∧ Blk W P 56 [.int .i64 id, .int .i64 num, .int .i64 cnt, .int .u32 s, .slice x n c] ∧ Turned (fun k => k = g ∨ k = t ∨ k = d) w W) (by kernel_rfl) (⟨H1.out.1.laterB (Below.refl _ _).drew, H1.out.2.1.laterB (Below.refl _ _).drew, H1.out.2.2.1.laterB (Below.refl _ _).drew, H1.out.2.2.2.1.laterB (Below.refl _ _).drew, H1.out.2.2.2.2.trans (tnd6 (Below.refl _ _).drew)⟩) (fun hS => ?_)
  refine any_take (i := 0) (v := ?_) rfl (by kernel_rfl) (by kernel_rfl) (by kernel_rfl) (by exact fun _ _ _ h => h) (by rfl) ?_ hS ?_
  rotate_left
  · ((intro w hSw; have f0 := blk_at hSw.1 2; have f1 := blk_at hSw.1 3; have f2 := blk_at hSw.1 4; have f3 := blk_at hSw.2.2.2.1 1; have f4 := blk_at hSw.2.2.2.1 4; have f5 := blk_at hSw.2.1 num; have f6 := blk_frozen hSw.2.1 num; have f7 := blk_frozen hSw.1 4; have f8 := blk_at hSw.2.2.1 num; have f9 := blk_frozen hSw.2.2.1 num; rw [hb] at f5; rw [hv] at f8; simp only [List.getElem?_cons_zero, List.getElem?_cons_succ] at f0 f1 f2 f3 f4; clear hSw; go_simp) <;> with_reducible rfl)
  (try simp only [Act.put, List.setIfInBounds_toArray, List.set_cons_zero, List.set_cons_succ])
  refine any_take (i := 1) (v := ?_) rfl (by kernel_rfl) (by kernel_rfl) (by kernel_rfl) (by exact fun _ _ _ h => h) (by rfl) ?_ hS ?_
  rotate_left
  · ((intro w hSw; have f0 := blk_at hSw.1 2; have f1 := blk_at hSw.1 3; have f2 := blk_at hSw.1 4; have f3 := blk_at hSw.2.2.2.1 1; have f4 := blk_at hSw.2.2.2.1 4; have f5 := blk_at hSw.2.1 num; have f6 := blk_frozen hSw.2.1 num; have f7 := blk_frozen hSw.1 4; have f8 := blk_at hSw.2.2.1 num; have f9 := blk_frozen hSw.2.2.1 num; rw [hb] at f5; rw [hv] at f8; simp only [List.getElem?_cons_zero, List.getElem?_cons_succ] at f0 f1 f2 f3 f4; clear hSw; go_simp) <;> with_reducible rfl)
  (try simp only [Act.put, List.setIfInBounds_toArray, List.set_cons_zero, List.set_cons_succ])
  refine any_take (i := 2) (v := ?_) rfl (by kernel_rfl) (by kernel_rfl) (by kernel_rfl) (by exact fun _ _ _ h => h) (by rfl) ?_ hS ?_
  rotate_left
  · ((intro w hSw; have f0 := blk_at hSw.1 2; have f1 := blk_at hSw.1 3; have f2 := blk_at hSw.1 4; have f3 := blk_at hSw.2.2.2.1 1; have f4 := blk_at hSw.2.2.2.1 4; have f5 := blk_at hSw.2.1 num; have f6 := blk_frozen hSw.2.1 num; have f7 := blk_frozen hSw.1 4; have f8 := blk_at hSw.2.2.1 num; have f9 := blk_frozen hSw.2.2.1 num; rw [hb] at f5; rw [hv] at f8; simp only [List.getElem?_cons_zero, List.getElem?_cons_succ] at f0 f1 f2 f3 f4; clear hSw; go_simp) <;> with_reducible rfl)
  (try simp only [Act.put, List.setIfInBounds_toArray, List.set_cons_zero, List.set_cons_succ])
  refine any_take (i := 3) (v := ?_) rfl (by kernel_rfl) (by kernel_rfl) (by kernel_rfl) (by exact fun _ _ _ h => h) (by rfl) ?_ hS ?_
  rotate_left
  · ((intro w hSw; have f0 := blk_at hSw.1 2; have f1 := blk_at hSw.1 3; have f2 := blk_at hSw.1 4; have f3 := blk_at hSw.2.2.2.1 1; have f4 := blk_at hSw.2.2.2.1 4; have f5 := blk_at hSw.2.1 num; have f6 := blk_frozen hSw.2.1 num; have f7 := blk_frozen hSw.1 4; have f8 := blk_at hSw.2.2.1 num; have f9 := blk_frozen hSw.2.2.1 num; rw [hb] at f5; rw [hv] at f8; simp only [List.getElem?_cons_zero, List.getElem?_cons_succ] at f0 f1 f2 f3 f4; clear hSw; go_simp) <;> with_reducible rfl)
  (try simp only [Act.put, List.setIfInBounds_toArray, List.set_cons_zero, List.set_cons_succ])
  refine any_take (i := 4) (v := ?_) rfl (by kernel_rfl) (by kernel_rfl) (by kernel_rfl) (by exact fun _ _ _ h => h) (by rfl) ?_ hS ?_
  rotate_left
  · ((intro w hSw; have f0 := blk_at hSw.1 2; have f1 := blk_at hSw.1 3; have f2 := blk_at hSw.1 4; have f3 := blk_at hSw.2.2.2.1 1; have f4 := blk_at hSw.2.2.2.1 4; have f5 := blk_at hSw.2.1 num; have f6 := blk_frozen hSw.2.1 num; have f7 := blk_frozen hSw.1 4; have f8 := blk_at hSw.2.2.1 num; have f9 := blk_frozen hSw.2.2.1 num; rw [hb] at f5; rw [hv] at f8; simp only [List.getElem?_cons_zero, List.getElem?_cons_succ] at f0 f1 f2 f3 f4; clear hSw; go_simp) <;> with_reducible rfl)
  (try simp only [Act.put, List.setIfInBounds_toArray, List.set_cons_zero, List.set_cons_succ])
  refine any_take (i := 5) (v := ?_) rfl (by kernel_rfl) (by kernel_rfl) (by kernel_rfl) (by exact fun _ _ _ h => h) (by rfl) ?_ hS ?_
  rotate_left
  · ((intro w hSw; have f0 := blk_at hSw.1 2; have f1 := blk_at hSw.1 3; have f2 := blk_at hSw.1 4; have f3 := blk_at hSw.2.2.2.1 1; have f4 := blk_at hSw.2.2.2.1 4; have f5 := blk_at hSw.2.1 num; have f6 := blk_frozen hSw.2.1 num; have f7 := blk_frozen hSw.1 4; have f8 := blk_at hSw.2.2.1 num; have f9 := blk_frozen hSw.2.2.1 num; rw [hb] at f5; rw [hv] at f8; simp only [List.getElem?_cons_zero, List.getElem?_cons_succ] at f0 f1 f2 f3 f4; clear hSw; go_simp) <;> with_reducible rfl)
  (try simp only [Act.put, List.setIfInBounds_toArray, List.set_cons_zero, List.set_cons_succ])
  refine any_take (i := 6) (v := ?_) rfl (by kernel_rfl) (by kernel_rfl) (by kernel_rfl) (by exact fun _ _ _ h => h) (by rfl) ?_ hS ?_
  rotate_left
  · ((intro w hSw; have f0 := blk_at hSw.1 2; have f1 := blk_at hSw.1 3; have f2 := blk_at hSw.1 4; have f3 := blk_at hSw.2.2.2.1 1; have f4 := blk_at hSw.2.2.2.1 4; have f5 := blk_at hSw.2.1 num; have f6 := blk_frozen hSw.2.1 num; have f7 := blk_frozen hSw.1 4; have f8 := blk_at hSw.2.2.1 num; have f9 := blk_frozen hSw.2.2.1 num; rw [hb] at f5; rw [hv] at f8; simp only [List.getElem?_cons_zero, List.getElem?_cons_succ] at f0 f1 f2 f3 f4; clear hSw; go_simp) <;> with_reducible rfl)
  (try simp only [Act.put, List.setIfInBounds_toArray, List.set_cons_zero, List.set_cons_succ])
  refine any_take (i := 7) (v := ?_) rfl (by kernel_rfl) (by kernel_rfl) (by kernel_rfl) (by exact fun _ _ _ h => h) (by rfl) ?_ hS ?_
  rotate_left
  · ((intro w hSw; have f0 := blk_at hSw.1 2; have f1 := blk_at hSw.1 3; have f2 := blk_at hSw.1 4; have f3 := blk_at hSw.2.2.2.1 1; have f4 := blk_at hSw.2.2.2.1 4; have f5 := blk_at hSw.2.1 num; have f6 := blk_frozen hSw.2.1 num; have f7 := blk_frozen hSw.1 4; have f8 := blk_at hSw.2.2.1 num; have f9 := blk_frozen hSw.2.2.1 num; rw [hb] at f5; rw [hv] at f8; simp only [List.getElem?_cons_zero, List.getElem?_cons_succ] at f0 f1 f2 f3 f4; clear hSw; go_simp) <;> with_reducible rfl)
  (try simp only [Act.put, List.setIfInBounds_toArray, List.set_cons_zero, List.set_cons_succ])
  refine wpAnyH_done (by kernel_rfl) ?_ _
  clear hS
  have H2 : Hid (Blk w1.drew g 74 [c0, c1, .slice (some ⟨t, 0, none⟩) N N, .slice (some ⟨d, 0, none⟩) N N, .int .i64 len, c5, c6, c7, c8, c9] ∧ Blk w1.drew t 4 (bs) ∧ Blk w1.drew d 22 (vs) ∧ Blk w1.drew P 56 [.int .i64 id, .int .i64 num, .int .i64 cnt, .int .u32 s, .slice x n c] ∧ Turned (fun k => k = g ∨ k = t ∨ k = d) w w1.drew) := ⟨H1.out.1.laterB (Below.refl _ _).drew, H1.out.2.1.laterB (Below.refl _ _).drew, H1.out.2.2.1.laterB (Below.refl _ _).drew, H1.out.2.2.2.1.laterB (Below.refl _ _).drew, H1.out.2.2.2.2.trans (tnd6 (Below.refl _ _).drew)⟩
  clear H1
  generalize w1.drew = w2 at *
  go_upto_region 2 with fail
  refine e_begin (S := fun W => Blk W g 74 [c0, c1, .slice (some ⟨t, 0, none⟩) N N, .slice (some ⟨d, 0, none⟩) N N, .int .i64 len, c5, c6, c7, c8, c9] ∧ Blk W t 4 (bs) ∧ Blk W d 22 (vs) ∧ Blk W P 56 [.int .i64 id, .int .i64 num, .int .i64 cnt, .int .u32 s, .slice x n c] ∧ Turned (fun k => k = g ∨ k = t ∨ k = d) w W) 7 (by kernel_rfl) (⟨H2.out.1.laterB (Below.refl _ _).drew, H2.out.2.1.laterB (Below.refl _ _).drew, H2.out.2.2.1.laterB (Below.refl _ _).drew, H2.out.2.2.2.1.laterB (Below.refl _ _).drew, H2.out.2.2.2.2.trans (tnd6 (Below.refl _ _).drew)⟩) (fun hS => ?_)
  refine e_take (i := 0) (v := ?_) [1, 2, 3, 6, 7] rfl (by kernel_rfl) (by kernel_rfl) (by kernel_rfl) (by kernel_rfl) (by exact fun _ _ _ h => h) (by rfl) ?_ hS ?_
  rotate_left
  · ((intro w hSw; have f0 := blk_at hSw.1 2; have f1 := blk_at hSw.1 3; have f2 := blk_at hSw.1 4; have f3 := blk_at hSw.2.2.2.1 1; have f4 := blk_at hSw.2.2.2.1 4; have f5 := blk_at hSw.2.1 num; have f6 := blk_frozen hSw.2.1 num; have f7 := blk_frozen hSw.1 4; have f8 := blk_at hSw.2.2.1 num; have f9 := blk_frozen hSw.2.2.1 num; rw [hb] at f5; rw [hv] at f8; simp only [List.getElem?_cons_zero, List.getElem?_cons_succ] at f0 f1 f2 f3 f4; clear hSw; go_simp) <;> with_reducible rfl)
  (try simp only [Act.put, List.setIfInBounds_toArray, List.set_cons_zero, List.set_cons_succ])
  refine e_take (i := 1) (v := ?_) [2, 3, 6, 7] rfl (by kernel_rfl) (by kernel_rfl) (by kernel_rfl) (by kernel_rfl) (by exact fun _ _ _ h => h) (by rfl) ?_ hS ?_
  rotate_left
  · ((intro w hSw; have f0 := blk_at hSw.1 2; have f1 := blk_at hSw.1 3; have f2 := blk_at hSw.1 4; have f3 := blk_at hSw.2.2.2.1 1; have f4 := blk_at hSw.2.2.2.1 4; have f5 := blk_at hSw.2.1 num; have f6 := blk_frozen hSw.2.1 num; have f7 := blk_frozen hSw.1 4; have f8 := blk_at hSw.2.2.1 num; have f9 := blk_frozen hSw.2.2.1 num; rw [hb] at f5; rw [hv] at f8; simp only [List.getElem?_cons_zero, List.getElem?_cons_succ] at f0 f1 f2 f3 f4; clear hSw; go_simp) <;> with_reducible rfl)
  (try simp only [Act.put, List.setIfInBounds_toArray, List.set_cons_zero, List.set_cons_succ])
  refine e_take (i := 2) (v := ?_) [3, 6, 7] rfl (by kernel_rfl) (by kernel_rfl) (by kernel_rfl) (by kernel_rfl) (by exact fun _ _ _ h => h) (by rfl) ?_ hS ?_
  rotate_left
  · ((intro w hSw; have f0 := blk_at hSw.1 2; have f1 := blk_at hSw.1 3; have f2 := blk_at hSw.1 4; have f3 := blk_at hSw.2.2.2.1 1; have f4 := blk_at hSw.2.2.2.1 4; have f5 := blk_at hSw.2.1 num; have f6 := blk_frozen hSw.2.1 num; have f7 := blk_frozen hSw.1 4; have f8 := blk_at hSw.2.2.1 num; have f9 := blk_frozen hSw.2.2.1 num; rw [hb] at f5; rw [hv] at f8; simp only [List.getElem?_cons_zero, List.getElem?_cons_succ] at f0 f1 f2 f3 f4; clear hSw; go_simp) <;> with_reducible rfl)
  (try simp only [Act.put, List.setIfInBounds_toArray, List.set_cons_zero, List.set_cons_succ])
  refine e_take (i := 3) (v := ?_) [6, 7] rfl (by kernel_rfl) (by kernel_rfl) (by kernel_rfl) (by kernel_rfl) (by exact fun _ _ _ h => h) (by rfl) ?_ hS ?_
  rotate_left
  · ((intro w hSw; have f0 := blk_at hSw.1 2; have f1 := blk_at hSw.1 3; have f2 := blk_at hSw.1 4; have f3 := blk_at hSw.2.2.2.1 1; have f4 := blk_at hSw.2.2.2.1 4; have f5 := blk_at hSw.2.1 num; have f6 := blk_frozen hSw.2.1 num; have f7 := blk_frozen hSw.1 4; have f8 := blk_at hSw.2.2.1 num; have f9 := blk_frozen hSw.2.2.1 num; rw [hb] at f5; rw [hv] at f8; simp only [List.getElem?_cons_zero, List.getElem?_cons_succ] at f0 f1 f2 f3 f4; clear hSw; go_simp) <;> with_reducible rfl)
  (try simp only [Act.put, List.setIfInBounds_toArray, List.set_cons_zero, List.set_cons_succ])
  refine e_take (i := 4) (v := ?_) [5, 6, 7] rfl (by kernel_rfl) (by kernel_rfl) (by kernel_rfl) (by kernel_rfl) (by exact fun _ _ _ h => h) (by rfl) ?_ hS ?_
  rotate_left
  · ((intro w hSw; have f0 := blk_at hSw.1 2; have f1 := blk_at hSw.1 3; have f2 := blk_at hSw.1 4; have f3 := blk_at hSw.2.2.2.1 1; have f4 := blk_at hSw.2.2.2.1 4; have f5 := blk_at hSw.2.1 num; have f6 := blk_frozen hSw.2.1 num; have f7 := blk_frozen hSw.1 4; have f8 := blk_at hSw.2.2.1 num; have f9 := blk_frozen hSw.2.2.1 num; rw [hb] at f5; rw [hv] at f8; simp only [List.getElem?_cons_zero, List.getElem?_cons_succ] at f0 f1 f2 f3 f4; clear hSw; go_simp) <;> with_reducible rfl)
  (try simp only [Act.put, List.setIfInBounds_toArray, List.set_cons_zero, List.set_cons_succ])
  refine e_take (i := 5) (v := ?_) [6, 7] rfl (by kernel_rfl) (by kernel_rfl) (by kernel_rfl) (by kernel_rfl) (by exact fun _ _ _ h => h) (by rfl) ?_ hS ?_
  rotate_left
  · ((intro w hSw; have f0 := blk_at hSw.1 2; have f1 := blk_at hSw.1 3; have f2 := blk_at hSw.1 4; have f3 := blk_at hSw.2.2.2.1 1; have f4 := blk_at hSw.2.2.2.1 4; have f5 := blk_at hSw.2.1 num; have f6 := blk_frozen hSw.2.1 num; have f7 := blk_frozen hSw.1 4; have f8 := blk_at hSw.2.2.1 num; have f9 := blk_frozen hSw.2.2.1 num; rw [hb] at f5; rw [hv] at f8; simp only [List.getElem?_cons_zero, List.getElem?_cons_succ] at f0 f1 f2 f3 f4; clear hSw; go_simp) <;> with_reducible rfl)
  (try simp only [Act.put, List.setIfInBounds_toArray, List.set_cons_zero, List.set_cons_succ])
  refine e_take (i := 6) (v := ?_) [7] rfl (by kernel_rfl) (by kernel_rfl) (by kernel_rfl) (by kernel_rfl) (by exact fun _ _ _ h => h) (by rfl) ?_ hS ?_
  rotate_left
  · ((intro w hSw; have f0 := blk_at hSw.1 2; have f1 := blk_at hSw.1 3; have f2 := blk_at hSw.1 4; have f3 := blk_at hSw.2.2.2.1 1; have f4 := blk_at hSw.2.2.2.1 4; have f5 := blk_at hSw.2.1 num; have f6 := blk_frozen hSw.2.1 num; have f7 := blk_frozen hSw.1 4; have f8 := blk_at hSw.2.2.1 num; have f9 := blk_frozen hSw.2.2.1 num; rw [hb] at f5; rw [hv] at f8; simp only [List.getElem?_cons_zero, List.getElem?_cons_succ] at f0 f1 f2 f3 f4; clear hSw; go_simp) <;> with_reducible rfl)
  (try simp only [Act.put, List.setIfInBounds_toArray, List.set_cons_zero, List.set_cons_succ])
  have HS : Hid _ := And.intro hS trivial
  have f0 := blk_at HS.out.1.1 2
  have f1 := blk_at HS.out.1.1 3
  have f2 := blk_at HS.out.1.1 4
  have f3 := blk_at HS.out.1.2.2.2.1 1
  have f4 := blk_at HS.out.1.2.2.2.1 4
  have f5 := blk_at HS.out.1.2.1 num
  have f6 := blk_frozen HS.out.1.2.1 num
  have f7 := blk_frozen HS.out.1.1 4
  have f8 := blk_at HS.out.1.2.2.1 num
  have f9 := blk_frozen HS.out.1.2.2.1 num
  rw [hb] at f5
  rw [hv] at f8
  simp only [List.getElem?_cons_zero, List.getElem?_cons_succ] at f0 f1 f2 f3 f4
  clear hS
  refine e_last (z := 7) rfl (by kernel_rfl) (fun K hK => ?_)
  go_simp
  refine hK.out _ _ ?_
  clear hK K
  refine e_done (by kernel_rfl) ?_ _
  clear f5
  clear f0 f1 f2 f3 f4 f6 f7 f8 f9
  have H3n : Hid (Blk (w2.setCell ⟨t, num, none⟩ (.bool true)) g 74 [c0, c1, .slice (some ⟨t, 0, none⟩) N N, .slice (some ⟨d, 0, none⟩) N N, .int .i64 len, c5, c6, c7, c8, c9] ∧ Blk (w2.setCell ⟨t, num, none⟩ (.bool true)) t 4 (bs.set num (.bool true)) ∧ Blk (w2.setCell ⟨t, num, none⟩ (.bool true)) d 22 (vs) ∧ Blk (w2.setCell ⟨t, num, none⟩ (.bool true)) P 56 [.int .i64 id, .int .i64 num, .int .i64 cnt, .int .u32 s, .slice x n c] ∧ Turned (fun k => k = g ∨ k = t ∨ k = d) w (w2.setCell ⟨t, num, none⟩ (.bool true))) := by
    have u := turned_set w2 t num (.bool true)
    refine ⟨H2.out.1.turned u ?_, H2.out.2.1.set num _, H2.out.2.2.1.turned u ?_, H2.out.2.2.2.1.turned u ?_, H2.out.2.2.2.2.trans (u.mono (fun k e => .inl (.inr (.inl e))))⟩
    · exact blk_ne H2.out.1 H2.out.2.1 (by decide)
    · exact blk_ne H2.out.2.2.1 H2.out.2.1 (by decide)
    · exact blk_ne H2.out.2.2.2.1 H2.out.2.1 (by decide)
  have H3 : Hid (Blk (w2.setCell ⟨t, num, none⟩ (.bool true)).drew g 74 [c0, c1, .slice (some ⟨t, 0, none⟩) N N, .slice (some ⟨d, 0, none⟩) N N, .int .i64 len, c5, c6, c7, c8, c9] ∧ Blk (w2.setCell ⟨t, num, none⟩ (.bool true)).drew t 4 (bs.set num (.bool true)) ∧ Blk (w2.setCell ⟨t, num, none⟩ (.bool true)).drew d 22 (vs) ∧ Blk (w2.setCell ⟨t, num, none⟩ (.bool true)).drew P 56 [.int .i64 id, .int .i64 num, .int .i64 cnt, .int .u32 s, .slice x n c] ∧ Turned (fun k => k = g ∨ k = t ∨ k = d) w (w2.setCell ⟨t, num, none⟩ (.bool true)).drew) := ⟨H3n.out.1.laterB (Below.refl _ _).drew, H3n.out.2.1.laterB (Below.refl _ _).drew, H3n.out.2.2.1.laterB (Below.refl _ _).drew, H3n.out.2.2.2.1.laterB (Below.refl _ _).drew, H3n.out.2.2.2.2.trans (tnd6 (Below.refl _ _).drew)⟩
  clear H2 H3n
  generalize (w2.setCell ⟨t, num, none⟩ (.bool true)).drew = w3 at *
  go_upto_region 3 with fail
  refine e_begin (S := fun W => Blk W g 74 [c0, c1, .slice (some ⟨t, 0, none⟩) N N, .slice (some ⟨d, 0, none⟩) N N, .int .i64 len, c5, c6, c7, c8, c9] ∧ Blk W t 4 (bs.set num (.bool true)) ∧ Blk W d 22 (vs) ∧ Blk W P 56 [.int .i64 id, .int .i64 num, .int .i64 cnt, .int .u32 s, .slice x n c] ∧ Turned (fun k => k = g ∨ k = t ∨ k = d) w W) 10 (by kernel_rfl) (⟨H3.out.1.laterB (Below.refl _ _).drew, H3.out.2.1.laterB (Below.refl _ _).drew, H3.out.2.2.1.laterB (Below.refl _ _).drew, H3.out.2.2.2.1.laterB (Below.refl _ _).drew, H3.out.2.2.2.2.trans (tnd6 (Below.refl _ _).drew)⟩) (fun hS => ?_)
  refine e_take (i := 0) (v := ?_) [8, 9, 10] rfl (by kernel_rfl) (by kernel_rfl) (by kernel_rfl) (by kernel_rfl) (by exact fun _ _ _ h => h) (by rfl) ?_ hS ?_
  rotate_left
  · ((intro w hSw; have f0 := blk_at hSw.1 2; have f1 := blk_at hSw.1 3; have f2 := blk_at hSw.1 4; have f3 := blk_at hSw.2.2.2.1 1; have f4 := blk_at hSw.2.2.2.1 4; have f5 := blk_at hSw.2.1 num; have f6 := blk_frozen hSw.2.1 num; have f7 := blk_frozen hSw.1 4; have f8 := blk_at hSw.2.2.1 num; have f9 := blk_frozen hSw.2.2.1 num; clear f5; rw [hv] at f8; simp only [List.getElem?_cons_zero, List.getElem?_cons_succ] at f0 f1 f2 f3 f4; clear hSw; go_simp) <;> with_reducible rfl)
  (try simp only [Act.put, List.setIfInBounds_toArray, List.set_cons_zero, List.set_cons_succ])
  refine e_take (i := 1) (v := ?_) [2, 3, 7, 10] rfl (by kernel_rfl) (by kernel_rfl) (by kernel_rfl) (by kernel_rfl) (by exact fun _ _ _ h => h) (by rfl) ?_ hS ?_
  rotate_left
  · ((intro w hSw; have f0 := blk_at hSw.1 2; have f1 := blk_at hSw.1 3; have f2 := blk_at hSw.1 4; have f3 := blk_at hSw.2.2.2.1 1; have f4 := blk_at hSw.2.2.2.1 4; have f5 := blk_at hSw.2.1 num; have f6 := blk_frozen hSw.2.1 num; have f7 := blk_frozen hSw.1 4; have f8 := blk_at hSw.2.2.1 num; have f9 := blk_frozen hSw.2.2.1 num; clear f5; rw [hv] at f8; simp only [List.getElem?_cons_zero, List.getElem?_cons_succ] at f0 f1 f2 f3 f4; clear hSw; go_simp) <;> with_reducible rfl)
  (try simp only [Act.put, List.setIfInBounds_toArray, List.set_cons_zero, List.set_cons_succ])
  refine e_take (i := 2) (v := ?_) [3, 7, 10] rfl (by kernel_rfl) (by kernel_rfl) (by kernel_rfl) (by kernel_rfl) (by exact fun _ _ _ h => h) (by rfl) ?_ hS ?_
  rotate_left
  · ((intro w hSw; have f0 := blk_at hSw.1 2; have f1 := blk_at hSw.1 3; have f2 := blk_at hSw.1 4; have f3 := blk_at hSw.2.2.2.1 1; have f4 := blk_at hSw.2.2.2.1 4; have f5 := blk_at hSw.2.1 num; have f6 := blk_frozen hSw.2.1 num; have f7 := blk_frozen hSw.1 4; have f8 := blk_at hSw.2.2.1 num; have f9 := blk_frozen hSw.2.2.1 num; clear f5; rw [hv] at f8; simp only [List.getElem?_cons_zero, List.getElem?_cons_succ] at f0 f1 f2 f3 f4; clear hSw; go_simp) <;> with_reducible rfl)
  (try simp only [Act.put, List.setIfInBounds_toArray, List.set_cons_zero, List.set_cons_succ])
  refine e_take (i := 3) (v := ?_) [7, 10] rfl (by kernel_rfl) (by kernel_rfl) (by kernel_rfl) (by kernel_rfl) (by exact fun _ _ _ h => h) (by rfl) ?_ hS ?_
  rotate_left
  · ((intro w hSw; have f0 := blk_at hSw.1 2; have f1 := blk_at hSw.1 3; have f2 := blk_at hSw.1 4; have f3 := blk_at hSw.2.2.2.1 1; have f4 := blk_at hSw.2.2.2.1 4; have f5 := blk_at hSw.2.1 num; have f6 := blk_frozen hSw.2.1 num; have f7 := blk_frozen hSw.1 4; have f8 := blk_at hSw.2.2.1 num; have f9 := blk_frozen hSw.2.2.1 num; clear f5; rw [hv] at f8; simp only [List.getElem?_cons_zero, List.getElem?_cons_succ] at f0 f1 f2 f3 f4; clear hSw; go_simp) <;> with_reducible rfl)
  (try simp only [Act.put, List.setIfInBounds_toArray, List.set_cons_zero, List.set_cons_succ])
  refine e_take (i := 4) (v := ?_) [5, 6, 7, 10] rfl (by kernel_rfl) (by kernel_rfl) (by kernel_rfl) (by kernel_rfl) (by exact fun _ _ _ h => h) (by rfl) ?_ hS ?_
  rotate_left
  · ((intro w hSw; have f0 := blk_at hSw.1 2; have f1 := blk_at hSw.1 3; have f2 := blk_at hSw.1 4; have f3 := blk_at hSw.2.2.2.1 1; have f4 := blk_at hSw.2.2.2.1 4; have f5 := blk_at hSw.2.1 num; have f6 := blk_frozen hSw.2.1 num; have f7 := blk_frozen hSw.1 4; have f8 := blk_at hSw.2.2.1 num; have f9 := blk_frozen hSw.2.2.1 num; clear f5; rw [hv] at f8; simp only [List.getElem?_cons_zero, List.getElem?_cons_succ] at f0 f1 f2 f3 f4; clear hSw; go_simp) <;> with_reducible rfl)
  (try simp only [Act.put, List.setIfInBounds_toArray, List.set_cons_zero, List.set_cons_succ])
  refine e_take (i := 5) (v := ?_) [6, 7, 10] rfl (by kernel_rfl) (by kernel_rfl) (by kernel_rfl) (by kernel_rfl) (by exact fun _ _ _ h => h) (by rfl) ?_ hS ?_
  rotate_left
  · ((intro w hSw; have f0 := blk_at hSw.1 2; have f1 := blk_at hSw.1 3; have f2 := blk_at hSw.1 4; have f3 := blk_at hSw.2.2.2.1 1; have f4 := blk_at hSw.2.2.2.1 4; have f5 := blk_at hSw.2.1 num; have f6 := blk_frozen hSw.2.1 num; have f7 := blk_frozen hSw.1 4; have f8 := blk_at hSw.2.2.1 num; have f9 := blk_frozen hSw.2.2.1 num; clear f5; rw [hv] at f8; simp only [List.getElem?_cons_zero, List.getElem?_cons_succ] at f0 f1 f2 f3 f4; clear hSw; go_simp) <;> with_reducible rfl)
  (try simp only [Act.put, List.setIfInBounds_toArray, List.set_cons_zero, List.set_cons_succ])
  refine e_take (i := 6) (v := ?_) [7, 10] rfl (by kernel_rfl) (by kernel_rfl) (by kernel_rfl) (by kernel_rfl) (by exact fun _ _ _ h => h) (by rfl) ?_ hS ?_
  rotate_left
  · ((intro w hSw; have f0 := blk_at hSw.1 2; have f1 := blk_at hSw.1 3; have f2 := blk_at hSw.1 4; have f3 := blk_at hSw.2.2.2.1 1; have f4 := blk_at hSw.2.2.2.1 4; have f5 := blk_at hSw.2.1 num; have f6 := blk_frozen hSw.2.1 num; have f7 := blk_frozen hSw.1 4; have f8 := blk_at hSw.2.2.1 num; have f9 := blk_frozen hSw.2.2.1 num; clear f5; rw [hv] at f8; simp only [List.getElem?_cons_zero, List.getElem?_cons_succ] at f0 f1 f2 f3 f4; clear hSw; go_simp) <;> with_reducible rfl)
  (try simp only [Act.put, List.setIfInBounds_toArray, List.set_cons_zero, List.set_cons_succ])
  refine e_take (i := 7) (v := ?_) [10] rfl (by kernel_rfl) (by kernel_rfl) (by kernel_rfl) (by kernel_rfl) (by exact fun _ _ _ h => h) (by rfl) ?_ hS ?_
  rotate_left
  · ((intro w hSw; have f0 := blk_at hSw.1 2; have f1 := blk_at hSw.1 3; have f2 := blk_at hSw.1 4; have f3 := blk_at hSw.2.2.2.1 1; have f4 := blk_at hSw.2.2.2.1 4; have f5 := blk_at hSw.2.1 num; have f6 := blk_frozen hSw.2.1 num; have f7 := blk_frozen hSw.1 4; have f8 := blk_at hSw.2.2.1 num; have f9 := blk_frozen hSw.2.2.1 num; clear f5; rw [hv] at f8; simp only [List.getElem?_cons_zero, List.getElem?_cons_succ] at f0 f1 f2 f3 f4; clear hSw; go_simp) <;> with_reducible rfl)
  (try simp only [Act.put, List.setIfInBounds_toArray, List.set_cons_zero, List.set_cons_succ])
  refine e_take (i := 8) (v := ?_) [9, 10] rfl (by kernel_rfl) (by kernel_rfl) (by kernel_rfl) (by kernel_rfl) (by exact fun _ _ _ h => h) (by rfl) ?_ hS ?_
  rotate_left
  · ((intro w hSw; have f0 := blk_at hSw.1 2; have f1 := blk_at hSw.1 3; have f2 := blk_at hSw.1 4; have f3 := blk_at hSw.2.2.2.1 1; have f4 := blk_at hSw.2.2.2.1 4; have f5 := blk_at hSw.2.1 num; have f6 := blk_frozen hSw.2.1 num; have f7 := blk_frozen hSw.1 4; have f8 := blk_at hSw.2.2.1 num; have f9 := blk_frozen hSw.2.2.1 num; clear f5; rw [hv] at f8; simp only [List.getElem?_cons_zero, List.getElem?_cons_succ] at f0 f1 f2 f3 f4; clear hSw; go_simp) <;> with_reducible rfl)
  (try simp only [Act.put, List.setIfInBounds_toArray, List.set_cons_zero, List.set_cons_succ])
  refine e_take (i := 9) (v := ?_) [10] rfl (by kernel_rfl) (by kernel_rfl) (by kernel_rfl) (by kernel_rfl) (by exact fun _ _ _ h => h) (by rfl) ?_ hS ?_
  rotate_left
  · ((intro w hSw; have f0 := blk_at hSw.1 2; have f1 := blk_at hSw.1 3; have f2 := blk_at hSw.1 4; have f3 := blk_at hSw.2.2.2.1 1; have f4 := blk_at hSw.2.2.2.1 4; have f5 := blk_at hSw.2.1 num; have f6 := blk_frozen hSw.2.1 num; have f7 := blk_frozen hSw.1 4; have f8 := blk_at hSw.2.2.1 num; have f9 := blk_frozen hSw.2.2.1 num; clear f5; rw [hv] at f8; simp only [List.getElem?_cons_zero, List.getElem?_cons_succ] at f0 f1 f2 f3 f4; clear hSw; go_simp) <;> with_reducible rfl)
  (try simp only [Act.put, List.setIfInBounds_toArray, List.set_cons_zero, List.set_cons_succ])
  have HS : Hid _ := And.intro hS trivial
  have f0 := blk_at HS.out.1.1 2
  have f1 := blk_at HS.out.1.1 3
  have f2 := blk_at HS.out.1.1 4
  have f3 := blk_at HS.out.1.2.2.2.1 1
  have f4 := blk_at HS.out.1.2.2.2.1 4
  have f5 := blk_at HS.out.1.2.1 num
  have f6 := blk_frozen HS.out.1.2.1 num
  have f7 := blk_frozen HS.out.1.1 4
  have f8 := blk_at HS.out.1.2.2.1 num
  have f9 := blk_frozen HS.out.1.2.2.1 num
  clear f5
  rw [hv] at f8
  simp only [List.getElem?_cons_zero, List.getElem?_cons_succ] at f0 f1 f2 f3 f4
  clear hS
  refine e_last (z := 10) rfl (by kernel_rfl) (fun K hK => ?_)
  go_simp
  refine hK.out _ _ ?_
  clear hK K
  refine e_done (by kernel_rfl) ?_ _
  clear f0 f1 f2 f3 f4 f6 f7 f8 f9
  have H4n : Hid (Blk (w3.setCell ⟨g, 4, none⟩ (.int .i64 ((len : Int) + n))) g 74 [c0, c1, .slice (some ⟨t, 0, none⟩) N N, .slice (some ⟨d, 0, none⟩) N N, .int .i64 ((len : Int) + n), c5, c6, c7, c8, c9] ∧ Blk (w3.setCell ⟨g, 4, none⟩ (.int .i64 ((len : Int) + n))) t 4 (bs.set num (.bool true)) ∧ Blk (w3.setCell ⟨g, 4, none⟩ (.int .i64 ((len : Int) + n))) d 22 (vs) ∧ Blk (w3.setCell ⟨g, 4, none⟩ (.int .i64 ((len : Int) + n))) P 56 [.int .i64 id, .int .i64 num, .int .i64 cnt, .int .u32 s, .slice x n c] ∧ Turned (fun k => k = g ∨ k = t ∨ k = d) w (w3.setCell ⟨g, 4, none⟩ (.int .i64 ((len : Int) + n)))) := by
    have u := turned_set w3 g 4 (.int .i64 ((len : Int) + n))
    refine ⟨H3.out.1.set 4 _, H3.out.2.1.turned u ?_, H3.out.2.2.1.turned u ?_, H3.out.2.2.2.1.turned u ?_, H3.out.2.2.2.2.trans (u.mono (fun k e => .inl (.inl e)))⟩
    · exact blk_ne H3.out.2.1 H3.out.1 (by decide)
    · exact blk_ne H3.out.2.2.1 H3.out.1 (by decide)
    · exact blk_ne H3.out.2.2.2.1 H3.out.1 (by decide)
  have H4 : Hid (Blk (w3.setCell ⟨g, 4, none⟩ (.int .i64 ((len : Int) + n))).drew g 74 [c0, c1, .slice (some ⟨t, 0, none⟩) N N, .slice (some ⟨d, 0, none⟩) N N, .int .i64 ((len : Int) + n), c5, c6, c7, c8, c9] ∧ Blk (w3.setCell ⟨g, 4, none⟩ (.int .i64 ((len : Int) + n))).drew t 4 (bs.set num (.bool true)) ∧ Blk (w3.setCell ⟨g, 4, none⟩ (.int .i64 ((len : Int) + n))).drew d 22 (vs) ∧ Blk (w3.setCell ⟨g, 4, none⟩ (.int .i64 ((len : Int) + n))).drew P 56 [.int .i64 id, .int .i64 num, .int .i64 cnt, .int .u32 s, .slice x n c] ∧ Turned (fun k => k = g ∨ k = t ∨ k = d) w (w3.setCell ⟨g, 4, none⟩ (.int .i64 ((len : Int) + n))).drew) := ⟨H4n.out.1.laterB (Below.refl _ _).drew, H4n.out.2.1.laterB (Below.refl _ _).drew, H4n.out.2.2.1.laterB (Below.refl _ _).drew, H4n.out.2.2.2.1.laterB (Below.refl _ _).drew, H4n.out.2.2.2.2.trans (tnd6 (Below.refl _ _).drew)⟩
  clear H3 H4n
  have hwr : IntKind.i64.wrap ((len : Int) + n) = (len : Int) + n := by rw [IntKind.wrap_i64]; omega
  (try simp only [hwr])
  generalize (w3.setCell ⟨g, 4, none⟩ (.int .i64 ((len : Int) + n))).drew = w4 at *
  have f0 := blk_at H4.out.1 2
  have f1 := blk_at H4.out.1 3
  have f2 := blk_at H4.out.1 4
  have f3 := blk_at H4.out.2.2.2.1 1
  have f4 := blk_at H4.out.2.2.2.1 4
  have f5 := blk_at H4.out.2.1 num
  have f6 := blk_frozen H4.out.2.1 num
  have f7 := blk_frozen H4.out.1 4
  have f8 := blk_at H4.out.2.2.1 num
  have f9 := blk_frozen H4.out.2.2.1 num
  clear f5
  rw [hv] at f8
  simp only [List.getElem?_cons_zero, List.getElem?_cons_succ] at f0 f1 f2 f3 f4
  go_upto_region 6 with fail
  clear f0 f1 f2 f3 f4 f6 f7 f8 f9
  refine e_begin (S := fun W => Blk W g 74 [c0, c1, .slice (some ⟨t, 0, none⟩) N N, .slice (some ⟨d, 0, none⟩) N N, .int .i64 ((len : Int) + n), c5, c6, c7, c8, c9] ∧ Blk W t 4 (bs.set num (.bool true)) ∧ Blk W d 22 (vs) ∧ Blk W P 56 [.int .i64 id, .int .i64 num, .int .i64 cnt, .int .u32 s, .slice x n c] ∧ Turned (fun k => k = g ∨ k = t ∨ k = d) w W) 9 (by kernel_rfl) (⟨H4.out.1.laterB (Below.refl _ _).drew, H4.out.2.1.laterB (Below.refl _ _).drew, H4.out.2.2.1.laterB (Below.refl _ _).drew, H4.out.2.2.2.1.laterB (Below.refl _ _).drew, H4.out.2.2.2.2.trans (tnd6 (Below.refl _ _).drew)⟩) (fun hS => ?_)
  refine e_take (i := 0) (v := ?_) [1, 2, 3, 8, 9] rfl (by kernel_rfl) (by kernel_rfl) (by kernel_rfl) (by kernel_rfl) (by exact fun _ _ _ h => h) (by rfl) ?_ hS ?_
  rotate_left
  · ((intro w hSw; have f0 := blk_at hSw.1 2; have f1 := blk_at hSw.1 3; have f2 := blk_at hSw.1 4; have f3 := blk_at hSw.2.2.2.1 1; have f4 := blk_at hSw.2.2.2.1 4; have f5 := blk_at hSw.2.1 num; have f6 := blk_frozen hSw.2.1 num; have f7 := blk_frozen hSw.1 4; have f8 := blk_at hSw.2.2.1 num; have f9 := blk_frozen hSw.2.2.1 num; clear f5; rw [hv] at f8; simp only [List.getElem?_cons_zero, List.getElem?_cons_succ] at f0 f1 f2 f3 f4; clear hSw; go_simp) <;> with_reducible rfl)
  (try simp only [Act.put, List.setIfInBounds_toArray, List.set_cons_zero, List.set_cons_succ])
  refine e_take (i := 1) (v := ?_) [2, 3, 8, 9] rfl (by kernel_rfl) (by kernel_rfl) (by kernel_rfl) (by kernel_rfl) (by exact fun _ _ _ h => h) (by rfl) ?_ hS ?_
  rotate_left
  · ((intro w hSw; have f0 := blk_at hSw.1 2; have f1 := blk_at hSw.1 3; have f2 := blk_at hSw.1 4; have f3 := blk_at hSw.2.2.2.1 1; have f4 := blk_at hSw.2.2.2.1 4; have f5 := blk_at hSw.2.1 num; have f6 := blk_frozen hSw.2.1 num; have f7 := blk_frozen hSw.1 4; have f8 := blk_at hSw.2.2.1 num; have f9 := blk_frozen hSw.2.2.1 num; clear f5; rw [hv] at f8; simp only [List.getElem?_cons_zero, List.getElem?_cons_succ] at f0 f1 f2 f3 f4; clear hSw; go_simp) <;> with_reducible rfl)
  (try simp only [Act.put, List.setIfInBounds_toArray, List.set_cons_zero, List.set_cons_succ])
  refine e_take (i := 2) (v := ?_) [3, 8, 9] rfl (by kernel_rfl) (by kernel_rfl) (by kernel_rfl) (by kernel_rfl) (by exact fun _ _ _ h => h) (by rfl) ?_ hS ?_
  rotate_left
  · ((intro w hSw; have f0 := blk_at hSw.1 2; have f1 := blk_at hSw.1 3; have f2 := blk_at hSw.1 4; have f3 := blk_at hSw.2.2.2.1 1; have f4 := blk_at hSw.2.2.2.1 4; have f5 := blk_at hSw.2.1 num; have f6 := blk_frozen hSw.2.1 num; have f7 := blk_frozen hSw.1 4; have f8 := blk_at hSw.2.2.1 num; have f9 := blk_frozen hSw.2.2.1 num; clear f5; rw [hv] at f8; simp only [List.getElem?_cons_zero, List.getElem?_cons_succ] at f0 f1 f2 f3 f4; clear hSw; go_simp) <;> with_reducible rfl)
  (try simp only [Act.put, List.setIfInBounds_toArray, List.set_cons_zero, List.set_cons_succ])
  refine e_take (i := 3) (v := ?_) [8, 9] rfl (by kernel_rfl) (by kernel_rfl) (by kernel_rfl) (by kernel_rfl) (by exact fun _ _ _ h => h) (by rfl) ?_ hS ?_
  rotate_left
  · ((intro w hSw; have f0 := blk_at hSw.1 2; have f1 := blk_at hSw.1 3; have f2 := blk_at hSw.1 4; have f3 := blk_at hSw.2.2.2.1 1; have f4 := blk_at hSw.2.2.2.1 4; have f5 := blk_at hSw.2.1 num; have f6 := blk_frozen hSw.2.1 num; have f7 := blk_frozen hSw.1 4; have f8 := blk_at hSw.2.2.1 num; have f9 := blk_frozen hSw.2.2.1 num; clear f5; rw [hv] at f8; simp only [List.getElem?_cons_zero, List.getElem?_cons_succ] at f0 f1 f2 f3 f4; clear hSw; go_simp) <;> with_reducible rfl)
  (try simp only [Act.put, List.setIfInBounds_toArray, List.set_cons_zero, List.set_cons_succ])
  refine e_take (i := 4) (v := ?_) [5, 8, 9] rfl (by kernel_rfl) (by kernel_rfl) (by kernel_rfl) (by kernel_rfl) (by exact fun _ _ _ h => h) (by rfl) ?_ hS ?_
  rotate_left
  · ((intro w hSw; have f0 := blk_at hSw.1 2; have f1 := blk_at hSw.1 3; have f2 := blk_at hSw.1 4; have f3 := blk_at hSw.2.2.2.1 1; have f4 := blk_at hSw.2.2.2.1 4; have f5 := blk_at hSw.2.1 num; have f6 := blk_frozen hSw.2.1 num; have f7 := blk_frozen hSw.1 4; have f8 := blk_at hSw.2.2.1 num; have f9 := blk_frozen hSw.2.2.1 num; clear f5; rw [hv] at f8; simp only [List.getElem?_cons_zero, List.getElem?_cons_succ] at f0 f1 f2 f3 f4; clear hSw; go_simp) <;> with_reducible rfl)
  (try simp only [Act.put, List.setIfInBounds_toArray, List.set_cons_zero, List.set_cons_succ])
  refine e_take (i := 5) (v := ?_) [8, 9] rfl (by kernel_rfl) (by kernel_rfl) (by kernel_rfl) (by kernel_rfl) (by exact fun _ _ _ h => h) (by rfl) ?_ hS ?_
  rotate_left
  · ((intro w hSw; have f0 := blk_at hSw.1 2; have f1 := blk_at hSw.1 3; have f2 := blk_at hSw.1 4; have f3 := blk_at hSw.2.2.2.1 1; have f4 := blk_at hSw.2.2.2.1 4; have f5 := blk_at hSw.2.1 num; have f6 := blk_frozen hSw.2.1 num; have f7 := blk_frozen hSw.1 4; have f8 := blk_at hSw.2.2.1 num; have f9 := blk_frozen hSw.2.2.1 num; clear f5; rw [hv] at f8; simp only [List.getElem?_cons_zero, List.getElem?_cons_succ] at f0 f1 f2 f3 f4; clear hSw; go_simp) <;> with_reducible rfl)
  (try simp only [Act.put, List.setIfInBounds_toArray, List.set_cons_zero, List.set_cons_succ])
  refine e_take (i := 6) (v := ?_) [7, 9] rfl (by kernel_rfl) (by kernel_rfl) (by kernel_rfl) (by kernel_rfl) (by exact fun _ _ _ h => h) (by rfl) ?_ hS ?_
  rotate_left
  · ((intro w hSw; have f0 := blk_at hSw.1 2; have f1 := blk_at hSw.1 3; have f2 := blk_at hSw.1 4; have f3 := blk_at hSw.2.2.2.1 1; have f4 := blk_at hSw.2.2.2.1 4; have f5 := blk_at hSw.2.1 num; have f6 := blk_frozen hSw.2.1 num; have f7 := blk_frozen hSw.1 4; have f8 := blk_at hSw.2.2.1 num; have f9 := blk_frozen hSw.2.2.1 num; clear f5; rw [hv] at f8; simp only [List.getElem?_cons_zero, List.getElem?_cons_succ] at f0 f1 f2 f3 f4; clear hSw; go_simp) <;> with_reducible rfl)
  (try simp only [Act.put, List.setIfInBounds_toArray, List.set_cons_zero, List.set_cons_succ])
  refine e_take (i := 7) (v := ?_) [9] rfl (by kernel_rfl) (by kernel_rfl) (by kernel_rfl) (by kernel_rfl) (by exact fun _ _ _ h => h) (by rfl) ?_ hS ?_
  rotate_left
  · ((intro w hSw; have f0 := blk_at hSw.1 2; have f1 := blk_at hSw.1 3; have f2 := blk_at hSw.1 4; have f3 := blk_at hSw.2.2.2.1 1; have f4 := blk_at hSw.2.2.2.1 4; have f5 := blk_at hSw.2.1 num; have f6 := blk_frozen hSw.2.1 num; have f7 := blk_frozen hSw.1 4; have f8 := blk_at hSw.2.2.1 num; have f9 := blk_frozen hSw.2.2.1 num; clear f5; rw [hv] at f8; simp only [List.getElem?_cons_zero, List.getElem?_cons_succ] at f0 f1 f2 f3 f4; clear hSw; go_simp) <;> with_reducible rfl)
  (try simp only [Act.put, List.setIfInBounds_toArray, List.set_cons_zero, List.set_cons_succ])
  refine e_take (i := 8) (v := ?_) [9] rfl (by kernel_rfl) (by kernel_rfl) (by kernel_rfl) (by kernel_rfl) (by exact fun _ _ _ h => h) (by rfl) ?_ hS ?_
  rotate_left
  · ((intro w hSw; have f0 := blk_at hSw.1 2; have f1 := blk_at hSw.1 3; have f2 := blk_at hSw.1 4; have f3 := blk_at hSw.2.2.2.1 1; have f4 := blk_at hSw.2.2.2.1 4; have f5 := blk_at hSw.2.1 num; have f6 := blk_frozen hSw.2.1 num; have f7 := blk_frozen hSw.1 4; have f8 := blk_at hSw.2.2.1 num; have f9 := blk_frozen hSw.2.2.1 num; clear f5; rw [hv] at f8; simp only [List.getElem?_cons_zero, List.getElem?_cons_succ] at f0 f1 f2 f3 f4; clear hSw; go_simp) <;> with_reducible rfl)
  (try simp only [Act.put, List.setIfInBounds_toArray, List.set_cons_zero, List.set_cons_succ])
  have HS : Hid _ := And.intro hS trivial
  have f0 := blk_at HS.out.1.1 2
  have f1 := blk_at HS.out.1.1 3
  have f2 := blk_at HS.out.1.1 4
  have f3 := blk_at HS.out.1.2.2.2.1 1
  have f4 := blk_at HS.out.1.2.2.2.1 4
  have f5 := blk_at HS.out.1.2.1 num
  have f6 := blk_frozen HS.out.1.2.1 num
  have f7 := blk_frozen HS.out.1.1 4
  have f8 := blk_at HS.out.1.2.2.1 num
  have f9 := blk_frozen HS.out.1.2.2.1 num
  clear f5
  rw [hv] at f8
  simp only [List.getElem?_cons_zero, List.getElem?_cons_succ] at f0 f1 f2 f3 f4
  clear hS
  refine e_last (z := 9) rfl (by kernel_rfl) (fun K hK => ?_)
  go_simp
  refine hK.out _ _ ?_
  clear hK K
  refine e_done (by kernel_rfl) ?_ _
  clear f0 f1 f2 f3 f4 f6 f7 f8 f9
  have F0 : Hid (Blk (w4.setCell ⟨d, num, none⟩ (.slice x n c)) g 74 [c0, c1, .slice (some ⟨t, 0, none⟩) N N, .slice (some ⟨d, 0, none⟩) N N, .int .i64 ((len : Int) + n), c5, c6, c7, c8, c9] ∧ Blk (w4.setCell ⟨d, num, none⟩ (.slice x n c)) t 4 (bs.set num (.bool true)) ∧ Blk (w4.setCell ⟨d, num, none⟩ (.slice x n c)) d 22 (vs.set num (.slice x n c)) ∧ Turned (fun k => k = g ∨ k = t ∨ k = d) w (w4.setCell ⟨d, num, none⟩ (.slice x n c))) := by
    have u := turned_set w4 d num (.slice x n c)
    exact ⟨H4.out.1.turned u (blk_ne H4.out.1 H4.out.2.2.1 (by decide)), H4.out.2.1.turned u (blk_ne H4.out.2.1 H4.out.2.2.1 (by decide)), H4.out.2.2.1.set num _, H4.out.2.2.2.2.trans (u.mono (fun k e => .inl (.inr (.inr e))))⟩
  have F : Hid _ := And.intro (F0.out.1.laterB (Below.refl _ _).drew) (And.intro (F0.out.2.1.laterB (Below.refl _ _).drew) (And.intro (F0.out.2.2.1.laterB (Below.refl _ _).drew) (F0.out.2.2.2.trans (tnd6 (Below.refl _ _).drew))))
  clear H4 F0
  go_wp2
  go_end0
  exact ⟨rfl, F.out⟩
/-- a piece more -/
def setPc (m : CR) (i : Nat) (d : List (BitVec 8)) : CR := match m.ps[i]? with
  | some none => { m with ps := m.ps.set i (some d) }
  | _ => m
theorem lenOf_set (ps : List (Option (List (BitVec 8)))) (i : Nat) (d : List (BitVec 8)) (h : ps[i]? = some none) : lenOf (ps.set i (some d)) = lenOf ps + d.length := by
  induction ps generalizing i with
  | nil => simp at h
  | cons o ps ih =>
    cases i with
    | zero =>
      simp only [List.getElem?_cons_zero, Option.some.injEq] at h
      subst h
      simp [lenOf]
      omega
    | succ i =>
      have := ih i (by simpa using h)
      simp only [lenOf, List.set_cons_succ, List.map_cons, List.sum_cons] at this ⊢
      omega
theorem crPut_any (p : CPl) (m : CR) (id : Int) (i cnt : Nat) (s : Int) (x : Option Addr) (c : Nat) (l : List (BitVec 8)) (w : World) (h : (crOb p m).Ok w) (hi : i < m.ps.length) (hl : m.ps[i]? = some none → lenOf m.ps + l.length ≤ 65536) (ho : Own w 0 (.slice x l.length c) l) (hno : ∀ k, Value.ownBlock (.slice x l.length c) = some k → k ∉ (crOb p m).W) :
    Calls Try.prog 37 #[.pointer (some ⟨p.g, 0, none⟩), .agg #[.int .i64 id, .int .i64 i, .int .i64 cnt, .int .u32 s, .slice x l.length c]] w fun e w' => e = .returned (.tuple #[]) ∧ ∃ p', p'.g = p.g ∧ (crOb p' (setPc m i l)).Ok w' ∧ Turned (· ∈ (crOb p m).W) w w' ∧ (crOb p' (setPc m i l)).W = (crOb p m).W ∧ ∀ k ∈ (crOb p' (setPc m i l)).V, k ∈ (crOb p m).V ∨ Value.ownBlock (.slice x l.length c) = some k := by
  have hP := h.holds
  have hne : m.ps.length ≠ 0 := by omega
  have hG := hP.blk
  unfold CPl.tv CPl.dv at hG
  rw [if_neg hne, if_neg hne] at hG
  obtain ⟨v, hv, hvo⟩ := hP.each i m.ps[i] (List.getElem?_eq_getElem hi)
  have hbi : (m.ps.map isB)[i]? = some (isB m.ps[i]) := by rw [List.getElem?_map, List.getElem?_eq_getElem hi]; rfl
  rcases hpi : m.ps[i] with _ | d0
  · have hsi : m.ps[i]? = some none := by rw [List.getElem?_eq_getElem hi, hpi]
    have hM : setPc m i l = { m with ps := m.ps.set i (some l) } := by unfold setPc; rw [hsi]
    rw [hpi] at hbi
    refine (put_raw p.g p.t p.d m.ps.length i (lenOf m.ps) (m.ps.map isB) p.vs _ _ _ _ _ _ _ id cnt s x l.length c w hG (hP.there hne) (hP.data hne) hi v hv hbi (hl hsi)).mono ?_
    rintro e w' ⟨rfl, kG, kT, kD, kTu⟩
    have hW : ∀ k, k ∈ (crOb p m).W ↔ (k = p.g ∨ k = p.t ∨ k = p.d) := fun k => by
      simp only [crOb, if_neg hne, List.mem_cons, List.not_mem_nil, or_false]
    have hW2 : (crOb ⟨p.g, p.t, p.d, p.vs.set i (.slice x l.length c)⟩ (setPc m i l)).W = (crOb p m).W := by
      rw [hM]; simp only [crOb, List.length_set]
    have hT : Turned (· ∈ (crOb p m).W) w w' := kTu.mono (fun k e => (hW k).2 e)
    refine ⟨rfl, ⟨p.g, p.t, p.d, p.vs.set i (.slice x l.length c)⟩, rfl, crOb_ok ?_, hT, hW2, fun k hk => ?_⟩
    · rw [hM]
      refine ⟨?_, fun _ => ?_, fun _ => kD, by simp [hP.len], fun j o hj => ?_, hP.ad⟩
      · simp only [List.length_set]
        rw [lenOf_set _ _ _ hsi]
        unfold CPl.tv CPl.dv
        rw [if_neg hne, if_neg hne]
        rw [show ((lenOf m.ps + l.length : Nat) : Int) = (lenOf m.ps : Int) + l.length by omega]
        exact kG
      · rw [List.map_set]
        exact kT
      · by_cases hij : i = j
        · subst hij
          rw [List.getElem?_set_self hi] at hj
          cases hj
          exact ⟨_, List.getElem?_set_self (by rw [hP.len]; exact hi), ho.turned hT hno⟩
        · rw [List.getElem?_set_ne hij] at hj
          obtain ⟨u, hu, huo⟩ := hP.each j o hj
          refine ⟨u, by rw [List.getElem?_set_ne hij]; exact hu, huo.turned hT (fun k e hk => ?_)⟩
          exact h.apart k hk (List.mem_filterMap.2 ⟨u, List.mem_of_getElem? hu, e⟩)
    · obtain ⟨u, hu, e⟩ := List.mem_filterMap.1 hk
      rcases List.mem_or_eq_of_mem_set hu with hu | rfl
      · exact .inl (List.mem_filterMap.2 ⟨u, hu, e⟩)
      · exact .inr e
  · have hM : setPc m i l = m := by unfold setPc; rw [List.getElem?_eq_getElem hi, hpi]
    rw [hpi] at hbi
    refine (put_there p.g p.t p.d m.ps.length i (lenOf m.ps) (m.ps.map isB) p.vs _ _ _ _ _ _ _ id cnt s x l.length c w hG (hP.there hne) (hP.data hne) hi v hv hbi).mono ?_
    rintro e w' ⟨rfl, hB⟩
    rw [hM]
    exact ⟨rfl, p, rfl, h.later hB, tnd6 hB, rfl, fun k hk => .inl hk⟩
end Go.Proofs.Ytgonglbgejaffaa

/- Add: a piece more, of one image. -/
namespace Go.Proofs.Ytgonglbgejaffaa
open Go.RowKit
set_option linter.unusedVariables false
set_option linter.unusedSimpArgs false
set_option maxRecDepth 4000

theorem own_notW {w : World} {p : CPl} {m : CR} {b : Nat} {v : Value} {l : List (BitVec 8)} (h : CrP w p m) (ho : Own w b v l) : ∀ k, v.ownBlock = some k → k ∉ (crOb p m).W := fun k e hk => by
  obtain ⟨T, xs, hb, hT⟩ := h.mem_W hk
  exact own_apart ho hb hT k e rfl
/-- one more is taken -/
def addM (m : CR) : CR := { m with ad := m.ad + 1 }
theorem added_ok {p : CPl} {m : CR} {w : World} (h : (crOb p m).Ok w) : (crOb p (addM m)).Ok (w.setCell ⟨p.g, 5, none⟩ (.int .i64 (m.ad + 1))) := by
  have hP := h.holds
  have u := turned_set w p.g 5 (.int .i64 (m.ad + 1))
  refine crOb_ok ⟨?_, fun h0 => ?_, fun h0 => ?_, hP.len, fun j o hj => ?_, by have := hP.ad; simp only [addM]; omega⟩
  · exact hP.blk.set 5 _
  · exact (hP.there h0).turned u (blk_ne (hP.there h0) hP.blk (by decide))
  · exact (hP.data h0).turned u (blk_ne (hP.data h0) hP.blk (by decide))
  · obtain ⟨v, hv, ho⟩ := hP.each j o hj
    exact ⟨v, hv, ho.turned u (own_apart ho hP.blk (by decide))⟩
set_option maxHeartbeats 4000000 in
/-- bytes that are no piece -/
theorem add_err (a : Option Addr) (cap : Nat) (l : List (BitVec 8)) (p : CPl) (m : CR) (w : World) (h : (crOb p m).Ok w) (hle : l.length ≤ cap) (hr : Row w a l) (hn : a = none → cap = 0) (hlen : l.length ≤ 140737488351232) (hE : dcE l ≠ 0) : Calls Try.prog 16 #[.pointer (some ⟨p.g, 0, none⟩), .slice a l.length cap] w fun e w' => e = .returned (.int .i64 (dcE l)) ∧ Below w.heap.size w w' := by
  have HD : Hid _ := decode_any a cap l w hle hr hn hlen
  have hG := h.holds.blk
  have y9 := blk_at hG 9
  simp only [List.getElem?_cons_zero, List.getElem?_cons_succ] at y9
  clear hr hn h hG
  generalize dcE l = E at *
  generalize dcR l = R at *
  go_enter Try.func16, Try.ntmps16
  go_wp2_with fail
  clear y9
  refine (Calls.mono HD.out) ?_
  rintro r w1 ⟨x, c, rfl, ho, b1⟩
  have b2 : Below w1.heap.size w1 (w1.alloc (.cells #[.int .i64 R.1, .int .i64 R.2.1, .int .i64 R.2.2.1, .int .u32 R.2.2.2.1, .slice x R.2.2.2.2.length c] 56)) := (Below.refl _ _).alloc (Nat.le_refl _) _
  have F : Hid _ := below_then b1 b2
  have hE' : (E == 0) = false := by rw [beq_eq_false_iff_ne]; exact hE
  clear HD ho b1 b2
  go_wp2
  go_ret
  exact ⟨rfl, F.out⟩
set_option maxHeartbeats 4000000 in
/-- a piece of an elder image -/
theorem add_old (a : Option Addr) (cap : Nat) (l : List (BitVec 8)) (p : CPl) (m : CR) (w : World) (h : (crOb p m).Ok w) (hle : l.length ≤ cap) (hr : Row w a l) (hn : a = none → cap = 0) (hlen : l.length ≤ 140737488351232) (hE : dcE l = 0) (id s : Int) (i cnt : Nat) (d : List (BitVec 8)) (hR : dcR l = (id, (i : Int), (cnt : Int), s, d)) (hid : id < m.id) : Calls Try.prog 16 #[.pointer (some ⟨p.g, 0, none⟩), .slice a l.length cap] w fun e w' => e = .returned (.int .i64 5) ∧ Below w.heap.size w w' := by
  have HD : Hid _ := decode_any a cap l w hle hr hn hlen
  have hG := h.holds.blk
  have y9 := blk_at hG 9
  simp only [List.getElem?_cons_zero, List.getElem?_cons_succ] at y9
  rw [hE, hR] at HD
  dsimp only at HD
  clear hr hn
  obtain ⟨g, hg⟩ : ∃ g, g = p.g := ⟨_, rfl⟩
  go_enter Try.func16, Try.ntmps16
  go_wp2_with fail
  clear y9
  refine (Calls.mono HD.out) ?_
  rintro r w1 ⟨x, c, rfl, ho, b1⟩
  have b2 : Below w1.heap.size w1 (w1.alloc (.cells #[.int .i64 id, .int .i64 i, .int .i64 cnt, .int .u32 s, .slice x d.length c] 56)) := (Below.refl _ _).alloc (Nat.le_refl _) _
  have hP := Blk.new' w1 56 [.int .i64 id, .int .i64 i, .int .i64 cnt, .int .u32 s, .slice x d.length c]
  have K2 : Hid _ := And.intro (h.later (below_then b1 b2)) (And.intro (below_then b1 b2) (And.intro (ho.later b2) hP))
  clear HD ho b1 b2 hP h hG
  go_upto_region 8 with fail
  obtain ⟨P, hPe⟩ : ∃ P, P = w1.heap.size := ⟨_, rfl⟩
  rw [← hPe] at K2 ⊢
  generalize (w1.alloc (.cells #[.int .i64 id, .int .i64 i, .int .i64 cnt, .int .u32 s, .slice x d.length c] 56)) = w2 at *
  clear hPe

  have H2 : Hid _ := And.intro (And.intro K2.out.1.holds.blk K2.out.2.2.2) K2.out.2.1
  rw [← hg] at H2 ⊢
  clear K2 hg
  generalize m.id = mid at *
  generalize m.s = ms at *
  generalize p.tv m.ps.length = TV at *
  generalize p.dv m.ps.length = DV at *
  generalize lenOf m.ps = len at *
  generalize m.ad = ad at *
  refine wp_region_held_drew (S := fun W => Blk W g 74 [.int .i64 mid, .int .u32 ms, TV, DV, .int .i64 len, .int .i64 ad, .int .u32 0, .int .i32 0, .int .u32 0, .bool false] ∧ Blk W P 56 [.int .i64 id, .int .i64 i, .int .i64 cnt, .int .u32 s, .slice x d.length c]) (by kernel_rfl) (⟨H2.out.1.1.laterB (Below.refl _ _).drew, H2.out.1.2.laterB (Below.refl _ _).drew⟩) (fun hS => ?_)
  refine any_take (i := 0) (v := ?_) rfl (by kernel_rfl) (by kernel_rfl) (by kernel_rfl) (by exact fun _ _ _ h => h) (by rfl) ?_ hS ?_
  rotate_left
  · ((intro w hSw; have y0 := blk_at hSw.1 0; have y1 := blk_at hSw.1 1; have y2 := blk_at hSw.1 2; have z0 := blk_at hSw.2 0; have z2 := blk_at hSw.2 2; have z3 := blk_at hSw.2 3; simp only [List.getElem?_cons_zero, List.getElem?_cons_succ] at y0 y1 y2 z0 z2 z3; clear hSw; go_simp) <;> with_reducible rfl)
  (try simp only [Act.put, List.setIfInBounds_toArray, List.set_cons_zero, List.set_cons_succ])
  refine any_take (i := 1) (v := ?_) rfl (by kernel_rfl) (by kernel_rfl) (by kernel_rfl) (by exact fun _ _ _ h => h) (by rfl) ?_ hS ?_
  rotate_left
  · ((intro w hSw; have y0 := blk_at hSw.1 0; have y1 := blk_at hSw.1 1; have y2 := blk_at hSw.1 2; have z0 := blk_at hSw.2 0; have z2 := blk_at hSw.2 2; have z3 := blk_at hSw.2 3; simp only [List.getElem?_cons_zero, List.getElem?_cons_succ] at y0 y1 y2 z0 z2 z3; clear hSw; go_simp) <;> with_reducible rfl)
  (try simp only [Act.put, List.setIfInBounds_toArray, List.set_cons_zero, List.set_cons_succ])
  refine any_take (i := 2) (v := ?_) rfl (by kernel_rfl) (by kernel_rfl) (by kernel_rfl) (by exact fun _ _ _ h => h) (by rfl) ?_ hS ?_
  rotate_left
  · ((intro w hSw; have y0 := blk_at hSw.1 0; have y1 := blk_at hSw.1 1; have y2 := blk_at hSw.1 2; have z0 := blk_at hSw.2 0; have z2 := blk_at hSw.2 2; have z3 := blk_at hSw.2 3; simp only [List.getElem?_cons_zero, List.getElem?_cons_succ] at y0 y1 y2 z0 z2 z3; clear hSw; go_simp) <;> with_reducible rfl)
  (try simp only [Act.put, List.setIfInBounds_toArray, List.set_cons_zero, List.set_cons_succ])
  refine any_take (i := 3) (v := ?_) rfl (by kernel_rfl) (by kernel_rfl) (by kernel_rfl) (by exact fun _ _ _ h => h) (by rfl) ?_ hS ?_
  rotate_left
  · ((intro w hSw; have y0 := blk_at hSw.1 0; have y1 := blk_at hSw.1 1; have y2 := blk_at hSw.1 2; have z0 := blk_at hSw.2 0; have z2 := blk_at hSw.2 2; have z3 := blk_at hSw.2 3; simp only [List.getElem?_cons_zero, List.getElem?_cons_succ] at y0 y1 y2 z0 z2 z3; clear hSw; go_simp) <;> with_reducible rfl)
  (try simp only [Act.put, List.setIfInBounds_toArray, List.set_cons_zero, List.set_cons_succ])
  refine any_take (i := 4) (v := ?_) rfl (by kernel_rfl) (by kernel_rfl) (by kernel_rfl) (by exact fun _ _ _ h => h) (by rfl) ?_ hS ?_
  rotate_left
  · ((intro w hSw; have y0 := blk_at hSw.1 0; have y1 := blk_at hSw.1 1; have y2 := blk_at hSw.1 2; have z0 := blk_at hSw.2 0; have z2 := blk_at hSw.2 2; have z3 := blk_at hSw.2 3; simp only [List.getElem?_cons_zero, List.getElem?_cons_succ] at y0 y1 y2 z0 z2 z3; clear hSw; go_simp) <;> with_reducible rfl)
  (try simp only [Act.put, List.setIfInBounds_toArray, List.set_cons_zero, List.set_cons_succ])
  refine any_take (i := 5) (v := ?_) rfl (by kernel_rfl) (by kernel_rfl) (by kernel_rfl) (by exact fun _ _ _ h => h) (by rfl) ?_ hS ?_
  rotate_left
  · ((intro w hSw; have y0 := blk_at hSw.1 0; have y1 := blk_at hSw.1 1; have y2 := blk_at hSw.1 2; have z0 := blk_at hSw.2 0; have z2 := blk_at hSw.2 2; have z3 := blk_at hSw.2 3; simp only [List.getElem?_cons_zero, List.getElem?_cons_succ] at y0 y1 y2 z0 z2 z3; clear hSw; go_simp) <;> with_reducible rfl)
  (try simp only [Act.put, List.setIfInBounds_toArray, List.set_cons_zero, List.set_cons_succ])
  refine any_take (i := 6) (v := ?_) rfl (by kernel_rfl) (by kernel_rfl) (by kernel_rfl) (by exact fun _ _ _ h => h) (by rfl) ?_ hS ?_
  rotate_left
  · ((intro w hSw; have y0 := blk_at hSw.1 0; have y1 := blk_at hSw.1 1; have y2 := blk_at hSw.1 2; have z0 := blk_at hSw.2 0; have z2 := blk_at hSw.2 2; have z3 := blk_at hSw.2 3; simp only [List.getElem?_cons_zero, List.getElem?_cons_succ] at y0 y1 y2 z0 z2 z3; clear hSw; go_simp) <;> with_reducible rfl)
  (try simp only [Act.put, List.setIfInBounds_toArray, List.set_cons_zero, List.set_cons_succ])
  refine wpAnyH_done (by kernel_rfl) ?_ _
  clear hS
  have H3 : Hid _ := And.intro (And.intro (H2.out.1.1.laterB (Below.refl _ _).drew) (H2.out.1.2.laterB (Below.refl _ _).drew)) (below_then H2.out.2 (Below.refl _ _).drew)
  generalize w2.drew = w3 at *
  clear H2
  go_upto_region 10 with fail
  refine wp_region_held_drew (S := fun W => Blk W g 74 [.int .i64 mid, .int .u32 ms, TV, DV, .int .i64 len, .int .i64 ad, .int .u32 0, .int .i32 0, .int .u32 0, .bool false] ∧ Blk W P 56 [.int .i64 id, .int .i64 i, .int .i64 cnt, .int .u32 s, .slice x d.length c]) (by kernel_rfl) (⟨H3.out.1.1.laterB (Below.refl _ _).drew, H3.out.1.2.laterB (Below.refl _ _).drew⟩) (fun hS => ?_)
  refine any_take (i := 0) (v := ?_) rfl (by kernel_rfl) (by kernel_rfl) (by kernel_rfl) (by exact fun _ _ _ h => h) (by rfl) ?_ hS ?_
  rotate_left
  · ((intro w hSw; have y0 := blk_at hSw.1 0; have y1 := blk_at hSw.1 1; have y2 := blk_at hSw.1 2; have z0 := blk_at hSw.2 0; have z2 := blk_at hSw.2 2; have z3 := blk_at hSw.2 3; simp only [List.getElem?_cons_zero, List.getElem?_cons_succ] at y0 y1 y2 z0 z2 z3; clear hSw; go_simp) <;> with_reducible rfl)
  (try simp only [Act.put, List.setIfInBounds_toArray, List.set_cons_zero, List.set_cons_succ])
  refine any_take (i := 1) (v := ?_) rfl (by kernel_rfl) (by kernel_rfl) (by kernel_rfl) (by exact fun _ _ _ h => h) (by rfl) ?_ hS ?_
  rotate_left
  · ((intro w hSw; have y0 := blk_at hSw.1 0; have y1 := blk_at hSw.1 1; have y2 := blk_at hSw.1 2; have z0 := blk_at hSw.2 0; have z2 := blk_at hSw.2 2; have z3 := blk_at hSw.2 3; simp only [List.getElem?_cons_zero, List.getElem?_cons_succ] at y0 y1 y2 z0 z2 z3; clear hSw; go_simp) <;> with_reducible rfl)
  (try simp only [Act.put, List.setIfInBounds_toArray, List.set_cons_zero, List.set_cons_succ])
  refine any_take (i := 2) (v := ?_) rfl (by kernel_rfl) (by kernel_rfl) (by kernel_rfl) (by exact fun _ _ _ h => h) (by rfl) ?_ hS ?_
  rotate_left
  · ((intro w hSw; have y0 := blk_at hSw.1 0; have y1 := blk_at hSw.1 1; have y2 := blk_at hSw.1 2; have z0 := blk_at hSw.2 0; have z2 := blk_at hSw.2 2; have z3 := blk_at hSw.2 3; simp only [List.getElem?_cons_zero, List.getElem?_cons_succ] at y0 y1 y2 z0 z2 z3; clear hSw; go_simp) <;> with_reducible rfl)
  (try simp only [Act.put, List.setIfInBounds_toArray, List.set_cons_zero, List.set_cons_succ])
  refine any_take (i := 3) (v := ?_) rfl (by kernel_rfl) (by kernel_rfl) (by kernel_rfl) (by exact fun _ _ _ h => h) (by rfl) ?_ hS ?_
  rotate_left
  · ((intro w hSw; have y0 := blk_at hSw.1 0; have y1 := blk_at hSw.1 1; have y2 := blk_at hSw.1 2; have z0 := blk_at hSw.2 0; have z2 := blk_at hSw.2 2; have z3 := blk_at hSw.2 3; simp only [List.getElem?_cons_zero, List.getElem?_cons_succ] at y0 y1 y2 z0 z2 z3; clear hSw; go_simp) <;> with_reducible rfl)
  (try simp only [Act.put, List.setIfInBounds_toArray, List.set_cons_zero, List.set_cons_succ])
  refine any_take (i := 4) (v := ?_) rfl (by kernel_rfl) (by kernel_rfl) (by kernel_rfl) (by exact fun _ _ _ h => h) (by rfl) ?_ hS ?_
  rotate_left
  · ((intro w hSw; have y0 := blk_at hSw.1 0; have y1 := blk_at hSw.1 1; have y2 := blk_at hSw.1 2; have z0 := blk_at hSw.2 0; have z2 := blk_at hSw.2 2; have z3 := blk_at hSw.2 3; simp only [List.getElem?_cons_zero, List.getElem?_cons_succ] at y0 y1 y2 z0 z2 z3; clear hSw; go_simp) <;> with_reducible rfl)
  (try simp only [Act.put, List.setIfInBounds_toArray, List.set_cons_zero, List.set_cons_succ])
  refine any_take (i := 5) (v := ?_) rfl (by kernel_rfl) (by kernel_rfl) (by kernel_rfl) (by exact fun _ _ _ h => h) (by rfl) ?_ hS ?_
  rotate_left
  · ((intro w hSw; have y0 := blk_at hSw.1 0; have y1 := blk_at hSw.1 1; have y2 := blk_at hSw.1 2; have z0 := blk_at hSw.2 0; have z2 := blk_at hSw.2 2; have z3 := blk_at hSw.2 3; simp only [List.getElem?_cons_zero, List.getElem?_cons_succ] at y0 y1 y2 z0 z2 z3; clear hSw; go_simp) <;> with_reducible rfl)
  (try simp only [Act.put, List.setIfInBounds_toArray, List.set_cons_zero, List.set_cons_succ])
  refine any_take (i := 6) (v := ?_) rfl (by kernel_rfl) (by kernel_rfl) (by kernel_rfl) (by exact fun _ _ _ h => h) (by rfl) ?_ hS ?_
  rotate_left
  · ((intro w hSw; have y0 := blk_at hSw.1 0; have y1 := blk_at hSw.1 1; have y2 := blk_at hSw.1 2; have z0 := blk_at hSw.2 0; have z2 := blk_at hSw.2 2; have z3 := blk_at hSw.2 3; simp only [List.getElem?_cons_zero, List.getElem?_cons_succ] at y0 y1 y2 z0 z2 z3; clear hSw; go_simp) <;> with_reducible rfl)
  (try simp only [Act.put, List.setIfInBounds_toArray, List.set_cons_zero, List.set_cons_succ])
  refine wpAnyH_done (by kernel_rfl) ?_ _
  clear hS
  have F : Hid _ := below_then H3.out.2 (Below.refl _ _).drew
  clear H3
  go_wp2
  go_ret
  exact ⟨rfl, F.out⟩
end Go.Proofs.Ytgonglbgejaffaa

/- Add: a piece is taken. -/
namespace Go.Proofs.Ytgonglbgejaffaa
open Go.RowKit
set_option linter.unusedVariables false
set_option linter.unusedSimpArgs false
set_option maxRecDepth 4000

theorem setPc_ad (m : CR) (i : Nat) (d : List (BitVec 8)) : (setPc m i d).ad = m.ad := by unfold setPc; split <;> rfl
theorem add_step {w w4 w7 : World} {o : Ob} {p1 p' : CPl} {m1 m' : CR} (h1 : Step w w4 o (crOb p1 m1)) (hT : Turned (· ∈ (crOb p1 m1).W) w4 w7) (hok : (crOb p' m').Ok w7) (hW : (crOb p' m').W = (crOb p1 m1).W) (hV : ∀ k ∈ (crOb p' m').V, k ∈ (crOb p1 m1).V ∨ w.heap.size ≤ k) :
    Step w (w7.setCell ⟨p'.g, 5, none⟩ (.int .i64 (m'.ad + 1))) o (crOb p' (addM m')) := by
  have u := turned_set w7 p'.g 5 (.int .i64 (m'.ad + 1))
  have hg : p'.g ∈ (crOb p1 m1).W := by rw [← hW]; simp [crOb]
  have hT2 : Turned (· ∈ (crOb p1 m1).W) w4 (w7.setCell ⟨p'.g, 5, none⟩ (.int .i64 (m'.ad + 1))) := hT.trans (u.mono (fun k e => .inl (by rw [e]; exact hg)))
  refine ⟨h1.turned.trans (hT2.mono (fun k e => h1.writes k e)), added_ok hok, fun k hk => h1.writes k (by rw [← hW]; exact hk), fun k hk => ?_⟩
  rcases hV k hk with e | e
  · exact h1.reads k e
  · exact .inr (.inr e)
set_option maxHeartbeats 8000000 in
/-- a piece of the image that is gathered -/
theorem add_same (a : Option Addr) (cap : Nat) (l : List (BitVec 8)) (p : CPl) (m : CR) (w : World) (h : (crOb p m).Ok w) (hle : l.length ≤ cap) (hr : Row w a l) (hn : a = none → cap = 0) (hlen : l.length ≤ 140737488351232) (hE : dcE l = 0) (id s : Int) (i cnt : Nat) (d : List (BitVec 8)) (hR : dcR l = (id, (i : Int), (cnt : Int), s, d)) (hid : m.id = id) (hs : m.s = s) (hps : m.ps.length = cnt) (hic : i < cnt) (hc2 : cnt ≤ 256) (hl0 : m.ps[i]? = some none → lenOf m.ps + d.length ≤ 65536) (hadm0 : m.ad ≤ 1000000000) :
    Calls Try.prog 16 #[.pointer (some ⟨p.g, 0, none⟩), .slice a l.length cap] w fun e w' => e = .returned (.int .i64 0) ∧ ∃ p', p'.g = p.g ∧ Step w w' (crOb p m) (crOb p' (addM (setPc m i d))) := by
  have HD : Hid _ := decode_any a cap l w hle hr hn hlen
  have hG := h.holds.blk
  have y9 := blk_at hG 9
  simp only [List.getElem?_cons_zero, List.getElem?_cons_succ] at y9
  rw [hE, hR] at HD
  dsimp only at HD
  clear hr hn
  obtain ⟨g, hg⟩ : ∃ g, g = p.g := ⟨_, rfl⟩
  go_enter Try.func16, Try.ntmps16
  go_wp2_with fail
  clear y9
  refine (Calls.mono HD.out) ?_
  rintro r w1 ⟨x, c, rfl, ho, b1⟩
  have b2 : Below w1.heap.size w1 (w1.alloc (.cells #[.int .i64 id, .int .i64 i, .int .i64 cnt, .int .u32 s, .slice x d.length c] 56)) := (Below.refl _ _).alloc (Nat.le_refl _) _
  have hP := Blk.new' w1 56 [.int .i64 id, .int .i64 i, .int .i64 cnt, .int .u32 s, .slice x d.length c]
  have hPW : w1.heap.size ∉ (crOb p m).W := fun hk => by have := h.lt _ (.inl hk); have := b1.size; omega
  have K2 : Hid _ := And.intro (h.later (below_then b1 b2)) (And.intro (below_then b1 b2) (And.intro ((ho.later b2) : Own _ w.heap.size _ d) (And.intro hP (And.intro h hPW))))
  clear HD ho b1 b2 hP h hG hPW
  go_upto_region 8 with fail
  obtain ⟨P, hPe⟩ : ∃ P, P = w1.heap.size := ⟨_, rfl⟩
  rw [← hPe] at K2 ⊢
  generalize (w1.alloc (.cells #[.int .i64 id, .int .i64 i, .int .i64 cnt, .int .u32 s, .slice x d.length c] 56)) = w2 at *
  clear hPe
  obtain ⟨p1, hp1⟩ : ∃ p1, p1 = p := ⟨_, rfl⟩
  obtain ⟨m1, hm1⟩ : ∃ m1, m1 = m := ⟨_, rfl⟩
  have hadm : m1.ad ≤ 1000000000 := by rw [hm1]; exact hadm0
  have hl1 : m1.ps[i]? = some none → lenOf m1.ps + d.length ≤ 65536 := by rw [hm1]; exact hl0
  have q4 : (crOb p m).Ok w2.drew := K2.out.1.later (Below.refl _ _).drew
  have K4 : Hid ((crOb p1 m1).Ok w2.drew ∧ Step w w2.drew (crOb p m) (crOb p1 m1) ∧ Own w2.drew w.heap.size (.slice x d.length c) d ∧ Blk w2.drew P 56 [.int .i64 id, .int .i64 i, .int .i64 cnt, .int .u32 s, .slice x d.length c]) := by
    rw [hp1, hm1]
    exact ⟨q4, ⟨tnd6 (below_then K2.out.2.1 (Below.refl _ _).drew), q4, fun k hk => .inl hk, fun k hk => .inr (.inl hk)⟩, K2.out.2.2.1.later (Below.refl _ _).drew, K2.out.2.2.2.1.laterB (Below.refl _ _).drew⟩
  have e1 : m1.id = id ∧ m1.s = s ∧ m1.ps.length = cnt ∧ p1.g = g := by rw [hm1, hp1]; exact ⟨hid, hs, hps, hg.symm⟩
  have hGs := K2.out.1.holds.blk
  unfold CPl.tv CPl.dv at hGs
  rw [if_neg (by omega), if_neg (by omega), hid, hs, hps, ← hg] at hGs
  have H2 : Hid _ := And.intro hGs K2.out.2.2.2.1
  rw [← hg]
  have HM : Hid _ := And.intro hm1 trivial
  have HGg : Hid _ := And.intro hg trivial
  have HE1 : Hid _ := And.intro e1 trivial
  clear hg e1
  clear K2 hps q4 hid hs hGs hl0 hadm0 hm1 hp1
  refine wp_region_held_drew (S := fun W => Blk W g 74 [.int .i64 id, .int .u32 s, .slice (some ⟨p.t, 0, none⟩) cnt cnt, .slice (some ⟨p.d, 0, none⟩) cnt cnt, .int .i64 (lenOf m.ps), .int .i64 m.ad, .int .u32 0, .int .i32 0, .int .u32 0, .bool false] ∧ Blk W P 56 [.int .i64 id, .int .i64 i, .int .i64 cnt, .int .u32 s, .slice x d.length c]) (by kernel_rfl) (⟨H2.out.1.laterB (Below.refl _ _).drew, H2.out.2.laterB (Below.refl _ _).drew⟩) (fun hS => ?_)
  refine any_take (i := 0) (v := ?_) rfl (by kernel_rfl) (by kernel_rfl) (by kernel_rfl) (by exact fun _ _ _ h => h) (by rfl) ?_ hS ?_
  rotate_left
  · ((intro w hSw; have y0 := blk_at hSw.1 0; have y1 := blk_at hSw.1 1; have y2 := blk_at hSw.1 2; have z0 := blk_at hSw.2 0; have z2 := blk_at hSw.2 2; have z3 := blk_at hSw.2 3; simp only [List.getElem?_cons_zero, List.getElem?_cons_succ] at y0 y1 y2 z0 z2 z3; clear hSw; go_simp) <;> with_reducible rfl)
  (try simp only [Act.put, List.setIfInBounds_toArray, List.set_cons_zero, List.set_cons_succ])
  refine any_take (i := 1) (v := ?_) rfl (by kernel_rfl) (by kernel_rfl) (by kernel_rfl) (by exact fun _ _ _ h => h) (by rfl) ?_ hS ?_
  rotate_left
  · ((intro w hSw; have y0 := blk_at hSw.1 0; have y1 := blk_at hSw.1 1; have y2 := blk_at hSw.1 2; have z0 := blk_at hSw.2 0; have z2 := blk_at hSw.2 2; have z3 := blk_at hSw.2 3; simp only [List.getElem?_cons_zero, List.getElem?_cons_succ] at y0 y1 y2 z0 z2 z3; clear hSw; go_simp) <;> with_reducible rfl)
  (try simp only [Act.put, List.setIfInBounds_toArray, List.set_cons_zero, List.set_cons_succ])
  refine any_take (i := 2) (v := ?_) rfl (by kernel_rfl) (by kernel_rfl) (by kernel_rfl) (by exact fun _ _ _ h => h) (by rfl) ?_ hS ?_
  rotate_left
  · ((intro w hSw; have y0 := blk_at hSw.1 0; have y1 := blk_at hSw.1 1; have y2 := blk_at hSw.1 2; have z0 := blk_at hSw.2 0; have z2 := blk_at hSw.2 2; have z3 := blk_at hSw.2 3; simp only [List.getElem?_cons_zero, List.getElem?_cons_succ] at y0 y1 y2 z0 z2 z3; clear hSw; go_simp) <;> with_reducible rfl)
  (try simp only [Act.put, List.setIfInBounds_toArray, List.set_cons_zero, List.set_cons_succ])
  refine any_take (i := 3) (v := ?_) rfl (by kernel_rfl) (by kernel_rfl) (by kernel_rfl) (by exact fun _ _ _ h => h) (by rfl) ?_ hS ?_
  rotate_left
  · ((intro w hSw; have y0 := blk_at hSw.1 0; have y1 := blk_at hSw.1 1; have y2 := blk_at hSw.1 2; have z0 := blk_at hSw.2 0; have z2 := blk_at hSw.2 2; have z3 := blk_at hSw.2 3; simp only [List.getElem?_cons_zero, List.getElem?_cons_succ] at y0 y1 y2 z0 z2 z3; clear hSw; go_simp) <;> with_reducible rfl)
  (try simp only [Act.put, List.setIfInBounds_toArray, List.set_cons_zero, List.set_cons_succ])
  refine any_take (i := 4) (v := ?_) rfl (by kernel_rfl) (by kernel_rfl) (by kernel_rfl) (by exact fun _ _ _ h => h) (by rfl) ?_ hS ?_
  rotate_left
  · ((intro w hSw; have y0 := blk_at hSw.1 0; have y1 := blk_at hSw.1 1; have y2 := blk_at hSw.1 2; have z0 := blk_at hSw.2 0; have z2 := blk_at hSw.2 2; have z3 := blk_at hSw.2 3; simp only [List.getElem?_cons_zero, List.getElem?_cons_succ] at y0 y1 y2 z0 z2 z3; clear hSw; go_simp) <;> with_reducible rfl)
  (try simp only [Act.put, List.setIfInBounds_toArray, List.set_cons_zero, List.set_cons_succ])
  refine any_take (i := 5) (v := ?_) rfl (by kernel_rfl) (by kernel_rfl) (by kernel_rfl) (by exact fun _ _ _ h => h) (by rfl) ?_ hS ?_
  rotate_left
  · ((intro w hSw; have y0 := blk_at hSw.1 0; have y1 := blk_at hSw.1 1; have y2 := blk_at hSw.1 2; have z0 := blk_at hSw.2 0; have z2 := blk_at hSw.2 2; have z3 := blk_at hSw.2 3; simp only [List.getElem?_cons_zero, List.getElem?_cons_succ] at y0 y1 y2 z0 z2 z3; clear hSw; go_simp) <;> with_reducible rfl)
  (try simp only [Act.put, List.setIfInBounds_toArray, List.set_cons_zero, List.set_cons_succ])
  refine any_take (i := 6) (v := ?_) rfl (by kernel_rfl) (by kernel_rfl) (by kernel_rfl) (by exact fun _ _ _ h => h) (by rfl) ?_ hS ?_
  rotate_left
  · ((intro w hSw; have y0 := blk_at hSw.1 0; have y1 := blk_at hSw.1 1; have y2 := blk_at hSw.1 2; have z0 := blk_at hSw.2 0; have z2 := blk_at hSw.2 2; have z3 := blk_at hSw.2 3; simp only [List.getElem?_cons_zero, List.getElem?_cons_succ] at y0 y1 y2 z0 z2 z3; clear hSw; go_simp) <;> with_reducible rfl)
  (try simp only [Act.put, List.setIfInBounds_toArray, List.set_cons_zero, List.set_cons_succ])
  refine wpAnyH_done (by kernel_rfl) ?_ _
  clear hS
  generalize w2.drew = w4 at *
  clear H2
  have hm1 := HM.out.1
  have e1 := HE1.out.1
  have hd1 : m1.ps.length ≠ 0 := by omega
  have hGb := K4.out.1.holds.blk
  have hGv : p1.tv m1.ps.length = .slice (some ⟨p1.t, 0, none⟩) m1.ps.length m1.ps.length ∧ p1.dv m1.ps.length = .slice (some ⟨p1.d, 0, none⟩) m1.ps.length m1.ps.length := by
    unfold CPl.tv CPl.dv; rw [if_neg hd1, if_neg hd1]; exact ⟨rfl, rfl⟩
  rw [hGv.1, hGv.2, e1.1, e1.2.1, e1.2.2.1, e1.2.2.2] at hGb
  have HPut : Hid (∀ W, Below w4.heap.size w4 W → Calls Try.prog 37 #[.pointer (some ⟨g, 0, none⟩), .agg #[.int .i64 id, .int .i64 i, .int .i64 cnt, .int .u32 s, .slice x d.length c]] W fun e w' => e = .returned (.tuple #[]) ∧ ∃ p', p'.g = g ∧ (crOb p' (setPc m1 i d)).Ok w' ∧ Turned (· ∈ (crOb p1 m1).W) w4 w' ∧ (crOb p' (setPc m1 i d)).W = (crOb p1 m1).W ∧ ∀ k ∈ (crOb p' (setPc m1 i d)).V, k ∈ (crOb p1 m1).V ∨ w.heap.size ≤ k) := fun W hW => by
    have hok := K4.out.1.later hW
    have hown := K4.out.2.2.1.later hW
    have := crPut_any p1 m1 id i cnt s x c d W hok (by rw [e1.2.2.1]; exact hic) hl1 (hown.lower (Nat.zero_le _)) (own_notW hok.holds hown)
    rw [e1.2.2.2] at this
    refine this.mono ?_
    rintro e w' ⟨rfl, p', q1, q2, q3, q4, q5⟩
    refine ⟨rfl, p', q1, q2, (tnd6 hW).trans (q3.mono (fun k e => .inl e)), q4, fun k hk => (q5 k hk).imp (fun e => e) (fun e => ?_)⟩
    exact (World.ownsRow.lt hown k e).1
  have H4 : Hid _ := And.intro (And.intro hGb K4.out.2.2.2) (Below.refl w4.heap.size w4)
  have KS : Hid _ := And.intro K4.out.2.1 (And.intro (show (setPc m1 i d).ad = m1.ad from setPc_ad m1 i d) hm1)
  clear K4 hGb hGv hd1 hl1 e1 hm1
  generalize p1.t = t1 at *
  generalize p1.d = d1 at *
  generalize lenOf m1.ps = len at *
  obtain ⟨ad, had1⟩ : ∃ ad, ad = m1.ad := ⟨_, rfl⟩
  rw [← had1] at H4
  go_upto_region 10 with fail
  refine wp_region_held_drew (S := fun W => Blk W g 74 [.int .i64 id, .int .u32 s, .slice (some ⟨t1, 0, none⟩) cnt cnt, .slice (some ⟨d1, 0, none⟩) cnt cnt, .int .i64 len, .int .i64 ad, .int .u32 0, .int .i32 0, .int .u32 0, .bool false] ∧ Blk W P 56 [.int .i64 id, .int .i64 i, .int .i64 cnt, .int .u32 s, .slice x d.length c]) (by kernel_rfl) (⟨H4.out.1.1.laterB (Below.refl _ _).drew, H4.out.1.2.laterB (Below.refl _ _).drew⟩) (fun hS => ?_)
  refine any_take (i := 0) (v := ?_) rfl (by kernel_rfl) (by kernel_rfl) (by kernel_rfl) (by exact fun _ _ _ h => h) (by rfl) ?_ hS ?_
  rotate_left
  · ((intro w hSw; have y0 := blk_at hSw.1 0; have y1 := blk_at hSw.1 1; have y2 := blk_at hSw.1 2; have z0 := blk_at hSw.2 0; have z2 := blk_at hSw.2 2; have z3 := blk_at hSw.2 3; simp only [List.getElem?_cons_zero, List.getElem?_cons_succ] at y0 y1 y2 z0 z2 z3; clear hSw; go_simp) <;> with_reducible rfl)
  (try simp only [Act.put, List.setIfInBounds_toArray, List.set_cons_zero, List.set_cons_succ])
  refine any_take (i := 1) (v := ?_) rfl (by kernel_rfl) (by kernel_rfl) (by kernel_rfl) (by exact fun _ _ _ h => h) (by rfl) ?_ hS ?_
  rotate_left
  · ((intro w hSw; have y0 := blk_at hSw.1 0; have y1 := blk_at hSw.1 1; have y2 := blk_at hSw.1 2; have z0 := blk_at hSw.2 0; have z2 := blk_at hSw.2 2; have z3 := blk_at hSw.2 3; simp only [List.getElem?_cons_zero, List.getElem?_cons_succ] at y0 y1 y2 z0 z2 z3; clear hSw; go_simp) <;> with_reducible rfl)
  (try simp only [Act.put, List.setIfInBounds_toArray, List.set_cons_zero, List.set_cons_succ])
  refine any_take (i := 2) (v := ?_) rfl (by kernel_rfl) (by kernel_rfl) (by kernel_rfl) (by exact fun _ _ _ h => h) (by rfl) ?_ hS ?_
  rotate_left
  · ((intro w hSw; have y0 := blk_at hSw.1 0; have y1 := blk_at hSw.1 1; have y2 := blk_at hSw.1 2; have z0 := blk_at hSw.2 0; have z2 := blk_at hSw.2 2; have z3 := blk_at hSw.2 3; simp only [List.getElem?_cons_zero, List.getElem?_cons_succ] at y0 y1 y2 z0 z2 z3; clear hSw; go_simp) <;> with_reducible rfl)
  (try simp only [Act.put, List.setIfInBounds_toArray, List.set_cons_zero, List.set_cons_succ])
  refine any_take (i := 3) (v := ?_) rfl (by kernel_rfl) (by kernel_rfl) (by kernel_rfl) (by exact fun _ _ _ h => h) (by rfl) ?_ hS ?_
  rotate_left
  · ((intro w hSw; have y0 := blk_at hSw.1 0; have y1 := blk_at hSw.1 1; have y2 := blk_at hSw.1 2; have z0 := blk_at hSw.2 0; have z2 := blk_at hSw.2 2; have z3 := blk_at hSw.2 3; simp only [List.getElem?_cons_zero, List.getElem?_cons_succ] at y0 y1 y2 z0 z2 z3; clear hSw; go_simp) <;> with_reducible rfl)
  (try simp only [Act.put, List.setIfInBounds_toArray, List.set_cons_zero, List.set_cons_succ])
  refine any_take (i := 4) (v := ?_) rfl (by kernel_rfl) (by kernel_rfl) (by kernel_rfl) (by exact fun _ _ _ h => h) (by rfl) ?_ hS ?_
  rotate_left
  · ((intro w hSw; have y0 := blk_at hSw.1 0; have y1 := blk_at hSw.1 1; have y2 := blk_at hSw.1 2; have z0 := blk_at hSw.2 0; have z2 := blk_at hSw.2 2; have z3 := blk_at hSw.2 3; simp only [List.getElem?_cons_zero, List.getElem?_cons_succ] at y0 y1 y2 z0 z2 z3; clear hSw; go_simp) <;> with_reducible rfl)
  (try simp only [Act.put, List.setIfInBounds_toArray, List.set_cons_zero, List.set_cons_succ])
  refine any_take (i := 5) (v := ?_) rfl (by kernel_rfl) (by kernel_rfl) (by kernel_rfl) (by exact fun _ _ _ h => h) (by rfl) ?_ hS ?_
  rotate_left
  · ((intro w hSw; have y0 := blk_at hSw.1 0; have y1 := blk_at hSw.1 1; have y2 := blk_at hSw.1 2; have z0 := blk_at hSw.2 0; have z2 := blk_at hSw.2 2; have z3 := blk_at hSw.2 3; simp only [List.getElem?_cons_zero, List.getElem?_cons_succ] at y0 y1 y2 z0 z2 z3; clear hSw; go_simp) <;> with_reducible rfl)
  (try simp only [Act.put, List.setIfInBounds_toArray, List.set_cons_zero, List.set_cons_succ])
  refine any_take (i := 6) (v := ?_) rfl (by kernel_rfl) (by kernel_rfl) (by kernel_rfl) (by exact fun _ _ _ h => h) (by rfl) ?_ hS ?_
  rotate_left
  · ((intro w hSw; have y0 := blk_at hSw.1 0; have y1 := blk_at hSw.1 1; have y2 := blk_at hSw.1 2; have z0 := blk_at hSw.2 0; have z2 := blk_at hSw.2 2; have z3 := blk_at hSw.2 3; simp only [List.getElem?_cons_zero, List.getElem?_cons_succ] at y0 y1 y2 z0 z2 z3; clear hSw; go_simp) <;> with_reducible rfl)
  (try simp only [Act.put, List.setIfInBounds_toArray, List.set_cons_zero, List.set_cons_succ])
  refine wpAnyH_done (by kernel_rfl) ?_ _
  clear hS
  have H5 : Hid _ := And.intro (And.intro (H4.out.1.1.laterB (Below.refl _ _).drew) (H4.out.1.2.laterB (Below.refl _ _).drew)) (below_then H4.out.2 (Below.refl _ _).drew)
  generalize w4.drew = w5 at *
  clear H4
  go_upto_region 12 with fail
  refine wp_region_held_drew (S := fun W => Blk W g 74 [.int .i64 id, .int .u32 s, .slice (some ⟨t1, 0, none⟩) cnt cnt, .slice (some ⟨d1, 0, none⟩) cnt cnt, .int .i64 len, .int .i64 ad, .int .u32 0, .int .i32 0, .int .u32 0, .bool false] ∧ Blk W P 56 [.int .i64 id, .int .i64 i, .int .i64 cnt, .int .u32 s, .slice x d.length c]) (by kernel_rfl) (⟨H5.out.1.1.laterB (Below.refl _ _).drew, H5.out.1.2.laterB (Below.refl _ _).drew⟩) (fun hS => ?_)
  refine any_take (i := 0) (v := ?_) rfl (by kernel_rfl) (by kernel_rfl) (by kernel_rfl) (by exact fun _ _ _ h => h) (by rfl) ?_ hS ?_
  rotate_left
  · ((intro w hSw; have y0 := blk_at hSw.1 0; have y1 := blk_at hSw.1 1; have y2 := blk_at hSw.1 2; have z0 := blk_at hSw.2 0; have z2 := blk_at hSw.2 2; have z3 := blk_at hSw.2 3; simp only [List.getElem?_cons_zero, List.getElem?_cons_succ] at y0 y1 y2 z0 z2 z3; clear hSw; go_simp) <;> with_reducible rfl)
  (try simp only [Act.put, List.setIfInBounds_toArray, List.set_cons_zero, List.set_cons_succ])
  refine any_take (i := 1) (v := ?_) rfl (by kernel_rfl) (by kernel_rfl) (by kernel_rfl) (by exact fun _ _ _ h => h) (by rfl) ?_ hS ?_
  rotate_left
  · ((intro w hSw; have y0 := blk_at hSw.1 0; have y1 := blk_at hSw.1 1; have y2 := blk_at hSw.1 2; have z0 := blk_at hSw.2 0; have z2 := blk_at hSw.2 2; have z3 := blk_at hSw.2 3; simp only [List.getElem?_cons_zero, List.getElem?_cons_succ] at y0 y1 y2 z0 z2 z3; clear hSw; go_simp) <;> with_reducible rfl)
  (try simp only [Act.put, List.setIfInBounds_toArray, List.set_cons_zero, List.set_cons_succ])
  refine any_take (i := 2) (v := ?_) rfl (by kernel_rfl) (by kernel_rfl) (by kernel_rfl) (by exact fun _ _ _ h => h) (by rfl) ?_ hS ?_
  rotate_left
  · ((intro w hSw; have y0 := blk_at hSw.1 0; have y1 := blk_at hSw.1 1; have y2 := blk_at hSw.1 2; have z0 := blk_at hSw.2 0; have z2 := blk_at hSw.2 2; have z3 := blk_at hSw.2 3; simp only [List.getElem?_cons_zero, List.getElem?_cons_succ] at y0 y1 y2 z0 z2 z3; clear hSw; go_simp) <;> with_reducible rfl)
  (try simp only [Act.put, List.setIfInBounds_toArray, List.set_cons_zero, List.set_cons_succ])
  refine any_take (i := 3) (v := ?_) rfl (by kernel_rfl) (by kernel_rfl) (by kernel_rfl) (by exact fun _ _ _ h => h) (by rfl) ?_ hS ?_
  rotate_left
  · ((intro w hSw; have y0 := blk_at hSw.1 0; have y1 := blk_at hSw.1 1; have y2 := blk_at hSw.1 2; have z0 := blk_at hSw.2 0; have z2 := blk_at hSw.2 2; have z3 := blk_at hSw.2 3; simp only [List.getElem?_cons_zero, List.getElem?_cons_succ] at y0 y1 y2 z0 z2 z3; clear hSw; go_simp) <;> with_reducible rfl)
  (try simp only [Act.put, List.setIfInBounds_toArray, List.set_cons_zero, List.set_cons_succ])
  refine any_take (i := 4) (v := ?_) rfl (by kernel_rfl) (by kernel_rfl) (by kernel_rfl) (by exact fun _ _ _ h => h) (by rfl) ?_ hS ?_
  rotate_left
  · ((intro w hSw; have y0 := blk_at hSw.1 0; have y1 := blk_at hSw.1 1; have y2 := blk_at hSw.1 2; have z0 := blk_at hSw.2 0; have z2 := blk_at hSw.2 2; have z3 := blk_at hSw.2 3; simp only [List.getElem?_cons_zero, List.getElem?_cons_succ] at y0 y1 y2 z0 z2 z3; clear hSw; go_simp) <;> with_reducible rfl)
  (try simp only [Act.put, List.setIfInBounds_toArray, List.set_cons_zero, List.set_cons_succ])
  refine any_take (i := 5) (v := ?_) rfl (by kernel_rfl) (by kernel_rfl) (by kernel_rfl) (by exact fun _ _ _ h => h) (by rfl) ?_ hS ?_
  rotate_left
  · ((intro w hSw; have y0 := blk_at hSw.1 0; have y1 := blk_at hSw.1 1; have y2 := blk_at hSw.1 2; have z0 := blk_at hSw.2 0; have z2 := blk_at hSw.2 2; have z3 := blk_at hSw.2 3; simp only [List.getElem?_cons_zero, List.getElem?_cons_succ] at y0 y1 y2 z0 z2 z3; clear hSw; go_simp) <;> with_reducible rfl)
  (try simp only [Act.put, List.setIfInBounds_toArray, List.set_cons_zero, List.set_cons_succ])
  refine any_take (i := 6) (v := ?_) rfl (by kernel_rfl) (by kernel_rfl) (by kernel_rfl) (by exact fun _ _ _ h => h) (by rfl) ?_ hS ?_
  rotate_left
  · ((intro w hSw; have y0 := blk_at hSw.1 0; have y1 := blk_at hSw.1 1; have y2 := blk_at hSw.1 2; have z0 := blk_at hSw.2 0; have z2 := blk_at hSw.2 2; have z3 := blk_at hSw.2 3; simp only [List.getElem?_cons_zero, List.getElem?_cons_succ] at y0 y1 y2 z0 z2 z3; clear hSw; go_simp) <;> with_reducible rfl)
  (try simp only [Act.put, List.setIfInBounds_toArray, List.set_cons_zero, List.set_cons_succ])
  refine any_take (i := 7) (v := ?_) rfl (by kernel_rfl) (by kernel_rfl) (by kernel_rfl) (by exact fun _ _ _ h => h) (by rfl) ?_ hS ?_
  rotate_left
  · ((intro w hSw; have y0 := blk_at hSw.1 0; have y1 := blk_at hSw.1 1; have y2 := blk_at hSw.1 2; have z0 := blk_at hSw.2 0; have z2 := blk_at hSw.2 2; have z3 := blk_at hSw.2 3; simp only [List.getElem?_cons_zero, List.getElem?_cons_succ] at y0 y1 y2 z0 z2 z3; clear hSw; go_simp) <;> with_reducible rfl)
  (try simp only [Act.put, List.setIfInBounds_toArray, List.set_cons_zero, List.set_cons_succ])
  refine any_take (i := 8) (v := ?_) rfl (by kernel_rfl) (by kernel_rfl) (by kernel_rfl) (by exact fun _ _ _ h => h) (by rfl) ?_ hS ?_
  rotate_left
  · ((intro w hSw; have y0 := blk_at hSw.1 0; have y1 := blk_at hSw.1 1; have y2 := blk_at hSw.1 2; have z0 := blk_at hSw.2 0; have z2 := blk_at hSw.2 2; have z3 := blk_at hSw.2 3; simp only [List.getElem?_cons_zero, List.getElem?_cons_succ] at y0 y1 y2 z0 z2 z3; clear hSw; go_simp) <;> with_reducible rfl)
  (try simp only [Act.put, List.setIfInBounds_toArray, List.set_cons_zero, List.set_cons_succ])
  refine any_take (i := 9) (v := ?_) rfl (by kernel_rfl) (by kernel_rfl) (by kernel_rfl) (by exact fun _ _ _ h => h) (by rfl) ?_ hS ?_
  rotate_left
  · ((intro w hSw; have y0 := blk_at hSw.1 0; have y1 := blk_at hSw.1 1; have y2 := blk_at hSw.1 2; have z0 := blk_at hSw.2 0; have z2 := blk_at hSw.2 2; have z3 := blk_at hSw.2 3; simp only [List.getElem?_cons_zero, List.getElem?_cons_succ] at y0 y1 y2 z0 z2 z3; clear hSw; go_simp) <;> with_reducible rfl)
  (try simp only [Act.put, List.setIfInBounds_toArray, List.set_cons_zero, List.set_cons_succ])
  refine any_take (i := 10) (v := ?_) rfl (by kernel_rfl) (by kernel_rfl) (by kernel_rfl) (by exact fun _ _ _ h => h) (by rfl) ?_ hS ?_
  rotate_left
  · ((intro w hSw; have y0 := blk_at hSw.1 0; have y1 := blk_at hSw.1 1; have y2 := blk_at hSw.1 2; have z0 := blk_at hSw.2 0; have z2 := blk_at hSw.2 2; have z3 := blk_at hSw.2 3; simp only [List.getElem?_cons_zero, List.getElem?_cons_succ] at y0 y1 y2 z0 z2 z3; clear hSw; go_simp) <;> with_reducible rfl)
  (try simp only [Act.put, List.setIfInBounds_toArray, List.set_cons_zero, List.set_cons_succ])
  refine any_take (i := 11) (v := ?_) rfl (by kernel_rfl) (by kernel_rfl) (by kernel_rfl) (by exact fun _ _ _ h => h) (by rfl) ?_ hS ?_
  rotate_left
  · ((intro w hSw; have y0 := blk_at hSw.1 0; have y1 := blk_at hSw.1 1; have y2 := blk_at hSw.1 2; have z0 := blk_at hSw.2 0; have z2 := blk_at hSw.2 2; have z3 := blk_at hSw.2 3; simp only [List.getElem?_cons_zero, List.getElem?_cons_succ] at y0 y1 y2 z0 z2 z3; clear hSw; go_simp) <;> with_reducible rfl)
  (try simp only [Act.put, List.setIfInBounds_toArray, List.set_cons_zero, List.set_cons_succ])
  refine any_take (i := 12) (v := ?_) rfl (by kernel_rfl) (by kernel_rfl) (by kernel_rfl) (by exact fun _ _ _ h => h) (by rfl) ?_ hS ?_
  rotate_left
  · ((intro w hSw; have y0 := blk_at hSw.1 0; have y1 := blk_at hSw.1 1; have y2 := blk_at hSw.1 2; have z0 := blk_at hSw.2 0; have z2 := blk_at hSw.2 2; have z3 := blk_at hSw.2 3; simp only [List.getElem?_cons_zero, List.getElem?_cons_succ] at y0 y1 y2 z0 z2 z3; clear hSw; go_simp) <;> with_reducible rfl)
  (try simp only [Act.put, List.setIfInBounds_toArray, List.set_cons_zero, List.set_cons_succ])
  refine any_take (i := 13) (v := ?_) rfl (by kernel_rfl) (by kernel_rfl) (by kernel_rfl) (by exact fun _ _ _ h => h) (by rfl) ?_ hS ?_
  rotate_left
  · ((intro w hSw; have y0 := blk_at hSw.1 0; have y1 := blk_at hSw.1 1; have y2 := blk_at hSw.1 2; have z0 := blk_at hSw.2 0; have z2 := blk_at hSw.2 2; have z3 := blk_at hSw.2 3; simp only [List.getElem?_cons_zero, List.getElem?_cons_succ] at y0 y1 y2 z0 z2 z3; clear hSw; go_simp) <;> with_reducible rfl)
  (try simp only [Act.put, List.setIfInBounds_toArray, List.set_cons_zero, List.set_cons_succ])
  refine any_take (i := 14) (v := ?_) rfl (by kernel_rfl) (by kernel_rfl) (by kernel_rfl) (by exact fun _ _ _ h => h) (by rfl) ?_ hS ?_
  rotate_left
  · ((intro w hSw; have y0 := blk_at hSw.1 0; have y1 := blk_at hSw.1 1; have y2 := blk_at hSw.1 2; have z0 := blk_at hSw.2 0; have z2 := blk_at hSw.2 2; have z3 := blk_at hSw.2 3; simp only [List.getElem?_cons_zero, List.getElem?_cons_succ] at y0 y1 y2 z0 z2 z3; clear hSw; go_simp) <;> with_reducible rfl)
  (try simp only [Act.put, List.setIfInBounds_toArray, List.set_cons_zero, List.set_cons_succ])
  refine any_take (i := 15) (v := ?_) rfl (by kernel_rfl) (by kernel_rfl) (by kernel_rfl) (by exact fun _ _ _ h => h) (by rfl) ?_ hS ?_
  rotate_left
  · ((intro w hSw; have y0 := blk_at hSw.1 0; have y1 := blk_at hSw.1 1; have y2 := blk_at hSw.1 2; have z0 := blk_at hSw.2 0; have z2 := blk_at hSw.2 2; have z3 := blk_at hSw.2 3; simp only [List.getElem?_cons_zero, List.getElem?_cons_succ] at y0 y1 y2 z0 z2 z3; clear hSw; go_simp) <;> with_reducible rfl)
  (try simp only [Act.put, List.setIfInBounds_toArray, List.set_cons_zero, List.set_cons_succ])
  refine any_take (i := 16) (v := ?_) rfl (by kernel_rfl) (by kernel_rfl) (by kernel_rfl) (by exact fun _ _ _ h => h) (by rfl) ?_ hS ?_
  rotate_left
  · ((intro w hSw; have y0 := blk_at hSw.1 0; have y1 := blk_at hSw.1 1; have y2 := blk_at hSw.1 2; have z0 := blk_at hSw.2 0; have z2 := blk_at hSw.2 2; have z3 := blk_at hSw.2 3; simp only [List.getElem?_cons_zero, List.getElem?_cons_succ] at y0 y1 y2 z0 z2 z3; clear hSw; go_simp) <;> with_reducible rfl)
  (try simp only [Act.put, List.setIfInBounds_toArray, List.set_cons_zero, List.set_cons_succ])
  refine wpAnyH_done (by kernel_rfl) ?_ _
  clear hS
  have H6 : Hid _ := And.intro (H5.out.1.2.laterB (Below.refl _ _).drew) (below_then H5.out.2 (Below.refl _ _).drew)
  generalize w5.drew = w6 at *
  clear H5
  have z0 := blk_at H6.out.1 0
  have z1 := blk_at H6.out.1 1
  have z2 := blk_at H6.out.1 2
  have z3 := blk_at H6.out.1 3
  have z4 := blk_at H6.out.1 4
  simp only [List.getElem?_cons_zero, List.getElem?_cons_succ] at z0 z1 z2 z3 z4
  have NP : Hid _ := HPut.out _ H6.out.2
  clear HPut
  go_wp2_with fail
  clear z0 z1 z2 z3 z4 H6
  refine (Calls.mono NP.out) ?_
  rintro e w7 ⟨rfl, p', q1, q2, q3, q4, q5⟩
  clear NP
  have y5 := blk_at q2.holds.blk 5
  have y6 := blk_frozen q2.holds.blk 5
  simp only [List.getElem?_cons_zero, List.getElem?_cons_succ] at y5
  rw [KS.out.2.1, ← had1] at y5
  rw [q1] at y5 y6
  have hno := q2.holds.ad
  rw [KS.out.2.1, ← had1] at hno
  have hbad : ad ≤ 1000000000 := by rw [had1]; exact hadm
  have NA : Hid _ := atAdd_any g 5 ad w7 y5 y6 ⟨hno, hbad⟩
  have F : Hid _ := add_step KS.out.1 q3 q2 q4 q5
  rw [q1, KS.out.2.1, ← had1] at F
  have F2 : Hid _ := And.intro q1 F.out
  clear y5 y6 F q3 q4 q5 hno hbad had1
  go_wp2_with fail
  refine (Calls.mono NA.out) ?_
  rintro e _ ⟨rfl, rfl⟩
  clear NA
  go_wp2
  go_ret
  exact ⟨rfl, p', by rw [F2.out.1]; exact HGg.out.1, by have := F2.out.2; rw [KS.out.2.2] at this; exact this⟩

set_option maxHeartbeats 8000000 in
/-- a piece of a later image -/
theorem add_new (a : Option Addr) (cap : Nat) (l : List (BitVec 8)) (p : CPl) (m : CR) (w : World) (h : (crOb p m).Ok w) (hle : l.length ≤ cap) (hr : Row w a l) (hn : a = none → cap = 0) (hlen : l.length ≤ 140737488351232) (hE : dcE l = 0) (id s : Int) (i cnt : Nat) (d : List (BitVec 8)) (hR : dcR l = (id, (i : Int), (cnt : Int), s, d)) (hid : m.id < id) (hic : i < cnt) (hc2 : cnt ≤ 256) (hl0 : d.length ≤ 65536) (hadm0 : m.ad ≤ 1000000000) :
    Calls Try.prog 16 #[.pointer (some ⟨p.g, 0, none⟩), .slice a l.length cap] w fun e w' => e = .returned (.int .i64 0) ∧ ∃ p', p'.g = p.g ∧ Step w w' (crOb p m) (crOb p' (addM (setPc (begM m id s cnt) i d))) := by
  have HD : Hid _ := decode_any a cap l w hle hr hn hlen
  have hG := h.holds.blk
  have y9 := blk_at hG 9
  simp only [List.getElem?_cons_zero, List.getElem?_cons_succ] at y9
  rw [hE, hR] at HD
  dsimp only at HD
  clear hr hn
  obtain ⟨g, hg⟩ : ∃ g, g = p.g := ⟨_, rfl⟩
  go_enter Try.func16, Try.ntmps16
  go_wp2_with fail
  clear y9
  refine (Calls.mono HD.out) ?_
  rintro r w1 ⟨x, c, rfl, ho, b1⟩
  have b2 : Below w1.heap.size w1 (w1.alloc (.cells #[.int .i64 id, .int .i64 i, .int .i64 cnt, .int .u32 s, .slice x d.length c] 56)) := (Below.refl _ _).alloc (Nat.le_refl _) _
  have hP := Blk.new' w1 56 [.int .i64 id, .int .i64 i, .int .i64 cnt, .int .u32 s, .slice x d.length c]
  have hPW : w1.heap.size ∉ (crOb p m).W := fun hk => by have := h.lt _ (.inl hk); have := b1.size; omega
  have K2 : Hid _ := And.intro (h.later (below_then b1 b2)) (And.intro (below_then b1 b2) (And.intro ((ho.later b2) : Own _ w.heap.size _ d) (And.intro hP (And.intro h hPW))))
  clear HD ho b1 b2 hP h hG hPW
  go_upto_region 8 with fail
  obtain ⟨P, hPe⟩ : ∃ P, P = w1.heap.size := ⟨_, rfl⟩
  rw [← hPe] at K2 ⊢
  generalize (w1.alloc (.cells #[.int .i64 id, .int .i64 i, .int .i64 cnt, .int .u32 s, .slice x d.length c] 56)) = w2 at *
  clear hPe
  have HBe : Hid (∀ W, Below w2.heap.size w2 W → Calls Try.prog 36 #[.pointer (some ⟨g, 0, none⟩), .agg #[.int .i64 id, .int .i64 i, .int .i64 cnt, .int .u32 s, .slice x d.length c]] W fun e w' => e = .returned (.tuple #[]) ∧ ∃ p1, p1.g = g ∧ (crOb p1 (begM m id s cnt)).Ok w' ∧ Step w w' (crOb p m) (crOb p1 (begM m id s cnt)) ∧ Own w' w.heap.size (.slice x d.length c) d ∧ Blk w' P 56 [.int .i64 id, .int .i64 i, .int .i64 cnt, .int .u32 s, .slice x d.length c]) := fun W hW => by
    have hok := K2.out.1.later hW
    have := begin_any p m id i cnt s x d.length c W hok ⟨by omega, hc2⟩
    rw [← hg] at this
    refine this.mono ?_
    rintro e w' ⟨rfl, p1, q1, q2⟩
    refine ⟨rfl, p1, q1, q2.ok, ⟨(tnd6 (below_then K2.out.2.1 hW)).trans (q2.turned.mono (fun k e => .inl e)), q2.ok, fun k hk => (q2.writes k hk).imp (fun e => e) (fun e => ?_), fun k hk => (q2.reads k hk).imp (fun e => e) (fun e => e.imp (fun e => e) (fun e => ?_))⟩, (K2.out.2.2.1.later hW).turned q2.turned (own_notW hok.holds (K2.out.2.2.1.later hW)), (K2.out.2.2.2.1.laterB hW).turned q2.turned K2.out.2.2.2.2.2⟩
    · have := (below_then K2.out.2.1 hW).size; omega
    · have := (below_then K2.out.2.1 hW).size; omega
  have H2 : Hid _ := And.intro (And.intro K2.out.1.holds.blk K2.out.2.2.2.1) (Below.refl w2.heap.size w2)
  rw [← hg] at H2 ⊢
  obtain ⟨m1, hm1⟩ : ∃ m1, m1 = begM m id s cnt := ⟨_, rfl⟩
  rw [← hm1] at HBe
  have hadm : m1.ad ≤ 1000000000 := by rw [hm1]; exact hadm0
  have hl1 : m1.ps[i]? = some none → lenOf m1.ps + d.length ≤ 65536 := fun _ => by rw [hm1, show lenOf (begM m id s cnt).ps = 0 from lenOf_none cnt]; omega
  have e0 : m1.id = id ∧ m1.s = s ∧ m1.ps.length = cnt := by rw [hm1]; exact ⟨rfl, rfl, by simp [begM]⟩
  have HM : Hid _ := And.intro hm1 e0
  have HGg : Hid _ := And.intro hg trivial
  clear hg
  clear K2 hm1 e0 hadm0
  generalize m.id = mid at *
  generalize m.s = ms at *
  generalize p.tv m.ps.length = TV at *
  generalize p.dv m.ps.length = DV at *
  generalize lenOf m.ps = len at *
  generalize m.ad = ad at *
  refine wp_region_held_drew (S := fun W => Blk W g 74 [.int .i64 mid, .int .u32 ms, TV, DV, .int .i64 len, .int .i64 ad, .int .u32 0, .int .i32 0, .int .u32 0, .bool false] ∧ Blk W P 56 [.int .i64 id, .int .i64 i, .int .i64 cnt, .int .u32 s, .slice x d.length c]) (by kernel_rfl) (⟨H2.out.1.1.laterB (Below.refl _ _).drew, H2.out.1.2.laterB (Below.refl _ _).drew⟩) (fun hS => ?_)
  refine any_take (i := 0) (v := ?_) rfl (by kernel_rfl) (by kernel_rfl) (by kernel_rfl) (by exact fun _ _ _ h => h) (by rfl) ?_ hS ?_
  rotate_left
  · ((intro w hSw; have y0 := blk_at hSw.1 0; have y1 := blk_at hSw.1 1; have y2 := blk_at hSw.1 2; have z0 := blk_at hSw.2 0; have z2 := blk_at hSw.2 2; have z3 := blk_at hSw.2 3; simp only [List.getElem?_cons_zero, List.getElem?_cons_succ] at y0 y1 y2 z0 z2 z3; clear hSw; go_simp) <;> with_reducible rfl)
  (try simp only [Act.put, List.setIfInBounds_toArray, List.set_cons_zero, List.set_cons_succ])
  refine any_take (i := 1) (v := ?_) rfl (by kernel_rfl) (by kernel_rfl) (by kernel_rfl) (by exact fun _ _ _ h => h) (by rfl) ?_ hS ?_
  rotate_left
  · ((intro w hSw; have y0 := blk_at hSw.1 0; have y1 := blk_at hSw.1 1; have y2 := blk_at hSw.1 2; have z0 := blk_at hSw.2 0; have z2 := blk_at hSw.2 2; have z3 := blk_at hSw.2 3; simp only [List.getElem?_cons_zero, List.getElem?_cons_succ] at y0 y1 y2 z0 z2 z3; clear hSw; go_simp) <;> with_reducible rfl)
  (try simp only [Act.put, List.setIfInBounds_toArray, List.set_cons_zero, List.set_cons_succ])
  refine any_take (i := 2) (v := ?_) rfl (by kernel_rfl) (by kernel_rfl) (by kernel_rfl) (by exact fun _ _ _ h => h) (by rfl) ?_ hS ?_
  rotate_left
  · ((intro w hSw; have y0 := blk_at hSw.1 0; have y1 := blk_at hSw.1 1; have y2 := blk_at hSw.1 2; have z0 := blk_at hSw.2 0; have z2 := blk_at hSw.2 2; have z3 := blk_at hSw.2 3; simp only [List.getElem?_cons_zero, List.getElem?_cons_succ] at y0 y1 y2 z0 z2 z3; clear hSw; go_simp) <;> with_reducible rfl)
  (try simp only [Act.put, List.setIfInBounds_toArray, List.set_cons_zero, List.set_cons_succ])
  refine any_take (i := 3) (v := ?_) rfl (by kernel_rfl) (by kernel_rfl) (by kernel_rfl) (by exact fun _ _ _ h => h) (by rfl) ?_ hS ?_
  rotate_left
  · ((intro w hSw; have y0 := blk_at hSw.1 0; have y1 := blk_at hSw.1 1; have y2 := blk_at hSw.1 2; have z0 := blk_at hSw.2 0; have z2 := blk_at hSw.2 2; have z3 := blk_at hSw.2 3; simp only [List.getElem?_cons_zero, List.getElem?_cons_succ] at y0 y1 y2 z0 z2 z3; clear hSw; go_simp) <;> with_reducible rfl)
  (try simp only [Act.put, List.setIfInBounds_toArray, List.set_cons_zero, List.set_cons_succ])
  refine any_take (i := 4) (v := ?_) rfl (by kernel_rfl) (by kernel_rfl) (by kernel_rfl) (by exact fun _ _ _ h => h) (by rfl) ?_ hS ?_
  rotate_left
  · ((intro w hSw; have y0 := blk_at hSw.1 0; have y1 := blk_at hSw.1 1; have y2 := blk_at hSw.1 2; have z0 := blk_at hSw.2 0; have z2 := blk_at hSw.2 2; have z3 := blk_at hSw.2 3; simp only [List.getElem?_cons_zero, List.getElem?_cons_succ] at y0 y1 y2 z0 z2 z3; clear hSw; go_simp) <;> with_reducible rfl)
  (try simp only [Act.put, List.setIfInBounds_toArray, List.set_cons_zero, List.set_cons_succ])
  refine any_take (i := 5) (v := ?_) rfl (by kernel_rfl) (by kernel_rfl) (by kernel_rfl) (by exact fun _ _ _ h => h) (by rfl) ?_ hS ?_
  rotate_left
  · ((intro w hSw; have y0 := blk_at hSw.1 0; have y1 := blk_at hSw.1 1; have y2 := blk_at hSw.1 2; have z0 := blk_at hSw.2 0; have z2 := blk_at hSw.2 2; have z3 := blk_at hSw.2 3; simp only [List.getElem?_cons_zero, List.getElem?_cons_succ] at y0 y1 y2 z0 z2 z3; clear hSw; go_simp) <;> with_reducible rfl)
  (try simp only [Act.put, List.setIfInBounds_toArray, List.set_cons_zero, List.set_cons_succ])
  refine any_take (i := 6) (v := ?_) rfl (by kernel_rfl) (by kernel_rfl) (by kernel_rfl) (by exact fun _ _ _ h => h) (by rfl) ?_ hS ?_
  rotate_left
  · ((intro w hSw; have y0 := blk_at hSw.1 0; have y1 := blk_at hSw.1 1; have y2 := blk_at hSw.1 2; have z0 := blk_at hSw.2 0; have z2 := blk_at hSw.2 2; have z3 := blk_at hSw.2 3; simp only [List.getElem?_cons_zero, List.getElem?_cons_succ] at y0 y1 y2 z0 z2 z3; clear hSw; go_simp) <;> with_reducible rfl)
  (try simp only [Act.put, List.setIfInBounds_toArray, List.set_cons_zero, List.set_cons_succ])
  refine wpAnyH_done (by kernel_rfl) ?_ _
  clear hS
  have H3 : Hid _ := And.intro (H2.out.1.2.laterB (Below.refl _ _).drew) (below_then H2.out.2 (Below.refl _ _).drew)
  generalize w2.drew = w3 at *
  clear H2
  have z0 := blk_at H3.out.1 0
  have z1 := blk_at H3.out.1 1
  have z2 := blk_at H3.out.1 2
  have z3 := blk_at H3.out.1 3
  have z4 := blk_at H3.out.1 4
  simp only [List.getElem?_cons_zero, List.getElem?_cons_succ] at z0 z1 z2 z3 z4
  have NB : Hid _ := HBe.out _ H3.out.2
  clear HBe
  go_wp2_with fail
  clear z0 z1 z2 z3 z4 H3
  refine (Calls.mono NB.out) ?_
  rintro e w4 ⟨rfl, p1, hp1, k1, k2, k3, k4⟩
  have K4 : Hid _ := And.intro k1 (And.intro k2 (And.intro k3 k4))
  clear k1 k2 k3 k4 NB
  have hm1 := HM.out.1
  have e1 : m1.id = id ∧ m1.s = s ∧ m1.ps.length = cnt ∧ p1.g = g := ⟨HM.out.2.1, HM.out.2.2.1, HM.out.2.2.2, hp1⟩
  have hd1 : m1.ps.length ≠ 0 := by omega
  have hGb := K4.out.1.holds.blk
  have hGv : p1.tv m1.ps.length = .slice (some ⟨p1.t, 0, none⟩) m1.ps.length m1.ps.length ∧ p1.dv m1.ps.length = .slice (some ⟨p1.d, 0, none⟩) m1.ps.length m1.ps.length := by
    unfold CPl.tv CPl.dv; rw [if_neg hd1, if_neg hd1]; exact ⟨rfl, rfl⟩
  rw [hGv.1, hGv.2, e1.1, e1.2.1, e1.2.2.1, e1.2.2.2] at hGb
  have HPut : Hid (∀ W, Below w4.heap.size w4 W → Calls Try.prog 37 #[.pointer (some ⟨g, 0, none⟩), .agg #[.int .i64 id, .int .i64 i, .int .i64 cnt, .int .u32 s, .slice x d.length c]] W fun e w' => e = .returned (.tuple #[]) ∧ ∃ p', p'.g = g ∧ (crOb p' (setPc m1 i d)).Ok w' ∧ Turned (· ∈ (crOb p1 m1).W) w4 w' ∧ (crOb p' (setPc m1 i d)).W = (crOb p1 m1).W ∧ ∀ k ∈ (crOb p' (setPc m1 i d)).V, k ∈ (crOb p1 m1).V ∨ w.heap.size ≤ k) := fun W hW => by
    have hok := K4.out.1.later hW
    have hown := K4.out.2.2.1.later hW
    have := crPut_any p1 m1 id i cnt s x c d W hok (by rw [e1.2.2.1]; exact hic) hl1 (hown.lower (Nat.zero_le _)) (own_notW hok.holds hown)
    rw [e1.2.2.2] at this
    refine this.mono ?_
    rintro e w' ⟨rfl, p', q1, q2, q3, q4, q5⟩
    refine ⟨rfl, p', q1, q2, (tnd6 hW).trans (q3.mono (fun k e => .inl e)), q4, fun k hk => (q5 k hk).imp (fun e => e) (fun e => ?_)⟩
    exact (World.ownsRow.lt hown k e).1
  have H4 : Hid _ := And.intro (And.intro hGb K4.out.2.2.2) (Below.refl w4.heap.size w4)
  have KS : Hid _ := And.intro K4.out.2.1 (And.intro (show (setPc m1 i d).ad = m1.ad from setPc_ad m1 i d) hm1)
  clear K4 hGb hGv hd1 hl1 e1 hm1
  generalize p1.t = t1 at *
  generalize p1.d = d1 at *
  generalize lenOf m1.ps = len at *
  obtain ⟨ad, had1⟩ : ∃ ad, ad = m1.ad := ⟨_, rfl⟩
  rw [← had1] at H4
  go_upto_region 10 with fail
  refine wp_region_held_drew (S := fun W => Blk W g 74 [.int .i64 id, .int .u32 s, .slice (some ⟨t1, 0, none⟩) cnt cnt, .slice (some ⟨d1, 0, none⟩) cnt cnt, .int .i64 len, .int .i64 ad, .int .u32 0, .int .i32 0, .int .u32 0, .bool false] ∧ Blk W P 56 [.int .i64 id, .int .i64 i, .int .i64 cnt, .int .u32 s, .slice x d.length c]) (by kernel_rfl) (⟨H4.out.1.1.laterB (Below.refl _ _).drew, H4.out.1.2.laterB (Below.refl _ _).drew⟩) (fun hS => ?_)
  refine any_take (i := 0) (v := ?_) rfl (by kernel_rfl) (by kernel_rfl) (by kernel_rfl) (by exact fun _ _ _ h => h) (by rfl) ?_ hS ?_
  rotate_left
  · ((intro w hSw; have y0 := blk_at hSw.1 0; have y1 := blk_at hSw.1 1; have y2 := blk_at hSw.1 2; have z0 := blk_at hSw.2 0; have z2 := blk_at hSw.2 2; have z3 := blk_at hSw.2 3; simp only [List.getElem?_cons_zero, List.getElem?_cons_succ] at y0 y1 y2 z0 z2 z3; clear hSw; go_simp) <;> with_reducible rfl)
  (try simp only [Act.put, List.setIfInBounds_toArray, List.set_cons_zero, List.set_cons_succ])
  refine any_take (i := 1) (v := ?_) rfl (by kernel_rfl) (by kernel_rfl) (by kernel_rfl) (by exact fun _ _ _ h => h) (by rfl) ?_ hS ?_
  rotate_left
  · ((intro w hSw; have y0 := blk_at hSw.1 0; have y1 := blk_at hSw.1 1; have y2 := blk_at hSw.1 2; have z0 := blk_at hSw.2 0; have z2 := blk_at hSw.2 2; have z3 := blk_at hSw.2 3; simp only [List.getElem?_cons_zero, List.getElem?_cons_succ] at y0 y1 y2 z0 z2 z3; clear hSw; go_simp) <;> with_reducible rfl)
  (try simp only [Act.put, List.setIfInBounds_toArray, List.set_cons_zero, List.set_cons_succ])
  refine any_take (i := 2) (v := ?_) rfl (by kernel_rfl) (by kernel_rfl) (by kernel_rfl) (by exact fun _ _ _ h => h) (by rfl) ?_ hS ?_
  rotate_left
  · ((intro w hSw; have y0 := blk_at hSw.1 0; have y1 := blk_at hSw.1 1; have y2 := blk_at hSw.1 2; have z0 := blk_at hSw.2 0; have z2 := blk_at hSw.2 2; have z3 := blk_at hSw.2 3; simp only [List.getElem?_cons_zero, List.getElem?_cons_succ] at y0 y1 y2 z0 z2 z3; clear hSw; go_simp) <;> with_reducible rfl)
  (try simp only [Act.put, List.setIfInBounds_toArray, List.set_cons_zero, List.set_cons_succ])
  refine any_take (i := 3) (v := ?_) rfl (by kernel_rfl) (by kernel_rfl) (by kernel_rfl) (by exact fun _ _ _ h => h) (by rfl) ?_ hS ?_
  rotate_left
  · ((intro w hSw; have y0 := blk_at hSw.1 0; have y1 := blk_at hSw.1 1; have y2 := blk_at hSw.1 2; have z0 := blk_at hSw.2 0; have z2 := blk_at hSw.2 2; have z3 := blk_at hSw.2 3; simp only [List.getElem?_cons_zero, List.getElem?_cons_succ] at y0 y1 y2 z0 z2 z3; clear hSw; go_simp) <;> with_reducible rfl)
  (try simp only [Act.put, List.setIfInBounds_toArray, List.set_cons_zero, List.set_cons_succ])
  refine any_take (i := 4) (v := ?_) rfl (by kernel_rfl) (by kernel_rfl) (by kernel_rfl) (by exact fun _ _ _ h => h) (by rfl) ?_ hS ?_
  rotate_left
  · ((intro w hSw; have y0 := blk_at hSw.1 0; have y1 := blk_at hSw.1 1; have y2 := blk_at hSw.1 2; have z0 := blk_at hSw.2 0; have z2 := blk_at hSw.2 2; have z3 := blk_at hSw.2 3; simp only [List.getElem?_cons_zero, List.getElem?_cons_succ] at y0 y1 y2 z0 z2 z3; clear hSw; go_simp) <;> with_reducible rfl)
  (try simp only [Act.put, List.setIfInBounds_toArray, List.set_cons_zero, List.set_cons_succ])
  refine any_take (i := 5) (v := ?_) rfl (by kernel_rfl) (by kernel_rfl) (by kernel_rfl) (by exact fun _ _ _ h => h) (by rfl) ?_ hS ?_
  rotate_left
  · ((intro w hSw; have y0 := blk_at hSw.1 0; have y1 := blk_at hSw.1 1; have y2 := blk_at hSw.1 2; have z0 := blk_at hSw.2 0; have z2 := blk_at hSw.2 2; have z3 := blk_at hSw.2 3; simp only [List.getElem?_cons_zero, List.getElem?_cons_succ] at y0 y1 y2 z0 z2 z3; clear hSw; go_simp) <;> with_reducible rfl)
  (try simp only [Act.put, List.setIfInBounds_toArray, List.set_cons_zero, List.set_cons_succ])
  refine any_take (i := 6) (v := ?_) rfl (by kernel_rfl) (by kernel_rfl) (by kernel_rfl) (by exact fun _ _ _ h => h) (by rfl) ?_ hS ?_
  rotate_left
  · ((intro w hSw; have y0 := blk_at hSw.1 0; have y1 := blk_at hSw.1 1; have y2 := blk_at hSw.1 2; have z0 := blk_at hSw.2 0; have z2 := blk_at hSw.2 2; have z3 := blk_at hSw.2 3; simp only [List.getElem?_cons_zero, List.getElem?_cons_succ] at y0 y1 y2 z0 z2 z3; clear hSw; go_simp) <;> with_reducible rfl)
  (try simp only [Act.put, List.setIfInBounds_toArray, List.set_cons_zero, List.set_cons_succ])
  refine wpAnyH_done (by kernel_rfl) ?_ _
  clear hS
  have H5 : Hid _ := And.intro (And.intro (H4.out.1.1.laterB (Below.refl _ _).drew) (H4.out.1.2.laterB (Below.refl _ _).drew)) (below_then H4.out.2 (Below.refl _ _).drew)
  generalize w4.drew = w5 at *
  clear H4
  go_upto_region 12 with fail
  refine wp_region_held_drew (S := fun W => Blk W g 74 [.int .i64 id, .int .u32 s, .slice (some ⟨t1, 0, none⟩) cnt cnt, .slice (some ⟨d1, 0, none⟩) cnt cnt, .int .i64 len, .int .i64 ad, .int .u32 0, .int .i32 0, .int .u32 0, .bool false] ∧ Blk W P 56 [.int .i64 id, .int .i64 i, .int .i64 cnt, .int .u32 s, .slice x d.length c]) (by kernel_rfl) (⟨H5.out.1.1.laterB (Below.refl _ _).drew, H5.out.1.2.laterB (Below.refl _ _).drew⟩) (fun hS => ?_)
  refine any_take (i := 0) (v := ?_) rfl (by kernel_rfl) (by kernel_rfl) (by kernel_rfl) (by exact fun _ _ _ h => h) (by rfl) ?_ hS ?_
  rotate_left
  · ((intro w hSw; have y0 := blk_at hSw.1 0; have y1 := blk_at hSw.1 1; have y2 := blk_at hSw.1 2; have z0 := blk_at hSw.2 0; have z2 := blk_at hSw.2 2; have z3 := blk_at hSw.2 3; simp only [List.getElem?_cons_zero, List.getElem?_cons_succ] at y0 y1 y2 z0 z2 z3; clear hSw; go_simp) <;> with_reducible rfl)
  (try simp only [Act.put, List.setIfInBounds_toArray, List.set_cons_zero, List.set_cons_succ])
  refine any_take (i := 1) (v := ?_) rfl (by kernel_rfl) (by kernel_rfl) (by kernel_rfl) (by exact fun _ _ _ h => h) (by rfl) ?_ hS ?_
  rotate_left
  · ((intro w hSw; have y0 := blk_at hSw.1 0; have y1 := blk_at hSw.1 1; have y2 := blk_at hSw.1 2; have z0 := blk_at hSw.2 0; have z2 := blk_at hSw.2 2; have z3 := blk_at hSw.2 3; simp only [List.getElem?_cons_zero, List.getElem?_cons_succ] at y0 y1 y2 z0 z2 z3; clear hSw; go_simp) <;> with_reducible rfl)
  (try simp only [Act.put, List.setIfInBounds_toArray, List.set_cons_zero, List.set_cons_succ])
  refine any_take (i := 2) (v := ?_) rfl (by kernel_rfl) (by kernel_rfl) (by kernel_rfl) (by exact fun _ _ _ h => h) (by rfl) ?_ hS ?_
  rotate_left
  · ((intro w hSw; have y0 := blk_at hSw.1 0; have y1 := blk_at hSw.1 1; have y2 := blk_at hSw.1 2; have z0 := blk_at hSw.2 0; have z2 := blk_at hSw.2 2; have z3 := blk_at hSw.2 3; simp only [List.getElem?_cons_zero, List.getElem?_cons_succ] at y0 y1 y2 z0 z2 z3; clear hSw; go_simp) <;> with_reducible rfl)
  (try simp only [Act.put, List.setIfInBounds_toArray, List.set_cons_zero, List.set_cons_succ])
  refine any_take (i := 3) (v := ?_) rfl (by kernel_rfl) (by kernel_rfl) (by kernel_rfl) (by exact fun _ _ _ h => h) (by rfl) ?_ hS ?_
  rotate_left
  · ((intro w hSw; have y0 := blk_at hSw.1 0; have y1 := blk_at hSw.1 1; have y2 := blk_at hSw.1 2; have z0 := blk_at hSw.2 0; have z2 := blk_at hSw.2 2; have z3 := blk_at hSw.2 3; simp only [List.getElem?_cons_zero, List.getElem?_cons_succ] at y0 y1 y2 z0 z2 z3; clear hSw; go_simp) <;> with_reducible rfl)
  (try simp only [Act.put, List.setIfInBounds_toArray, List.set_cons_zero, List.set_cons_succ])
  refine any_take (i := 4) (v := ?_) rfl (by kernel_rfl) (by kernel_rfl) (by kernel_rfl) (by exact fun _ _ _ h => h) (by rfl) ?_ hS ?_
  rotate_left
  · ((intro w hSw; have y0 := blk_at hSw.1 0; have y1 := blk_at hSw.1 1; have y2 := blk_at hSw.1 2; have z0 := blk_at hSw.2 0; have z2 := blk_at hSw.2 2; have z3 := blk_at hSw.2 3; simp only [List.getElem?_cons_zero, List.getElem?_cons_succ] at y0 y1 y2 z0 z2 z3; clear hSw; go_simp) <;> with_reducible rfl)
  (try simp only [Act.put, List.setIfInBounds_toArray, List.set_cons_zero, List.set_cons_succ])
  refine any_take (i := 5) (v := ?_) rfl (by kernel_rfl) (by kernel_rfl) (by kernel_rfl) (by exact fun _ _ _ h => h) (by rfl) ?_ hS ?_
  rotate_left
  · ((intro w hSw; have y0 := blk_at hSw.1 0; have y1 := blk_at hSw.1 1; have y2 := blk_at hSw.1 2; have z0 := blk_at hSw.2 0; have z2 := blk_at hSw.2 2; have z3 := blk_at hSw.2 3; simp only [List.getElem?_cons_zero, List.getElem?_cons_succ] at y0 y1 y2 z0 z2 z3; clear hSw; go_simp) <;> with_reducible rfl)
  (try simp only [Act.put, List.setIfInBounds_toArray, List.set_cons_zero, List.set_cons_succ])
  refine any_take (i := 6) (v := ?_) rfl (by kernel_rfl) (by kernel_rfl) (by kernel_rfl) (by exact fun _ _ _ h => h) (by rfl) ?_ hS ?_
  rotate_left
  · ((intro w hSw; have y0 := blk_at hSw.1 0; have y1 := blk_at hSw.1 1; have y2 := blk_at hSw.1 2; have z0 := blk_at hSw.2 0; have z2 := blk_at hSw.2 2; have z3 := blk_at hSw.2 3; simp only [List.getElem?_cons_zero, List.getElem?_cons_succ] at y0 y1 y2 z0 z2 z3; clear hSw; go_simp) <;> with_reducible rfl)
  (try simp only [Act.put, List.setIfInBounds_toArray, List.set_cons_zero, List.set_cons_succ])
  refine any_take (i := 7) (v := ?_) rfl (by kernel_rfl) (by kernel_rfl) (by kernel_rfl) (by exact fun _ _ _ h => h) (by rfl) ?_ hS ?_
  rotate_left
  · ((intro w hSw; have y0 := blk_at hSw.1 0; have y1 := blk_at hSw.1 1; have y2 := blk_at hSw.1 2; have z0 := blk_at hSw.2 0; have z2 := blk_at hSw.2 2; have z3 := blk_at hSw.2 3; simp only [List.getElem?_cons_zero, List.getElem?_cons_succ] at y0 y1 y2 z0 z2 z3; clear hSw; go_simp) <;> with_reducible rfl)
  (try simp only [Act.put, List.setIfInBounds_toArray, List.set_cons_zero, List.set_cons_succ])
  refine any_take (i := 8) (v := ?_) rfl (by kernel_rfl) (by kernel_rfl) (by kernel_rfl) (by exact fun _ _ _ h => h) (by rfl) ?_ hS ?_
  rotate_left
  · ((intro w hSw; have y0 := blk_at hSw.1 0; have y1 := blk_at hSw.1 1; have y2 := blk_at hSw.1 2; have z0 := blk_at hSw.2 0; have z2 := blk_at hSw.2 2; have z3 := blk_at hSw.2 3; simp only [List.getElem?_cons_zero, List.getElem?_cons_succ] at y0 y1 y2 z0 z2 z3; clear hSw; go_simp) <;> with_reducible rfl)
  (try simp only [Act.put, List.setIfInBounds_toArray, List.set_cons_zero, List.set_cons_succ])
  refine any_take (i := 9) (v := ?_) rfl (by kernel_rfl) (by kernel_rfl) (by kernel_rfl) (by exact fun _ _ _ h => h) (by rfl) ?_ hS ?_
  rotate_left
  · ((intro w hSw; have y0 := blk_at hSw.1 0; have y1 := blk_at hSw.1 1; have y2 := blk_at hSw.1 2; have z0 := blk_at hSw.2 0; have z2 := blk_at hSw.2 2; have z3 := blk_at hSw.2 3; simp only [List.getElem?_cons_zero, List.getElem?_cons_succ] at y0 y1 y2 z0 z2 z3; clear hSw; go_simp) <;> with_reducible rfl)
  (try simp only [Act.put, List.setIfInBounds_toArray, List.set_cons_zero, List.set_cons_succ])
  refine any_take (i := 10) (v := ?_) rfl (by kernel_rfl) (by kernel_rfl) (by kernel_rfl) (by exact fun _ _ _ h => h) (by rfl) ?_ hS ?_
  rotate_left
  · ((intro w hSw; have y0 := blk_at hSw.1 0; have y1 := blk_at hSw.1 1; have y2 := blk_at hSw.1 2; have z0 := blk_at hSw.2 0; have z2 := blk_at hSw.2 2; have z3 := blk_at hSw.2 3; simp only [List.getElem?_cons_zero, List.getElem?_cons_succ] at y0 y1 y2 z0 z2 z3; clear hSw; go_simp) <;> with_reducible rfl)
  (try simp only [Act.put, List.setIfInBounds_toArray, List.set_cons_zero, List.set_cons_succ])
  refine any_take (i := 11) (v := ?_) rfl (by kernel_rfl) (by kernel_rfl) (by kernel_rfl) (by exact fun _ _ _ h => h) (by rfl) ?_ hS ?_
  rotate_left
  · ((intro w hSw; have y0 := blk_at hSw.1 0; have y1 := blk_at hSw.1 1; have y2 := blk_at hSw.1 2; have z0 := blk_at hSw.2 0; have z2 := blk_at hSw.2 2; have z3 := blk_at hSw.2 3; simp only [List.getElem?_cons_zero, List.getElem?_cons_succ] at y0 y1 y2 z0 z2 z3; clear hSw; go_simp) <;> with_reducible rfl)
  (try simp only [Act.put, List.setIfInBounds_toArray, List.set_cons_zero, List.set_cons_succ])
  refine any_take (i := 12) (v := ?_) rfl (by kernel_rfl) (by kernel_rfl) (by kernel_rfl) (by exact fun _ _ _ h => h) (by rfl) ?_ hS ?_
  rotate_left
  · ((intro w hSw; have y0 := blk_at hSw.1 0; have y1 := blk_at hSw.1 1; have y2 := blk_at hSw.1 2; have z0 := blk_at hSw.2 0; have z2 := blk_at hSw.2 2; have z3 := blk_at hSw.2 3; simp only [List.getElem?_cons_zero, List.getElem?_cons_succ] at y0 y1 y2 z0 z2 z3; clear hSw; go_simp) <;> with_reducible rfl)
  (try simp only [Act.put, List.setIfInBounds_toArray, List.set_cons_zero, List.set_cons_succ])
  refine any_take (i := 13) (v := ?_) rfl (by kernel_rfl) (by kernel_rfl) (by kernel_rfl) (by exact fun _ _ _ h => h) (by rfl) ?_ hS ?_
  rotate_left
  · ((intro w hSw; have y0 := blk_at hSw.1 0; have y1 := blk_at hSw.1 1; have y2 := blk_at hSw.1 2; have z0 := blk_at hSw.2 0; have z2 := blk_at hSw.2 2; have z3 := blk_at hSw.2 3; simp only [List.getElem?_cons_zero, List.getElem?_cons_succ] at y0 y1 y2 z0 z2 z3; clear hSw; go_simp) <;> with_reducible rfl)
  (try simp only [Act.put, List.setIfInBounds_toArray, List.set_cons_zero, List.set_cons_succ])
  refine any_take (i := 14) (v := ?_) rfl (by kernel_rfl) (by kernel_rfl) (by kernel_rfl) (by exact fun _ _ _ h => h) (by rfl) ?_ hS ?_
  rotate_left
  · ((intro w hSw; have y0 := blk_at hSw.1 0; have y1 := blk_at hSw.1 1; have y2 := blk_at hSw.1 2; have z0 := blk_at hSw.2 0; have z2 := blk_at hSw.2 2; have z3 := blk_at hSw.2 3; simp only [List.getElem?_cons_zero, List.getElem?_cons_succ] at y0 y1 y2 z0 z2 z3; clear hSw; go_simp) <;> with_reducible rfl)
  (try simp only [Act.put, List.setIfInBounds_toArray, List.set_cons_zero, List.set_cons_succ])
  refine any_take (i := 15) (v := ?_) rfl (by kernel_rfl) (by kernel_rfl) (by kernel_rfl) (by exact fun _ _ _ h => h) (by rfl) ?_ hS ?_
  rotate_left
  · ((intro w hSw; have y0 := blk_at hSw.1 0; have y1 := blk_at hSw.1 1; have y2 := blk_at hSw.1 2; have z0 := blk_at hSw.2 0; have z2 := blk_at hSw.2 2; have z3 := blk_at hSw.2 3; simp only [List.getElem?_cons_zero, List.getElem?_cons_succ] at y0 y1 y2 z0 z2 z3; clear hSw; go_simp) <;> with_reducible rfl)
  (try simp only [Act.put, List.setIfInBounds_toArray, List.set_cons_zero, List.set_cons_succ])
  refine any_take (i := 16) (v := ?_) rfl (by kernel_rfl) (by kernel_rfl) (by kernel_rfl) (by exact fun _ _ _ h => h) (by rfl) ?_ hS ?_
  rotate_left
  · ((intro w hSw; have y0 := blk_at hSw.1 0; have y1 := blk_at hSw.1 1; have y2 := blk_at hSw.1 2; have z0 := blk_at hSw.2 0; have z2 := blk_at hSw.2 2; have z3 := blk_at hSw.2 3; simp only [List.getElem?_cons_zero, List.getElem?_cons_succ] at y0 y1 y2 z0 z2 z3; clear hSw; go_simp) <;> with_reducible rfl)
  (try simp only [Act.put, List.setIfInBounds_toArray, List.set_cons_zero, List.set_cons_succ])
  refine wpAnyH_done (by kernel_rfl) ?_ _
  clear hS
  have H6 : Hid _ := And.intro (H5.out.1.2.laterB (Below.refl _ _).drew) (below_then H5.out.2 (Below.refl _ _).drew)
  generalize w5.drew = w6 at *
  clear H5
  have z0 := blk_at H6.out.1 0
  have z1 := blk_at H6.out.1 1
  have z2 := blk_at H6.out.1 2
  have z3 := blk_at H6.out.1 3
  have z4 := blk_at H6.out.1 4
  simp only [List.getElem?_cons_zero, List.getElem?_cons_succ] at z0 z1 z2 z3 z4
  have NP : Hid _ := HPut.out _ H6.out.2
  clear HPut
  go_wp2_with fail
  clear z0 z1 z2 z3 z4 H6
  refine (Calls.mono NP.out) ?_
  rintro e w7 ⟨rfl, p', q1, q2, q3, q4, q5⟩
  clear NP
  have y5 := blk_at q2.holds.blk 5
  have y6 := blk_frozen q2.holds.blk 5
  simp only [List.getElem?_cons_zero, List.getElem?_cons_succ] at y5
  rw [KS.out.2.1, ← had1] at y5
  rw [q1] at y5 y6
  have hno := q2.holds.ad
  rw [KS.out.2.1, ← had1] at hno
  have hbad : ad ≤ 1000000000 := by rw [had1]; exact hadm
  have NA : Hid _ := atAdd_any g 5 ad w7 y5 y6 ⟨hno, hbad⟩
  have F : Hid _ := add_step KS.out.1 q3 q2 q4 q5
  rw [q1, KS.out.2.1, ← had1] at F
  have F2 : Hid _ := And.intro q1 F.out
  clear y5 y6 F q3 q4 q5 hno hbad had1
  go_wp2_with fail
  refine (Calls.mono NA.out) ?_
  rintro e _ ⟨rfl, rfl⟩
  clear NA
  go_wp2
  go_ret
  exact ⟨rfl, p', by rw [F2.out.1]; exact HGg.out.1, by have := F2.out.2; rw [KS.out.2.2] at this; exact this⟩

end Go.Proofs.Ytgonglbgejaffaa
