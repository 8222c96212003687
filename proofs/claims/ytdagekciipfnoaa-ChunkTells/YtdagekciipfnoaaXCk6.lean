/- begin: a reader that has no piece of an image yet. -/
import Derived.Test.YtdagekciipfnoaaXCk5
import Derived.Deep.CutRange
namespace Go.Proofs.Ytdagekciipfnoaa
open Go.RowKit
set_option linter.unusedVariables false
set_option linter.unusedSimpArgs false
set_option maxRecDepth 4000

theorem tnd6 {R : Nat → Prop} {w w' : World} (h : Below w.heap.size w w') : Turned R w w' := (turned_below h).mono (fun _ h => h.elim)
theorem made_bools (u : World) (N : Nat) : Blk (u.alloc (.cells (madeCells #[.bool false] N) 4)) u.heap.size 4 (List.replicate N (.bool false)) := by
  have e : (madeCells #[Value.bool false] N) = (List.replicate N (Value.bool false)).toArray := by
    apply Array.ext
    · simp [madeCells]
    · intro i h1 h2; simp [madeCells, Nat.mod_one]
  rw [e]; exact Blk.new' u _ _
theorem info_bool : (Try.prog.info? 4).map (fun i => (i.zero, i.size, i.bytes)) = some (some (.bool false), 1, 1) := by kernel_rfl
theorem make_bools (N : Nat) (hN : N ≤ 1000) (u : World) : (Instr.makeSlice 33 (.int .i64 N) (.int .i64 N)).run Try.prog u = .ok (.slice (some ⟨u.heap.size, 0, none⟩) N N) (u.alloc (.cells (madeCells #[.bool false] N) 4)) := by
  obtain ⟨i0, hi, hz0, hz1, hz2⟩ := info_parts info_bool
  have h := run_make (P := Try.prog) u 33 4 i0 (.bool false) Try.underlying33 hi hz0 .i64 .i64 N N (by omega) (by omega) (by rw [hz2]; omega) (by omega)
  rw [hz1] at h
  simpa [Value.cells] using h
set_option maxHeartbeats 4000000 in
theorem begin_raw (g : Nat) (a0 a1 c2 c3 a4 c5 c6 c7 c8 c9 : Value) (id num : Int) (cnt : Nat) (s : Int) (x : Option Addr) (n c : Nat) (w : World) (hG : Blk w g 67 [a0, a1, c2, c3, a4, c5, c6, c7, c8, c9]) (hc : cnt ≤ 256) :
    Calls Try.prog 23 #[.pointer (some ⟨g, 0, none⟩), .agg #[.int .i64 id, .int .i64 num, .int .i64 cnt, .int .u32 s, .slice x n c]] w fun e w' => e = .returned (.tuple #[]) ∧ ∃ t d, w.heap.size ≤ t ∧ w.heap.size ≤ d ∧
      Blk w' g 67 [.int .i64 id, .int .u32 s, .slice (some ⟨t, 0, none⟩) cnt cnt, .slice (some ⟨d, 0, none⟩) cnt cnt, .int .i64 0, c5, c6, c7, c8, c9] ∧ Blk w' t 4 (List.replicate cnt (.bool false)) ∧ Blk w' d 22 (List.replicate cnt (.slice none 0 0)) ∧ Turned (fun k => k = g) w w' := by
  have b1 : Below w.heap.size w (w.alloc (.cells #[.int .i64 id, .int .i64 num, .int .i64 cnt, .int .u32 s, .slice x n c] 49)) := (Below.refl _ _).alloc (Nat.le_refl _) _
  have hP0 := Blk.new' w 49 [.int .i64 id, .int .i64 num, .int .i64 cnt, .int .u32 s, .slice x n c]
  have hG1 := hG.laterB b1
  have hz1 : (w.alloc (.cells #[.int .i64 id, .int .i64 num, .int .i64 cnt, .int .u32 s, .slice x n c] 49)).heap.size = w.heap.size + 1 := by simp
  have hgl := hG.lt
  have HG : Hid _ := And.intro hP0 (And.intro hG1 (And.intro b1 (And.intro hz1 hgl)))
  clear hP0 hG1 b1 hz1 hG
  go_enter Try.func23, Try.ntmps23
  go_upto_region 1 with fail
  generalize (w.alloc (.cells #[.int .i64 id, .int .i64 num, .int .i64 cnt, .int .u32 s, .slice x n c] 49)) = w1 at *
  obtain ⟨P, hPe⟩ : ∃ P, P = w.heap.size := ⟨_, rfl⟩
  rw [← hPe] at HG ⊢
  have hG : Blk w1 g 67 [a0, a1, c2, c3, a4, c5, c6, c7, c8, c9] := HG.out.2.1
  have hP : Blk w1 P 49 [.int .i64 id, .int .i64 num, .int .i64 cnt, .int .u32 s, .slice x n c] := HG.out.1
  have hPg : ¬ (P = g) := blk_ne hP hG (by decide)
  go_cut [8] from 4 to 28 (fun cv wx => cv = .int .i64 id ∧ Blk wx P 49 [.int .i64 id, .int .i64 num, .int .i64 cnt, .int .u32 s, .slice x n c] ∧ Blk wx g 67 [.int .i64 id, .int .u32 s, c2, c3, .int .i64 0, c5, c6, c7, c8, c9] ∧ Turned (fun k => k = g) w1 wx)
  case first =>
    clear HG hgl hPe
    refine wp_region_held_drew (S := fun W => Blk W P 49 [.int .i64 id, .int .i64 num, .int .i64 cnt, .int .u32 s, .slice x n c] ∧ (∃ y0 y1 y4, Blk W g 67 [y0, y1, c2, c3, y4, c5, c6, c7, c8, c9]) ∧ Turned (fun k => k = g) w1 W) (by kernel_rfl) (⟨hP, ⟨_, _, _, hG⟩, tnd6 (Below.refl _ _).drew⟩) (fun hS => ?_)
    refine any_take (i := 0) (v := ?_) rfl (by kernel_rfl) (by kernel_rfl) (by kernel_rfl) (by exact fun _ _ _ h => h) (by rfl) ?_ hS ?_
    rotate_left
    · ((intro w hSw; (try dsimp only at hSw); go_simp) <;> with_reducible rfl)
    (try simp only [Act.put, List.setIfInBounds_toArray, List.set_cons_zero, List.set_cons_succ])
    refine any_take (i := 1) (v := ?_) rfl (by kernel_rfl) (by kernel_rfl) (by kernel_rfl) (by exact fun _ _ _ h => h) (by rfl) ?_ hS ?_
    rotate_left
    · ((intro w hSw; (try dsimp only at hSw); go_simp) <;> with_reducible rfl)
    (try simp only [Act.put, List.setIfInBounds_toArray, List.set_cons_zero, List.set_cons_succ])
    refine any_take (i := 2) (v := ?_) rfl (by kernel_rfl) (by kernel_rfl) (by kernel_rfl) (by exact fun _ _ _ h => h) (by rfl) ?_ hS ?_
    rotate_left
    · ((intro w hSw; (try dsimp only at hSw); go_simp) <;> with_reducible rfl)
    (try simp only [Act.put, List.setIfInBounds_toArray, List.set_cons_zero, List.set_cons_succ])
    refine any_take (i := 3) (v := ?_) rfl (by kernel_rfl) (by kernel_rfl) (by kernel_rfl) (by exact fun _ _ _ h => h) (by rfl) ?_ hS ?_
    rotate_left
    · ((intro w hSw; (try dsimp only at hSw); go_simp) <;> with_reducible rfl)
    (try simp only [Act.put, List.setIfInBounds_toArray, List.set_cons_zero, List.set_cons_succ])
    refine any_take (i := 4) (v := ?_) rfl (by kernel_rfl) (by kernel_rfl) (by kernel_rfl) (by exact fun _ _ _ h => h) (by rfl) ?_ hS ?_
    rotate_left
    · intro w hSw; have hc := blk_at hSw.1 0; simp only [List.getElem?_cons_zero, List.getElem?_cons_succ] at hc; clear hSw; go_simp <;> with_reducible rfl
    (try simp only [Act.put, List.setIfInBounds_toArray, List.set_cons_zero, List.set_cons_succ])
    refine any_take (i := 5) (v := ?_) rfl (by kernel_rfl) (by kernel_rfl) (by kernel_rfl) (by exact fun _ _ _ h => h) (by rfl) ?_ hS ?_
    rotate_left
    · ((intro w hSw; (try dsimp only at hSw); go_simp) <;> with_reducible rfl)
    (try simp only [Act.put, List.setIfInBounds_toArray, List.set_cons_zero, List.set_cons_succ])
    refine any_take (i := 6) (v := ?_) rfl (by kernel_rfl) (by kernel_rfl) (by kernel_rfl) (by exact fun _ _ _ h => h) (by rfl) ?_ hS ?_
    rotate_left
    · intro w hSw; have hc := blk_at hSw.1 3; simp only [List.getElem?_cons_zero, List.getElem?_cons_succ] at hc; clear hSw; go_simp <;> with_reducible rfl
    (try simp only [Act.put, List.setIfInBounds_toArray, List.set_cons_zero, List.set_cons_succ])
    refine any_take (i := 7) (v := ?_) rfl (by kernel_rfl) (by kernel_rfl) (by kernel_rfl) (by exact fun _ _ _ h => h) (by rfl) ?_ hS ?_
    rotate_left
    · ((intro w hSw; (try dsimp only at hSw); go_simp) <;> with_reducible rfl)
    (try simp only [Act.put, List.setIfInBounds_toArray, List.set_cons_zero, List.set_cons_succ])
    refine any_take (i := 8) (v := ?_) rfl (by kernel_rfl) (by kernel_rfl) (by kernel_rfl) (by exact fun _ _ _ h => h) (by rfl) ?_ hS ?_
    rotate_left
    · ((intro w hSw; (try dsimp only at hSw); go_simp) <;> with_reducible rfl)
    (try simp only [Act.put, List.setIfInBounds_toArray, List.set_cons_zero, List.set_cons_succ])
    have B0 : Blk w1.drew g 67 [a0, a1, c2, c3, a4, c5, c6, c7, c8, c9] := hG
    generalize w1.drew = W0 at *
    refine any_on (i := 9) rfl (by kernel_rfl) (fun K hK => ?_)
    have hc := blk_at B0 0
    have hz := blk_frozen B0 0
    simp only [List.getElem?_cons_zero, List.getElem?_cons_succ] at hc
    go_simp
    have B1 := B0.set 0 (.int .i64 id)
    simp only [List.set_cons_zero, List.set_cons_succ] at B1
    clear hc hz
    refine hK.out _ _ ⟨hS.1.turned (turned_set _ g 0 _) hPg, ⟨_, _, _, B1⟩, hS.2.2.trans ((turned_set _ g 0 _).mono (fun k e => .inl e))⟩ (fun hS => ?_)
    clear hK K
    refine any_take (i := 10) (v := ?_) rfl (by kernel_rfl) (by kernel_rfl) (by kernel_rfl) (by exact fun _ _ _ h => h) (by rfl) ?_ hS ?_
    rotate_left
    · ((intro w hSw; (try dsimp only at hSw); go_simp) <;> with_reducible rfl)
    (try simp only [Act.put, List.setIfInBounds_toArray, List.set_cons_zero, List.set_cons_succ])
    refine any_take (i := 11) (v := ?_) rfl (by kernel_rfl) (by kernel_rfl) (by kernel_rfl) (by exact fun _ _ _ h => h) (by rfl) ?_ hS ?_
    rotate_left
    · ((intro w hSw; (try dsimp only at hSw); go_simp) <;> with_reducible rfl)
    (try simp only [Act.put, List.setIfInBounds_toArray, List.set_cons_zero, List.set_cons_succ])
    refine any_on (i := 12) rfl (by kernel_rfl) (fun K hK => ?_)
    have hc := blk_at B1 1
    have hz := blk_frozen B1 1
    simp only [List.getElem?_cons_zero, List.getElem?_cons_succ] at hc
    go_simp
    have B2 := B1.set 1 (.int .u32 s)
    simp only [List.set_cons_zero, List.set_cons_succ] at B2
    clear hc hz
    refine hK.out _ _ ⟨hS.1.turned (turned_set _ g 1 _) hPg, ⟨_, _, _, B2⟩, hS.2.2.trans ((turned_set _ g 1 _).mono (fun k e => .inl e))⟩ (fun hS => ?_)
    clear hK K
    refine any_take (i := 13) (v := ?_) rfl (by kernel_rfl) (by kernel_rfl) (by kernel_rfl) (by exact fun _ _ _ h => h) (by rfl) ?_ hS ?_
    rotate_left
    · ((intro w hSw; (try dsimp only at hSw); go_simp) <;> with_reducible rfl)
    (try simp only [Act.put, List.setIfInBounds_toArray, List.set_cons_zero, List.set_cons_succ])
    refine any_take (i := 14) (v := ?_) rfl (by kernel_rfl) (by kernel_rfl) (by kernel_rfl) (by exact fun _ _ _ h => h) (by rfl) ?_ hS ?_
    rotate_left
    · ((intro w hSw; (try dsimp only at hSw); go_simp) <;> with_reducible rfl)
    (try simp only [Act.put, List.setIfInBounds_toArray, List.set_cons_zero, List.set_cons_succ])
    refine any_on (i := 15) rfl (by kernel_rfl) (fun K hK => ?_)
    have hc := blk_at B2 4
    have hz := blk_frozen B2 4
    simp only [List.getElem?_cons_zero, List.getElem?_cons_succ] at hc
    go_simp
    have B3 := B2.set 4 (.int .i64 0)
    simp only [List.set_cons_zero, List.set_cons_succ] at B3
    clear hc hz
    refine hK.out _ _ ⟨hS.1.turned (turned_set _ g 4 _) hPg, ⟨_, _, _, B3⟩, hS.2.2.trans ((turned_set _ g 4 _).mono (fun k e => .inl e))⟩ (fun hS => ?_)
    clear hK K
    refine wpAnyH_done (by kernel_rfl) ?_ _
    go_wp2
    go_meet
    exact ⟨rfl, hS.1, B3, hS.2.2⟩
  case rest =>
  obtain ⟨rfl, hP2, hG2, hT2⟩ := hcut
  have hT : Turned (fun k => k = g) w _ := (tnd6 (by have := HG.out.2.2.1; rw [hPe] at this; exact this)).trans (hT2.mono (fun k e => .inl e))
  have hlt : w.heap.size ≤ wc.heap.size := hT.size
  have w1b : Below wc.heap.size wc (wc.alloc (.cells (madeCells #[.bool false] cnt) 4)) := (Below.refl _ _).alloc (Nat.le_refl _) _
  have e1 := made_bools wc cnt
  have m1 := make_bools cnt (by omega) wc
  have x1 := blk_at hP2 2
  have hG3 := hG2.laterB w1b
  have hP3 := hP2.laterB w1b
  have n1 : ¬ (wc.heap.size = g) := blk_ne e1 hG3 (by decide)
  have x2 := blk_at hG3 2
  have x3 := blk_frozen hG3 2
  have hG4 := hG3.set 2 (.slice (some ⟨wc.heap.size, 0, none⟩) cnt cnt)
  have s4 := turned_set (wc.alloc (.cells (madeCells #[.bool false] cnt) 4)) g 2 (.slice (some ⟨wc.heap.size, 0, none⟩) cnt cnt)
  have hP4 := hP3.turned s4 hPg
  have e4 := e1.turned s4 n1
  have x4 := blk_at hP4 2
  have hz2 : ((wc.alloc (.cells (madeCells #[.bool false] cnt) 4)).setCell ⟨g, 2, none⟩ (.slice (some ⟨wc.heap.size, 0, none⟩) cnt cnt)).heap.size = wc.heap.size + 1 := by simp [World.setCell]
  have w5b : Below ((wc.alloc (.cells (madeCells #[.bool false] cnt) 4)).setCell ⟨g, 2, none⟩ (.slice (some ⟨wc.heap.size, 0, none⟩) cnt cnt)).heap.size ((wc.alloc (.cells (madeCells #[.bool false] cnt) 4)).setCell ⟨g, 2, none⟩ (.slice (some ⟨wc.heap.size, 0, none⟩) cnt cnt)) (((wc.alloc (.cells (madeCells #[.bool false] cnt) 4)).setCell ⟨g, 2, none⟩ (.slice (some ⟨wc.heap.size, 0, none⟩) cnt cnt)).alloc (.cells (madeCells #[.slice none 0 0] cnt) 22)) := (Below.refl _ _).alloc (Nat.le_refl _) _
  have e5 := made_lists ((wc.alloc (.cells (madeCells #[.bool false] cnt) 4)).setCell ⟨g, 2, none⟩ (.slice (some ⟨wc.heap.size, 0, none⟩) cnt cnt)) cnt
  have m5 := make_lists cnt (by omega) ((wc.alloc (.cells (madeCells #[.bool false] cnt) 4)).setCell ⟨g, 2, none⟩ (.slice (some ⟨wc.heap.size, 0, none⟩) cnt cnt))
  rw [hz2] at e5 m5
  have hG5 := hG4.laterB w5b
  have E5 := e4.laterB w5b
  have x5 := blk_at hG5 3
  have x6 := blk_frozen hG5 3
  have hG6 := hG5.set 3 (.slice (some ⟨wc.heap.size + 1, 0, none⟩) cnt cnt)
  have s6 := turned_set (((wc.alloc (.cells (madeCells #[.bool false] cnt) 4)).setCell ⟨g, 2, none⟩ (.slice (some ⟨wc.heap.size, 0, none⟩) cnt cnt)).alloc (.cells (madeCells #[.slice none 0 0] cnt) 22)) g 3 (.slice (some ⟨wc.heap.size + 1, 0, none⟩) cnt cnt)
  have n5 : ¬ (wc.heap.size + 1 = g) := blk_ne e5 hG5 (by decide)
  have T6 := hT.trans ((tnd6 (R := fun k => k = g) w1b).trans ((s4.trans ((tnd6 (R := fun k => k = g) w5b |>.trans (s6.mono (fun k e => .inl e))).mono (fun k e => .inl e))).mono (fun k e => .inl e)) |>.mono (fun k e => .inl e))
  have F : Hid _ := And.intro hG6 (And.intro (E5.turned s6 n1) (And.intro (e5.turned s6 n5) T6))
  simp only [List.set_cons_zero, List.set_cons_succ, List.getElem?_cons_zero, List.getElem?_cons_succ] at x1 x2 x4 x5
  clear hP hG hPg hP2 hG2 hT2 hT w1b e1 hG3 hP3 n1 hG4 s4 hP4 e4 w5b e5 hG5 E5 hG6 s6 n5 T6 HG hgl hPe
  rename_i hgo
  refine hgo _ _ ?_
  clear hgo
  go_wp2
  go_end0
  exact ⟨rfl, _, _, hlt, Nat.le_succ_of_le hlt, F.out⟩
theorem lenOf_none (n : Nat) : lenOf (List.replicate n none) = 0 := by
  unfold lenOf
  rw [List.map_replicate]
  simp
/-- a reader that gathers the image of a piece -/
def begM (m : CR) (id s : Int) (cnt : Nat) : CR := ⟨id, s, List.replicate cnt none, m.ad⟩
theorem begin_any (p : CPl) (m : CR) (id num : Int) (cnt : Nat) (s : Int) (x : Option Addr) (n c : Nat) (w : World) (h : (crOb p m).Ok w) (hc : 1 ≤ cnt ∧ cnt ≤ 256) :
    Calls Try.prog 23 #[.pointer (some ⟨p.g, 0, none⟩), .agg #[.int .i64 id, .int .i64 num, .int .i64 cnt, .int .u32 s, .slice x n c]] w fun e w' => e = .returned (.tuple #[]) ∧ ∃ p', p'.g = p.g ∧ Step w w' (crOb p m) (crOb p' (begM m id s cnt)) := by
  refine (begin_raw p.g _ _ _ _ _ _ _ _ _ _ id num cnt s x n c w h.holds.blk hc.2).mono ?_
  rintro e w' ⟨rfl, t, d, ht, hd, hG, hB, hL, hT⟩
  have hne : ¬ (begM m id s cnt).ps.length = 0 := by simp [begM]; omega
  have hok : CrP w' ⟨p.g, t, d, List.replicate cnt (.slice none 0 0)⟩ (begM m id s cnt) := by
    refine ⟨?_, fun _ => ?_, fun _ => hL, by simp [begM], fun i o hi => ?_, h.holds.ad⟩
    · have : (begM m id s cnt).ps.length = cnt := by simp [begM]
      rw [this, show lenOf (begM m id s cnt).ps = 0 from lenOf_none cnt]
      unfold CPl.tv CPl.dv
      rw [if_neg (by omega), if_neg (by omega)]
      exact hG
    · have : (begM m id s cnt).ps.map isB = List.replicate cnt (.bool false) := by simp [begM, isB]
      rw [this]
      exact hB
    · have hic : i < cnt := by
        have := (List.getElem?_eq_some_iff.1 hi).1
        simpa [begM] using this
      have ho : o = none := by
        have := hi
        simp [begM, List.getElem?_replicate, hic] at this
        exact this.symm
      subst ho
      refine ⟨.slice none 0 0, by simp [List.getElem?_replicate, hic], World.ownsRow_nil _ _ _ _⟩
  refine ⟨rfl, ⟨p.g, t, d, List.replicate cnt (.slice none 0 0)⟩, rfl, hT.mono (fun k e => by subst e; simp [crOb]), crOb_ok hok, fun k hk => ?_, fun k hk => ?_⟩
  · simp only [crOb, if_neg hne, List.mem_cons, List.not_mem_nil, or_false] at hk
    rcases hk with rfl | rfl | rfl
    · exact .inl (by simp [crOb])
    · exact .inr ht
    · exact .inr hd
  · exfalso
    obtain ⟨v, hv, e⟩ := List.mem_filterMap.1 hk
    obtain rfl := (List.mem_replicate.1 hv).2
    cases e
end Go.Proofs.Ytdagekciipfnoaa

/- put: one piece more. -/
namespace Go.Proofs.Ytdagekciipfnoaa
open Go.RowKit
set_option linter.unusedVariables false
set_option linter.unusedSimpArgs false
set_option maxRecDepth 4000

set_option maxHeartbeats 4000000 in
theorem put_there (g t d N num len : Nat) (bs vs : List Value) (c0 c1 c5 c6 c7 c8 c9 : Value) (id : Int) (cnt : Nat) (s : Int) (x : Option Addr) (n c : Nat) (w : World) (hG : Blk w g 67 [c0, c1, .slice (some ⟨t, 0, none⟩) N N, .slice (some ⟨d, 0, none⟩) N N, .int .i64 len, c5, c6, c7, c8, c9]) (hT : Blk w t 4 bs) (hD : Blk w d 22 vs) (hnum : num < N) (u : Value) (hv : vs[num]? = some u) (hb : bs[num]? = some (.bool true)) :
    Calls Try.prog 24 #[.pointer (some ⟨g, 0, none⟩), .agg #[.int .i64 id, .int .i64 num, .int .i64 cnt, .int .u32 s, .slice x n c]] w fun e w' => e = .returned (.tuple #[]) ∧ Below w.heap.size w w' := by
  have b0 : Below w.heap.size w (w.alloc (.cells #[.int .i64 id, .int .i64 num, .int .i64 cnt, .int .u32 s, .slice x n c] 49)).drew := ((Below.refl _ _).alloc (Nat.le_refl _) _).drew
  have HB : Hid _ := And.intro b0 trivial
  clear b0
  have b1 : Below w.heap.size w (w.alloc (.cells #[.int .i64 id, .int .i64 num, .int .i64 cnt, .int .u32 s, .slice x n c] 49)) := (Below.refl _ _).alloc (Nat.le_refl _) _
  have hP0 := Blk.new' w 49 [.int .i64 id, .int .i64 num, .int .i64 cnt, .int .u32 s, .slice x n c]
  obtain ⟨P, hPe⟩ : ∃ P, P = w.heap.size := ⟨_, rfl⟩
  have H1 : Hid (Blk (w.alloc (.cells #[.int .i64 id, .int .i64 num, .int .i64 cnt, .int .u32 s, .slice x n c] 49)) g 67 [c0, c1, .slice (some ⟨t, 0, none⟩) N N, .slice (some ⟨d, 0, none⟩) N N, .int .i64 len, c5, c6, c7, c8, c9] ∧ Blk (w.alloc (.cells #[.int .i64 id, .int .i64 num, .int .i64 cnt, .int .u32 s, .slice x n c] 49)) t 4 (bs) ∧ Blk (w.alloc (.cells #[.int .i64 id, .int .i64 num, .int .i64 cnt, .int .u32 s, .slice x n c] 49)) d 22 (vs) ∧ Blk (w.alloc (.cells #[.int .i64 id, .int .i64 num, .int .i64 cnt, .int .u32 s, .slice x n c] 49)) P 49 [.int .i64 id, .int .i64 num, .int .i64 cnt, .int .u32 s, .slice x n c] ∧ Turned (fun k => k = g ∨ k = t ∨ k = d) w (w.alloc (.cells #[.int .i64 id, .int .i64 num, .int .i64 cnt, .int .u32 s, .slice x n c] 49))) := by
    refine ⟨hG.laterB b1, hT.laterB b1, hD.laterB b1, ?_, tnd6 b1⟩
    rw [hPe]; exact hP0
  have q1 : (num : Int) < N := by omega
  clear hP0 b1 hG hT hD
  go_enter Try.func24, Try.ntmps24
  go_upto_region 1 with fail
  rw [← hPe]
  generalize (w.alloc (.cells #[.int .i64 id, .int .i64 num, .int .i64 cnt, .int .u32 s, .slice x n c] 49)) = w1 at *
  clear hPe
  refine wp_region_held_drew (S := fun W => Blk W g 67 [c0, c1, .slice (some ⟨t, 0, none⟩) N N, .slice (some ⟨d, 0, none⟩) N N, .int .i64 len, c5, c6, c7, c8, c9] ∧ Blk W t 4 (bs) ∧ Blk W d 22 (vs) ∧ Blk W P 49 [.int .i64 id, .int .i64 num, .int .i64 cnt, .int .u32 s, .slice x n c] ∧ Turned (fun k => k = g ∨ k = t ∨ k = d) w W) (by kernel_rfl) (⟨H1.out.1.laterB (Below.refl _ _).drew, H1.out.2.1.laterB (Below.refl _ _).drew, H1.out.2.2.1.laterB (Below.refl _ _).drew, H1.out.2.2.2.1.laterB (Below.refl _ _).drew, H1.out.2.2.2.2.trans (tnd6 (Below.refl _ _).drew)⟩) (fun hS => ?_)
  refine any_take (i := 0) (v := ?_) rfl (by kernel_rfl) (by kernel_rfl) (by kernel_rfl) (by exact fun _ _ _ h => h) (by rfl) ?_ hS ?_
  rotate_left
  · ((intro w hSw; have f0 := blk_at hSw.1 2; have f1 := blk_at hSw.1 3; have f2 := blk_at hSw.1 4; have f3 := blk_at hSw.2.2.2.1 1; have f4 := blk_at hSw.2.2.2.1 4; have f5 := blk_at hSw.2.1 num; have f6 := blk_frozen hSw.2.1 num; have f7 := blk_frozen hSw.1 4; have f8 := blk_at hSw.2.2.1 num; have f9 := blk_frozen hSw.2.2.1 num; rw [hb] at f5; rw [hv] at f8; simp only [List.getElem?_cons_zero, List.getElem?_cons_succ] at f0 f1 f2 f3 f4; clear hSw; go_simp) <;> with_reducible rfl)
  (try simp only [Act.put, List.setIfInBounds_toArray, List.set_cons_zero, List.set_cons_succ])
  refine any_take (i := 1) (v := ?_) rfl (by kernel_rfl) (by kernel_rfl) (by kernel_rfl) (by exact fun _ _ _ h => h) (by rfl) ?_ hS ?_
  rotate_left
  · ((intro w hSw; have f0 := blk_at hSw.1 2; have f1 := blk_at hSw.1 3; have f2 := blk_at hSw.1 4; have f3 := blk_at hSw.2.2.2.1 1; have f4 := blk_at hSw.2.2.2.1 4; have f5 := blk_at hSw.2.1 num; have f6 := blk_frozen hSw.2.1 num; have f7 := blk_frozen hSw.1 4; have f8 := blk_at hSw.2.2.1 num; have f9 := blk_frozen hSw.2.2.1 num; rw [hb] at f5; rw [hv] at f8; simp only [List.getElem?_cons_zero, List.getElem?_cons_succ] at f0 f1 f2 f3 f4; clear hSw; go_simp) <;> with_reducible rfl)
  (try simp only [Act.put, List.setIfInBounds_toArray, List.set_cons_zero, List.set_cons_succ])
  refine any_take (i := 2) (v := ?_) rfl (by kernel_rfl) (by kernel_rfl) (by kernel_rfl) (by exact fun _ _ _ h => h) (by rfl) ?_ hS ?_
  rotate_left
  · ((intro w hSw; have f0 := blk_at hSw.1 2; have f1 := blk_at hSw.1 3; have f2 := blk_at hSw.1 4; have f3 := blk_at hSw.2.2.2.1 1; have f4 := blk_at hSw.2.2.2.1 4; have f5 := blk_at hSw.2.1 num; have f6 := blk_frozen hSw.2.1 num; have f7 := blk_frozen hSw.1 4; have f8 := blk_at hSw.2.2.1 num; have f9 := blk_frozen hSw.2.2.1 num; rw [hb] at f5; rw [hv] at f8; simp only [List.getElem?_cons_zero, List.getElem?_cons_succ] at f0 f1 f2 f3 f4; clear hSw; go_simp) <;> with_reducible rfl)
  (try simp only [Act.put, List.setIfInBounds_toArray, List.set_cons_zero, List.set_cons_succ])
  refine any_take (i := 3) (v := ?_) rfl (by kernel_rfl) (by kernel_rfl) (by kernel_rfl) (by exact fun _ _ _ h => h) (by rfl) ?_ hS ?_
  rotate_left
  · ((intro w hSw; have f0 := blk_at hSw.1 2; have f1 := blk_at hSw.1 3; have f2 := blk_at hSw.1 4; have f3 := blk_at hSw.2.2.2.1 1; have f4 := blk_at hSw.2.2.2.1 4; have f5 := blk_at hSw.2.1 num; have f6 := blk_frozen hSw.2.1 num; have f7 := blk_frozen hSw.1 4; have f8 := blk_at hSw.2.2.1 num; have f9 := blk_frozen hSw.2.2.1 num; rw [hb] at f5; rw [hv] at f8; simp only [List.getElem?_cons_zero, List.getElem?_cons_succ] at f0 f1 f2 f3 f4; clear hSw; go_simp) <;> with_reducible rfl)
  (try simp only [Act.put, List.setIfInBounds_toArray, List.set_cons_zero, List.set_cons_succ])
  refine any_take (i := 4) (v := ?_) rfl (by kernel_rfl) (by kernel_rfl) (by kernel_rfl) (by exact fun _ _ _ h => h) (by rfl) ?_ hS ?_
  rotate_left
  · ((intro w hSw; have f0 := blk_at hSw.1 2; have f1 := blk_at hSw.1 3; have f2 := blk_at hSw.1 4; have f3 := blk_at hSw.2.2.2.1 1; have f4 := blk_at hSw.2.2.2.1 4; have f5 := blk_at hSw.2.1 num; have f6 := blk_frozen hSw.2.1 num; have f7 := blk_frozen hSw.1 4; have f8 := blk_at hSw.2.2.1 num; have f9 := blk_frozen hSw.2.2.1 num; rw [hb] at f5; rw [hv] at f8; simp only [List.getElem?_cons_zero, List.getElem?_cons_succ] at f0 f1 f2 f3 f4; clear hSw; go_simp) <;> with_reducible rfl)
  (try simp only [Act.put, List.setIfInBounds_toArray, List.set_cons_zero, List.set_cons_succ])
  refine any_take (i := 5) (v := ?_) rfl (by kernel_rfl) (by kernel_rfl) (by kernel_rfl) (by exact fun _ _ _ h => h) (by rfl) ?_ hS ?_
  rotate_left
  · ((intro w hSw; have f0 := blk_at hSw.1 2; have f1 := blk_at hSw.1 3; have f2 := blk_at hSw.1 4; have f3 := blk_at hSw.2.2.2.1 1; have f4 := blk_at hSw.2.2.2.1 4; have f5 := blk_at hSw.2.1 num; have f6 := blk_frozen hSw.2.1 num; have f7 := blk_frozen hSw.1 4; have f8 := blk_at hSw.2.2.1 num; have f9 := blk_frozen hSw.2.2.1 num; rw [hb] at f5; rw [hv] at f8; simp only [List.getElem?_cons_zero, List.getElem?_cons_succ] at f0 f1 f2 f3 f4; clear hSw; go_simp) <;> with_reducible rfl)
  (try simp only [Act.put, List.setIfInBounds_toArray, List.set_cons_zero, List.set_cons_succ])
  refine any_take (i := 6) (v := ?_) rfl (by kernel_rfl) (by kernel_rfl) (by kernel_rfl) (by exact fun _ _ _ h => h) (by rfl) ?_ hS ?_
  rotate_left
  · ((intro w hSw; have f0 := blk_at hSw.1 2; have f1 := blk_at hSw.1 3; have f2 := blk_at hSw.1 4; have f3 := blk_at hSw.2.2.2.1 1; have f4 := blk_at hSw.2.2.2.1 4; have f5 := blk_at hSw.2.1 num; have f6 := blk_frozen hSw.2.1 num; have f7 := blk_frozen hSw.1 4; have f8 := blk_at hSw.2.2.1 num; have f9 := blk_frozen hSw.2.2.1 num; rw [hb] at f5; rw [hv] at f8; simp only [List.getElem?_cons_zero, List.getElem?_cons_succ] at f0 f1 f2 f3 f4; clear hSw; go_simp) <;> with_reducible rfl)
  (try simp only [Act.put, List.setIfInBounds_toArray, List.set_cons_zero, List.set_cons_succ])
  refine any_take (i := 7) (v := ?_) rfl (by kernel_rfl) (by kernel_rfl) (by kernel_rfl) (by exact fun _ _ _ h => h) (by rfl) ?_ hS ?_
  rotate_left
  · ((intro w hSw; have f0 := blk_at hSw.1 2; have f1 := blk_at hSw.1 3; have f2 := blk_at hSw.1 4; have f3 := blk_at hSw.2.2.2.1 1; have f4 := blk_at hSw.2.2.2.1 4; have f5 := blk_at hSw.2.1 num; have f6 := blk_frozen hSw.2.1 num; have f7 := blk_frozen hSw.1 4; have f8 := blk_at hSw.2.2.1 num; have f9 := blk_frozen hSw.2.2.1 num; rw [hb] at f5; rw [hv] at f8; simp only [List.getElem?_cons_zero, List.getElem?_cons_succ] at f0 f1 f2 f3 f4; clear hSw; go_simp) <;> with_reducible rfl)
  (try simp only [Act.put, List.setIfInBounds_toArray, List.set_cons_zero, List.set_cons_succ])
  refine wpAnyH_done (by kernel_rfl) ?_ _
  clear hS
  clear H1
  go_wp2
  (try simp only [Exit.inBlock, Exit.then])
  refine bodyPost_ret (results_none rfl _ _ _) rfl ?_
  exact ⟨rfl, HB.out.1⟩
set_option maxHeartbeats 4000000 in
theorem put_raw (g t d N num len : Nat) (bs vs : List Value) (c0 c1 c5 c6 c7 c8 c9 : Value) (id : Int) (cnt : Nat) (s : Int) (x : Option Addr) (n c : Nat) (w : World) (hG : Blk w g 67 [c0, c1, .slice (some ⟨t, 0, none⟩) N N, .slice (some ⟨d, 0, none⟩) N N, .int .i64 len, c5, c6, c7, c8, c9]) (hT : Blk w t 4 bs) (hD : Blk w d 22 vs) (hnum : num < N) (u : Value) (hv : vs[num]? = some u) (hb : bs[num]? = some (.bool false)) (hlen : len + n ≤ 65536) :
    Calls Try.prog 24 #[.pointer (some ⟨g, 0, none⟩), .agg #[.int .i64 id, .int .i64 num, .int .i64 cnt, .int .u32 s, .slice x n c]] w fun e w' => e = .returned (.tuple #[]) ∧ Blk w' g 67 [c0, c1, .slice (some ⟨t, 0, none⟩) N N, .slice (some ⟨d, 0, none⟩) N N, .int .i64 ((len : Int) + n), c5, c6, c7, c8, c9] ∧ Blk w' t 4 (bs.set num (.bool true)) ∧ Blk w' d 22 (vs.set num (.slice x n c)) ∧ Turned (fun k => k = g ∨ k = t ∨ k = d) w w' := by
  have b1 : Below w.heap.size w (w.alloc (.cells #[.int .i64 id, .int .i64 num, .int .i64 cnt, .int .u32 s, .slice x n c] 49)) := (Below.refl _ _).alloc (Nat.le_refl _) _
  have hP0 := Blk.new' w 49 [.int .i64 id, .int .i64 num, .int .i64 cnt, .int .u32 s, .slice x n c]
  obtain ⟨P, hPe⟩ : ∃ P, P = w.heap.size := ⟨_, rfl⟩
  have H1 : Hid (Blk (w.alloc (.cells #[.int .i64 id, .int .i64 num, .int .i64 cnt, .int .u32 s, .slice x n c] 49)) g 67 [c0, c1, .slice (some ⟨t, 0, none⟩) N N, .slice (some ⟨d, 0, none⟩) N N, .int .i64 len, c5, c6, c7, c8, c9] ∧ Blk (w.alloc (.cells #[.int .i64 id, .int .i64 num, .int .i64 cnt, .int .u32 s, .slice x n c] 49)) t 4 (bs) ∧ Blk (w.alloc (.cells #[.int .i64 id, .int .i64 num, .int .i64 cnt, .int .u32 s, .slice x n c] 49)) d 22 (vs) ∧ Blk (w.alloc (.cells #[.int .i64 id, .int .i64 num, .int .i64 cnt, .int .u32 s, .slice x n c] 49)) P 49 [.int .i64 id, .int .i64 num, .int .i64 cnt, .int .u32 s, .slice x n c] ∧ Turned (fun k => k = g ∨ k = t ∨ k = d) w (w.alloc (.cells #[.int .i64 id, .int .i64 num, .int .i64 cnt, .int .u32 s, .slice x n c] 49))) := by
    refine ⟨hG.laterB b1, hT.laterB b1, hD.laterB b1, ?_, tnd6 b1⟩
    rw [hPe]; exact hP0
  have q1 : (num : Int) < N := by omega
  clear hP0 b1 hG hT hD
  go_enter Try.func24, Try.ntmps24
  go_upto_region 1 with fail
  rw [← hPe]
  generalize (w.alloc (.cells #[.int .i64 id, .int .i64 num, .int .i64 cnt, .int .u32 s, .slice x n c] 49)) = w1 at *
  clear hPe
  have q2 : (len : Int) + n ≤ 65536 := by omega
  refine wp_region_held_drew (S := fun W => Blk W g 67 [c0, c1, .slice (some ⟨t, 0, none⟩) N N, .slice (some ⟨d, 0, none⟩) N N, .int .i64 len, c5, c6, c7, c8, c9] ∧ Blk W t 4 (bs) ∧ Blk W d 22 (vs) ∧ Blk W P 49 [.int .i64 id, .int .i64 num, .int .i64 cnt, .int .u32 s, .slice x n c] ∧ Turned (fun k => k = g ∨ k = t ∨ k = d) w W) (by kernel_rfl) (⟨H1.out.1.laterB (Below.refl _ _).drew, H1.out.2.1.laterB (Below.refl _ _).drew, H1.out.2.2.1.laterB (Below.refl _ _).drew, H1.out.2.2.2.1.laterB (Below.refl _ _).drew, H1.out.2.2.2.2.trans (tnd6 (Below.refl _ _).drew)⟩) (fun hS => ?_)
  refine any_take (i := 0) (v := ?_) rfl (by kernel_rfl) (by kernel_rfl) (by kernel_rfl) (by exact fun _ _ _ h => h) (by rfl) ?_ hS ?_
  rotate_left
  · ((intro w hSw; have f0 := blk_at hSw.1 2; have f1 := blk_at hSw.1 3; have f2 := blk_at hSw.1 4; have f3 := blk_at hSw.2.2.2.1 1; have f4 := blk_at hSw.2.2.2.1 4; have f5 := blk_at hSw.2.1 num; have f6 := blk_frozen hSw.2.1 num; have f7 := blk_frozen hSw.1 4; have f8 := blk_at hSw.2.2.1 num; have f9 := blk_frozen hSw.2.2.1 num; rw [hb] at f5; rw [hv] at f8; simp only [List.getElem?_cons_zero, List.getElem?_cons_succ] at f0 f1 f2 f3 f4; clear hSw; go_simp) <;> with_reducible rfl)
  (try simp only [Act.put, List.setIfInBounds_toArray, List.set_cons_zero, List.set_cons_succ])
  refine any_take (i := 1) (v := ?_) rfl (by kernel_rfl) (by kernel_rfl) (by kernel_rfl) (by exact fun _ _ _ h => h) (by rfl) ?_ hS ?_
  rotate_left
  · ((intro w hSw; have f0 := blk_at hSw.1 2; have f1 := blk_at hSw.1 3; have f2 := blk_at hSw.1 4; have f3 := blk_at hSw.2.2.2.1 1; have f4 := blk_at hSw.2.2.2.1 4; have f5 := blk_at hSw.2.1 num; have f6 := blk_frozen hSw.2.1 num; have f7 := blk_frozen hSw.1 4; have f8 := blk_at hSw.2.2.1 num; have f9 := blk_frozen hSw.2.2.1 num; rw [hb] at f5; rw [hv] at f8; simp only [List.getElem?_cons_zero, List.getElem?_cons_succ] at f0 f1 f2 f3 f4; clear hSw; go_simp) <;> with_reducible rfl)
  (try simp only [Act.put, List.setIfInBounds_toArray, List.set_cons_zero, List.set_cons_succ])
  refine any_take (i := 2) (v := ?_) rfl (by kernel_rfl) (by kernel_rfl) (by kernel_rfl) (by exact fun _ _ _ h => h) (by rfl) ?_ hS ?_
  rotate_left
  · ((intro w hSw; have f0 := blk_at hSw.1 2; have f1 := blk_at hSw.1 3; have f2 := blk_at hSw.1 4; have f3 := blk_at hSw.2.2.2.1 1; have f4 := blk_at hSw.2.2.2.1 4; have f5 := blk_at hSw.2.1 num; have f6 := blk_frozen hSw.2.1 num; have f7 := blk_frozen hSw.1 4; have f8 := blk_at hSw.2.2.1 num; have f9 := blk_frozen hSw.2.2.1 num; rw [hb] at f5; rw [hv] at f8; simp only [List.getElem?_cons_zero, List.getElem?_cons_succ] at f0 f1 f2 f3 f4; clear hSw; go_simp) <;> with_reducible rfl)
  (try simp only [Act.put, List.setIfInBounds_toArray, List.set_cons_zero, List.set_cons_succ])
  refine any_take (i := 3) (v := ?_) rfl (by kernel_rfl) (by kernel_rfl) (by kernel_rfl) (by exact fun _ _ _ h => h) (by rfl) ?_ hS ?_
  rotate_left
  · ((intro w hSw; have f0 := blk_at hSw.1 2; have f1 := blk_at hSw.1 3; have f2 := blk_at hSw.1 4; have f3 := blk_at hSw.2.2.2.1 1; have f4 := blk_at hSw.2.2.2.1 4; have f5 := blk_at hSw.2.1 num; have f6 := blk_frozen hSw.2.1 num; have f7 := blk_frozen hSw.1 4; have f8 := blk_at hSw.2.2.1 num; have f9 := blk_frozen hSw.2.2.1 num; rw [hb] at f5; rw [hv] at f8; simp only [List.getElem?_cons_zero, List.getElem?_cons_succ] at f0 f1 f2 f3 f4; clear hSw; go_simp) <;> with_reducible rfl)
  (try simp only [Act.put, List.setIfInBounds_toArray, List.set_cons_zero, List.set_cons_succ])
  refine any_take (i := 4) (v := ?_) rfl (by kernel_rfl) (by kernel_rfl) (by kernel_rfl) (by exact fun _ _ _ h => h) (by rfl) ?_ hS ?_
  rotate_left
  · ((intro w hSw; have f0 := blk_at hSw.1 2; have f1 := blk_at hSw.1 3; have f2 := blk_at hSw.1 4; have f3 := blk_at hSw.2.2.2.1 1; have f4 := blk_at hSw.2.2.2.1 4; have f5 := blk_at hSw.2.1 num; have f6 := blk_frozen hSw.2.1 num; have f7 := blk_frozen hSw.1 4; have f8 := blk_at hSw.2.2.1 num; have f9 := blk_frozen hSw.2.2.1 num; rw [hb] at f5; rw [hv] at f8; simp only [List.getElem?_cons_zero, List.getElem?_cons_succ] at f0 f1 f2 f3 f4; clear hSw; go_simp) <;> with_reducible rfl)
  (try simp only [Act.put, List.setIfInBounds_toArray, List.set_cons_zero, List.set_cons_succ])
  refine any_take (i := 5) (v := ?_) rfl (by kernel_rfl) (by kernel_rfl) (by kernel_rfl) (by exact fun _ _ _ h => h) (by rfl) ?_ hS ?_
  rotate_left
  · ((intro w hSw; have f0 := blk_at hSw.1 2; have f1 := blk_at hSw.1 3; have f2 := blk_at hSw.1 4; have f3 := blk_at hSw.2.2.2.1 1; have f4 := blk_at hSw.2.2.2.1 4; have f5 := blk_at hSw.2.1 num; have f6 := blk_frozen hSw.2.1 num; have f7 := blk_frozen hSw.1 4; have f8 := blk_at hSw.2.2.1 num; have f9 := blk_frozen hSw.2.2.1 num; rw [hb] at f5; rw [hv] at f8; simp only [List.getElem?_cons_zero, List.getElem?_cons_succ] at f0 f1 f2 f3 f4; clear hSw; go_simp) <;> with_reducible rfl)
  (try simp only [Act.put, List.setIfInBounds_toArray, List.set_cons_zero, List.set_cons_succ])
  refine any_take (i := 6) (v := ?_) rfl (by kernel_rfl) (by kernel_rfl) (by kernel_rfl) (by exact fun _ _ _ h => h) (by rfl) ?_ hS ?_
  rotate_left
  · ((intro w hSw; have f0 := blk_at hSw.1 2; have f1 := blk_at hSw.1 3; have f2 := blk_at hSw.1 4; have f3 := blk_at hSw.2.2.2.1 1; have f4 := blk_at hSw.2.2.2.1 4; have f5 := blk_at hSw.2.1 num; have f6 := blk_frozen hSw.2.1 num; have f7 := blk_frozen hSw.1 4; have f8 := blk_at hSw.2.2.1 num; have f9 := blk_frozen hSw.2.2.1 num; rw [hb] at f5; rw [hv] at f8; simp only [List.getElem?_cons_zero, List.getElem?_cons_succ] at f0 f1 f2 f3 f4; clear hSw; go_simp) <;> with_reducible rfl)
  (try simp only [Act.put, List.setIfInBounds_toArray, List.set_cons_zero, List.set_cons_succ])
  refine any_take (i := 7) (v := ?_) rfl (by kernel_rfl) (by kernel_rfl) (by kernel_rfl) (by exact fun _ _ _ h => h) (by rfl) ?_ hS ?_
  rotate_left
  · ((intro w hSw; have f0 := blk_at hSw.1 2; have f1 := blk_at hSw.1 3; have f2 := blk_at hSw.1 4; have f3 := blk_at hSw.2.2.2.1 1; have f4 := blk_at hSw.2.2.2.1 4; have f5 := blk_at hSw.2.1 num; have f6 := blk_frozen hSw.2.1 num; have f7 := blk_frozen hSw.1 4; have f8 := blk_at hSw.2.2.1 num; have f9 := blk_frozen hSw.2.2.1 num; rw [hb] at f5; rw [hv] at f8; simp only [List.getElem?_cons_zero, List.getElem?_cons_succ] at f0 f1 f2 f3 f4; clear hSw; go_simp) <;> with_reducible rfl)
  (try simp only [Act.put, List.setIfInBounds_toArray, List.set_cons_zero, List.set_cons_succ])
  refine wpAnyH_done (by kernel_rfl) ?_ _
  clear hS
  have H2 : Hid (Blk w1.drew g 67 [c0, c1, .slice (some ⟨t, 0, none⟩) N N, .slice (some ⟨d, 0, none⟩) N N, .int .i64 len, c5, c6, c7, c8, c9] ∧ Blk w1.drew t 4 (bs) ∧ Blk w1.drew d 22 (vs) ∧ Blk w1.drew P 49 [.int .i64 id, .int .i64 num, .int .i64 cnt, .int .u32 s, .slice x n c] ∧ Turned (fun k => k = g ∨ k = t ∨ k = d) w w1.drew) := ⟨H1.out.1.laterB (Below.refl _ _).drew, H1.out.2.1.laterB (Below.refl _ _).drew, H1.out.2.2.1.laterB (Below.refl _ _).drew, H1.out.2.2.2.1.laterB (Below.refl _ _).drew, H1.out.2.2.2.2.trans (tnd6 (Below.refl _ _).drew)⟩
  clear H1
  generalize w1.drew = w2 at *
  go_upto_region 2 with fail
  refine e_begin (S := fun W => Blk W g 67 [c0, c1, .slice (some ⟨t, 0, none⟩) N N, .slice (some ⟨d, 0, none⟩) N N, .int .i64 len, c5, c6, c7, c8, c9] ∧ Blk W t 4 (bs) ∧ Blk W d 22 (vs) ∧ Blk W P 49 [.int .i64 id, .int .i64 num, .int .i64 cnt, .int .u32 s, .slice x n c] ∧ Turned (fun k => k = g ∨ k = t ∨ k = d) w W) 7 (by kernel_rfl) (⟨H2.out.1.laterB (Below.refl _ _).drew, H2.out.2.1.laterB (Below.refl _ _).drew, H2.out.2.2.1.laterB (Below.refl _ _).drew, H2.out.2.2.2.1.laterB (Below.refl _ _).drew, H2.out.2.2.2.2.trans (tnd6 (Below.refl _ _).drew)⟩) (fun hS => ?_)
  refine e_take (i := 0) (v := ?_) [1, 2, 3, 6, 7] rfl (by kernel_rfl) (by kernel_rfl) (by kernel_rfl) (by kernel_rfl) (by exact fun _ _ _ h => h) (by rfl) ?_ hS ?_
  rotate_left
  · ((intro w hSw; have f0 := blk_at hSw.1 2; have f1 := blk_at hSw.1 3; have f2 := blk_at hSw.1 4; have f3 := blk_at hSw.2.2.2.1 1; have f4 := blk_at hSw.2.2.2.1 4; have f5 := blk_at hSw.2.1 num; have f6 := blk_frozen hSw.2.1 num; have f7 := blk_frozen hSw.1 4; have f8 := blk_at hSw.2.2.1 num; have f9 := blk_frozen hSw.2.2.1 num; rw [hb] at f5; rw [hv] at f8; simp only [List.getElem?_cons_zero, List.getElem?_cons_succ] at f0 f1 f2 f3 f4; clear hSw; go_simp) <;> with_reducible rfl)
  (try simp only [Act.put, List.setIfInBounds_toArray, List.set_cons_zero, List.set_cons_succ])
  refine e_take (i := 1) (v := ?_) [2, 3, 6, 7] rfl (by kernel_rfl) (by kernel_rfl) (by kernel_rfl) (by kernel_rfl) (by exact fun _ _ _ h => h) (by rfl) ?_ hS ?_
  rotate_left
  · ((intro w hSw; have f0 := blk_at hSw.1 2; have f1 := blk_at hSw.1 3; have f2 := blk_at hSw.1 4; have f3 := blk_at hSw.2.2.2.1 1; have f4 := blk_at hSw.2.2.2.1 4; have f5 := blk_at hSw.2.1 num; have f6 := blk_frozen hSw.2.1 num; have f7 := blk_frozen hSw.1 4; have f8 := blk_at hSw.2.2.1 num; have f9 := blk_frozen hSw.2.2.1 num; rw [hb] at f5; rw [hv] at f8; simp only [List.getElem?_cons_zero, List.getElem?_cons_succ] at f0 f1 f2 f3 f4; clear hSw; go_simp) <;> with_reducible rfl)
  (try simp only [Act.put, List.setIfInBounds_toArray, List.set_cons_zero, List.set_cons_succ])
  refine e_take (i := 2) (v := ?_) [3, 6, 7] rfl (by kernel_rfl) (by kernel_rfl) (by kernel_rfl) (by kernel_rfl) (by exact fun _ _ _ h => h) (by rfl) ?_ hS ?_
  rotate_left
  · ((intro w hSw; have f0 := blk_at hSw.1 2; have f1 := blk_at hSw.1 3; have f2 := blk_at hSw.1 4; have f3 := blk_at hSw.2.2.2.1 1; have f4 := blk_at hSw.2.2.2.1 4; have f5 := blk_at hSw.2.1 num; have f6 := blk_frozen hSw.2.1 num; have f7 := blk_frozen hSw.1 4; have f8 := blk_at hSw.2.2.1 num; have f9 := blk_frozen hSw.2.2.1 num; rw [hb] at f5; rw [hv] at f8; simp only [List.getElem?_cons_zero, List.getElem?_cons_succ] at f0 f1 f2 f3 f4; clear hSw; go_simp) <;> with_reducible rfl)
  (try simp only [Act.put, List.setIfInBounds_toArray, List.set_cons_zero, List.set_cons_succ])
  refine e_take (i := 3) (v := ?_) [6, 7] rfl (by kernel_rfl) (by kernel_rfl) (by kernel_rfl) (by kernel_rfl) (by exact fun _ _ _ h => h) (by rfl) ?_ hS ?_
  rotate_left
  · ((intro w hSw; have f0 := blk_at hSw.1 2; have f1 := blk_at hSw.1 3; have f2 := blk_at hSw.1 4; have f3 := blk_at hSw.2.2.2.1 1; have f4 := blk_at hSw.2.2.2.1 4; have f5 := blk_at hSw.2.1 num; have f6 := blk_frozen hSw.2.1 num; have f7 := blk_frozen hSw.1 4; have f8 := blk_at hSw.2.2.1 num; have f9 := blk_frozen hSw.2.2.1 num; rw [hb] at f5; rw [hv] at f8; simp only [List.getElem?_cons_zero, List.getElem?_cons_succ] at f0 f1 f2 f3 f4; clear hSw; go_simp) <;> with_reducible rfl)
  (try simp only [Act.put, List.setIfInBounds_toArray, List.set_cons_zero, List.set_cons_succ])
  refine e_take (i := 4) (v := ?_) [5, 6, 7] rfl (by kernel_rfl) (by kernel_rfl) (by kernel_rfl) (by kernel_rfl) (by exact fun _ _ _ h => h) (by rfl) ?_ hS ?_
  rotate_left
  · ((intro w hSw; have f0 := blk_at hSw.1 2; have f1 := blk_at hSw.1 3; have f2 := blk_at hSw.1 4; have f3 := blk_at hSw.2.2.2.1 1; have f4 := blk_at hSw.2.2.2.1 4; have f5 := blk_at hSw.2.1 num; have f6 := blk_frozen hSw.2.1 num; have f7 := blk_frozen hSw.1 4; have f8 := blk_at hSw.2.2.1 num; have f9 := blk_frozen hSw.2.2.1 num; rw [hb] at f5; rw [hv] at f8; simp only [List.getElem?_cons_zero, List.getElem?_cons_succ] at f0 f1 f2 f3 f4; clear hSw; go_simp) <;> with_reducible rfl)
  (try simp only [Act.put, List.setIfInBounds_toArray, List.set_cons_zero, List.set_cons_succ])
  refine e_take (i := 5) (v := ?_) [6, 7] rfl (by kernel_rfl) (by kernel_rfl) (by kernel_rfl) (by kernel_rfl) (by exact fun _ _ _ h => h) (by rfl) ?_ hS ?_
  rotate_left
  · ((intro w hSw; have f0 := blk_at hSw.1 2; have f1 := blk_at hSw.1 3; have f2 := blk_at hSw.1 4; have f3 := blk_at hSw.2.2.2.1 1; have f4 := blk_at hSw.2.2.2.1 4; have f5 := blk_at hSw.2.1 num; have f6 := blk_frozen hSw.2.1 num; have f7 := blk_frozen hSw.1 4; have f8 := blk_at hSw.2.2.1 num; have f9 := blk_frozen hSw.2.2.1 num; rw [hb] at f5; rw [hv] at f8; simp only [List.getElem?_cons_zero, List.getElem?_cons_succ] at f0 f1 f2 f3 f4; clear hSw; go_simp) <;> with_reducible rfl)
  (try simp only [Act.put, List.setIfInBounds_toArray, List.set_cons_zero, List.set_cons_succ])
  refine e_take (i := 6) (v := ?_) [7] rfl (by kernel_rfl) (by kernel_rfl) (by kernel_rfl) (by kernel_rfl) (by exact fun _ _ _ h => h) (by rfl) ?_ hS ?_
  rotate_left
  · ((intro w hSw; have f0 := blk_at hSw.1 2; have f1 := blk_at hSw.1 3; have f2 := blk_at hSw.1 4; have f3 := blk_at hSw.2.2.2.1 1; have f4 := blk_at hSw.2.2.2.1 4; have f5 := blk_at hSw.2.1 num; have f6 := blk_frozen hSw.2.1 num; have f7 := blk_frozen hSw.1 4; have f8 := blk_at hSw.2.2.1 num; have f9 := blk_frozen hSw.2.2.1 num; rw [hb] at f5; rw [hv] at f8; simp only [List.getElem?_cons_zero, List.getElem?_cons_succ] at f0 f1 f2 f3 f4; clear hSw; go_simp) <;> with_reducible rfl)
  (try simp only [Act.put, List.setIfInBounds_toArray, List.set_cons_zero, List.set_cons_succ])
  have HS : Hid _ := And.intro hS trivial
  have f0 := blk_at HS.out.1.1 2
  have f1 := blk_at HS.out.1.1 3
  have f2 := blk_at HS.out.1.1 4
  have f3 := blk_at HS.out.1.2.2.2.1 1
  have f4 := blk_at HS.out.1.2.2.2.1 4
  have f5 := blk_at HS.out.1.2.1 num
  have f6 := blk_frozen HS.out.1.2.1 num
  have f7 := blk_frozen HS.out.1.1 4
  have f8 := blk_at HS.out.1.2.2.1 num
  have f9 := blk_frozen HS.out.1.2.2.1 num
  rw [hb] at f5
  rw [hv] at f8
  simp only [List.getElem?_cons_zero, List.getElem?_cons_succ] at f0 f1 f2 f3 f4
  clear hS
  refine e_last (z := 7) rfl (by kernel_rfl) (fun K hK => ?_)
  go_simp
  refine hK.out _ _ ?_
  clear hK K
  refine e_done (by kernel_rfl) ?_ _
  clear f5
  clear f0 f1 f2 f3 f4 f6 f7 f8 f9
  have H3n : Hid (Blk (w2.setCell ⟨t, num, none⟩ (.bool true)) g 67 [c0, c1, .slice (some ⟨t, 0, none⟩) N N, .slice (some ⟨d, 0, none⟩) N N, .int .i64 len, c5, c6, c7, c8, c9] ∧ Blk (w2.setCell ⟨t, num, none⟩ (.bool true)) t 4 (bs.set num (.bool true)) ∧ Blk (w2.setCell ⟨t, num, none⟩ (.bool true)) d 22 (vs) ∧ Blk (w2.setCell ⟨t, num, none⟩ (.bool true)) P 49 [.int .i64 id, .int .i64 num, .int .i64 cnt, .int .u32 s, .slice x n c] ∧ Turned (fun k => k = g ∨ k = t ∨ k = d) w (w2.setCell ⟨t, num, none⟩ (.bool true))) := by
    have u := turned_set w2 t num (.bool true)
    refine ⟨H2.out.1.turned u ?_, H2.out.2.1.set num _, H2.out.2.2.1.turned u ?_, H2.out.2.2.2.1.turned u ?_, H2.out.2.2.2.2.trans (u.mono (fun k e => .inl (.inr (.inl e))))⟩
    · exact blk_ne H2.out.1 H2.out.2.1 (by decide)
    · exact blk_ne H2.out.2.2.1 H2.out.2.1 (by decide)
    · exact blk_ne H2.out.2.2.2.1 H2.out.2.1 (by decide)
  have H3 : Hid (Blk (w2.setCell ⟨t, num, none⟩ (.bool true)).drew g 67 [c0, c1, .slice (some ⟨t, 0, none⟩) N N, .slice (some ⟨d, 0, none⟩) N N, .int .i64 len, c5, c6, c7, c8, c9] ∧ Blk (w2.setCell ⟨t, num, none⟩ (.bool true)).drew t 4 (bs.set num (.bool true)) ∧ Blk (w2.setCell ⟨t, num, none⟩ (.bool true)).drew d 22 (vs) ∧ Blk (w2.setCell ⟨t, num, none⟩ (.bool true)).drew P 49 [.int .i64 id, .int .i64 num, .int .i64 cnt, .int .u32 s, .slice x n c] ∧ Turned (fun k => k = g ∨ k = t ∨ k = d) w (w2.setCell ⟨t, num, none⟩ (.bool true)).drew) := ⟨H3n.out.1.laterB (Below.refl _ _).drew, H3n.out.2.1.laterB (Below.refl _ _).drew, H3n.out.2.2.1.laterB (Below.refl _ _).drew, H3n.out.2.2.2.1.laterB (Below.refl _ _).drew, H3n.out.2.2.2.2.trans (tnd6 (Below.refl _ _).drew)⟩
  clear H2 H3n
  generalize (w2.setCell ⟨t, num, none⟩ (.bool true)).drew = w3 at *
  go_upto_region 3 with fail
  refine e_begin (S := fun W => Blk W g 67 [c0, c1, .slice (some ⟨t, 0, none⟩) N N, .slice (some ⟨d, 0, none⟩) N N, .int .i64 len, c5, c6, c7, c8, c9] ∧ Blk W t 4 (bs.set num (.bool true)) ∧ Blk W d 22 (vs) ∧ Blk W P 49 [.int .i64 id, .int .i64 num, .int .i64 cnt, .int .u32 s, .slice x n c] ∧ Turned (fun k => k = g ∨ k = t ∨ k = d) w W) 10 (by kernel_rfl) (⟨H3.out.1.laterB (Below.refl _ _).drew, H3.out.2.1.laterB (Below.refl _ _).drew, H3.out.2.2.1.laterB (Below.refl _ _).drew, H3.out.2.2.2.1.laterB (Below.refl _ _).drew, H3.out.2.2.2.2.trans (tnd6 (Below.refl _ _).drew)⟩) (fun hS => ?_)
  refine e_take (i := 0) (v := ?_) [8, 9, 10] rfl (by kernel_rfl) (by kernel_rfl) (by kernel_rfl) (by kernel_rfl) (by exact fun _ _ _ h => h) (by rfl) ?_ hS ?_
  rotate_left
  · ((intro w hSw; have f0 := blk_at hSw.1 2; have f1 := blk_at hSw.1 3; have f2 := blk_at hSw.1 4; have f3 := blk_at hSw.2.2.2.1 1; have f4 := blk_at hSw.2.2.2.1 4; have f5 := blk_at hSw.2.1 num; have f6 := blk_frozen hSw.2.1 num; have f7 := blk_frozen hSw.1 4; have f8 := blk_at hSw.2.2.1 num; have f9 := blk_frozen hSw.2.2.1 num; clear f5; rw [hv] at f8; simp only [List.getElem?_cons_zero, List.getElem?_cons_succ] at f0 f1 f2 f3 f4; clear hSw; go_simp) <;> with_reducible rfl)
  (try simp only [Act.put, List.setIfInBounds_toArray, List.set_cons_zero, List.set_cons_succ])
  refine e_take (i := 1) (v := ?_) [2, 3, 7, 10] rfl (by kernel_rfl) (by kernel_rfl) (by kernel_rfl) (by kernel_rfl) (by exact fun _ _ _ h => h) (by rfl) ?_ hS ?_
  rotate_left
  · ((intro w hSw; have f0 := blk_at hSw.1 2; have f1 := blk_at hSw.1 3; have f2 := blk_at hSw.1 4; have f3 := blk_at hSw.2.2.2.1 1; have f4 := blk_at hSw.2.2.2.1 4; have f5 := blk_at hSw.2.1 num; have f6 := blk_frozen hSw.2.1 num; have f7 := blk_frozen hSw.1 4; have f8 := blk_at hSw.2.2.1 num; have f9 := blk_frozen hSw.2.2.1 num; clear f5; rw [hv] at f8; simp only [List.getElem?_cons_zero, List.getElem?_cons_succ] at f0 f1 f2 f3 f4; clear hSw; go_simp) <;> with_reducible rfl)
  (try simp only [Act.put, List.setIfInBounds_toArray, List.set_cons_zero, List.set_cons_succ])
  refine e_take (i := 2) (v := ?_) [3, 7, 10] rfl (by kernel_rfl) (by kernel_rfl) (by kernel_rfl) (by kernel_rfl) (by exact fun _ _ _ h => h) (by rfl) ?_ hS ?_
  rotate_left
  · ((intro w hSw; have f0 := blk_at hSw.1 2; have f1 := blk_at hSw.1 3; have f2 := blk_at hSw.1 4; have f3 := blk_at hSw.2.2.2.1 1; have f4 := blk_at hSw.2.2.2.1 4; have f5 := blk_at hSw.2.1 num; have f6 := blk_frozen hSw.2.1 num; have f7 := blk_frozen hSw.1 4; have f8 := blk_at hSw.2.2.1 num; have f9 := blk_frozen hSw.2.2.1 num; clear f5; rw [hv] at f8; simp only [List.getElem?_cons_zero, List.getElem?_cons_succ] at f0 f1 f2 f3 f4; clear hSw; go_simp) <;> with_reducible rfl)
  (try simp only [Act.put, List.setIfInBounds_toArray, List.set_cons_zero, List.set_cons_succ])
  refine e_take (i := 3) (v := ?_) [7, 10] rfl (by kernel_rfl) (by kernel_rfl) (by kernel_rfl) (by kernel_rfl) (by exact fun _ _ _ h => h) (by rfl) ?_ hS ?_
  rotate_left
  · ((intro w hSw; have f0 := blk_at hSw.1 2; have f1 := blk_at hSw.1 3; have f2 := blk_at hSw.1 4; have f3 := blk_at hSw.2.2.2.1 1; have f4 := blk_at hSw.2.2.2.1 4; have f5 := blk_at hSw.2.1 num; have f6 := blk_frozen hSw.2.1 num; have f7 := blk_frozen hSw.1 4; have f8 := blk_at hSw.2.2.1 num; have f9 := blk_frozen hSw.2.2.1 num; clear f5; rw [hv] at f8; simp only [List.getElem?_cons_zero, List.getElem?_cons_succ] at f0 f1 f2 f3 f4; clear hSw; go_simp) <;> with_reducible rfl)
  (try simp only [Act.put, List.setIfInBounds_toArray, List.set_cons_zero, List.set_cons_succ])
  refine e_take (i := 4) (v := ?_) [5, 6, 7, 10] rfl (by kernel_rfl) (by kernel_rfl) (by kernel_rfl) (by kernel_rfl) (by exact fun _ _ _ h => h) (by rfl) ?_ hS ?_
  rotate_left
  · ((intro w hSw; have f0 := blk_at hSw.1 2; have f1 := blk_at hSw.1 3; have f2 := blk_at hSw.1 4; have f3 := blk_at hSw.2.2.2.1 1; have f4 := blk_at hSw.2.2.2.1 4; have f5 := blk_at hSw.2.1 num; have f6 := blk_frozen hSw.2.1 num; have f7 := blk_frozen hSw.1 4; have f8 := blk_at hSw.2.2.1 num; have f9 := blk_frozen hSw.2.2.1 num; clear f5; rw [hv] at f8; simp only [List.getElem?_cons_zero, List.getElem?_cons_succ] at f0 f1 f2 f3 f4; clear hSw; go_simp) <;> with_reducible rfl)
  (try simp only [Act.put, List.setIfInBounds_toArray, List.set_cons_zero, List.set_cons_succ])
  refine e_take (i := 5) (v := ?_) [6, 7, 10] rfl (by kernel_rfl) (by kernel_rfl) (by kernel_rfl) (by kernel_rfl) (by exact fun _ _ _ h => h) (by rfl) ?_ hS ?_
  rotate_left
  · ((intro w hSw; have f0 := blk_at hSw.1 2; have f1 := blk_at hSw.1 3; have f2 := blk_at hSw.1 4; have f3 := blk_at hSw.2.2.2.1 1; have f4 := blk_at hSw.2.2.2.1 4; have f5 := blk_at hSw.2.1 num; have f6 := blk_frozen hSw.2.1 num; have f7 := blk_frozen hSw.1 4; have f8 := blk_at hSw.2.2.1 num; have f9 := blk_frozen hSw.2.2.1 num; clear f5; rw [hv] at f8; simp only [List.getElem?_cons_zero, List.getElem?_cons_succ] at f0 f1 f2 f3 f4; clear hSw; go_simp) <;> with_reducible rfl)
  (try simp only [Act.put, List.setIfInBounds_toArray, List.set_cons_zero, List.set_cons_succ])
  refine e_take (i := 6) (v := ?_) [7, 10] rfl (by kernel_rfl) (by kernel_rfl) (by kernel_rfl) (by kernel_rfl) (by exact fun _ _ _ h => h) (by rfl) ?_ hS ?_
  rotate_left
  · ((intro w hSw; have f0 := blk_at hSw.1 2; have f1 := blk_at hSw.1 3; have f2 := blk_at hSw.1 4; have f3 := blk_at hSw.2.2.2.1 1; have f4 := blk_at hSw.2.2.2.1 4; have f5 := blk_at hSw.2.1 num; have f6 := blk_frozen hSw.2.1 num; have f7 := blk_frozen hSw.1 4; have f8 := blk_at hSw.2.2.1 num; have f9 := blk_frozen hSw.2.2.1 num; clear f5; rw [hv] at f8; simp only [List.getElem?_cons_zero, List.getElem?_cons_succ] at f0 f1 f2 f3 f4; clear hSw; go_simp) <;> with_reducible rfl)
  (try simp only [Act.put, List.setIfInBounds_toArray, List.set_cons_zero, List.set_cons_succ])
  refine e_take (i := 7) (v := ?_) [10] rfl (by kernel_rfl) (by kernel_rfl) (by kernel_rfl) (by kernel_rfl) (by exact fun _ _ _ h => h) (by rfl) ?_ hS ?_
  rotate_left
  · ((intro w hSw; have f0 := blk_at hSw.1 2; have f1 := blk_at hSw.1 3; have f2 := blk_at hSw.1 4; have f3 := blk_at hSw.2.2.2.1 1; have f4 := blk_at hSw.2.2.2.1 4; have f5 := blk_at hSw.2.1 num; have f6 := blk_frozen hSw.2.1 num; have f7 := blk_frozen hSw.1 4; have f8 := blk_at hSw.2.2.1 num; have f9 := blk_frozen hSw.2.2.1 num; clear f5; rw [hv] at f8; simp only [List.getElem?_cons_zero, List.getElem?_cons_succ] at f0 f1 f2 f3 f4; clear hSw; go_simp) <;> with_reducible rfl)
  (try simp only [Act.put, List.setIfInBounds_toArray, List.set_cons_zero, List.set_cons_succ])
  refine e_take (i := 8) (v := ?_) [9, 10] rfl (by kernel_rfl) (by kernel_rfl) (by kernel_rfl) (by kernel_rfl) (by exact fun _ _ _ h => h) (by rfl) ?_ hS ?_
  rotate_left
  · ((intro w hSw; have f0 := blk_at hSw.1 2; have f1 := blk_at hSw.1 3; have f2 := blk_at hSw.1 4; have f3 := blk_at hSw.2.2.2.1 1; have f4 := blk_at hSw.2.2.2.1 4; have f5 := blk_at hSw.2.1 num; have f6 := blk_frozen hSw.2.1 num; have f7 := blk_frozen hSw.1 4; have f8 := blk_at hSw.2.2.1 num; have f9 := blk_frozen hSw.2.2.1 num; clear f5; rw [hv] at f8; simp only [List.getElem?_cons_zero, List.getElem?_cons_succ] at f0 f1 f2 f3 f4; clear hSw; go_simp) <;> with_reducible rfl)
  (try simp only [Act.put, List.setIfInBounds_toArray, List.set_cons_zero, List.set_cons_succ])
  refine e_take (i := 9) (v := ?_) [10] rfl (by kernel_rfl) (by kernel_rfl) (by kernel_rfl) (by kernel_rfl) (by exact fun _ _ _ h => h) (by rfl) ?_ hS ?_
  rotate_left
  · ((intro w hSw; have f0 := blk_at hSw.1 2; have f1 := blk_at hSw.1 3; have f2 := blk_at hSw.1 4; have f3 := blk_at hSw.2.2.2.1 1; have f4 := blk_at hSw.2.2.2.1 4; have f5 := blk_at hSw.2.1 num; have f6 := blk_frozen hSw.2.1 num; have f7 := blk_frozen hSw.1 4; have f8 := blk_at hSw.2.2.1 num; have f9 := blk_frozen hSw.2.2.1 num; clear f5; rw [hv] at f8; simp only [List.getElem?_cons_zero, List.getElem?_cons_succ] at f0 f1 f2 f3 f4; clear hSw; go_simp) <;> with_reducible rfl)
  (try simp only [Act.put, List.setIfInBounds_toArray, List.set_cons_zero, List.set_cons_succ])
  have HS : Hid _ := And.intro hS trivial
  have f0 := blk_at HS.out.1.1 2
  have f1 := blk_at HS.out.1.1 3
  have f2 := blk_at HS.out.1.1 4
  have f3 := blk_at HS.out.1.2.2.2.1 1
  have f4 := blk_at HS.out.1.2.2.2.1 4
  have f5 := blk_at HS.out.1.2.1 num
  have f6 := blk_frozen HS.out.1.2.1 num
  have f7 := blk_frozen HS.out.1.1 4
  have f8 := blk_at HS.out.1.2.2.1 num
  have f9 := blk_frozen HS.out.1.2.2.1 num
  clear f5
  rw [hv] at f8
  simp only [List.getElem?_cons_zero, List.getElem?_cons_succ] at f0 f1 f2 f3 f4
  clear hS
  refine e_last (z := 10) rfl (by kernel_rfl) (fun K hK => ?_)
  go_simp
  refine hK.out _ _ ?_
  clear hK K
  refine e_done (by kernel_rfl) ?_ _
  clear f0 f1 f2 f3 f4 f6 f7 f8 f9
  have H4n : Hid (Blk (w3.setCell ⟨g, 4, none⟩ (.int .i64 ((len : Int) + n))) g 67 [c0, c1, .slice (some ⟨t, 0, none⟩) N N, .slice (some ⟨d, 0, none⟩) N N, .int .i64 ((len : Int) + n), c5, c6, c7, c8, c9] ∧ Blk (w3.setCell ⟨g, 4, none⟩ (.int .i64 ((len : Int) + n))) t 4 (bs.set num (.bool true)) ∧ Blk (w3.setCell ⟨g, 4, none⟩ (.int .i64 ((len : Int) + n))) d 22 (vs) ∧ Blk (w3.setCell ⟨g, 4, none⟩ (.int .i64 ((len : Int) + n))) P 49 [.int .i64 id, .int .i64 num, .int .i64 cnt, .int .u32 s, .slice x n c] ∧ Turned (fun k => k = g ∨ k = t ∨ k = d) w (w3.setCell ⟨g, 4, none⟩ (.int .i64 ((len : Int) + n)))) := by
    have u := turned_set w3 g 4 (.int .i64 ((len : Int) + n))
    refine ⟨H3.out.1.set 4 _, H3.out.2.1.turned u ?_, H3.out.2.2.1.turned u ?_, H3.out.2.2.2.1.turned u ?_, H3.out.2.2.2.2.trans (u.mono (fun k e => .inl (.inl e)))⟩
    · exact blk_ne H3.out.2.1 H3.out.1 (by decide)
    · exact blk_ne H3.out.2.2.1 H3.out.1 (by decide)
    · exact blk_ne H3.out.2.2.2.1 H3.out.1 (by decide)
  have H4 : Hid (Blk (w3.setCell ⟨g, 4, none⟩ (.int .i64 ((len : Int) + n))).drew g 67 [c0, c1, .slice (some ⟨t, 0, none⟩) N N, .slice (some ⟨d, 0, none⟩) N N, .int .i64 ((len : Int) + n), c5, c6, c7, c8, c9] ∧ Blk (w3.setCell ⟨g, 4, none⟩ (.int .i64 ((len : Int) + n))).drew t 4 (bs.set num (.bool true)) ∧ Blk (w3.setCell ⟨g, 4, none⟩ (.int .i64 ((len : Int) + n))).drew d 22 (vs) ∧ Blk (w3.setCell ⟨g, 4, none⟩ (.int .i64 ((len : Int) + n))).drew P 49 [.int .i64 id, .int .i64 num, .int .i64 cnt, .int .u32 s, .slice x n c] ∧ Turned (fun k => k = g ∨ k = t ∨ k = d) w (w3.setCell ⟨g, 4, none⟩ (.int .i64 ((len : Int) + n))).drew) := ⟨H4n.out.1.laterB (Below.refl _ _).drew, H4n.out.2.1.laterB (Below.refl _ _).drew, H4n.out.2.2.1.laterB (Below.refl _ _).drew, H4n.out.2.2.2.1.laterB (Below.refl _ _).drew, H4n.out.2.2.2.2.trans (tnd6 (Below.refl _ _).drew)⟩
  clear H3 H4n
  have hwr : IntKind.i64.wrap ((len : Int) + n) = (len : Int) + n := by rw [IntKind.wrap_i64]; omega
  (try simp only [hwr])
  generalize (w3.setCell ⟨g, 4, none⟩ (.int .i64 ((len : Int) + n))).drew = w4 at *
  have f0 := blk_at H4.out.1 2
  have f1 := blk_at H4.out.1 3
  have f2 := blk_at H4.out.1 4
  have f3 := blk_at H4.out.2.2.2.1 1
  have f4 := blk_at H4.out.2.2.2.1 4
  have f5 := blk_at H4.out.2.1 num
  have f6 := blk_frozen H4.out.2.1 num
  have f7 := blk_frozen H4.out.1 4
  have f8 := blk_at H4.out.2.2.1 num
  have f9 := blk_frozen H4.out.2.2.1 num
  clear f5
  rw [hv] at f8
  simp only [List.getElem?_cons_zero, List.getElem?_cons_succ] at f0 f1 f2 f3 f4
  go_upto_region 6 with fail
  clear f0 f1 f2 f3 f4 f6 f7 f8 f9
  refine e_begin (S := fun W => Blk W g 67 [c0, c1, .slice (some ⟨t, 0, none⟩) N N, .slice (some ⟨d, 0, none⟩) N N, .int .i64 ((len : Int) + n), c5, c6, c7, c8, c9] ∧ Blk W t 4 (bs.set num (.bool true)) ∧ Blk W d 22 (vs) ∧ Blk W P 49 [.int .i64 id, .int .i64 num, .int .i64 cnt, .int .u32 s, .slice x n c] ∧ Turned (fun k => k = g ∨ k = t ∨ k = d) w W) 9 (by kernel_rfl) (⟨H4.out.1.laterB (Below.refl _ _).drew, H4.out.2.1.laterB (Below.refl _ _).drew, H4.out.2.2.1.laterB (Below.refl _ _).drew, H4.out.2.2.2.1.laterB (Below.refl _ _).drew, H4.out.2.2.2.2.trans (tnd6 (Below.refl _ _).drew)⟩) (fun hS => ?_)
  refine e_take (i := 0) (v := ?_) [1, 2, 3, 8, 9] rfl (by kernel_rfl) (by kernel_rfl) (by kernel_rfl) (by kernel_rfl) (by exact fun _ _ _ h => h) (by rfl) ?_ hS ?_
  rotate_left
  · ((intro w hSw; have f0 := blk_at hSw.1 2; have f1 := blk_at hSw.1 3; have f2 := blk_at hSw.1 4; have f3 := blk_at hSw.2.2.2.1 1; have f4 := blk_at hSw.2.2.2.1 4; have f5 := blk_at hSw.2.1 num; have f6 := blk_frozen hSw.2.1 num; have f7 := blk_frozen hSw.1 4; have f8 := blk_at hSw.2.2.1 num; have f9 := blk_frozen hSw.2.2.1 num; clear f5; rw [hv] at f8; simp only [List.getElem?_cons_zero, List.getElem?_cons_succ] at f0 f1 f2 f3 f4; clear hSw; go_simp) <;> with_reducible rfl)
  (try simp only [Act.put, List.setIfInBounds_toArray, List.set_cons_zero, List.set_cons_succ])
  refine e_take (i := 1) (v := ?_) [2, 3, 8, 9] rfl (by kernel_rfl) (by kernel_rfl) (by kernel_rfl) (by kernel_rfl) (by exact fun _ _ _ h => h) (by rfl) ?_ hS ?_
  rotate_left
  · ((intro w hSw; have f0 := blk_at hSw.1 2; have f1 := blk_at hSw.1 3; have f2 := blk_at hSw.1 4; have f3 := blk_at hSw.2.2.2.1 1; have f4 := blk_at hSw.2.2.2.1 4; have f5 := blk_at hSw.2.1 num; have f6 := blk_frozen hSw.2.1 num; have f7 := blk_frozen hSw.1 4; have f8 := blk_at hSw.2.2.1 num; have f9 := blk_frozen hSw.2.2.1 num; clear f5; rw [hv] at f8; simp only [List.getElem?_cons_zero, List.getElem?_cons_succ] at f0 f1 f2 f3 f4; clear hSw; go_simp) <;> with_reducible rfl)
  (try simp only [Act.put, List.setIfInBounds_toArray, List.set_cons_zero, List.set_cons_succ])
  refine e_take (i := 2) (v := ?_) [3, 8, 9] rfl (by kernel_rfl) (by kernel_rfl) (by kernel_rfl) (by kernel_rfl) (by exact fun _ _ _ h => h) (by rfl) ?_ hS ?_
  rotate_left
  · ((intro w hSw; have f0 := blk_at hSw.1 2; have f1 := blk_at hSw.1 3; have f2 := blk_at hSw.1 4; have f3 := blk_at hSw.2.2.2.1 1; have f4 := blk_at hSw.2.2.2.1 4; have f5 := blk_at hSw.2.1 num; have f6 := blk_frozen hSw.2.1 num; have f7 := blk_frozen hSw.1 4; have f8 := blk_at hSw.2.2.1 num; have f9 := blk_frozen hSw.2.2.1 num; clear f5; rw [hv] at f8; simp only [List.getElem?_cons_zero, List.getElem?_cons_succ] at f0 f1 f2 f3 f4; clear hSw; go_simp) <;> with_reducible rfl)
  (try simp only [Act.put, List.setIfInBounds_toArray, List.set_cons_zero, List.set_cons_succ])
  refine e_take (i := 3) (v := ?_) [8, 9] rfl (by kernel_rfl) (by kernel_rfl) (by kernel_rfl) (by kernel_rfl) (by exact fun _ _ _ h => h) (by rfl) ?_ hS ?_
  rotate_left
  · ((intro w hSw; have f0 := blk_at hSw.1 2; have f1 := blk_at hSw.1 3; have f2 := blk_at hSw.1 4; have f3 := blk_at hSw.2.2.2.1 1; have f4 := blk_at hSw.2.2.2.1 4; have f5 := blk_at hSw.2.1 num; have f6 := blk_frozen hSw.2.1 num; have f7 := blk_frozen hSw.1 4; have f8 := blk_at hSw.2.2.1 num; have f9 := blk_frozen hSw.2.2.1 num; clear f5; rw [hv] at f8; simp only [List.getElem?_cons_zero, List.getElem?_cons_succ] at f0 f1 f2 f3 f4; clear hSw; go_simp) <;> with_reducible rfl)
  (try simp only [Act.put, List.setIfInBounds_toArray, List.set_cons_zero, List.set_cons_succ])
  refine e_take (i := 4) (v := ?_) [5, 8, 9] rfl (by kernel_rfl) (by kernel_rfl) (by kernel_rfl) (by kernel_rfl) (by exact fun _ _ _ h => h) (by rfl) ?_ hS ?_
  rotate_left
  · ((intro w hSw; have f0 := blk_at hSw.1 2; have f1 := blk_at hSw.1 3; have f2 := blk_at hSw.1 4; have f3 := blk_at hSw.2.2.2.1 1; have f4 := blk_at hSw.2.2.2.1 4; have f5 := blk_at hSw.2.1 num; have f6 := blk_frozen hSw.2.1 num; have f7 := blk_frozen hSw.1 4; have f8 := blk_at hSw.2.2.1 num; have f9 := blk_frozen hSw.2.2.1 num; clear f5; rw [hv] at f8; simp only [List.getElem?_cons_zero, List.getElem?_cons_succ] at f0 f1 f2 f3 f4; clear hSw; go_simp) <;> with_reducible rfl)
  (try simp only [Act.put, List.setIfInBounds_toArray, List.set_cons_zero, List.set_cons_succ])
  refine e_take (i := 5) (v := ?_) [8, 9] rfl (by kernel_rfl) (by kernel_rfl) (by kernel_rfl) (by kernel_rfl) (by exact fun _ _ _ h => h) (by rfl) ?_ hS ?_
  rotate_left
  · ((intro w hSw; have f0 := blk_at hSw.1 2; have f1 := blk_at hSw.1 3; have f2 := blk_at hSw.1 4; have f3 := blk_at hSw.2.2.2.1 1; have f4 := blk_at hSw.2.2.2.1 4; have f5 := blk_at hSw.2.1 num; have f6 := blk_frozen hSw.2.1 num; have f7 := blk_frozen hSw.1 4; have f8 := blk_at hSw.2.2.1 num; have f9 := blk_frozen hSw.2.2.1 num; clear f5; rw [hv] at f8; simp only [List.getElem?_cons_zero, List.getElem?_cons_succ] at f0 f1 f2 f3 f4; clear hSw; go_simp) <;> with_reducible rfl)
  (try simp only [Act.put, List.setIfInBounds_toArray, List.set_cons_zero, List.set_cons_succ])
  refine e_take (i := 6) (v := ?_) [7, 9] rfl (by kernel_rfl) (by kernel_rfl) (by kernel_rfl) (by kernel_rfl) (by exact fun _ _ _ h => h) (by rfl) ?_ hS ?_
  rotate_left
  · ((intro w hSw; have f0 := blk_at hSw.1 2; have f1 := blk_at hSw.1 3; have f2 := blk_at hSw.1 4; have f3 := blk_at hSw.2.2.2.1 1; have f4 := blk_at hSw.2.2.2.1 4; have f5 := blk_at hSw.2.1 num; have f6 := blk_frozen hSw.2.1 num; have f7 := blk_frozen hSw.1 4; have f8 := blk_at hSw.2.2.1 num; have f9 := blk_frozen hSw.2.2.1 num; clear f5; rw [hv] at f8; simp only [List.getElem?_cons_zero, List.getElem?_cons_succ] at f0 f1 f2 f3 f4; clear hSw; go_simp) <;> with_reducible rfl)
  (try simp only [Act.put, List.setIfInBounds_toArray, List.set_cons_zero, List.set_cons_succ])
  refine e_take (i := 7) (v := ?_) [9] rfl (by kernel_rfl) (by kernel_rfl) (by kernel_rfl) (by kernel_rfl) (by exact fun _ _ _ h => h) (by rfl) ?_ hS ?_
  rotate_left
  · ((intro w hSw; have f0 := blk_at hSw.1 2; have f1 := blk_at hSw.1 3; have f2 := blk_at hSw.1 4; have f3 := blk_at hSw.2.2.2.1 1; have f4 := blk_at hSw.2.2.2.1 4; have f5 := blk_at hSw.2.1 num; have f6 := blk_frozen hSw.2.1 num; have f7 := blk_frozen hSw.1 4; have f8 := blk_at hSw.2.2.1 num; have f9 := blk_frozen hSw.2.2.1 num; clear f5; rw [hv] at f8; simp only [List.getElem?_cons_zero, List.getElem?_cons_succ] at f0 f1 f2 f3 f4; clear hSw; go_simp) <;> with_reducible rfl)
  (try simp only [Act.put, List.setIfInBounds_toArray, List.set_cons_zero, List.set_cons_succ])
  refine e_take (i := 8) (v := ?_) [9] rfl (by kernel_rfl) (by kernel_rfl) (by kernel_rfl) (by kernel_rfl) (by exact fun _ _ _ h => h) (by rfl) ?_ hS ?_
  rotate_left
  · ((intro w hSw; have f0 := blk_at hSw.1 2; have f1 := blk_at hSw.1 3; have f2 := blk_at hSw.1 4; have f3 := blk_at hSw.2.2.2.1 1; have f4 := blk_at hSw.2.2.2.1 4; have f5 := blk_at hSw.2.1 num; have f6 := blk_frozen hSw.2.1 num; have f7 := blk_frozen hSw.1 4; have f8 := blk_at hSw.2.2.1 num; have f9 := blk_frozen hSw.2.2.1 num; clear f5; rw [hv] at f8; simp only [List.getElem?_cons_zero, List.getElem?_cons_succ] at f0 f1 f2 f3 f4; clear hSw; go_simp) <;> with_reducible rfl)
  (try simp only [Act.put, List.setIfInBounds_toArray, List.set_cons_zero, List.set_cons_succ])
  have HS : Hid _ := And.intro hS trivial
  have f0 := blk_at HS.out.1.1 2
  have f1 := blk_at HS.out.1.1 3
  have f2 := blk_at HS.out.1.1 4
  have f3 := blk_at HS.out.1.2.2.2.1 1
  have f4 := blk_at HS.out.1.2.2.2.1 4
  have f5 := blk_at HS.out.1.2.1 num
  have f6 := blk_frozen HS.out.1.2.1 num
  have f7 := blk_frozen HS.out.1.1 4
  have f8 := blk_at HS.out.1.2.2.1 num
  have f9 := blk_frozen HS.out.1.2.2.1 num
  clear f5
  rw [hv] at f8
  simp only [List.getElem?_cons_zero, List.getElem?_cons_succ] at f0 f1 f2 f3 f4
  clear hS
  refine e_last (z := 9) rfl (by kernel_rfl) (fun K hK => ?_)
  go_simp
  refine hK.out _ _ ?_
  clear hK K
  refine e_done (by kernel_rfl) ?_ _
  clear f0 f1 f2 f3 f4 f6 f7 f8 f9
  have F0 : Hid (Blk (w4.setCell ⟨d, num, none⟩ (.slice x n c)) g 67 [c0, c1, .slice (some ⟨t, 0, none⟩) N N, .slice (some ⟨d, 0, none⟩) N N, .int .i64 ((len : Int) + n), c5, c6, c7, c8, c9] ∧ Blk (w4.setCell ⟨d, num, none⟩ (.slice x n c)) t 4 (bs.set num (.bool true)) ∧ Blk (w4.setCell ⟨d, num, none⟩ (.slice x n c)) d 22 (vs.set num (.slice x n c)) ∧ Turned (fun k => k = g ∨ k = t ∨ k = d) w (w4.setCell ⟨d, num, none⟩ (.slice x n c))) := by
    have u := turned_set w4 d num (.slice x n c)
    exact ⟨H4.out.1.turned u (blk_ne H4.out.1 H4.out.2.2.1 (by decide)), H4.out.2.1.turned u (blk_ne H4.out.2.1 H4.out.2.2.1 (by decide)), H4.out.2.2.1.set num _, H4.out.2.2.2.2.trans (u.mono (fun k e => .inl (.inr (.inr e))))⟩
  have F : Hid _ := And.intro (F0.out.1.laterB (Below.refl _ _).drew) (And.intro (F0.out.2.1.laterB (Below.refl _ _).drew) (And.intro (F0.out.2.2.1.laterB (Below.refl _ _).drew) (F0.out.2.2.2.trans (tnd6 (Below.refl _ _).drew))))
  clear H4 F0
  go_wp2
  go_end0
  exact ⟨rfl, F.out⟩
/-- a piece more -/
def setPc (m : CR) (i : Nat) (d : List (BitVec 8)) : CR := match m.ps[i]? with
  | some none => { m with ps := m.ps.set i (some d) }
  | _ => m
theorem lenOf_set (ps : List (Option (List (BitVec 8)))) (i : Nat) (d : List (BitVec 8)) (h : ps[i]? = some none) : lenOf (ps.set i (some d)) = lenOf ps + d.length := by
  induction ps generalizing i with
  | nil => simp at h
  | cons o ps ih =>
    cases i with
    | zero =>
      simp only [List.getElem?_cons_zero, Option.some.injEq] at h
      subst h
      simp [lenOf]
      omega
    | succ i =>
      have := ih i (by simpa using h)
      simp only [lenOf, List.set_cons_succ, List.map_cons, List.sum_cons] at this ⊢
      omega
theorem crPut_any (p : CPl) (m : CR) (id : Int) (i cnt : Nat) (s : Int) (x : Option Addr) (c : Nat) (l : List (BitVec 8)) (w : World) (h : (crOb p m).Ok w) (hi : i < m.ps.length) (hl : m.ps[i]? = some none → lenOf m.ps + l.length ≤ 65536) (ho : Own w 0 (.slice x l.length c) l) (hno : ∀ k, Value.ownBlock (.slice x l.length c) = some k → k ∉ (crOb p m).W) :
    Calls Try.prog 24 #[.pointer (some ⟨p.g, 0, none⟩), .agg #[.int .i64 id, .int .i64 i, .int .i64 cnt, .int .u32 s, .slice x l.length c]] w fun e w' => e = .returned (.tuple #[]) ∧ ∃ p', p'.g = p.g ∧ (crOb p' (setPc m i l)).Ok w' ∧ Turned (· ∈ (crOb p m).W) w w' ∧ (crOb p' (setPc m i l)).W = (crOb p m).W ∧ ∀ k ∈ (crOb p' (setPc m i l)).V, k ∈ (crOb p m).V ∨ Value.ownBlock (.slice x l.length c) = some k := by
  have hP := h.holds
  have hne : m.ps.length ≠ 0 := by omega
  have hG := hP.blk
  unfold CPl.tv CPl.dv at hG
  rw [if_neg hne, if_neg hne] at hG
  obtain ⟨v, hv, hvo⟩ := hP.each i m.ps[i] (List.getElem?_eq_getElem hi)
  have hbi : (m.ps.map isB)[i]? = some (isB m.ps[i]) := by rw [List.getElem?_map, List.getElem?_eq_getElem hi]; rfl
  rcases hpi : m.ps[i] with _ | d0
  · have hsi : m.ps[i]? = some none := by rw [List.getElem?_eq_getElem hi, hpi]
    have hM : setPc m i l = { m with ps := m.ps.set i (some l) } := by unfold setPc; rw [hsi]
    rw [hpi] at hbi
    refine (put_raw p.g p.t p.d m.ps.length i (lenOf m.ps) (m.ps.map isB) p.vs _ _ _ _ _ _ _ id cnt s x l.length c w hG (hP.there hne) (hP.data hne) hi v hv hbi (hl hsi)).mono ?_
    rintro e w' ⟨rfl, kG, kT, kD, kTu⟩
    have hW : ∀ k, k ∈ (crOb p m).W ↔ (k = p.g ∨ k = p.t ∨ k = p.d) := fun k => by
      simp only [crOb, if_neg hne, List.mem_cons, List.not_mem_nil, or_false]
    have hW2 : (crOb ⟨p.g, p.t, p.d, p.vs.set i (.slice x l.length c)⟩ (setPc m i l)).W = (crOb p m).W := by
      rw [hM]; simp only [crOb, List.length_set]
    have hT : Turned (· ∈ (crOb p m).W) w w' := kTu.mono (fun k e => (hW k).2 e)
    refine ⟨rfl, ⟨p.g, p.t, p.d, p.vs.set i (.slice x l.length c)⟩, rfl, crOb_ok ?_, hT, hW2, fun k hk => ?_⟩
    · rw [hM]
      refine ⟨?_, fun _ => ?_, fun _ => kD, by simp [hP.len], fun j o hj => ?_, hP.ad⟩
      · simp only [List.length_set]
        rw [lenOf_set _ _ _ hsi]
        unfold CPl.tv CPl.dv
        rw [if_neg hne, if_neg hne]
        rw [show ((lenOf m.ps + l.length : Nat) : Int) = (lenOf m.ps : Int) + l.length by omega]
        exact kG
      · rw [List.map_set]
        exact kT
      · by_cases hij : i = j
        · subst hij
          rw [List.getElem?_set_self hi] at hj
          cases hj
          exact ⟨_, List.getElem?_set_self (by rw [hP.len]; exact hi), ho.turned hT hno⟩
        · rw [List.getElem?_set_ne hij] at hj
          obtain ⟨u, hu, huo⟩ := hP.each j o hj
          refine ⟨u, by rw [List.getElem?_set_ne hij]; exact hu, huo.turned hT (fun k e hk => ?_)⟩
          exact h.apart k hk (List.mem_filterMap.2 ⟨u, List.mem_of_getElem? hu, e⟩)
    · obtain ⟨u, hu, e⟩ := List.mem_filterMap.1 hk
      rcases List.mem_or_eq_of_mem_set hu with hu | rfl
      · exact .inl (List.mem_filterMap.2 ⟨u, hu, e⟩)
      · exact .inr e
  · have hM : setPc m i l = m := by unfold setPc; rw [List.getElem?_eq_getElem hi, hpi]
    rw [hpi] at hbi
    refine (put_there p.g p.t p.d m.ps.length i (lenOf m.ps) (m.ps.map isB) p.vs _ _ _ _ _ _ _ id cnt s x l.length c w hG (hP.there hne) (hP.data hne) hi v hv hbi).mono ?_
    rintro e w' ⟨rfl, hB⟩
    rw [hM]
    exact ⟨rfl, p, rfl, h.later hB, tnd6 hB, rfl, fun k hk => .inl hk⟩
end Go.Proofs.Ytdagekciipfnoaa
