/- Add: a piece is taken. -/
import Derived.Test.YtgonglbgejaffaaXCk22
namespace Go.Proofs.Ytgonglbgejaffaa
open Go.RowKit
set_option linter.unusedVariables false
set_option linter.unusedSimpArgs false
set_option maxRecDepth 4000

theorem add_step2 {w w4 w7 : World} {o : Ob} {p1 p' : CQl} {m1 m' : CR} (h1 : Step w w4 o (cqOb p1 m1)) (hT : Turned (· ∈ (cqOb p1 m1).W) w4 w7) (hok : (cqOb p' m').Ok w7) (hW : ∀ k ∈ (cqOb p' m').W, k ∈ (cqOb p1 m1).W) (hV : ∀ k ∈ (cqOb p' m').V, k ∈ (cqOb p1 m1).V ∨ w.heap.size ≤ k) :
    Step w (w7.setCell ⟨p'.g, 5, none⟩ (.int .i64 (m'.ad + 1))) o (cqOb p' (addM m')) := by
  have u := turned_set w7 p'.g 5 (.int .i64 (m'.ad + 1))
  have hg : p'.g ∈ (cqOb p1 m1).W := hW _ (mem_cqW.2 (.inl rfl))
  have hT2 : Turned (· ∈ (cqOb p1 m1).W) w4 (w7.setCell ⟨p'.g, 5, none⟩ (.int .i64 (m'.ad + 1))) := hT.trans (u.mono (fun k e => .inl (by rw [e]; exact hg)))
  refine ⟨h1.turned.trans (hT2.mono (fun k e => h1.writes k e)), added_ok2 hok, fun k hk => h1.writes k (hW k hk), fun k hk => ?_⟩
  rcases hV k hk with e | e
  · exact h1.reads k e
  · exact .inr (.inr e)
set_option maxHeartbeats 8000000 in
theorem add_same2 (a : Option Addr) (cap : Nat) (l : List (BitVec 8)) (p : CQl) (m : CR) (w : World) (h : (cqOb p m).Ok w) (hcl : p.cl = false) (hle : l.length ≤ cap) (hr : Row w a l) (hn : a = none → cap = 0) (hlen : l.length ≤ 140737488351232) (hE : dcE l = 0) (id s : Int) (i cnt : Nat) (d : List (BitVec 8)) (hR : dcR l = (id, (i : Int), (cnt : Int), s, d)) (hid : m.id = id) (hs : m.s = s) (hps : m.ps.length = cnt) (hic : i < cnt) (hc2 : cnt ≤ 256) (hl0 : lenOf m.ps + d.length ≤ 1000000000000) (hadm0 : m.ad ≤ 1000000000) :
    Calls Try.prog 16 #[.pointer (some ⟨p.g, 0, none⟩), .slice a l.length cap] w fun e w' => e = .returned (.int .i64 0) ∧ ∃ p', p'.g = p.g ∧ p'.cl = false ∧ Step w w' (cqOb p m) (cqOb p' (addM (setPc m i d))) := by
  have HD : Hid _ := decode_any a cap l w hle hr hn hlen
  have hG := h.holds.blk
  rw [hcl] at hG
  have y9 := blk_at hG 9
  simp only [List.getElem?_cons_zero, List.getElem?_cons_succ] at y9
  rw [hE, hR] at HD
  dsimp only at HD
  clear hr hn
  obtain ⟨g, hg⟩ : ∃ g, g = p.g := ⟨_, rfl⟩
  go_enter Try.func16, Try.ntmps16
  go_wp2_with fail
  clear y9
  refine (Calls.mono HD.out) ?_
  rintro r w1 ⟨x, c, rfl, ho, b1⟩
  have b2 : Below w1.heap.size w1 (w1.alloc (.cells #[.int .i64 id, .int .i64 i, .int .i64 cnt, .int .u32 s, .slice x d.length c] 56)) := (Below.refl _ _).alloc (Nat.le_refl _) _
  have hP := Blk.new' w1 56 [.int .i64 id, .int .i64 i, .int .i64 cnt, .int .u32 s, .slice x d.length c]
  have hPW : w1.heap.size ∉ (cqOb p m).W := fun hk => by have := h.lt _ (.inl hk); have := b1.size; omega
  have K2 : Hid _ := And.intro (h.later (below_then b1 b2)) (And.intro (below_then b1 b2) (And.intro ((ho.later b2) : Own _ w.heap.size _ d) (And.intro hP (And.intro h hPW))))
  clear HD ho b1 b2 hP h hG hPW
  go_upto_region 8 with fail
  obtain ⟨P, hPe⟩ : ∃ P, P = w1.heap.size := ⟨_, rfl⟩
  rw [← hPe] at K2 ⊢
  generalize (w1.alloc (.cells #[.int .i64 id, .int .i64 i, .int .i64 cnt, .int .u32 s, .slice x d.length c] 56)) = w2 at *
  clear hPe
  obtain ⟨p1, hp1⟩ : ∃ p1, p1 = p := ⟨_, rfl⟩
  obtain ⟨m1, hm1⟩ : ∃ m1, m1 = m := ⟨_, rfl⟩
  have hadm : m1.ad ≤ 1000000000 := by rw [hm1]; exact hadm0
  have hl1 : lenOf m1.ps + d.length ≤ 1000000000000 := by rw [hm1]; exact hl0
  have q4 : (cqOb p m).Ok w2.drew := K2.out.1.later (Below.refl _ _).drew
  have K4 : Hid ((cqOb p1 m1).Ok w2.drew ∧ Step w w2.drew (cqOb p m) (cqOb p1 m1) ∧ Own w2.drew w.heap.size (.slice x d.length c) d ∧ Blk w2.drew P 56 [.int .i64 id, .int .i64 i, .int .i64 cnt, .int .u32 s, .slice x d.length c]) := by
    rw [hp1, hm1]
    exact ⟨q4, ⟨tnd6 (below_then K2.out.2.1 (Below.refl _ _).drew), q4, fun k hk => .inl hk, fun k hk => .inr (.inl hk)⟩, K2.out.2.2.1.later (Below.refl _ _).drew, K2.out.2.2.2.1.laterB (Below.refl _ _).drew⟩
  have e1 : m1.id = id ∧ m1.s = s ∧ m1.ps.length = cnt ∧ p1.g = g ∧ p1.cl = false := by rw [hm1, hp1]; exact ⟨hid, hs, hps, hg.symm, hcl⟩
  have hGs := K2.out.1.holds.blk
  obtain ⟨ta, hta⟩ := tv_is p m.ps.length
  rw [hta, hid, hs, hps, ← hg, hcl] at hGs
  have H2 : Hid _ := And.intro hGs K2.out.2.2.2.1
  rw [← hg]
  have HM : Hid _ := And.intro hm1 trivial
  have HGg : Hid _ := And.intro hg trivial
  have HE1 : Hid _ := And.intro e1 trivial
  clear hg e1
  clear K2 hps q4 hid hs hGs hl0 hadm0 hm1 hp1 hcl hta
  refine wp_region_held_drew (S := fun W => Blk W g 74 [.int .i64 id, .int .u32 s, .slice ta cnt cnt, p.dv m.ps, .int .i64 (lenOf m.ps), .int .i64 m.ad, p.c6, .int .i32 0, .int .u32 0, .bool false] ∧ Blk W P 56 [.int .i64 id, .int .i64 i, .int .i64 cnt, .int .u32 s, .slice x d.length c]) (by kernel_rfl) (⟨H2.out.1.laterB (Below.refl _ _).drew, H2.out.2.laterB (Below.refl _ _).drew⟩) (fun hS => ?_)
  refine any_take (i := 0) (v := ?_) rfl (by kernel_rfl) (by kernel_rfl) (by kernel_rfl) (by exact fun _ _ _ h => h) (by rfl) ?_ hS ?_
  rotate_left
  · ((intro w hSw; have y0 := blk_at hSw.1 0; have y1 := blk_at hSw.1 1; have y2 := blk_at hSw.1 2; have z0 := blk_at hSw.2 0; have z2 := blk_at hSw.2 2; have z3 := blk_at hSw.2 3; simp only [List.getElem?_cons_zero, List.getElem?_cons_succ] at y0 y1 y2 z0 z2 z3; clear hSw; go_simp) <;> with_reducible rfl)
  (try simp only [Act.put, List.setIfInBounds_toArray, List.set_cons_zero, List.set_cons_succ])
  refine any_take (i := 1) (v := ?_) rfl (by kernel_rfl) (by kernel_rfl) (by kernel_rfl) (by exact fun _ _ _ h => h) (by rfl) ?_ hS ?_
  rotate_left
  · ((intro w hSw; have y0 := blk_at hSw.1 0; have y1 := blk_at hSw.1 1; have y2 := blk_at hSw.1 2; have z0 := blk_at hSw.2 0; have z2 := blk_at hSw.2 2; have z3 := blk_at hSw.2 3; simp only [List.getElem?_cons_zero, List.getElem?_cons_succ] at y0 y1 y2 z0 z2 z3; clear hSw; go_simp) <;> with_reducible rfl)
  (try simp only [Act.put, List.setIfInBounds_toArray, List.set_cons_zero, List.set_cons_succ])
  refine any_take (i := 2) (v := ?_) rfl (by kernel_rfl) (by kernel_rfl) (by kernel_rfl) (by exact fun _ _ _ h => h) (by rfl) ?_ hS ?_
  rotate_left
  · ((intro w hSw; have y0 := blk_at hSw.1 0; have y1 := blk_at hSw.1 1; have y2 := blk_at hSw.1 2; have z0 := blk_at hSw.2 0; have z2 := blk_at hSw.2 2; have z3 := blk_at hSw.2 3; simp only [List.getElem?_cons_zero, List.getElem?_cons_succ] at y0 y1 y2 z0 z2 z3; clear hSw; go_simp) <;> with_reducible rfl)
  (try simp only [Act.put, List.setIfInBounds_toArray, List.set_cons_zero, List.set_cons_succ])
  refine any_take (i := 3) (v := ?_) rfl (by kernel_rfl) (by kernel_rfl) (by kernel_rfl) (by exact fun _ _ _ h => h) (by rfl) ?_ hS ?_
  rotate_left
  · ((intro w hSw; have y0 := blk_at hSw.1 0; have y1 := blk_at hSw.1 1; have y2 := blk_at hSw.1 2; have z0 := blk_at hSw.2 0; have z2 := blk_at hSw.2 2; have z3 := blk_at hSw.2 3; simp only [List.getElem?_cons_zero, List.getElem?_cons_succ] at y0 y1 y2 z0 z2 z3; clear hSw; go_simp) <;> with_reducible rfl)
  (try simp only [Act.put, List.setIfInBounds_toArray, List.set_cons_zero, List.set_cons_succ])
  refine any_take (i := 4) (v := ?_) rfl (by kernel_rfl) (by kernel_rfl) (by kernel_rfl) (by exact fun _ _ _ h => h) (by rfl) ?_ hS ?_
  rotate_left
  · ((intro w hSw; have y0 := blk_at hSw.1 0; have y1 := blk_at hSw.1 1; have y2 := blk_at hSw.1 2; have z0 := blk_at hSw.2 0; have z2 := blk_at hSw.2 2; have z3 := blk_at hSw.2 3; simp only [List.getElem?_cons_zero, List.getElem?_cons_succ] at y0 y1 y2 z0 z2 z3; clear hSw; go_simp) <;> with_reducible rfl)
  (try simp only [Act.put, List.setIfInBounds_toArray, List.set_cons_zero, List.set_cons_succ])
  refine any_take (i := 5) (v := ?_) rfl (by kernel_rfl) (by kernel_rfl) (by kernel_rfl) (by exact fun _ _ _ h => h) (by rfl) ?_ hS ?_
  rotate_left
  · ((intro w hSw; have y0 := blk_at hSw.1 0; have y1 := blk_at hSw.1 1; have y2 := blk_at hSw.1 2; have z0 := blk_at hSw.2 0; have z2 := blk_at hSw.2 2; have z3 := blk_at hSw.2 3; simp only [List.getElem?_cons_zero, List.getElem?_cons_succ] at y0 y1 y2 z0 z2 z3; clear hSw; go_simp) <;> with_reducible rfl)
  (try simp only [Act.put, List.setIfInBounds_toArray, List.set_cons_zero, List.set_cons_succ])
  refine any_take (i := 6) (v := ?_) rfl (by kernel_rfl) (by kernel_rfl) (by kernel_rfl) (by exact fun _ _ _ h => h) (by rfl) ?_ hS ?_
  rotate_left
  · ((intro w hSw; have y0 := blk_at hSw.1 0; have y1 := blk_at hSw.1 1; have y2 := blk_at hSw.1 2; have z0 := blk_at hSw.2 0; have z2 := blk_at hSw.2 2; have z3 := blk_at hSw.2 3; simp only [List.getElem?_cons_zero, List.getElem?_cons_succ] at y0 y1 y2 z0 z2 z3; clear hSw; go_simp) <;> with_reducible rfl)
  (try simp only [Act.put, List.setIfInBounds_toArray, List.set_cons_zero, List.set_cons_succ])
  refine wpAnyH_done (by kernel_rfl) ?_ _
  clear hS
  generalize w2.drew = w4 at *
  clear H2 ta
  have hm1 := HM.out.1
  have e1 := HE1.out.1
  have hGb := K4.out.1.holds.blk
  obtain ⟨ta, hta⟩ := tv_is p1 m1.ps.length
  rw [hta, e1.1, e1.2.1, e1.2.2.1, e1.2.2.2.1, e1.2.2.2.2] at hGb
  have HPut : Hid (∀ W, Below w4.heap.size w4 W → Calls Try.prog 37 #[.pointer (some ⟨g, 0, none⟩), .agg #[.int .i64 id, .int .i64 i, .int .i64 cnt, .int .u32 s, .slice x d.length c]] W fun e w' => e = .returned (.tuple #[]) ∧ ∃ p', p'.g = g ∧ p'.cl = false ∧ (cqOb p' (setPc m1 i d)).Ok w' ∧ Turned (· ∈ (cqOb p1 m1).W) w4 w' ∧ (∀ k ∈ (cqOb p' (setPc m1 i d)).W, k ∈ (cqOb p1 m1).W) ∧ ∀ k ∈ (cqOb p' (setPc m1 i d)).V, k ∈ (cqOb p1 m1).V ∨ w.heap.size ≤ k) := fun W hW => by
    have hok := K4.out.1.later hW
    have hown := K4.out.2.2.1.later hW
    have := cqPut_any p1 m1 id i cnt s x c d W hok (by rw [e1.2.2.1]; exact hic) hl1 (hown.lower (Nat.zero_le _)) (own_notW2 hok.holds hown)
    rw [e1.2.2.2.1] at this
    refine this.mono ?_
    rintro e w' ⟨rfl, p', q1, qc, q2, q3, q4, q5⟩
    refine ⟨rfl, p', q1, qc.trans e1.2.2.2.2, q2, (tnd6 hW).trans (q3.mono (fun k e => .inl e)), q4, fun k hk => (q5 k hk).imp (fun e => e) (fun e => ?_)⟩
    exact (World.ownsRow.lt hown k e).1
  have H4 : Hid _ := And.intro (And.intro hGb K4.out.2.2.2) (Below.refl w4.heap.size w4)
  have KS : Hid _ := And.intro K4.out.2.1 (And.intro (show (setPc m1 i d).ad = m1.ad from setPc_ad m1 i d) hm1)
  clear K4 hGb hta hl1 e1 hm1
  generalize p1.dv m1.ps = DV at *
  generalize p1.c6 = K6 at *
  generalize lenOf m1.ps = len at *
  obtain ⟨ad, had1⟩ : ∃ ad, ad = m1.ad := ⟨_, rfl⟩
  rw [← had1] at H4
  go_upto_region 10 with fail
  refine wp_region_held_drew (S := fun W => Blk W g 74 [.int .i64 id, .int .u32 s, .slice ta cnt cnt, DV, .int .i64 len, .int .i64 ad, K6, .int .i32 0, .int .u32 0, .bool false] ∧ Blk W P 56 [.int .i64 id, .int .i64 i, .int .i64 cnt, .int .u32 s, .slice x d.length c]) (by kernel_rfl) (⟨H4.out.1.1.laterB (Below.refl _ _).drew, H4.out.1.2.laterB (Below.refl _ _).drew⟩) (fun hS => ?_)
  refine any_take (i := 0) (v := ?_) rfl (by kernel_rfl) (by kernel_rfl) (by kernel_rfl) (by exact fun _ _ _ h => h) (by rfl) ?_ hS ?_
  rotate_left
  · ((intro w hSw; have y0 := blk_at hSw.1 0; have y1 := blk_at hSw.1 1; have y2 := blk_at hSw.1 2; have z0 := blk_at hSw.2 0; have z2 := blk_at hSw.2 2; have z3 := blk_at hSw.2 3; simp only [List.getElem?_cons_zero, List.getElem?_cons_succ] at y0 y1 y2 z0 z2 z3; clear hSw; go_simp) <;> with_reducible rfl)
  (try simp only [Act.put, List.setIfInBounds_toArray, List.set_cons_zero, List.set_cons_succ])
  refine any_take (i := 1) (v := ?_) rfl (by kernel_rfl) (by kernel_rfl) (by kernel_rfl) (by exact fun _ _ _ h => h) (by rfl) ?_ hS ?_
  rotate_left
  · ((intro w hSw; have y0 := blk_at hSw.1 0; have y1 := blk_at hSw.1 1; have y2 := blk_at hSw.1 2; have z0 := blk_at hSw.2 0; have z2 := blk_at hSw.2 2; have z3 := blk_at hSw.2 3; simp only [List.getElem?_cons_zero, List.getElem?_cons_succ] at y0 y1 y2 z0 z2 z3; clear hSw; go_simp) <;> with_reducible rfl)
  (try simp only [Act.put, List.setIfInBounds_toArray, List.set_cons_zero, List.set_cons_succ])
  refine any_take (i := 2) (v := ?_) rfl (by kernel_rfl) (by kernel_rfl) (by kernel_rfl) (by exact fun _ _ _ h => h) (by rfl) ?_ hS ?_
  rotate_left
  · ((intro w hSw; have y0 := blk_at hSw.1 0; have y1 := blk_at hSw.1 1; have y2 := blk_at hSw.1 2; have z0 := blk_at hSw.2 0; have z2 := blk_at hSw.2 2; have z3 := blk_at hSw.2 3; simp only [List.getElem?_cons_zero, List.getElem?_cons_succ] at y0 y1 y2 z0 z2 z3; clear hSw; go_simp) <;> with_reducible rfl)
  (try simp only [Act.put, List.setIfInBounds_toArray, List.set_cons_zero, List.set_cons_succ])
  refine any_take (i := 3) (v := ?_) rfl (by kernel_rfl) (by kernel_rfl) (by kernel_rfl) (by exact fun _ _ _ h => h) (by rfl) ?_ hS ?_
  rotate_left
  · ((intro w hSw; have y0 := blk_at hSw.1 0; have y1 := blk_at hSw.1 1; have y2 := blk_at hSw.1 2; have z0 := blk_at hSw.2 0; have z2 := blk_at hSw.2 2; have z3 := blk_at hSw.2 3; simp only [List.getElem?_cons_zero, List.getElem?_cons_succ] at y0 y1 y2 z0 z2 z3; clear hSw; go_simp) <;> with_reducible rfl)
  (try simp only [Act.put, List.setIfInBounds_toArray, List.set_cons_zero, List.set_cons_succ])
  refine any_take (i := 4) (v := ?_) rfl (by kernel_rfl) (by kernel_rfl) (by kernel_rfl) (by exact fun _ _ _ h => h) (by rfl) ?_ hS ?_
  rotate_left
  · ((intro w hSw; have y0 := blk_at hSw.1 0; have y1 := blk_at hSw.1 1; have y2 := blk_at hSw.1 2; have z0 := blk_at hSw.2 0; have z2 := blk_at hSw.2 2; have z3 := blk_at hSw.2 3; simp only [List.getElem?_cons_zero, List.getElem?_cons_succ] at y0 y1 y2 z0 z2 z3; clear hSw; go_simp) <;> with_reducible rfl)
  (try simp only [Act.put, List.setIfInBounds_toArray, List.set_cons_zero, List.set_cons_succ])
  refine any_take (i := 5) (v := ?_) rfl (by kernel_rfl) (by kernel_rfl) (by kernel_rfl) (by exact fun _ _ _ h => h) (by rfl) ?_ hS ?_
  rotate_left
  · ((intro w hSw; have y0 := blk_at hSw.1 0; have y1 := blk_at hSw.1 1; have y2 := blk_at hSw.1 2; have z0 := blk_at hSw.2 0; have z2 := blk_at hSw.2 2; have z3 := blk_at hSw.2 3; simp only [List.getElem?_cons_zero, List.getElem?_cons_succ] at y0 y1 y2 z0 z2 z3; clear hSw; go_simp) <;> with_reducible rfl)
  (try simp only [Act.put, List.setIfInBounds_toArray, List.set_cons_zero, List.set_cons_succ])
  refine any_take (i := 6) (v := ?_) rfl (by kernel_rfl) (by kernel_rfl) (by kernel_rfl) (by exact fun _ _ _ h => h) (by rfl) ?_ hS ?_
  rotate_left
  · ((intro w hSw; have y0 := blk_at hSw.1 0; have y1 := blk_at hSw.1 1; have y2 := blk_at hSw.1 2; have z0 := blk_at hSw.2 0; have z2 := blk_at hSw.2 2; have z3 := blk_at hSw.2 3; simp only [List.getElem?_cons_zero, List.getElem?_cons_succ] at y0 y1 y2 z0 z2 z3; clear hSw; go_simp) <;> with_reducible rfl)
  (try simp only [Act.put, List.setIfInBounds_toArray, List.set_cons_zero, List.set_cons_succ])
  refine wpAnyH_done (by kernel_rfl) ?_ _
  clear hS
  have H5 : Hid _ := And.intro (And.intro (H4.out.1.1.laterB (Below.refl _ _).drew) (H4.out.1.2.laterB (Below.refl _ _).drew)) (below_then H4.out.2 (Below.refl _ _).drew)
  generalize w4.drew = w5 at *
  clear H4
  go_upto_region 12 with fail
  refine wp_region_held_drew (S := fun W => Blk W g 74 [.int .i64 id, .int .u32 s, .slice ta cnt cnt, DV, .int .i64 len, .int .i64 ad, K6, .int .i32 0, .int .u32 0, .bool false] ∧ Blk W P 56 [.int .i64 id, .int .i64 i, .int .i64 cnt, .int .u32 s, .slice x d.length c]) (by kernel_rfl) (⟨H5.out.1.1.laterB (Below.refl _ _).drew, H5.out.1.2.laterB (Below.refl _ _).drew⟩) (fun hS => ?_)
  refine any_take (i := 0) (v := ?_) rfl (by kernel_rfl) (by kernel_rfl) (by kernel_rfl) (by exact fun _ _ _ h => h) (by rfl) ?_ hS ?_
  rotate_left
  · ((intro w hSw; have y0 := blk_at hSw.1 0; have y1 := blk_at hSw.1 1; have y2 := blk_at hSw.1 2; have z0 := blk_at hSw.2 0; have z2 := blk_at hSw.2 2; have z3 := blk_at hSw.2 3; simp only [List.getElem?_cons_zero, List.getElem?_cons_succ] at y0 y1 y2 z0 z2 z3; clear hSw; go_simp) <;> with_reducible rfl)
  (try simp only [Act.put, List.setIfInBounds_toArray, List.set_cons_zero, List.set_cons_succ])
  refine any_take (i := 1) (v := ?_) rfl (by kernel_rfl) (by kernel_rfl) (by kernel_rfl) (by exact fun _ _ _ h => h) (by rfl) ?_ hS ?_
  rotate_left
  · ((intro w hSw; have y0 := blk_at hSw.1 0; have y1 := blk_at hSw.1 1; have y2 := blk_at hSw.1 2; have z0 := blk_at hSw.2 0; have z2 := blk_at hSw.2 2; have z3 := blk_at hSw.2 3; simp only [List.getElem?_cons_zero, List.getElem?_cons_succ] at y0 y1 y2 z0 z2 z3; clear hSw; go_simp) <;> with_reducible rfl)
  (try simp only [Act.put, List.setIfInBounds_toArray, List.set_cons_zero, List.set_cons_succ])
  refine any_take (i := 2) (v := ?_) rfl (by kernel_rfl) (by kernel_rfl) (by kernel_rfl) (by exact fun _ _ _ h => h) (by rfl) ?_ hS ?_
  rotate_left
  · ((intro w hSw; have y0 := blk_at hSw.1 0; have y1 := blk_at hSw.1 1; have y2 := blk_at hSw.1 2; have z0 := blk_at hSw.2 0; have z2 := blk_at hSw.2 2; have z3 := blk_at hSw.2 3; simp only [List.getElem?_cons_zero, List.getElem?_cons_succ] at y0 y1 y2 z0 z2 z3; clear hSw; go_simp) <;> with_reducible rfl)
  (try simp only [Act.put, List.setIfInBounds_toArray, List.set_cons_zero, List.set_cons_succ])
  refine any_take (i := 3) (v := ?_) rfl (by kernel_rfl) (by kernel_rfl) (by kernel_rfl) (by exact fun _ _ _ h => h) (by rfl) ?_ hS ?_
  rotate_left
  · ((intro w hSw; have y0 := blk_at hSw.1 0; have y1 := blk_at hSw.1 1; have y2 := blk_at hSw.1 2; have z0 := blk_at hSw.2 0; have z2 := blk_at hSw.2 2; have z3 := blk_at hSw.2 3; simp only [List.getElem?_cons_zero, List.getElem?_cons_succ] at y0 y1 y2 z0 z2 z3; clear hSw; go_simp) <;> with_reducible rfl)
  (try simp only [Act.put, List.setIfInBounds_toArray, List.set_cons_zero, List.set_cons_succ])
  refine any_take (i := 4) (v := ?_) rfl (by kernel_rfl) (by kernel_rfl) (by kernel_rfl) (by exact fun _ _ _ h => h) (by rfl) ?_ hS ?_
  rotate_left
  · ((intro w hSw; have y0 := blk_at hSw.1 0; have y1 := blk_at hSw.1 1; have y2 := blk_at hSw.1 2; have z0 := blk_at hSw.2 0; have z2 := blk_at hSw.2 2; have z3 := blk_at hSw.2 3; simp only [List.getElem?_cons_zero, List.getElem?_cons_succ] at y0 y1 y2 z0 z2 z3; clear hSw; go_simp) <;> with_reducible rfl)
  (try simp only [Act.put, List.setIfInBounds_toArray, List.set_cons_zero, List.set_cons_succ])
  refine any_take (i := 5) (v := ?_) rfl (by kernel_rfl) (by kernel_rfl) (by kernel_rfl) (by exact fun _ _ _ h => h) (by rfl) ?_ hS ?_
  rotate_left
  · ((intro w hSw; have y0 := blk_at hSw.1 0; have y1 := blk_at hSw.1 1; have y2 := blk_at hSw.1 2; have z0 := blk_at hSw.2 0; have z2 := blk_at hSw.2 2; have z3 := blk_at hSw.2 3; simp only [List.getElem?_cons_zero, List.getElem?_cons_succ] at y0 y1 y2 z0 z2 z3; clear hSw; go_simp) <;> with_reducible rfl)
  (try simp only [Act.put, List.setIfInBounds_toArray, List.set_cons_zero, List.set_cons_succ])
  refine any_take (i := 6) (v := ?_) rfl (by kernel_rfl) (by kernel_rfl) (by kernel_rfl) (by exact fun _ _ _ h => h) (by rfl) ?_ hS ?_
  rotate_left
  · ((intro w hSw; have y0 := blk_at hSw.1 0; have y1 := blk_at hSw.1 1; have y2 := blk_at hSw.1 2; have z0 := blk_at hSw.2 0; have z2 := blk_at hSw.2 2; have z3 := blk_at hSw.2 3; simp only [List.getElem?_cons_zero, List.getElem?_cons_succ] at y0 y1 y2 z0 z2 z3; clear hSw; go_simp) <;> with_reducible rfl)
  (try simp only [Act.put, List.setIfInBounds_toArray, List.set_cons_zero, List.set_cons_succ])
  refine any_take (i := 7) (v := ?_) rfl (by kernel_rfl) (by kernel_rfl) (by kernel_rfl) (by exact fun _ _ _ h => h) (by rfl) ?_ hS ?_
  rotate_left
  · ((intro w hSw; have y0 := blk_at hSw.1 0; have y1 := blk_at hSw.1 1; have y2 := blk_at hSw.1 2; have z0 := blk_at hSw.2 0; have z2 := blk_at hSw.2 2; have z3 := blk_at hSw.2 3; simp only [List.getElem?_cons_zero, List.getElem?_cons_succ] at y0 y1 y2 z0 z2 z3; clear hSw; go_simp) <;> with_reducible rfl)
  (try simp only [Act.put, List.setIfInBounds_toArray, List.set_cons_zero, List.set_cons_succ])
  refine any_take (i := 8) (v := ?_) rfl (by kernel_rfl) (by kernel_rfl) (by kernel_rfl) (by exact fun _ _ _ h => h) (by rfl) ?_ hS ?_
  rotate_left
  · ((intro w hSw; have y0 := blk_at hSw.1 0; have y1 := blk_at hSw.1 1; have y2 := blk_at hSw.1 2; have z0 := blk_at hSw.2 0; have z2 := blk_at hSw.2 2; have z3 := blk_at hSw.2 3; simp only [List.getElem?_cons_zero, List.getElem?_cons_succ] at y0 y1 y2 z0 z2 z3; clear hSw; go_simp) <;> with_reducible rfl)
  (try simp only [Act.put, List.setIfInBounds_toArray, List.set_cons_zero, List.set_cons_succ])
  refine any_take (i := 9) (v := ?_) rfl (by kernel_rfl) (by kernel_rfl) (by kernel_rfl) (by exact fun _ _ _ h => h) (by rfl) ?_ hS ?_
  rotate_left
  · ((intro w hSw; have y0 := blk_at hSw.1 0; have y1 := blk_at hSw.1 1; have y2 := blk_at hSw.1 2; have z0 := blk_at hSw.2 0; have z2 := blk_at hSw.2 2; have z3 := blk_at hSw.2 3; simp only [List.getElem?_cons_zero, List.getElem?_cons_succ] at y0 y1 y2 z0 z2 z3; clear hSw; go_simp) <;> with_reducible rfl)
  (try simp only [Act.put, List.setIfInBounds_toArray, List.set_cons_zero, List.set_cons_succ])
  refine any_take (i := 10) (v := ?_) rfl (by kernel_rfl) (by kernel_rfl) (by kernel_rfl) (by exact fun _ _ _ h => h) (by rfl) ?_ hS ?_
  rotate_left
  · ((intro w hSw; have y0 := blk_at hSw.1 0; have y1 := blk_at hSw.1 1; have y2 := blk_at hSw.1 2; have z0 := blk_at hSw.2 0; have z2 := blk_at hSw.2 2; have z3 := blk_at hSw.2 3; simp only [List.getElem?_cons_zero, List.getElem?_cons_succ] at y0 y1 y2 z0 z2 z3; clear hSw; go_simp) <;> with_reducible rfl)
  (try simp only [Act.put, List.setIfInBounds_toArray, List.set_cons_zero, List.set_cons_succ])
  refine any_take (i := 11) (v := ?_) rfl (by kernel_rfl) (by kernel_rfl) (by kernel_rfl) (by exact fun _ _ _ h => h) (by rfl) ?_ hS ?_
  rotate_left
  · ((intro w hSw; have y0 := blk_at hSw.1 0; have y1 := blk_at hSw.1 1; have y2 := blk_at hSw.1 2; have z0 := blk_at hSw.2 0; have z2 := blk_at hSw.2 2; have z3 := blk_at hSw.2 3; simp only [List.getElem?_cons_zero, List.getElem?_cons_succ] at y0 y1 y2 z0 z2 z3; clear hSw; go_simp) <;> with_reducible rfl)
  (try simp only [Act.put, List.setIfInBounds_toArray, List.set_cons_zero, List.set_cons_succ])
  refine any_take (i := 12) (v := ?_) rfl (by kernel_rfl) (by kernel_rfl) (by kernel_rfl) (by exact fun _ _ _ h => h) (by rfl) ?_ hS ?_
  rotate_left
  · ((intro w hSw; have y0 := blk_at hSw.1 0; have y1 := blk_at hSw.1 1; have y2 := blk_at hSw.1 2; have z0 := blk_at hSw.2 0; have z2 := blk_at hSw.2 2; have z3 := blk_at hSw.2 3; simp only [List.getElem?_cons_zero, List.getElem?_cons_succ] at y0 y1 y2 z0 z2 z3; clear hSw; go_simp) <;> with_reducible rfl)
  (try simp only [Act.put, List.setIfInBounds_toArray, List.set_cons_zero, List.set_cons_succ])
  refine any_take (i := 13) (v := ?_) rfl (by kernel_rfl) (by kernel_rfl) (by kernel_rfl) (by exact fun _ _ _ h => h) (by rfl) ?_ hS ?_
  rotate_left
  · ((intro w hSw; have y0 := blk_at hSw.1 0; have y1 := blk_at hSw.1 1; have y2 := blk_at hSw.1 2; have z0 := blk_at hSw.2 0; have z2 := blk_at hSw.2 2; have z3 := blk_at hSw.2 3; simp only [List.getElem?_cons_zero, List.getElem?_cons_succ] at y0 y1 y2 z0 z2 z3; clear hSw; go_simp) <;> with_reducible rfl)
  (try simp only [Act.put, List.setIfInBounds_toArray, List.set_cons_zero, List.set_cons_succ])
  refine any_take (i := 14) (v := ?_) rfl (by kernel_rfl) (by kernel_rfl) (by kernel_rfl) (by exact fun _ _ _ h => h) (by rfl) ?_ hS ?_
  rotate_left
  · ((intro w hSw; have y0 := blk_at hSw.1 0; have y1 := blk_at hSw.1 1; have y2 := blk_at hSw.1 2; have z0 := blk_at hSw.2 0; have z2 := blk_at hSw.2 2; have z3 := blk_at hSw.2 3; simp only [List.getElem?_cons_zero, List.getElem?_cons_succ] at y0 y1 y2 z0 z2 z3; clear hSw; go_simp) <;> with_reducible rfl)
  (try simp only [Act.put, List.setIfInBounds_toArray, List.set_cons_zero, List.set_cons_succ])
  refine any_take (i := 15) (v := ?_) rfl (by kernel_rfl) (by kernel_rfl) (by kernel_rfl) (by exact fun _ _ _ h => h) (by rfl) ?_ hS ?_
  rotate_left
  · ((intro w hSw; have y0 := blk_at hSw.1 0; have y1 := blk_at hSw.1 1; have y2 := blk_at hSw.1 2; have z0 := blk_at hSw.2 0; have z2 := blk_at hSw.2 2; have z3 := blk_at hSw.2 3; simp only [List.getElem?_cons_zero, List.getElem?_cons_succ] at y0 y1 y2 z0 z2 z3; clear hSw; go_simp) <;> with_reducible rfl)
  (try simp only [Act.put, List.setIfInBounds_toArray, List.set_cons_zero, List.set_cons_succ])
  refine any_take (i := 16) (v := ?_) rfl (by kernel_rfl) (by kernel_rfl) (by kernel_rfl) (by exact fun _ _ _ h => h) (by rfl) ?_ hS ?_
  rotate_left
  · ((intro w hSw; have y0 := blk_at hSw.1 0; have y1 := blk_at hSw.1 1; have y2 := blk_at hSw.1 2; have z0 := blk_at hSw.2 0; have z2 := blk_at hSw.2 2; have z3 := blk_at hSw.2 3; simp only [List.getElem?_cons_zero, List.getElem?_cons_succ] at y0 y1 y2 z0 z2 z3; clear hSw; go_simp) <;> with_reducible rfl)
  (try simp only [Act.put, List.setIfInBounds_toArray, List.set_cons_zero, List.set_cons_succ])
  refine wpAnyH_done (by kernel_rfl) ?_ _
  clear hS
  have H6 : Hid _ := And.intro (H5.out.1.2.laterB (Below.refl _ _).drew) (below_then H5.out.2 (Below.refl _ _).drew)
  generalize w5.drew = w6 at *
  clear H5
  have z0 := blk_at H6.out.1 0
  have z1 := blk_at H6.out.1 1
  have z2 := blk_at H6.out.1 2
  have z3 := blk_at H6.out.1 3
  have z4 := blk_at H6.out.1 4
  simp only [List.getElem?_cons_zero, List.getElem?_cons_succ] at z0 z1 z2 z3 z4
  have NP : Hid _ := HPut.out _ H6.out.2
  clear HPut
  go_wp2_with fail
  clear z0 z1 z2 z3 z4 H6
  refine (Calls.mono NP.out) ?_
  rintro e w7 ⟨rfl, p', q1, qc, q2, q3, q4, q5⟩
  clear NP
  have y5 := blk_at q2.holds.blk 5
  have y6 := blk_frozen q2.holds.blk 5
  simp only [List.getElem?_cons_zero, List.getElem?_cons_succ] at y5
  rw [KS.out.2.1, ← had1] at y5
  rw [q1] at y5 y6
  have hno := q2.holds.ad
  rw [KS.out.2.1, ← had1] at hno
  have hbad : ad ≤ 1000000000 := by rw [had1]; exact hadm
  have NA : Hid _ := atAdd_any g 5 ad w7 y5 y6 ⟨hno, hbad⟩
  have F : Hid _ := add_step2 KS.out.1 q3 q2 q4 q5
  rw [q1, KS.out.2.1, ← had1] at F
  have F2 : Hid _ := And.intro q1 (And.intro F.out qc)
  clear y5 y6 F q3 q4 q5 hno hbad had1 qc
  go_wp2_with fail
  refine (Calls.mono NA.out) ?_
  rintro e _ ⟨rfl, rfl⟩
  clear NA
  go_wp2
  go_ret
  exact ⟨rfl, p', by rw [F2.out.1]; exact HGg.out.1, F2.out.2.2, by have := F2.out.2.1; rw [KS.out.2.2] at this; exact this⟩

set_option maxHeartbeats 8000000 in
theorem add_new2 (a : Option Addr) (cap : Nat) (l : List (BitVec 8)) (p : CQl) (m : CR) (w : World) (h : (cqOb p m).Ok w) (hcl : p.cl = false) (hle : l.length ≤ cap) (hr : Row w a l) (hn : a = none → cap = 0) (hlen : l.length ≤ 140737488351232) (hE : dcE l = 0) (id s : Int) (i cnt : Nat) (d : List (BitVec 8)) (hR : dcR l = (id, (i : Int), (cnt : Int), s, d)) (hid : m.id < id) (hic : i < cnt) (hc2 : cnt ≤ 256) (hl0 : d.length ≤ 65536) (hadm0 : m.ad ≤ 1000000000) :
    Calls Try.prog 16 #[.pointer (some ⟨p.g, 0, none⟩), .slice a l.length cap] w fun e w' => e = .returned (.int .i64 0) ∧ ∃ p', p'.g = p.g ∧ p'.cl = false ∧ Step w w' (cqOb p m) (cqOb p' (addM (setPc (begM m id s cnt) i d))) := by
  have HD : Hid _ := decode_any a cap l w hle hr hn hlen
  have hG := h.holds.blk
  rw [hcl] at hG
  have y9 := blk_at hG 9
  simp only [List.getElem?_cons_zero, List.getElem?_cons_succ] at y9
  rw [hE, hR] at HD
  dsimp only at HD
  clear hr hn
  obtain ⟨g, hg⟩ : ∃ g, g = p.g := ⟨_, rfl⟩
  go_enter Try.func16, Try.ntmps16
  go_wp2_with fail
  clear y9
  refine (Calls.mono HD.out) ?_
  rintro r w1 ⟨x, c, rfl, ho, b1⟩
  have b2 : Below w1.heap.size w1 (w1.alloc (.cells #[.int .i64 id, .int .i64 i, .int .i64 cnt, .int .u32 s, .slice x d.length c] 56)) := (Below.refl _ _).alloc (Nat.le_refl _) _
  have hP := Blk.new' w1 56 [.int .i64 id, .int .i64 i, .int .i64 cnt, .int .u32 s, .slice x d.length c]
  have hPW : w1.heap.size ∉ (cqOb p m).W := fun hk => by have := h.lt _ (.inl hk); have := b1.size; omega
  have K2 : Hid _ := And.intro (h.later (below_then b1 b2)) (And.intro (below_then b1 b2) (And.intro ((ho.later b2) : Own _ w.heap.size _ d) (And.intro hP (And.intro h hPW))))
  clear HD ho b1 b2 hP h hG hPW
  go_upto_region 8 with fail
  obtain ⟨P, hPe⟩ : ∃ P, P = w1.heap.size := ⟨_, rfl⟩
  rw [← hPe] at K2 ⊢
  generalize (w1.alloc (.cells #[.int .i64 id, .int .i64 i, .int .i64 cnt, .int .u32 s, .slice x d.length c] 56)) = w2 at *
  clear hPe
  have HBe : Hid (∀ W, Below w2.heap.size w2 W → Calls Try.prog 36 #[.pointer (some ⟨g, 0, none⟩), .agg #[.int .i64 id, .int .i64 i, .int .i64 cnt, .int .u32 s, .slice x d.length c]] W fun e w' => e = .returned (.tuple #[]) ∧ ∃ p1, p1.g = g ∧ p1.cl = false ∧ (cqOb p1 (begM m id s cnt)).Ok w' ∧ Step w w' (cqOb p m) (cqOb p1 (begM m id s cnt)) ∧ Own w' w.heap.size (.slice x d.length c) d ∧ Blk w' P 56 [.int .i64 id, .int .i64 i, .int .i64 cnt, .int .u32 s, .slice x d.length c]) := fun W hW => by
    have hok := K2.out.1.later hW
    have := cqBegin_any p m id i cnt s x d.length c W hok ⟨by omega, hc2⟩
    rw [← hg] at this
    refine this.mono ?_
    rintro e w' ⟨rfl, p1, q1, qc, q2⟩
    refine ⟨rfl, p1, q1, qc.trans hcl, q2.ok, ⟨(tnd6 (below_then K2.out.2.1 hW)).trans (q2.turned.mono (fun k e => .inl e)), q2.ok, fun k hk => (q2.writes k hk).imp (fun e => e) (fun e => ?_), fun k hk => (q2.reads k hk).imp (fun e => e) (fun e => e.imp (fun e => e) (fun e => ?_))⟩, (K2.out.2.2.1.later hW).turned q2.turned (own_notW2 hok.holds (K2.out.2.2.1.later hW)), (K2.out.2.2.2.1.laterB hW).turned q2.turned K2.out.2.2.2.2.2⟩
    · have := (below_then K2.out.2.1 hW).size; omega
    · have := (below_then K2.out.2.1 hW).size; omega
  have hGs := K2.out.1.holds.blk
  obtain ⟨ta, hta⟩ := tv_is p m.ps.length
  rw [hta, ← hg, hcl] at hGs
  have H2 : Hid _ := And.intro (And.intro hGs K2.out.2.2.2.1) (Below.refl w2.heap.size w2)
  rw [← hg]
  obtain ⟨m1, hm1⟩ : ∃ m1, m1 = begM m id s cnt := ⟨_, rfl⟩
  rw [← hm1] at HBe
  have hadm : m1.ad ≤ 1000000000 := by rw [hm1]; exact hadm0
  have hl1 : lenOf m1.ps + d.length ≤ 1000000000000 := by rw [hm1, show lenOf (begM m id s cnt).ps = 0 from lenOf_none cnt]; omega
  have e0 : m1.id = id ∧ m1.s = s ∧ m1.ps.length = cnt := by rw [hm1]; exact ⟨rfl, rfl, by simp [begM]⟩
  have HM : Hid _ := And.intro hm1 e0
  have HGg : Hid _ := And.intro hg trivial
  clear hg
  clear K2 hm1 e0 hadm0 hGs hta
  generalize m.ps.length = N at H2
  generalize m.id = mid at H2 hid
  generalize m.s = ms at H2
  refine wp_region_held_drew (S := fun W => Blk W g 74 [.int .i64 mid, .int .u32 ms, .slice ta N N, p.dv m.ps, .int .i64 (lenOf m.ps), .int .i64 m.ad, p.c6, .int .i32 0, .int .u32 0, .bool false] ∧ Blk W P 56 [.int .i64 id, .int .i64 i, .int .i64 cnt, .int .u32 s, .slice x d.length c]) (by kernel_rfl) (⟨H2.out.1.1.laterB (Below.refl _ _).drew, H2.out.1.2.laterB (Below.refl _ _).drew⟩) (fun hS => ?_)
  refine any_take (i := 0) (v := ?_) rfl (by kernel_rfl) (by kernel_rfl) (by kernel_rfl) (by exact fun _ _ _ h => h) (by rfl) ?_ hS ?_
  rotate_left
  · ((intro w hSw; have y0 := blk_at hSw.1 0; have y1 := blk_at hSw.1 1; have y2 := blk_at hSw.1 2; have z0 := blk_at hSw.2 0; have z2 := blk_at hSw.2 2; have z3 := blk_at hSw.2 3; simp only [List.getElem?_cons_zero, List.getElem?_cons_succ] at y0 y1 y2 z0 z2 z3; clear hSw; go_simp) <;> with_reducible rfl)
  (try simp only [Act.put, List.setIfInBounds_toArray, List.set_cons_zero, List.set_cons_succ])
  refine any_take (i := 1) (v := ?_) rfl (by kernel_rfl) (by kernel_rfl) (by kernel_rfl) (by exact fun _ _ _ h => h) (by rfl) ?_ hS ?_
  rotate_left
  · ((intro w hSw; have y0 := blk_at hSw.1 0; have y1 := blk_at hSw.1 1; have y2 := blk_at hSw.1 2; have z0 := blk_at hSw.2 0; have z2 := blk_at hSw.2 2; have z3 := blk_at hSw.2 3; simp only [List.getElem?_cons_zero, List.getElem?_cons_succ] at y0 y1 y2 z0 z2 z3; clear hSw; go_simp) <;> with_reducible rfl)
  (try simp only [Act.put, List.setIfInBounds_toArray, List.set_cons_zero, List.set_cons_succ])
  refine any_take (i := 2) (v := ?_) rfl (by kernel_rfl) (by kernel_rfl) (by kernel_rfl) (by exact fun _ _ _ h => h) (by rfl) ?_ hS ?_
  rotate_left
  · ((intro w hSw; have y0 := blk_at hSw.1 0; have y1 := blk_at hSw.1 1; have y2 := blk_at hSw.1 2; have z0 := blk_at hSw.2 0; have z2 := blk_at hSw.2 2; have z3 := blk_at hSw.2 3; simp only [List.getElem?_cons_zero, List.getElem?_cons_succ] at y0 y1 y2 z0 z2 z3; clear hSw; go_simp) <;> with_reducible rfl)
  (try simp only [Act.put, List.setIfInBounds_toArray, List.set_cons_zero, List.set_cons_succ])
  refine any_take (i := 3) (v := ?_) rfl (by kernel_rfl) (by kernel_rfl) (by kernel_rfl) (by exact fun _ _ _ h => h) (by rfl) ?_ hS ?_
  rotate_left
  · ((intro w hSw; have y0 := blk_at hSw.1 0; have y1 := blk_at hSw.1 1; have y2 := blk_at hSw.1 2; have z0 := blk_at hSw.2 0; have z2 := blk_at hSw.2 2; have z3 := blk_at hSw.2 3; simp only [List.getElem?_cons_zero, List.getElem?_cons_succ] at y0 y1 y2 z0 z2 z3; clear hSw; go_simp) <;> with_reducible rfl)
  (try simp only [Act.put, List.setIfInBounds_toArray, List.set_cons_zero, List.set_cons_succ])
  refine any_take (i := 4) (v := ?_) rfl (by kernel_rfl) (by kernel_rfl) (by kernel_rfl) (by exact fun _ _ _ h => h) (by rfl) ?_ hS ?_
  rotate_left
  · ((intro w hSw; have y0 := blk_at hSw.1 0; have y1 := blk_at hSw.1 1; have y2 := blk_at hSw.1 2; have z0 := blk_at hSw.2 0; have z2 := blk_at hSw.2 2; have z3 := blk_at hSw.2 3; simp only [List.getElem?_cons_zero, List.getElem?_cons_succ] at y0 y1 y2 z0 z2 z3; clear hSw; go_simp) <;> with_reducible rfl)
  (try simp only [Act.put, List.setIfInBounds_toArray, List.set_cons_zero, List.set_cons_succ])
  refine any_take (i := 5) (v := ?_) rfl (by kernel_rfl) (by kernel_rfl) (by kernel_rfl) (by exact fun _ _ _ h => h) (by rfl) ?_ hS ?_
  rotate_left
  · ((intro w hSw; have y0 := blk_at hSw.1 0; have y1 := blk_at hSw.1 1; have y2 := blk_at hSw.1 2; have z0 := blk_at hSw.2 0; have z2 := blk_at hSw.2 2; have z3 := blk_at hSw.2 3; simp only [List.getElem?_cons_zero, List.getElem?_cons_succ] at y0 y1 y2 z0 z2 z3; clear hSw; go_simp) <;> with_reducible rfl)
  (try simp only [Act.put, List.setIfInBounds_toArray, List.set_cons_zero, List.set_cons_succ])
  refine any_take (i := 6) (v := ?_) rfl (by kernel_rfl) (by kernel_rfl) (by kernel_rfl) (by exact fun _ _ _ h => h) (by rfl) ?_ hS ?_
  rotate_left
  · ((intro w hSw; have y0 := blk_at hSw.1 0; have y1 := blk_at hSw.1 1; have y2 := blk_at hSw.1 2; have z0 := blk_at hSw.2 0; have z2 := blk_at hSw.2 2; have z3 := blk_at hSw.2 3; simp only [List.getElem?_cons_zero, List.getElem?_cons_succ] at y0 y1 y2 z0 z2 z3; clear hSw; go_simp) <;> with_reducible rfl)
  (try simp only [Act.put, List.setIfInBounds_toArray, List.set_cons_zero, List.set_cons_succ])
  refine wpAnyH_done (by kernel_rfl) ?_ _
  clear hS
  have H3 : Hid _ := And.intro (H2.out.1.2.laterB (Below.refl _ _).drew) (below_then H2.out.2 (Below.refl _ _).drew)
  generalize w2.drew = w3 at *
  clear H2 ta
  have z0 := blk_at H3.out.1 0
  have z1 := blk_at H3.out.1 1
  have z2 := blk_at H3.out.1 2
  have z3 := blk_at H3.out.1 3
  have z4 := blk_at H3.out.1 4
  simp only [List.getElem?_cons_zero, List.getElem?_cons_succ] at z0 z1 z2 z3 z4
  have NB : Hid _ := HBe.out _ H3.out.2
  clear HBe
  go_wp2_with fail
  clear z0 z1 z2 z3 z4 H3
  refine (Calls.mono NB.out) ?_
  rintro e w4 ⟨rfl, p1, hp1, hpc, k1, k2, k3, k4⟩
  have K4 : Hid _ := And.intro k1 (And.intro k2 (And.intro k3 k4))
  clear k1 k2 k3 k4 NB
  have hm1 := HM.out.1
  have e1 : m1.id = id ∧ m1.s = s ∧ m1.ps.length = cnt ∧ p1.g = g ∧ p1.cl = false := ⟨HM.out.2.1, HM.out.2.2.1, HM.out.2.2.2, hp1, hpc⟩
  have hGb := K4.out.1.holds.blk
  obtain ⟨ta, hta⟩ := tv_is p1 m1.ps.length
  rw [hta, e1.1, e1.2.1, e1.2.2.1, e1.2.2.2.1, e1.2.2.2.2] at hGb
  have HPut : Hid (∀ W, Below w4.heap.size w4 W → Calls Try.prog 37 #[.pointer (some ⟨g, 0, none⟩), .agg #[.int .i64 id, .int .i64 i, .int .i64 cnt, .int .u32 s, .slice x d.length c]] W fun e w' => e = .returned (.tuple #[]) ∧ ∃ p', p'.g = g ∧ p'.cl = false ∧ (cqOb p' (setPc m1 i d)).Ok w' ∧ Turned (· ∈ (cqOb p1 m1).W) w4 w' ∧ (∀ k ∈ (cqOb p' (setPc m1 i d)).W, k ∈ (cqOb p1 m1).W) ∧ ∀ k ∈ (cqOb p' (setPc m1 i d)).V, k ∈ (cqOb p1 m1).V ∨ w.heap.size ≤ k) := fun W hW => by
    have hok := K4.out.1.later hW
    have hown := K4.out.2.2.1.later hW
    have := cqPut_any p1 m1 id i cnt s x c d W hok (by rw [e1.2.2.1]; exact hic) hl1 (hown.lower (Nat.zero_le _)) (own_notW2 hok.holds hown)
    rw [e1.2.2.2.1] at this
    refine this.mono ?_
    rintro e w' ⟨rfl, p', q1, qc, q2, q3, q4, q5⟩
    refine ⟨rfl, p', q1, qc.trans e1.2.2.2.2, q2, (tnd6 hW).trans (q3.mono (fun k e => .inl e)), q4, fun k hk => (q5 k hk).imp (fun e => e) (fun e => ?_)⟩
    exact (World.ownsRow.lt hown k e).1
  have H4 : Hid _ := And.intro (And.intro hGb K4.out.2.2.2) (Below.refl w4.heap.size w4)
  have KS : Hid _ := And.intro K4.out.2.1 (And.intro (show (setPc m1 i d).ad = m1.ad from setPc_ad m1 i d) hm1)
  clear K4 hGb hta hl1 e1 hm1
  generalize p1.dv m1.ps = DV at *
  generalize p1.c6 = K6 at *
  generalize lenOf m1.ps = len at *
  obtain ⟨ad, had1⟩ : ∃ ad, ad = m1.ad := ⟨_, rfl⟩
  rw [← had1] at H4
  go_upto_region 10 with fail
  refine wp_region_held_drew (S := fun W => Blk W g 74 [.int .i64 id, .int .u32 s, .slice ta cnt cnt, DV, .int .i64 len, .int .i64 ad, K6, .int .i32 0, .int .u32 0, .bool false] ∧ Blk W P 56 [.int .i64 id, .int .i64 i, .int .i64 cnt, .int .u32 s, .slice x d.length c]) (by kernel_rfl) (⟨H4.out.1.1.laterB (Below.refl _ _).drew, H4.out.1.2.laterB (Below.refl _ _).drew⟩) (fun hS => ?_)
  refine any_take (i := 0) (v := ?_) rfl (by kernel_rfl) (by kernel_rfl) (by kernel_rfl) (by exact fun _ _ _ h => h) (by rfl) ?_ hS ?_
  rotate_left
  · ((intro w hSw; have y0 := blk_at hSw.1 0; have y1 := blk_at hSw.1 1; have y2 := blk_at hSw.1 2; have z0 := blk_at hSw.2 0; have z2 := blk_at hSw.2 2; have z3 := blk_at hSw.2 3; simp only [List.getElem?_cons_zero, List.getElem?_cons_succ] at y0 y1 y2 z0 z2 z3; clear hSw; go_simp) <;> with_reducible rfl)
  (try simp only [Act.put, List.setIfInBounds_toArray, List.set_cons_zero, List.set_cons_succ])
  refine any_take (i := 1) (v := ?_) rfl (by kernel_rfl) (by kernel_rfl) (by kernel_rfl) (by exact fun _ _ _ h => h) (by rfl) ?_ hS ?_
  rotate_left
  · ((intro w hSw; have y0 := blk_at hSw.1 0; have y1 := blk_at hSw.1 1; have y2 := blk_at hSw.1 2; have z0 := blk_at hSw.2 0; have z2 := blk_at hSw.2 2; have z3 := blk_at hSw.2 3; simp only [List.getElem?_cons_zero, List.getElem?_cons_succ] at y0 y1 y2 z0 z2 z3; clear hSw; go_simp) <;> with_reducible rfl)
  (try simp only [Act.put, List.setIfInBounds_toArray, List.set_cons_zero, List.set_cons_succ])
  refine any_take (i := 2) (v := ?_) rfl (by kernel_rfl) (by kernel_rfl) (by kernel_rfl) (by exact fun _ _ _ h => h) (by rfl) ?_ hS ?_
  rotate_left
  · ((intro w hSw; have y0 := blk_at hSw.1 0; have y1 := blk_at hSw.1 1; have y2 := blk_at hSw.1 2; have z0 := blk_at hSw.2 0; have z2 := blk_at hSw.2 2; have z3 := blk_at hSw.2 3; simp only [List.getElem?_cons_zero, List.getElem?_cons_succ] at y0 y1 y2 z0 z2 z3; clear hSw; go_simp) <;> with_reducible rfl)
  (try simp only [Act.put, List.setIfInBounds_toArray, List.set_cons_zero, List.set_cons_succ])
  refine any_take (i := 3) (v := ?_) rfl (by kernel_rfl) (by kernel_rfl) (by kernel_rfl) (by exact fun _ _ _ h => h) (by rfl) ?_ hS ?_
  rotate_left
  · ((intro w hSw; have y0 := blk_at hSw.1 0; have y1 := blk_at hSw.1 1; have y2 := blk_at hSw.1 2; have z0 := blk_at hSw.2 0; have z2 := blk_at hSw.2 2; have z3 := blk_at hSw.2 3; simp only [List.getElem?_cons_zero, List.getElem?_cons_succ] at y0 y1 y2 z0 z2 z3; clear hSw; go_simp) <;> with_reducible rfl)
  (try simp only [Act.put, List.setIfInBounds_toArray, List.set_cons_zero, List.set_cons_succ])
  refine any_take (i := 4) (v := ?_) rfl (by kernel_rfl) (by kernel_rfl) (by kernel_rfl) (by exact fun _ _ _ h => h) (by rfl) ?_ hS ?_
  rotate_left
  · ((intro w hSw; have y0 := blk_at hSw.1 0; have y1 := blk_at hSw.1 1; have y2 := blk_at hSw.1 2; have z0 := blk_at hSw.2 0; have z2 := blk_at hSw.2 2; have z3 := blk_at hSw.2 3; simp only [List.getElem?_cons_zero, List.getElem?_cons_succ] at y0 y1 y2 z0 z2 z3; clear hSw; go_simp) <;> with_reducible rfl)
  (try simp only [Act.put, List.setIfInBounds_toArray, List.set_cons_zero, List.set_cons_succ])
  refine any_take (i := 5) (v := ?_) rfl (by kernel_rfl) (by kernel_rfl) (by kernel_rfl) (by exact fun _ _ _ h => h) (by rfl) ?_ hS ?_
  rotate_left
  · ((intro w hSw; have y0 := blk_at hSw.1 0; have y1 := blk_at hSw.1 1; have y2 := blk_at hSw.1 2; have z0 := blk_at hSw.2 0; have z2 := blk_at hSw.2 2; have z3 := blk_at hSw.2 3; simp only [List.getElem?_cons_zero, List.getElem?_cons_succ] at y0 y1 y2 z0 z2 z3; clear hSw; go_simp) <;> with_reducible rfl)
  (try simp only [Act.put, List.setIfInBounds_toArray, List.set_cons_zero, List.set_cons_succ])
  refine any_take (i := 6) (v := ?_) rfl (by kernel_rfl) (by kernel_rfl) (by kernel_rfl) (by exact fun _ _ _ h => h) (by rfl) ?_ hS ?_
  rotate_left
  · ((intro w hSw; have y0 := blk_at hSw.1 0; have y1 := blk_at hSw.1 1; have y2 := blk_at hSw.1 2; have z0 := blk_at hSw.2 0; have z2 := blk_at hSw.2 2; have z3 := blk_at hSw.2 3; simp only [List.getElem?_cons_zero, List.getElem?_cons_succ] at y0 y1 y2 z0 z2 z3; clear hSw; go_simp) <;> with_reducible rfl)
  (try simp only [Act.put, List.setIfInBounds_toArray, List.set_cons_zero, List.set_cons_succ])
  refine wpAnyH_done (by kernel_rfl) ?_ _
  clear hS
  have H5 : Hid _ := And.intro (And.intro (H4.out.1.1.laterB (Below.refl _ _).drew) (H4.out.1.2.laterB (Below.refl _ _).drew)) (below_then H4.out.2 (Below.refl _ _).drew)
  generalize w4.drew = w5 at *
  clear H4
  go_upto_region 12 with fail
  refine wp_region_held_drew (S := fun W => Blk W g 74 [.int .i64 id, .int .u32 s, .slice ta cnt cnt, DV, .int .i64 len, .int .i64 ad, K6, .int .i32 0, .int .u32 0, .bool false] ∧ Blk W P 56 [.int .i64 id, .int .i64 i, .int .i64 cnt, .int .u32 s, .slice x d.length c]) (by kernel_rfl) (⟨H5.out.1.1.laterB (Below.refl _ _).drew, H5.out.1.2.laterB (Below.refl _ _).drew⟩) (fun hS => ?_)
  refine any_take (i := 0) (v := ?_) rfl (by kernel_rfl) (by kernel_rfl) (by kernel_rfl) (by exact fun _ _ _ h => h) (by rfl) ?_ hS ?_
  rotate_left
  · ((intro w hSw; have y0 := blk_at hSw.1 0; have y1 := blk_at hSw.1 1; have y2 := blk_at hSw.1 2; have z0 := blk_at hSw.2 0; have z2 := blk_at hSw.2 2; have z3 := blk_at hSw.2 3; simp only [List.getElem?_cons_zero, List.getElem?_cons_succ] at y0 y1 y2 z0 z2 z3; clear hSw; go_simp) <;> with_reducible rfl)
  (try simp only [Act.put, List.setIfInBounds_toArray, List.set_cons_zero, List.set_cons_succ])
  refine any_take (i := 1) (v := ?_) rfl (by kernel_rfl) (by kernel_rfl) (by kernel_rfl) (by exact fun _ _ _ h => h) (by rfl) ?_ hS ?_
  rotate_left
  · ((intro w hSw; have y0 := blk_at hSw.1 0; have y1 := blk_at hSw.1 1; have y2 := blk_at hSw.1 2; have z0 := blk_at hSw.2 0; have z2 := blk_at hSw.2 2; have z3 := blk_at hSw.2 3; simp only [List.getElem?_cons_zero, List.getElem?_cons_succ] at y0 y1 y2 z0 z2 z3; clear hSw; go_simp) <;> with_reducible rfl)
  (try simp only [Act.put, List.setIfInBounds_toArray, List.set_cons_zero, List.set_cons_succ])
  refine any_take (i := 2) (v := ?_) rfl (by kernel_rfl) (by kernel_rfl) (by kernel_rfl) (by exact fun _ _ _ h => h) (by rfl) ?_ hS ?_
  rotate_left
  · ((intro w hSw; have y0 := blk_at hSw.1 0; have y1 := blk_at hSw.1 1; have y2 := blk_at hSw.1 2; have z0 := blk_at hSw.2 0; have z2 := blk_at hSw.2 2; have z3 := blk_at hSw.2 3; simp only [List.getElem?_cons_zero, List.getElem?_cons_succ] at y0 y1 y2 z0 z2 z3; clear hSw; go_simp) <;> with_reducible rfl)
  (try simp only [Act.put, List.setIfInBounds_toArray, List.set_cons_zero, List.set_cons_succ])
  refine any_take (i := 3) (v := ?_) rfl (by kernel_rfl) (by kernel_rfl) (by kernel_rfl) (by exact fun _ _ _ h => h) (by rfl) ?_ hS ?_
  rotate_left
  · ((intro w hSw; have y0 := blk_at hSw.1 0; have y1 := blk_at hSw.1 1; have y2 := blk_at hSw.1 2; have z0 := blk_at hSw.2 0; have z2 := blk_at hSw.2 2; have z3 := blk_at hSw.2 3; simp only [List.getElem?_cons_zero, List.getElem?_cons_succ] at y0 y1 y2 z0 z2 z3; clear hSw; go_simp) <;> with_reducible rfl)
  (try simp only [Act.put, List.setIfInBounds_toArray, List.set_cons_zero, List.set_cons_succ])
  refine any_take (i := 4) (v := ?_) rfl (by kernel_rfl) (by kernel_rfl) (by kernel_rfl) (by exact fun _ _ _ h => h) (by rfl) ?_ hS ?_
  rotate_left
  · ((intro w hSw; have y0 := blk_at hSw.1 0; have y1 := blk_at hSw.1 1; have y2 := blk_at hSw.1 2; have z0 := blk_at hSw.2 0; have z2 := blk_at hSw.2 2; have z3 := blk_at hSw.2 3; simp only [List.getElem?_cons_zero, List.getElem?_cons_succ] at y0 y1 y2 z0 z2 z3; clear hSw; go_simp) <;> with_reducible rfl)
  (try simp only [Act.put, List.setIfInBounds_toArray, List.set_cons_zero, List.set_cons_succ])
  refine any_take (i := 5) (v := ?_) rfl (by kernel_rfl) (by kernel_rfl) (by kernel_rfl) (by exact fun _ _ _ h => h) (by rfl) ?_ hS ?_
  rotate_left
  · ((intro w hSw; have y0 := blk_at hSw.1 0; have y1 := blk_at hSw.1 1; have y2 := blk_at hSw.1 2; have z0 := blk_at hSw.2 0; have z2 := blk_at hSw.2 2; have z3 := blk_at hSw.2 3; simp only [List.getElem?_cons_zero, List.getElem?_cons_succ] at y0 y1 y2 z0 z2 z3; clear hSw; go_simp) <;> with_reducible rfl)
  (try simp only [Act.put, List.setIfInBounds_toArray, List.set_cons_zero, List.set_cons_succ])
  refine any_take (i := 6) (v := ?_) rfl (by kernel_rfl) (by kernel_rfl) (by kernel_rfl) (by exact fun _ _ _ h => h) (by rfl) ?_ hS ?_
  rotate_left
  · ((intro w hSw; have y0 := blk_at hSw.1 0; have y1 := blk_at hSw.1 1; have y2 := blk_at hSw.1 2; have z0 := blk_at hSw.2 0; have z2 := blk_at hSw.2 2; have z3 := blk_at hSw.2 3; simp only [List.getElem?_cons_zero, List.getElem?_cons_succ] at y0 y1 y2 z0 z2 z3; clear hSw; go_simp) <;> with_reducible rfl)
  (try simp only [Act.put, List.setIfInBounds_toArray, List.set_cons_zero, List.set_cons_succ])
  refine any_take (i := 7) (v := ?_) rfl (by kernel_rfl) (by kernel_rfl) (by kernel_rfl) (by exact fun _ _ _ h => h) (by rfl) ?_ hS ?_
  rotate_left
  · ((intro w hSw; have y0 := blk_at hSw.1 0; have y1 := blk_at hSw.1 1; have y2 := blk_at hSw.1 2; have z0 := blk_at hSw.2 0; have z2 := blk_at hSw.2 2; have z3 := blk_at hSw.2 3; simp only [List.getElem?_cons_zero, List.getElem?_cons_succ] at y0 y1 y2 z0 z2 z3; clear hSw; go_simp) <;> with_reducible rfl)
  (try simp only [Act.put, List.setIfInBounds_toArray, List.set_cons_zero, List.set_cons_succ])
  refine any_take (i := 8) (v := ?_) rfl (by kernel_rfl) (by kernel_rfl) (by kernel_rfl) (by exact fun _ _ _ h => h) (by rfl) ?_ hS ?_
  rotate_left
  · ((intro w hSw; have y0 := blk_at hSw.1 0; have y1 := blk_at hSw.1 1; have y2 := blk_at hSw.1 2; have z0 := blk_at hSw.2 0; have z2 := blk_at hSw.2 2; have z3 := blk_at hSw.2 3; simp only [List.getElem?_cons_zero, List.getElem?_cons_succ] at y0 y1 y2 z0 z2 z3; clear hSw; go_simp) <;> with_reducible rfl)
  (try simp only [Act.put, List.setIfInBounds_toArray, List.set_cons_zero, List.set_cons_succ])
  refine any_take (i := 9) (v := ?_) rfl (by kernel_rfl) (by kernel_rfl) (by kernel_rfl) (by exact fun _ _ _ h => h) (by rfl) ?_ hS ?_
  rotate_left
  · ((intro w hSw; have y0 := blk_at hSw.1 0; have y1 := blk_at hSw.1 1; have y2 := blk_at hSw.1 2; have z0 := blk_at hSw.2 0; have z2 := blk_at hSw.2 2; have z3 := blk_at hSw.2 3; simp only [List.getElem?_cons_zero, List.getElem?_cons_succ] at y0 y1 y2 z0 z2 z3; clear hSw; go_simp) <;> with_reducible rfl)
  (try simp only [Act.put, List.setIfInBounds_toArray, List.set_cons_zero, List.set_cons_succ])
  refine any_take (i := 10) (v := ?_) rfl (by kernel_rfl) (by kernel_rfl) (by kernel_rfl) (by exact fun _ _ _ h => h) (by rfl) ?_ hS ?_
  rotate_left
  · ((intro w hSw; have y0 := blk_at hSw.1 0; have y1 := blk_at hSw.1 1; have y2 := blk_at hSw.1 2; have z0 := blk_at hSw.2 0; have z2 := blk_at hSw.2 2; have z3 := blk_at hSw.2 3; simp only [List.getElem?_cons_zero, List.getElem?_cons_succ] at y0 y1 y2 z0 z2 z3; clear hSw; go_simp) <;> with_reducible rfl)
  (try simp only [Act.put, List.setIfInBounds_toArray, List.set_cons_zero, List.set_cons_succ])
  refine any_take (i := 11) (v := ?_) rfl (by kernel_rfl) (by kernel_rfl) (by kernel_rfl) (by exact fun _ _ _ h => h) (by rfl) ?_ hS ?_
  rotate_left
  · ((intro w hSw; have y0 := blk_at hSw.1 0; have y1 := blk_at hSw.1 1; have y2 := blk_at hSw.1 2; have z0 := blk_at hSw.2 0; have z2 := blk_at hSw.2 2; have z3 := blk_at hSw.2 3; simp only [List.getElem?_cons_zero, List.getElem?_cons_succ] at y0 y1 y2 z0 z2 z3; clear hSw; go_simp) <;> with_reducible rfl)
  (try simp only [Act.put, List.setIfInBounds_toArray, List.set_cons_zero, List.set_cons_succ])
  refine any_take (i := 12) (v := ?_) rfl (by kernel_rfl) (by kernel_rfl) (by kernel_rfl) (by exact fun _ _ _ h => h) (by rfl) ?_ hS ?_
  rotate_left
  · ((intro w hSw; have y0 := blk_at hSw.1 0; have y1 := blk_at hSw.1 1; have y2 := blk_at hSw.1 2; have z0 := blk_at hSw.2 0; have z2 := blk_at hSw.2 2; have z3 := blk_at hSw.2 3; simp only [List.getElem?_cons_zero, List.getElem?_cons_succ] at y0 y1 y2 z0 z2 z3; clear hSw; go_simp) <;> with_reducible rfl)
  (try simp only [Act.put, List.setIfInBounds_toArray, List.set_cons_zero, List.set_cons_succ])
  refine any_take (i := 13) (v := ?_) rfl (by kernel_rfl) (by kernel_rfl) (by kernel_rfl) (by exact fun _ _ _ h => h) (by rfl) ?_ hS ?_
  rotate_left
  · ((intro w hSw; have y0 := blk_at hSw.1 0; have y1 := blk_at hSw.1 1; have y2 := blk_at hSw.1 2; have z0 := blk_at hSw.2 0; have z2 := blk_at hSw.2 2; have z3 := blk_at hSw.2 3; simp only [List.getElem?_cons_zero, List.getElem?_cons_succ] at y0 y1 y2 z0 z2 z3; clear hSw; go_simp) <;> with_reducible rfl)
  (try simp only [Act.put, List.setIfInBounds_toArray, List.set_cons_zero, List.set_cons_succ])
  refine any_take (i := 14) (v := ?_) rfl (by kernel_rfl) (by kernel_rfl) (by kernel_rfl) (by exact fun _ _ _ h => h) (by rfl) ?_ hS ?_
  rotate_left
  · ((intro w hSw; have y0 := blk_at hSw.1 0; have y1 := blk_at hSw.1 1; have y2 := blk_at hSw.1 2; have z0 := blk_at hSw.2 0; have z2 := blk_at hSw.2 2; have z3 := blk_at hSw.2 3; simp only [List.getElem?_cons_zero, List.getElem?_cons_succ] at y0 y1 y2 z0 z2 z3; clear hSw; go_simp) <;> with_reducible rfl)
  (try simp only [Act.put, List.setIfInBounds_toArray, List.set_cons_zero, List.set_cons_succ])
  refine any_take (i := 15) (v := ?_) rfl (by kernel_rfl) (by kernel_rfl) (by kernel_rfl) (by exact fun _ _ _ h => h) (by rfl) ?_ hS ?_
  rotate_left
  · ((intro w hSw; have y0 := blk_at hSw.1 0; have y1 := blk_at hSw.1 1; have y2 := blk_at hSw.1 2; have z0 := blk_at hSw.2 0; have z2 := blk_at hSw.2 2; have z3 := blk_at hSw.2 3; simp only [List.getElem?_cons_zero, List.getElem?_cons_succ] at y0 y1 y2 z0 z2 z3; clear hSw; go_simp) <;> with_reducible rfl)
  (try simp only [Act.put, List.setIfInBounds_toArray, List.set_cons_zero, List.set_cons_succ])
  refine any_take (i := 16) (v := ?_) rfl (by kernel_rfl) (by kernel_rfl) (by kernel_rfl) (by exact fun _ _ _ h => h) (by rfl) ?_ hS ?_
  rotate_left
  · ((intro w hSw; have y0 := blk_at hSw.1 0; have y1 := blk_at hSw.1 1; have y2 := blk_at hSw.1 2; have z0 := blk_at hSw.2 0; have z2 := blk_at hSw.2 2; have z3 := blk_at hSw.2 3; simp only [List.getElem?_cons_zero, List.getElem?_cons_succ] at y0 y1 y2 z0 z2 z3; clear hSw; go_simp) <;> with_reducible rfl)
  (try simp only [Act.put, List.setIfInBounds_toArray, List.set_cons_zero, List.set_cons_succ])
  refine wpAnyH_done (by kernel_rfl) ?_ _
  clear hS
  have H6 : Hid _ := And.intro (H5.out.1.2.laterB (Below.refl _ _).drew) (below_then H5.out.2 (Below.refl _ _).drew)
  generalize w5.drew = w6 at *
  clear H5
  have z0 := blk_at H6.out.1 0
  have z1 := blk_at H6.out.1 1
  have z2 := blk_at H6.out.1 2
  have z3 := blk_at H6.out.1 3
  have z4 := blk_at H6.out.1 4
  simp only [List.getElem?_cons_zero, List.getElem?_cons_succ] at z0 z1 z2 z3 z4
  have NP : Hid _ := HPut.out _ H6.out.2
  clear HPut
  go_wp2_with fail
  clear z0 z1 z2 z3 z4 H6
  refine (Calls.mono NP.out) ?_
  rintro e w7 ⟨rfl, p', q1, qc, q2, q3, q4, q5⟩
  clear NP
  have y5 := blk_at q2.holds.blk 5
  have y6 := blk_frozen q2.holds.blk 5
  simp only [List.getElem?_cons_zero, List.getElem?_cons_succ] at y5
  rw [KS.out.2.1, ← had1] at y5
  rw [q1] at y5 y6
  have hno := q2.holds.ad
  rw [KS.out.2.1, ← had1] at hno
  have hbad : ad ≤ 1000000000 := by rw [had1]; exact hadm
  have NA : Hid _ := atAdd_any g 5 ad w7 y5 y6 ⟨hno, hbad⟩
  have F : Hid _ := add_step2 KS.out.1 q3 q2 q4 q5
  rw [q1, KS.out.2.1, ← had1] at F
  have F2 : Hid _ := And.intro q1 (And.intro F.out qc)
  clear y5 y6 F q3 q4 q5 hno hbad had1 qc
  go_wp2_with fail
  refine (Calls.mono NA.out) ?_
  rintro e _ ⟨rfl, rfl⟩
  clear NA
  go_wp2
  go_ret
  exact ⟨rfl, p', by rw [F2.out.1]; exact HGg.out.1, F2.out.2.2, by have := F2.out.2.1; rw [KS.out.2.2] at this; exact this⟩

end Go.Proofs.Ytgonglbgejaffaa

