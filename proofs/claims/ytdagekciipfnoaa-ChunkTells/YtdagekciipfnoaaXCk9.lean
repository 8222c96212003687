/- Add: a piece is taken. -/
import Derived.Test.YtdagekciipfnoaaXCk8
namespace Go.Proofs.Ytdagekciipfnoaa
open Go.RowKit
set_option linter.unusedVariables false
set_option linter.unusedSimpArgs false
set_option maxRecDepth 4000

theorem setPc_ad (m : CR) (i : Nat) (d : List (BitVec 8)) : (setPc m i d).ad = m.ad := by unfold setPc; split <;> rfl
theorem add_step {w w4 w7 : World} {o : Ob} {p1 p' : CPl} {m1 m' : CR} (h1 : Step w w4 o (crOb p1 m1)) (hT : Turned (· ∈ (crOb p1 m1).W) w4 w7) (hok : (crOb p' m').Ok w7) (hW : (crOb p' m').W = (crOb p1 m1).W) (hV : ∀ k ∈ (crOb p' m').V, k ∈ (crOb p1 m1).V ∨ w.heap.size ≤ k) :
    Step w (w7.setCell ⟨p'.g, 5, none⟩ (.int .i64 (m'.ad + 1))) o (crOb p' (addM m')) := by
  have u := turned_set w7 p'.g 5 (.int .i64 (m'.ad + 1))
  have hg : p'.g ∈ (crOb p1 m1).W := by rw [← hW]; simp [crOb]
  have hT2 : Turned (· ∈ (crOb p1 m1).W) w4 (w7.setCell ⟨p'.g, 5, none⟩ (.int .i64 (m'.ad + 1))) := hT.trans (u.mono (fun k e => .inl (by rw [e]; exact hg)))
  refine ⟨h1.turned.trans (hT2.mono (fun k e => h1.writes k e)), added_ok hok, fun k hk => h1.writes k (by rw [← hW]; exact hk), fun k hk => ?_⟩
  rcases hV k hk with e | e
  · exact h1.reads k e
  · exact .inr (.inr e)
set_option maxHeartbeats 8000000 in
/-- a piece of the image that is gathered -/
theorem add_same (a : Option Addr) (cap : Nat) (l : List (BitVec 8)) (p : CPl) (m : CR) (w : World) (h : (crOb p m).Ok w) (hle : l.length ≤ cap) (hr : Row w a l) (hn : a = none → cap = 0) (hlen : l.length ≤ 140737488351232) (hE : dcE l = 0) (id s : Int) (i cnt : Nat) (d : List (BitVec 8)) (hR : dcR l = (id, (i : Int), (cnt : Int), s, d)) (hid : m.id = id) (hs : m.s = s) (hps : m.ps.length = cnt) (hic : i < cnt) (hc2 : cnt ≤ 256) (hl0 : m.ps[i]? = some none → lenOf m.ps + d.length ≤ 65536) (hadm0 : m.ad ≤ 1000000000) :
    Calls Try.prog 12 #[.pointer (some ⟨p.g, 0, none⟩), .slice a l.length cap] w fun e w' => e = .returned (.int .i64 0) ∧ ∃ p', p'.g = p.g ∧ Step w w' (crOb p m) (crOb p' (addM (setPc m i d))) := by
  have HD : Hid _ := decode_any a cap l w hle hr hn hlen
  have hG := h.holds.blk
  have y9 := blk_at hG 9
  simp only [List.getElem?_cons_zero, List.getElem?_cons_succ] at y9
  rw [hE, hR] at HD
  dsimp only at HD
  clear hr hn
  obtain ⟨g, hg⟩ : ∃ g, g = p.g := ⟨_, rfl⟩
  go_enter Try.func12, Try.ntmps12
  go_wp2_with fail
  clear y9
  refine (Calls.mono HD.out) ?_
  rintro r w1 ⟨x, c, rfl, ho, b1⟩
  have b2 : Below w1.heap.size w1 (w1.alloc (.cells #[.int .i64 id, .int .i64 i, .int .i64 cnt, .int .u32 s, .slice x d.length c] 49)) := (Below.refl _ _).alloc (Nat.le_refl _) _
  have hP := Blk.new' w1 49 [.int .i64 id, .int .i64 i, .int .i64 cnt, .int .u32 s, .slice x d.length c]
  have hPW : w1.heap.size ∉ (crOb p m).W := fun hk => by have := h.lt _ (.inl hk); have := b1.size; omega
  have K2 : Hid _ := And.intro (h.later (below_then b1 b2)) (And.intro (below_then b1 b2) (And.intro ((ho.later b2) : Own _ w.heap.size _ d) (And.intro hP (And.intro h hPW))))
  clear HD ho b1 b2 hP h hG hPW
  go_upto_region 8 with fail
  obtain ⟨P, hPe⟩ : ∃ P, P = w1.heap.size := ⟨_, rfl⟩
  rw [← hPe] at K2 ⊢
  generalize (w1.alloc (.cells #[.int .i64 id, .int .i64 i, .int .i64 cnt, .int .u32 s, .slice x d.length c] 49)) = w2 at *
  clear hPe
  obtain ⟨p1, hp1⟩ : ∃ p1, p1 = p := ⟨_, rfl⟩
  obtain ⟨m1, hm1⟩ : ∃ m1, m1 = m := ⟨_, rfl⟩
  have hadm : m1.ad ≤ 1000000000 := by rw [hm1]; exact hadm0
  have hl1 : m1.ps[i]? = some none → lenOf m1.ps + d.length ≤ 65536 := by rw [hm1]; exact hl0
  have q4 : (crOb p m).Ok w2.drew := K2.out.1.later (Below.refl _ _).drew
  have K4 : Hid ((crOb p1 m1).Ok w2.drew ∧ Step w w2.drew (crOb p m) (crOb p1 m1) ∧ Own w2.drew w.heap.size (.slice x d.length c) d ∧ Blk w2.drew P 49 [.int .i64 id, .int .i64 i, .int .i64 cnt, .int .u32 s, .slice x d.length c]) := by
    rw [hp1, hm1]
    exact ⟨q4, ⟨tnd6 (below_then K2.out.2.1 (Below.refl _ _).drew), q4, fun k hk => .inl hk, fun k hk => .inr (.inl hk)⟩, K2.out.2.2.1.later (Below.refl _ _).drew, K2.out.2.2.2.1.laterB (Below.refl _ _).drew⟩
  have e1 : m1.id = id ∧ m1.s = s ∧ m1.ps.length = cnt ∧ p1.g = g := by rw [hm1, hp1]; exact ⟨hid, hs, hps, hg.symm⟩
  have hGs := K2.out.1.holds.blk
  unfold CPl.tv CPl.dv at hGs
  rw [if_neg (by omega), if_neg (by omega), hid, hs, hps, ← hg] at hGs
  have H2 : Hid _ := And.intro hGs K2.out.2.2.2.1
  rw [← hg]
  have HM : Hid _ := And.intro hm1 trivial
  have HGg : Hid _ := And.intro hg trivial
  have HE1 : Hid _ := And.intro e1 trivial
  clear hg e1
  clear K2 hps q4 hid hs hGs hl0 hadm0 hm1 hp1
  refine wp_region_held_drew (S := fun W => Blk W g 67 [.int .i64 id, .int .u32 s, .slice (some ⟨p.t, 0, none⟩) cnt cnt, .slice (some ⟨p.d, 0, none⟩) cnt cnt, .int .i64 (lenOf m.ps), .int .i64 m.ad, .int .u32 0, .int .i32 0, .int .u32 0, .bool false] ∧ Blk W P 49 [.int .i64 id, .int .i64 i, .int .i64 cnt, .int .u32 s, .slice x d.length c]) (by kernel_rfl) (⟨H2.out.1.laterB (Below.refl _ _).drew, H2.out.2.laterB (Below.refl _ _).drew⟩) (fun hS => ?_)
  refine any_take (i := 0) (v := ?_) rfl (by kernel_rfl) (by kernel_rfl) (by kernel_rfl) (by exact fun _ _ _ h => h) (by rfl) ?_ hS ?_
  rotate_left
  · ((intro w hSw; have y0 := blk_at hSw.1 0; have y1 := blk_at hSw.1 1; have y2 := blk_at hSw.1 2; have z0 := blk_at hSw.2 0; have z2 := blk_at hSw.2 2; have z3 := blk_at hSw.2 3; simp only [List.getElem?_cons_zero, List.getElem?_cons_succ] at y0 y1 y2 z0 z2 z3; clear hSw; go_simp) <;> with_reducible rfl)
  (try simp only [Act.put, List.setIfInBounds_toArray, List.set_cons_zero, List.set_cons_succ])
  refine any_take (i := 1) (v := ?_) rfl (by kernel_rfl) (by kernel_rfl) (by kernel_rfl) (by exact fun _ _ _ h => h) (by rfl) ?_ hS ?_
  rotate_left
  · ((intro w hSw; have y0 := blk_at hSw.1 0; have y1 := blk_at hSw.1 1; have y2 := blk_at hSw.1 2; have z0 := blk_at hSw.2 0; have z2 := blk_at hSw.2 2; have z3 := blk_at hSw.2 3; simp only [List.getElem?_cons_zero, List.getElem?_cons_succ] at y0 y1 y2 z0 z2 z3; clear hSw; go_simp) <;> with_reducible rfl)
  (try simp only [Act.put, List.setIfInBounds_toArray, List.set_cons_zero, List.set_cons_succ])
  refine any_take (i := 2) (v := ?_) rfl (by kernel_rfl) (by kernel_rfl) (by kernel_rfl) (by exact fun _ _ _ h => h) (by rfl) ?_ hS ?_
  rotate_left
  · ((intro w hSw; have y0 := blk_at hSw.1 0; have y1 := blk_at hSw.1 1; have y2 := blk_at hSw.1 2; have z0 := blk_at hSw.2 0; have z2 := blk_at hSw.2 2; have z3 := blk_at hSw.2 3; simp only [List.getElem?_cons_zero, List.getElem?_cons_succ] at y0 y1 y2 z0 z2 z3; clear hSw; go_simp) <;> with_reducible rfl)
  (try simp only [Act.put, List.setIfInBounds_toArray, List.set_cons_zero, List.set_cons_succ])
  refine any_take (i := 3) (v := ?_) rfl (by kernel_rfl) (by kernel_rfl) (by kernel_rfl) (by exact fun _ _ _ h => h) (by rfl) ?_ hS ?_
  rotate_left
  · ((intro w hSw; have y0 := blk_at hSw.1 0; have y1 := blk_at hSw.1 1; have y2 := blk_at hSw.1 2; have z0 := blk_at hSw.2 0; have z2 := blk_at hSw.2 2; have z3 := blk_at hSw.2 3; simp only [List.getElem?_cons_zero, List.getElem?_cons_succ] at y0 y1 y2 z0 z2 z3; clear hSw; go_simp) <;> with_reducible rfl)
  (try simp only [Act.put, List.setIfInBounds_toArray, List.set_cons_zero, List.set_cons_succ])
  refine any_take (i := 4) (v := ?_) rfl (by kernel_rfl) (by kernel_rfl) (by kernel_rfl) (by exact fun _ _ _ h => h) (by rfl) ?_ hS ?_
  rotate_left
  · ((intro w hSw; have y0 := blk_at hSw.1 0; have y1 := blk_at hSw.1 1; have y2 := blk_at hSw.1 2; have z0 := blk_at hSw.2 0; have z2 := blk_at hSw.2 2; have z3 := blk_at hSw.2 3; simp only [List.getElem?_cons_zero, List.getElem?_cons_succ] at y0 y1 y2 z0 z2 z3; clear hSw; go_simp) <;> with_reducible rfl)
  (try simp only [Act.put, List.setIfInBounds_toArray, List.set_cons_zero, List.set_cons_succ])
  refine any_take (i := 5) (v := ?_) rfl (by kernel_rfl) (by kernel_rfl) (by kernel_rfl) (by exact fun _ _ _ h => h) (by rfl) ?_ hS ?_
  rotate_left
  · ((intro w hSw; have y0 := blk_at hSw.1 0; have y1 := blk_at hSw.1 1; have y2 := blk_at hSw.1 2; have z0 := blk_at hSw.2 0; have z2 := blk_at hSw.2 2; have z3 := blk_at hSw.2 3; simp only [List.getElem?_cons_zero, List.getElem?_cons_succ] at y0 y1 y2 z0 z2 z3; clear hSw; go_simp) <;> with_reducible rfl)
  (try simp only [Act.put, List.setIfInBounds_toArray, List.set_cons_zero, List.set_cons_succ])
  refine any_take (i := 6) (v := ?_) rfl (by kernel_rfl) (by kernel_rfl) (by kernel_rfl) (by exact fun _ _ _ h => h) (by rfl) ?_ hS ?_
  rotate_left
  · ((intro w hSw; have y0 := blk_at hSw.1 0; have y1 := blk_at hSw.1 1; have y2 := blk_at hSw.1 2; have z0 := blk_at hSw.2 0; have z2 := blk_at hSw.2 2; have z3 := blk_at hSw.2 3; simp only [List.getElem?_cons_zero, List.getElem?_cons_succ] at y0 y1 y2 z0 z2 z3; clear hSw; go_simp) <;> with_reducible rfl)
  (try simp only [Act.put, List.setIfInBounds_toArray, List.set_cons_zero, List.set_cons_succ])
  refine wpAnyH_done (by kernel_rfl) ?_ _
  clear hS
  generalize w2.drew = w4 at *
  clear H2
  have hm1 := HM.out.1
  have e1 := HE1.out.1
  have hd1 : m1.ps.length ≠ 0 := by omega
  have hGb := K4.out.1.holds.blk
  have hGv : p1.tv m1.ps.length = .slice (some ⟨p1.t, 0, none⟩) m1.ps.length m1.ps.length ∧ p1.dv m1.ps.length = .slice (some ⟨p1.d, 0, none⟩) m1.ps.length m1.ps.length := by
    unfold CPl.tv CPl.dv; rw [if_neg hd1, if_neg hd1]; exact ⟨rfl, rfl⟩
  rw [hGv.1, hGv.2, e1.1, e1.2.1, e1.2.2.1, e1.2.2.2] at hGb
  have HPut : Hid (∀ W, Below w4.heap.size w4 W → Calls Try.prog 24 #[.pointer (some ⟨g, 0, none⟩), .agg #[.int .i64 id, .int .i64 i, .int .i64 cnt, .int .u32 s, .slice x d.length c]] W fun e w' => e = .returned (.tuple #[]) ∧ ∃ p', p'.g = g ∧ (crOb p' (setPc m1 i d)).Ok w' ∧ Turned (· ∈ (crOb p1 m1).W) w4 w' ∧ (crOb p' (setPc m1 i d)).W = (crOb p1 m1).W ∧ ∀ k ∈ (crOb p' (setPc m1 i d)).V, k ∈ (crOb p1 m1).V ∨ w.heap.size ≤ k) := fun W hW => by
    have hok := K4.out.1.later hW
    have hown := K4.out.2.2.1.later hW
    have := crPut_any p1 m1 id i cnt s x c d W hok (by rw [e1.2.2.1]; exact hic) hl1 (hown.lower (Nat.zero_le _)) (own_notW hok.holds hown)
    rw [e1.2.2.2] at this
    refine this.mono ?_
    rintro e w' ⟨rfl, p', q1, q2, q3, q4, q5⟩
    refine ⟨rfl, p', q1, q2, (tnd6 hW).trans (q3.mono (fun k e => .inl e)), q4, fun k hk => (q5 k hk).imp (fun e => e) (fun e => ?_)⟩
    exact (World.ownsRow.lt hown k e).1
  have H4 : Hid _ := And.intro (And.intro hGb K4.out.2.2.2) (Below.refl w4.heap.size w4)
  have KS : Hid _ := And.intro K4.out.2.1 (And.intro (show (setPc m1 i d).ad = m1.ad from setPc_ad m1 i d) hm1)
  clear K4 hGb hGv hd1 hl1 e1 hm1
  generalize p1.t = t1 at *
  generalize p1.d = d1 at *
  generalize lenOf m1.ps = len at *
  obtain ⟨ad, had1⟩ : ∃ ad, ad = m1.ad := ⟨_, rfl⟩
  rw [← had1] at H4
  go_upto_region 10 with fail
  refine wp_region_held_drew (S := fun W => Blk W g 67 [.int .i64 id, .int .u32 s, .slice (some ⟨t1, 0, none⟩) cnt cnt, .slice (some ⟨d1, 0, none⟩) cnt cnt, .int .i64 len, .int .i64 ad, .int .u32 0, .int .i32 0, .int .u32 0, .bool false] ∧ Blk W P 49 [.int .i64 id, .int .i64 i, .int .i64 cnt, .int .u32 s, .slice x d.length c]) (by kernel_rfl) (⟨H4.out.1.1.laterB (Below.refl _ _).drew, H4.out.1.2.laterB (Below.refl _ _).drew⟩) (fun hS => ?_)
  refine any_take (i := 0) (v := ?_) rfl (by kernel_rfl) (by kernel_rfl) (by kernel_rfl) (by exact fun _ _ _ h => h) (by rfl) ?_ hS ?_
  rotate_left
  · ((intro w hSw; have y0 := blk_at hSw.1 0; have y1 := blk_at hSw.1 1; have y2 := blk_at hSw.1 2; have z0 := blk_at hSw.2 0; have z2 := blk_at hSw.2 2; have z3 := blk_at hSw.2 3; simp only [List.getElem?_cons_zero, List.getElem?_cons_succ] at y0 y1 y2 z0 z2 z3; clear hSw; go_simp) <;> with_reducible rfl)
  (try simp only [Act.put, List.setIfInBounds_toArray, List.set_cons_zero, List.set_cons_succ])
  refine any_take (i := 1) (v := ?_) rfl (by kernel_rfl) (by kernel_rfl) (by kernel_rfl) (by exact fun _ _ _ h => h) (by rfl) ?_ hS ?_
  rotate_left
  · ((intro w hSw; have y0 := blk_at hSw.1 0; have y1 := blk_at hSw.1 1; have y2 := blk_at hSw.1 2; have z0 := blk_at hSw.2 0; have z2 := blk_at hSw.2 2; have z3 := blk_at hSw.2 3; simp only [List.getElem?_cons_zero, List.getElem?_cons_succ] at y0 y1 y2 z0 z2 z3; clear hSw; go_simp) <;> with_reducible rfl)
  (try simp only [Act.put, List.setIfInBounds_toArray, List.set_cons_zero, List.set_cons_succ])
  refine any_take (i := 2) (v := ?_) rfl (by kernel_rfl) (by kernel_rfl) (by kernel_rfl) (by exact fun _ _ _ h => h) (by rfl) ?_ hS ?_
  rotate_left
  · ((intro w hSw; have y0 := blk_at hSw.1 0; have y1 := blk_at hSw.1 1; have y2 := blk_at hSw.1 2; have z0 := blk_at hSw.2 0; have z2 := blk_at hSw.2 2; have z3 := blk_at hSw.2 3; simp only [List.getElem?_cons_zero, List.getElem?_cons_succ] at y0 y1 y2 z0 z2 z3; clear hSw; go_simp) <;> with_reducible rfl)
  (try simp only [Act.put, List.setIfInBounds_toArray, List.set_cons_zero, List.set_cons_succ])
  refine any_take (i := 3) (v := ?_) rfl (by kernel_rfl) (by kernel_rfl) (by kernel_rfl) (by exact fun _ _ _ h => h) (by rfl) ?_ hS ?_
  rotate_left
  · ((intro w hSw; have y0 := blk_at hSw.1 0; have y1 := blk_at hSw.1 1; have y2 := blk_at hSw.1 2; have z0 := blk_at hSw.2 0; have z2 := blk_at hSw.2 2; have z3 := blk_at hSw.2 3; simp only [List.getElem?_cons_zero, List.getElem?_cons_succ] at y0 y1 y2 z0 z2 z3; clear hSw; go_simp) <;> with_reducible rfl)
  (try simp only [Act.put, List.setIfInBounds_toArray, List.set_cons_zero, List.set_cons_succ])
  refine any_take (i := 4) (v := ?_) rfl (by kernel_rfl) (by kernel_rfl) (by kernel_rfl) (by exact fun _ _ _ h => h) (by rfl) ?_ hS ?_
  rotate_left
  · ((intro w hSw; have y0 := blk_at hSw.1 0; have y1 := blk_at hSw.1 1; have y2 := blk_at hSw.1 2; have z0 := blk_at hSw.2 0; have z2 := blk_at hSw.2 2; have z3 := blk_at hSw.2 3; simp only [List.getElem?_cons_zero, List.getElem?_cons_succ] at y0 y1 y2 z0 z2 z3; clear hSw; go_simp) <;> with_reducible rfl)
  (try simp only [Act.put, List.setIfInBounds_toArray, List.set_cons_zero, List.set_cons_succ])
  refine any_take (i := 5) (v := ?_) rfl (by kernel_rfl) (by kernel_rfl) (by kernel_rfl) (by exact fun _ _ _ h => h) (by rfl) ?_ hS ?_
  rotate_left
  · ((intro w hSw; have y0 := blk_at hSw.1 0; have y1 := blk_at hSw.1 1; have y2 := blk_at hSw.1 2; have z0 := blk_at hSw.2 0; have z2 := blk_at hSw.2 2; have z3 := blk_at hSw.2 3; simp only [List.getElem?_cons_zero, List.getElem?_cons_succ] at y0 y1 y2 z0 z2 z3; clear hSw; go_simp) <;> with_reducible rfl)
  (try simp only [Act.put, List.setIfInBounds_toArray, List.set_cons_zero, List.set_cons_succ])
  refine any_take (i := 6) (v := ?_) rfl (by kernel_rfl) (by kernel_rfl) (by kernel_rfl) (by exact fun _ _ _ h => h) (by rfl) ?_ hS ?_
  rotate_left
  · ((intro w hSw; have y0 := blk_at hSw.1 0; have y1 := blk_at hSw.1 1; have y2 := blk_at hSw.1 2; have z0 := blk_at hSw.2 0; have z2 := blk_at hSw.2 2; have z3 := blk_at hSw.2 3; simp only [List.getElem?_cons_zero, List.getElem?_cons_succ] at y0 y1 y2 z0 z2 z3; clear hSw; go_simp) <;> with_reducible rfl)
  (try simp only [Act.put, List.setIfInBounds_toArray, List.set_cons_zero, List.set_cons_succ])
  refine wpAnyH_done (by kernel_rfl) ?_ _
  clear hS
  have H5 : Hid _ := And.intro (And.intro (H4.out.1.1.laterB (Below.refl _ _).drew) (H4.out.1.2.laterB (Below.refl _ _).drew)) (below_then H4.out.2 (Below.refl _ _).drew)
  generalize w4.drew = w5 at *
  clear H4
  go_upto_region 12 with fail
  refine wp_region_held_drew (S := fun W => Blk W g 67 [.int .i64 id, .int .u32 s, .slice (some ⟨t1, 0, none⟩) cnt cnt, .slice (some ⟨d1, 0, none⟩) cnt cnt, .int .i64 len, .int .i64 ad, .int .u32 0, .int .i32 0, .int .u32 0, .bool false] ∧ Blk W P 49 [.int .i64 id, .int .i64 i, .int .i64 cnt, .int .u32 s, .slice x d.length c]) (by kernel_rfl) (⟨H5.out.1.1.laterB (Below.refl _ _).drew, H5.out.1.2.laterB (Below.refl _ _).drew⟩) (fun hS => ?_)
  refine any_take (i := 0) (v := ?_) rfl (by kernel_rfl) (by kernel_rfl) (by kernel_rfl) (by exact fun _ _ _ h => h) (by rfl) ?_ hS ?_
  rotate_left
  · ((intro w hSw; have y0 := blk_at hSw.1 0; have y1 := blk_at hSw.1 1; have y2 := blk_at hSw.1 2; have z0 := blk_at hSw.2 0; have z2 := blk_at hSw.2 2; have z3 := blk_at hSw.2 3; simp only [List.getElem?_cons_zero, List.getElem?_cons_succ] at y0 y1 y2 z0 z2 z3; clear hSw; go_simp) <;> with_reducible rfl)
  (try simp only [Act.put, List.setIfInBounds_toArray, List.set_cons_zero, List.set_cons_succ])
  refine any_take (i := 1) (v := ?_) rfl (by kernel_rfl) (by kernel_rfl) (by kernel_rfl) (by exact fun _ _ _ h => h) (by rfl) ?_ hS ?_
  rotate_left
  · ((intro w hSw; have y0 := blk_at hSw.1 0; have y1 := blk_at hSw.1 1; have y2 := blk_at hSw.1 2; have z0 := blk_at hSw.2 0; have z2 := blk_at hSw.2 2; have z3 := blk_at hSw.2 3; simp only [List.getElem?_cons_zero, List.getElem?_cons_succ] at y0 y1 y2 z0 z2 z3; clear hSw; go_simp) <;> with_reducible rfl)
  (try simp only [Act.put, List.setIfInBounds_toArray, List.set_cons_zero, List.set_cons_succ])
  refine any_take (i := 2) (v := ?_) rfl (by kernel_rfl) (by kernel_rfl) (by kernel_rfl) (by exact fun _ _ _ h => h) (by rfl) ?_ hS ?_
  rotate_left
  · ((intro w hSw; have y0 := blk_at hSw.1 0; have y1 := blk_at hSw.1 1; have y2 := blk_at hSw.1 2; have z0 := blk_at hSw.2 0; have z2 := blk_at hSw.2 2; have z3 := blk_at hSw.2 3; simp only [List.getElem?_cons_zero, List.getElem?_cons_succ] at y0 y1 y2 z0 z2 z3; clear hSw; go_simp) <;> with_reducible rfl)
  (try simp only [Act.put, List.setIfInBounds_toArray, List.set_cons_zero, List.set_cons_succ])
  refine any_take (i := 3) (v := ?_) rfl (by kernel_rfl) (by kernel_rfl) (by kernel_rfl) (by exact fun _ _ _ h => h) (by rfl) ?_ hS ?_
  rotate_left
  · ((intro w hSw; have y0 := blk_at hSw.1 0; have y1 := blk_at hSw.1 1; have y2 := blk_at hSw.1 2; have z0 := blk_at hSw.2 0; have z2 := blk_at hSw.2 2; have z3 := blk_at hSw.2 3; simp only [List.getElem?_cons_zero, List.getElem?_cons_succ] at y0 y1 y2 z0 z2 z3; clear hSw; go_simp) <;> with_reducible rfl)
  (try simp only [Act.put, List.setIfInBounds_toArray, List.set_cons_zero, List.set_cons_succ])
  refine any_take (i := 4) (v := ?_) rfl (by kernel_rfl) (by kernel_rfl) (by kernel_rfl) (by exact fun _ _ _ h => h) (by rfl) ?_ hS ?_
  rotate_left
  · ((intro w hSw; have y0 := blk_at hSw.1 0; have y1 := blk_at hSw.1 1; have y2 := blk_at hSw.1 2; have z0 := blk_at hSw.2 0; have z2 := blk_at hSw.2 2; have z3 := blk_at hSw.2 3; simp only [List.getElem?_cons_zero, List.getElem?_cons_succ] at y0 y1 y2 z0 z2 z3; clear hSw; go_simp) <;> with_reducible rfl)
  (try simp only [Act.put, List.setIfInBounds_toArray, List.set_cons_zero, List.set_cons_succ])
  refine any_take (i := 5) (v := ?_) rfl (by kernel_rfl) (by kernel_rfl) (by kernel_rfl) (by exact fun _ _ _ h => h) (by rfl) ?_ hS ?_
  rotate_left
  · ((intro w hSw; have y0 := blk_at hSw.1 0; have y1 := blk_at hSw.1 1; have y2 := blk_at hSw.1 2; have z0 := blk_at hSw.2 0; have z2 := blk_at hSw.2 2; have z3 := blk_at hSw.2 3; simp only [List.getElem?_cons_zero, List.getElem?_cons_succ] at y0 y1 y2 z0 z2 z3; clear hSw; go_simp) <;> with_reducible rfl)
  (try simp only [Act.put, List.setIfInBounds_toArray, List.set_cons_zero, List.set_cons_succ])
  refine any_take (i := 6) (v := ?_) rfl (by kernel_rfl) (by kernel_rfl) (by kernel_rfl) (by exact fun _ _ _ h => h) (by rfl) ?_ hS ?_
  rotate_left
  · ((intro w hSw; have y0 := blk_at hSw.1 0; have y1 := blk_at hSw.1 1; have y2 := blk_at hSw.1 2; have z0 := blk_at hSw.2 0; have z2 := blk_at hSw.2 2; have z3 := blk_at hSw.2 3; simp only [List.getElem?_cons_zero, List.getElem?_cons_succ] at y0 y1 y2 z0 z2 z3; clear hSw; go_simp) <;> with_reducible rfl)
  (try simp only [Act.put, List.setIfInBounds_toArray, List.set_cons_zero, List.set_cons_succ])
  refine any_take (i := 7) (v := ?_) rfl (by kernel_rfl) (by kernel_rfl) (by kernel_rfl) (by exact fun _ _ _ h => h) (by rfl) ?_ hS ?_
  rotate_left
  · ((intro w hSw; have y0 := blk_at hSw.1 0; have y1 := blk_at hSw.1 1; have y2 := blk_at hSw.1 2; have z0 := blk_at hSw.2 0; have z2 := blk_at hSw.2 2; have z3 := blk_at hSw.2 3; simp only [List.getElem?_cons_zero, List.getElem?_cons_succ] at y0 y1 y2 z0 z2 z3; clear hSw; go_simp) <;> with_reducible rfl)
  (try simp only [Act.put, List.setIfInBounds_toArray, List.set_cons_zero, List.set_cons_succ])
  refine any_take (i := 8) (v := ?_) rfl (by kernel_rfl) (by kernel_rfl) (by kernel_rfl) (by exact fun _ _ _ h => h) (by rfl) ?_ hS ?_
  rotate_left
  · ((intro w hSw; have y0 := blk_at hSw.1 0; have y1 := blk_at hSw.1 1; have y2 := blk_at hSw.1 2; have z0 := blk_at hSw.2 0; have z2 := blk_at hSw.2 2; have z3 := blk_at hSw.2 3; simp only [List.getElem?_cons_zero, List.getElem?_cons_succ] at y0 y1 y2 z0 z2 z3; clear hSw; go_simp) <;> with_reducible rfl)
  (try simp only [Act.put, List.setIfInBounds_toArray, List.set_cons_zero, List.set_cons_succ])
  refine any_take (i := 9) (v := ?_) rfl (by kernel_rfl) (by kernel_rfl) (by kernel_rfl) (by exact fun _ _ _ h => h) (by rfl) ?_ hS ?_
  rotate_left
  · ((intro w hSw; have y0 := blk_at hSw.1 0; have y1 := blk_at hSw.1 1; have y2 := blk_at hSw.1 2; have z0 := blk_at hSw.2 0; have z2 := blk_at hSw.2 2; have z3 := blk_at hSw.2 3; simp only [List.getElem?_cons_zero, List.getElem?_cons_succ] at y0 y1 y2 z0 z2 z3; clear hSw; go_simp) <;> with_reducible rfl)
  (try simp only [Act.put, List.setIfInBounds_toArray, List.set_cons_zero, List.set_cons_succ])
  refine any_take (i := 10) (v := ?_) rfl (by kernel_rfl) (by kernel_rfl) (by kernel_rfl) (by exact fun _ _ _ h => h) (by rfl) ?_ hS ?_
  rotate_left
  · ((intro w hSw; have y0 := blk_at hSw.1 0; have y1 := blk_at hSw.1 1; have y2 := blk_at hSw.1 2; have z0 := blk_at hSw.2 0; have z2 := blk_at hSw.2 2; have z3 := blk_at hSw.2 3; simp only [List.getElem?_cons_zero, List.getElem?_cons_succ] at y0 y1 y2 z0 z2 z3; clear hSw; go_simp) <;> with_reducible rfl)
  (try simp only [Act.put, List.setIfInBounds_toArray, List.set_cons_zero, List.set_cons_succ])
  refine any_take (i := 11) (v := ?_) rfl (by kernel_rfl) (by kernel_rfl) (by kernel_rfl) (by exact fun _ _ _ h => h) (by rfl) ?_ hS ?_
  rotate_left
  · ((intro w hSw; have y0 := blk_at hSw.1 0; have y1 := blk_at hSw.1 1; have y2 := blk_at hSw.1 2; have z0 := blk_at hSw.2 0; have z2 := blk_at hSw.2 2; have z3 := blk_at hSw.2 3; simp only [List.getElem?_cons_zero, List.getElem?_cons_succ] at y0 y1 y2 z0 z2 z3; clear hSw; go_simp) <;> with_reducible rfl)
  (try simp only [Act.put, List.setIfInBounds_toArray, List.set_cons_zero, List.set_cons_succ])
  refine any_take (i := 12) (v := ?_) rfl (by kernel_rfl) (by kernel_rfl) (by kernel_rfl) (by exact fun _ _ _ h => h) (by rfl) ?_ hS ?_
  rotate_left
  · ((intro w hSw; have y0 := blk_at hSw.1 0; have y1 := blk_at hSw.1 1; have y2 := blk_at hSw.1 2; have z0 := blk_at hSw.2 0; have z2 := blk_at hSw.2 2; have z3 := blk_at hSw.2 3; simp only [List.getElem?_cons_zero, List.getElem?_cons_succ] at y0 y1 y2 z0 z2 z3; clear hSw; go_simp) <;> with_reducible rfl)
  (try simp only [Act.put, List.setIfInBounds_toArray, List.set_cons_zero, List.set_cons_succ])
  refine any_take (i := 13) (v := ?_) rfl (by kernel_rfl) (by kernel_rfl) (by kernel_rfl) (by exact fun _ _ _ h => h) (by rfl) ?_ hS ?_
  rotate_left
  · ((intro w hSw; have y0 := blk_at hSw.1 0; have y1 := blk_at hSw.1 1; have y2 := blk_at hSw.1 2; have z0 := blk_at hSw.2 0; have z2 := blk_at hSw.2 2; have z3 := blk_at hSw.2 3; simp only [List.getElem?_cons_zero, List.getElem?_cons_succ] at y0 y1 y2 z0 z2 z3; clear hSw; go_simp) <;> with_reducible rfl)
  (try simp only [Act.put, List.setIfInBounds_toArray, List.set_cons_zero, List.set_cons_succ])
  refine any_take (i := 14) (v := ?_) rfl (by kernel_rfl) (by kernel_rfl) (by kernel_rfl) (by exact fun _ _ _ h => h) (by rfl) ?_ hS ?_
  rotate_left
  · ((intro w hSw; have y0 := blk_at hSw.1 0; have y1 := blk_at hSw.1 1; have y2 := blk_at hSw.1 2; have z0 := blk_at hSw.2 0; have z2 := blk_at hSw.2 2; have z3 := blk_at hSw.2 3; simp only [List.getElem?_cons_zero, List.getElem?_cons_succ] at y0 y1 y2 z0 z2 z3; clear hSw; go_simp) <;> with_reducible rfl)
  (try simp only [Act.put, List.setIfInBounds_toArray, List.set_cons_zero, List.set_cons_succ])
  refine any_take (i := 15) (v := ?_) rfl (by kernel_rfl) (by kernel_rfl) (by kernel_rfl) (by exact fun _ _ _ h => h) (by rfl) ?_ hS ?_
  rotate_left
  · ((intro w hSw; have y0 := blk_at hSw.1 0; have y1 := blk_at hSw.1 1; have y2 := blk_at hSw.1 2; have z0 := blk_at hSw.2 0; have z2 := blk_at hSw.2 2; have z3 := blk_at hSw.2 3; simp only [List.getElem?_cons_zero, List.getElem?_cons_succ] at y0 y1 y2 z0 z2 z3; clear hSw; go_simp) <;> with_reducible rfl)
  (try simp only [Act.put, List.setIfInBounds_toArray, List.set_cons_zero, List.set_cons_succ])
  refine any_take (i := 16) (v := ?_) rfl (by kernel_rfl) (by kernel_rfl) (by kernel_rfl) (by exact fun _ _ _ h => h) (by rfl) ?_ hS ?_
  rotate_left
  · ((intro w hSw; have y0 := blk_at hSw.1 0; have y1 := blk_at hSw.1 1; have y2 := blk_at hSw.1 2; have z0 := blk_at hSw.2 0; have z2 := blk_at hSw.2 2; have z3 := blk_at hSw.2 3; simp only [List.getElem?_cons_zero, List.getElem?_cons_succ] at y0 y1 y2 z0 z2 z3; clear hSw; go_simp) <;> with_reducible rfl)
  (try simp only [Act.put, List.setIfInBounds_toArray, List.set_cons_zero, List.set_cons_succ])
  refine wpAnyH_done (by kernel_rfl) ?_ _
  clear hS
  have H6 : Hid _ := And.intro (H5.out.1.2.laterB (Below.refl _ _).drew) (below_then H5.out.2 (Below.refl _ _).drew)
  generalize w5.drew = w6 at *
  clear H5
  have z0 := blk_at H6.out.1 0
  have z1 := blk_at H6.out.1 1
  have z2 := blk_at H6.out.1 2
  have z3 := blk_at H6.out.1 3
  have z4 := blk_at H6.out.1 4
  simp only [List.getElem?_cons_zero, List.getElem?_cons_succ] at z0 z1 z2 z3 z4
  have NP : Hid _ := HPut.out _ H6.out.2
  clear HPut
  go_wp2_with fail
  clear z0 z1 z2 z3 z4 H6
  refine (Calls.mono NP.out) ?_
  rintro e w7 ⟨rfl, p', q1, q2, q3, q4, q5⟩
  clear NP
  have y5 := blk_at q2.holds.blk 5
  have y6 := blk_frozen q2.holds.blk 5
  simp only [List.getElem?_cons_zero, List.getElem?_cons_succ] at y5
  rw [KS.out.2.1, ← had1] at y5
  rw [q1] at y5 y6
  have hno := q2.holds.ad
  rw [KS.out.2.1, ← had1] at hno
  have hbad : ad ≤ 1000000000 := by rw [had1]; exact hadm
  have NA : Hid _ := atAdd_any g 5 ad w7 y5 y6 ⟨hno, hbad⟩
  have F : Hid _ := add_step KS.out.1 q3 q2 q4 q5
  rw [q1, KS.out.2.1, ← had1] at F
  have F2 : Hid _ := And.intro q1 F.out
  clear y5 y6 F q3 q4 q5 hno hbad had1
  go_wp2_with fail
  refine (Calls.mono NA.out) ?_
  rintro e _ ⟨rfl, rfl⟩
  clear NA
  go_wp2
  go_ret
  exact ⟨rfl, p', by rw [F2.out.1]; exact HGg.out.1, by have := F2.out.2; rw [KS.out.2.2] at this; exact this⟩

set_option maxHeartbeats 8000000 in
/-- a piece of a later image -/
theorem add_new (a : Option Addr) (cap : Nat) (l : List (BitVec 8)) (p : CPl) (m : CR) (w : World) (h : (crOb p m).Ok w) (hle : l.length ≤ cap) (hr : Row w a l) (hn : a = none → cap = 0) (hlen : l.length ≤ 140737488351232) (hE : dcE l = 0) (id s : Int) (i cnt : Nat) (d : List (BitVec 8)) (hR : dcR l = (id, (i : Int), (cnt : Int), s, d)) (hid : m.id < id) (hic : i < cnt) (hc2 : cnt ≤ 256) (hl0 : d.length ≤ 65536) (hadm0 : m.ad ≤ 1000000000) :
    Calls Try.prog 12 #[.pointer (some ⟨p.g, 0, none⟩), .slice a l.length cap] w fun e w' => e = .returned (.int .i64 0) ∧ ∃ p', p'.g = p.g ∧ Step w w' (crOb p m) (crOb p' (addM (setPc (begM m id s cnt) i d))) := by
  have HD : Hid _ := decode_any a cap l w hle hr hn hlen
  have hG := h.holds.blk
  have y9 := blk_at hG 9
  simp only [List.getElem?_cons_zero, List.getElem?_cons_succ] at y9
  rw [hE, hR] at HD
  dsimp only at HD
  clear hr hn
  obtain ⟨g, hg⟩ : ∃ g, g = p.g := ⟨_, rfl⟩
  go_enter Try.func12, Try.ntmps12
  go_wp2_with fail
  clear y9
  refine (Calls.mono HD.out) ?_
  rintro r w1 ⟨x, c, rfl, ho, b1⟩
  have b2 : Below w1.heap.size w1 (w1.alloc (.cells #[.int .i64 id, .int .i64 i, .int .i64 cnt, .int .u32 s, .slice x d.length c] 49)) := (Below.refl _ _).alloc (Nat.le_refl _) _
  have hP := Blk.new' w1 49 [.int .i64 id, .int .i64 i, .int .i64 cnt, .int .u32 s, .slice x d.length c]
  have hPW : w1.heap.size ∉ (crOb p m).W := fun hk => by have := h.lt _ (.inl hk); have := b1.size; omega
  have K2 : Hid _ := And.intro (h.later (below_then b1 b2)) (And.intro (below_then b1 b2) (And.intro ((ho.later b2) : Own _ w.heap.size _ d) (And.intro hP (And.intro h hPW))))
  clear HD ho b1 b2 hP h hG hPW
  go_upto_region 8 with fail
  obtain ⟨P, hPe⟩ : ∃ P, P = w1.heap.size := ⟨_, rfl⟩
  rw [← hPe] at K2 ⊢
  generalize (w1.alloc (.cells #[.int .i64 id, .int .i64 i, .int .i64 cnt, .int .u32 s, .slice x d.length c] 49)) = w2 at *
  clear hPe
  have HBe : Hid (∀ W, Below w2.heap.size w2 W → Calls Try.prog 23 #[.pointer (some ⟨g, 0, none⟩), .agg #[.int .i64 id, .int .i64 i, .int .i64 cnt, .int .u32 s, .slice x d.length c]] W fun e w' => e = .returned (.tuple #[]) ∧ ∃ p1, p1.g = g ∧ (crOb p1 (begM m id s cnt)).Ok w' ∧ Step w w' (crOb p m) (crOb p1 (begM m id s cnt)) ∧ Own w' w.heap.size (.slice x d.length c) d ∧ Blk w' P 49 [.int .i64 id, .int .i64 i, .int .i64 cnt, .int .u32 s, .slice x d.length c]) := fun W hW => by
    have hok := K2.out.1.later hW
    have := begin_any p m id i cnt s x d.length c W hok ⟨by omega, hc2⟩
    rw [← hg] at this
    refine this.mono ?_
    rintro e w' ⟨rfl, p1, q1, q2⟩
    refine ⟨rfl, p1, q1, q2.ok, ⟨(tnd6 (below_then K2.out.2.1 hW)).trans (q2.turned.mono (fun k e => .inl e)), q2.ok, fun k hk => (q2.writes k hk).imp (fun e => e) (fun e => ?_), fun k hk => (q2.reads k hk).imp (fun e => e) (fun e => e.imp (fun e => e) (fun e => ?_))⟩, (K2.out.2.2.1.later hW).turned q2.turned (own_notW hok.holds (K2.out.2.2.1.later hW)), (K2.out.2.2.2.1.laterB hW).turned q2.turned K2.out.2.2.2.2.2⟩
    · have := (below_then K2.out.2.1 hW).size; omega
    · have := (below_then K2.out.2.1 hW).size; omega
  have H2 : Hid _ := And.intro (And.intro K2.out.1.holds.blk K2.out.2.2.2.1) (Below.refl w2.heap.size w2)
  rw [← hg] at H2 ⊢
  obtain ⟨m1, hm1⟩ : ∃ m1, m1 = begM m id s cnt := ⟨_, rfl⟩
  rw [← hm1] at HBe
  have hadm : m1.ad ≤ 1000000000 := by rw [hm1]; exact hadm0
  have hl1 : m1.ps[i]? = some none → lenOf m1.ps + d.length ≤ 65536 := fun _ => by rw [hm1, show lenOf (begM m id s cnt).ps = 0 from lenOf_none cnt]; omega
  have e0 : m1.id = id ∧ m1.s = s ∧ m1.ps.length = cnt := by rw [hm1]; exact ⟨rfl, rfl, by simp [begM]⟩
  have HM : Hid _ := And.intro hm1 e0
  have HGg : Hid _ := And.intro hg trivial
  clear hg
  clear K2 hm1 e0 hadm0
  generalize m.id = mid at *
  generalize m.s = ms at *
  generalize p.tv m.ps.length = TV at *
  generalize p.dv m.ps.length = DV at *
  generalize lenOf m.ps = len at *
  generalize m.ad = ad at *
  refine wp_region_held_drew (S := fun W => Blk W g 67 [.int .i64 mid, .int .u32 ms, TV, DV, .int .i64 len, .int .i64 ad, .int .u32 0, .int .i32 0, .int .u32 0, .bool false] ∧ Blk W P 49 [.int .i64 id, .int .i64 i, .int .i64 cnt, .int .u32 s, .slice x d.length c]) (by kernel_rfl) (⟨H2.out.1.1.laterB (Below.refl _ _).drew, H2.out.1.2.laterB (Below.refl _ _).drew⟩) (fun hS => ?_)
  refine any_take (i := 0) (v := ?_) rfl (by kernel_rfl) (by kernel_rfl) (by kernel_rfl) (by exact fun _ _ _ h => h) (by rfl) ?_ hS ?_
  rotate_left
  · ((intro w hSw; have y0 := blk_at hSw.1 0; have y1 := blk_at hSw.1 1; have y2 := blk_at hSw.1 2; have z0 := blk_at hSw.2 0; have z2 := blk_at hSw.2 2; have z3 := blk_at hSw.2 3; simp only [List.getElem?_cons_zero, List.getElem?_cons_succ] at y0 y1 y2 z0 z2 z3; clear hSw; go_simp) <;> with_reducible rfl)
  (try simp only [Act.put, List.setIfInBounds_toArray, List.set_cons_zero, List.set_cons_succ])
  refine any_take (i := 1) (v := ?_) rfl (by kernel_rfl) (by kernel_rfl) (by kernel_rfl) (by exact fun _ _ _ h => h) (by rfl) ?_ hS ?_
  rotate_left
  · ((intro w hSw; have y0 := blk_at hSw.1 0; have y1 := blk_at hSw.1 1; have y2 := blk_at hSw.1 2; have z0 := blk_at hSw.2 0; have z2 := blk_at hSw.2 2; have z3 := blk_at hSw.2 3; simp only [List.getElem?_cons_zero, List.getElem?_cons_succ] at y0 y1 y2 z0 z2 z3; clear hSw; go_simp) <;> with_reducible rfl)
  (try simp only [Act.put, List.setIfInBounds_toArray, List.set_cons_zero, List.set_cons_succ])
  refine any_take (i := 2) (v := ?_) rfl (by kernel_rfl) (by kernel_rfl) (by kernel_rfl) (by exact fun _ _ _ h => h) (by rfl) ?_ hS ?_
  rotate_left
  · ((intro w hSw; have y0 := blk_at hSw.1 0; have y1 := blk_at hSw.1 1; have y2 := blk_at hSw.1 2; have z0 := blk_at hSw.2 0; have z2 := blk_at hSw.2 2; have z3 := blk_at hSw.2 3; simp only [List.getElem?_cons_zero, List.getElem?_cons_succ] at y0 y1 y2 z0 z2 z3; clear hSw; go_simp) <;> with_reducible rfl)
  (try simp only [Act.put, List.setIfInBounds_toArray, List.set_cons_zero, List.set_cons_succ])
  refine any_take (i := 3) (v := ?_) rfl (by kernel_rfl) (by kernel_rfl) (by kernel_rfl) (by exact fun _ _ _ h => h) (by rfl) ?_ hS ?_
  rotate_left
  · ((intro w hSw; have y0 := blk_at hSw.1 0; have y1 := blk_at hSw.1 1; have y2 := blk_at hSw.1 2; have z0 := blk_at hSw.2 0; have z2 := blk_at hSw.2 2; have z3 := blk_at hSw.2 3; simp only [List.getElem?_cons_zero, List.getElem?_cons_succ] at y0 y1 y2 z0 z2 z3; clear hSw; go_simp) <;> with_reducible rfl)
  (try simp only [Act.put, List.setIfInBounds_toArray, List.set_cons_zero, List.set_cons_succ])
  refine any_take (i := 4) (v := ?_) rfl (by kernel_rfl) (by kernel_rfl) (by kernel_rfl) (by exact fun _ _ _ h => h) (by rfl) ?_ hS ?_
  rotate_left
  · ((intro w hSw; have y0 := blk_at hSw.1 0; have y1 := blk_at hSw.1 1; have y2 := blk_at hSw.1 2; have z0 := blk_at hSw.2 0; have z2 := blk_at hSw.2 2; have z3 := blk_at hSw.2 3; simp only [List.getElem?_cons_zero, List.getElem?_cons_succ] at y0 y1 y2 z0 z2 z3; clear hSw; go_simp) <;> with_reducible rfl)
  (try simp only [Act.put, List.setIfInBounds_toArray, List.set_cons_zero, List.set_cons_succ])
  refine any_take (i := 5) (v := ?_) rfl (by kernel_rfl) (by kernel_rfl) (by kernel_rfl) (by exact fun _ _ _ h => h) (by rfl) ?_ hS ?_
  rotate_left
  · ((intro w hSw; have y0 := blk_at hSw.1 0; have y1 := blk_at hSw.1 1; have y2 := blk_at hSw.1 2; have z0 := blk_at hSw.2 0; have z2 := blk_at hSw.2 2; have z3 := blk_at hSw.2 3; simp only [List.getElem?_cons_zero, List.getElem?_cons_succ] at y0 y1 y2 z0 z2 z3; clear hSw; go_simp) <;> with_reducible rfl)
  (try simp only [Act.put, List.setIfInBounds_toArray, List.set_cons_zero, List.set_cons_succ])
  refine any_take (i := 6) (v := ?_) rfl (by kernel_rfl) (by kernel_rfl) (by kernel_rfl) (by exact fun _ _ _ h => h) (by rfl) ?_ hS ?_
  rotate_left
  · ((intro w hSw; have y0 := blk_at hSw.1 0; have y1 := blk_at hSw.1 1; have y2 := blk_at hSw.1 2; have z0 := blk_at hSw.2 0; have z2 := blk_at hSw.2 2; have z3 := blk_at hSw.2 3; simp only [List.getElem?_cons_zero, List.getElem?_cons_succ] at y0 y1 y2 z0 z2 z3; clear hSw; go_simp) <;> with_reducible rfl)
  (try simp only [Act.put, List.setIfInBounds_toArray, List.set_cons_zero, List.set_cons_succ])
  refine wpAnyH_done (by kernel_rfl) ?_ _
  clear hS
  have H3 : Hid _ := And.intro (H2.out.1.2.laterB (Below.refl _ _).drew) (below_then H2.out.2 (Below.refl _ _).drew)
  generalize w2.drew = w3 at *
  clear H2
  have z0 := blk_at H3.out.1 0
  have z1 := blk_at H3.out.1 1
  have z2 := blk_at H3.out.1 2
  have z3 := blk_at H3.out.1 3
  have z4 := blk_at H3.out.1 4
  simp only [List.getElem?_cons_zero, List.getElem?_cons_succ] at z0 z1 z2 z3 z4
  have NB : Hid _ := HBe.out _ H3.out.2
  clear HBe
  go_wp2_with fail
  clear z0 z1 z2 z3 z4 H3
  refine (Calls.mono NB.out) ?_
  rintro e w4 ⟨rfl, p1, hp1, k1, k2, k3, k4⟩
  have K4 : Hid _ := And.intro k1 (And.intro k2 (And.intro k3 k4))
  clear k1 k2 k3 k4 NB
  have hm1 := HM.out.1
  have e1 : m1.id = id ∧ m1.s = s ∧ m1.ps.length = cnt ∧ p1.g = g := ⟨HM.out.2.1, HM.out.2.2.1, HM.out.2.2.2, hp1⟩
  have hd1 : m1.ps.length ≠ 0 := by omega
  have hGb := K4.out.1.holds.blk
  have hGv : p1.tv m1.ps.length = .slice (some ⟨p1.t, 0, none⟩) m1.ps.length m1.ps.length ∧ p1.dv m1.ps.length = .slice (some ⟨p1.d, 0, none⟩) m1.ps.length m1.ps.length := by
    unfold CPl.tv CPl.dv; rw [if_neg hd1, if_neg hd1]; exact ⟨rfl, rfl⟩
  rw [hGv.1, hGv.2, e1.1, e1.2.1, e1.2.2.1, e1.2.2.2] at hGb
  have HPut : Hid (∀ W, Below w4.heap.size w4 W → Calls Try.prog 24 #[.pointer (some ⟨g, 0, none⟩), .agg #[.int .i64 id, .int .i64 i, .int .i64 cnt, .int .u32 s, .slice x d.length c]] W fun e w' => e = .returned (.tuple #[]) ∧ ∃ p', p'.g = g ∧ (crOb p' (setPc m1 i d)).Ok w' ∧ Turned (· ∈ (crOb p1 m1).W) w4 w' ∧ (crOb p' (setPc m1 i d)).W = (crOb p1 m1).W ∧ ∀ k ∈ (crOb p' (setPc m1 i d)).V, k ∈ (crOb p1 m1).V ∨ w.heap.size ≤ k) := fun W hW => by
    have hok := K4.out.1.later hW
    have hown := K4.out.2.2.1.later hW
    have := crPut_any p1 m1 id i cnt s x c d W hok (by rw [e1.2.2.1]; exact hic) hl1 (hown.lower (Nat.zero_le _)) (own_notW hok.holds hown)
    rw [e1.2.2.2] at this
    refine this.mono ?_
    rintro e w' ⟨rfl, p', q1, q2, q3, q4, q5⟩
    refine ⟨rfl, p', q1, q2, (tnd6 hW).trans (q3.mono (fun k e => .inl e)), q4, fun k hk => (q5 k hk).imp (fun e => e) (fun e => ?_)⟩
    exact (World.ownsRow.lt hown k e).1
  have H4 : Hid _ := And.intro (And.intro hGb K4.out.2.2.2) (Below.refl w4.heap.size w4)
  have KS : Hid _ := And.intro K4.out.2.1 (And.intro (show (setPc m1 i d).ad = m1.ad from setPc_ad m1 i d) hm1)
  clear K4 hGb hGv hd1 hl1 e1 hm1
  generalize p1.t = t1 at *
  generalize p1.d = d1 at *
  generalize lenOf m1.ps = len at *
  obtain ⟨ad, had1⟩ : ∃ ad, ad = m1.ad := ⟨_, rfl⟩
  rw [← had1] at H4
  go_upto_region 10 with fail
  refine wp_region_held_drew (S := fun W => Blk W g 67 [.int .i64 id, .int .u32 s, .slice (some ⟨t1, 0, none⟩) cnt cnt, .slice (some ⟨d1, 0, none⟩) cnt cnt, .int .i64 len, .int .i64 ad, .int .u32 0, .int .i32 0, .int .u32 0, .bool false] ∧ Blk W P 49 [.int .i64 id, .int .i64 i, .int .i64 cnt, .int .u32 s, .slice x d.length c]) (by kernel_rfl) (⟨H4.out.1.1.laterB (Below.refl _ _).drew, H4.out.1.2.laterB (Below.refl _ _).drew⟩) (fun hS => ?_)
  refine any_take (i := 0) (v := ?_) rfl (by kernel_rfl) (by kernel_rfl) (by kernel_rfl) (by exact fun _ _ _ h => h) (by rfl) ?_ hS ?_
  rotate_left
  · ((intro w hSw; have y0 := blk_at hSw.1 0; have y1 := blk_at hSw.1 1; have y2 := blk_at hSw.1 2; have z0 := blk_at hSw.2 0; have z2 := blk_at hSw.2 2; have z3 := blk_at hSw.2 3; simp only [List.getElem?_cons_zero, List.getElem?_cons_succ] at y0 y1 y2 z0 z2 z3; clear hSw; go_simp) <;> with_reducible rfl)
  (try simp only [Act.put, List.setIfInBounds_toArray, List.set_cons_zero, List.set_cons_succ])
  refine any_take (i := 1) (v := ?_) rfl (by kernel_rfl) (by kernel_rfl) (by kernel_rfl) (by exact fun _ _ _ h => h) (by rfl) ?_ hS ?_
  rotate_left
  · ((intro w hSw; have y0 := blk_at hSw.1 0; have y1 := blk_at hSw.1 1; have y2 := blk_at hSw.1 2; have z0 := blk_at hSw.2 0; have z2 := blk_at hSw.2 2; have z3 := blk_at hSw.2 3; simp only [List.getElem?_cons_zero, List.getElem?_cons_succ] at y0 y1 y2 z0 z2 z3; clear hSw; go_simp) <;> with_reducible rfl)
  (try simp only [Act.put, List.setIfInBounds_toArray, List.set_cons_zero, List.set_cons_succ])
  refine any_take (i := 2) (v := ?_) rfl (by kernel_rfl) (by kernel_rfl) (by kernel_rfl) (by exact fun _ _ _ h => h) (by rfl) ?_ hS ?_
  rotate_left
  · ((intro w hSw; have y0 := blk_at hSw.1 0; have y1 := blk_at hSw.1 1; have y2 := blk_at hSw.1 2; have z0 := blk_at hSw.2 0; have z2 := blk_at hSw.2 2; have z3 := blk_at hSw.2 3; simp only [List.getElem?_cons_zero, List.getElem?_cons_succ] at y0 y1 y2 z0 z2 z3; clear hSw; go_simp) <;> with_reducible rfl)
  (try simp only [Act.put, List.setIfInBounds_toArray, List.set_cons_zero, List.set_cons_succ])
  refine any_take (i := 3) (v := ?_) rfl (by kernel_rfl) (by kernel_rfl) (by kernel_rfl) (by exact fun _ _ _ h => h) (by rfl) ?_ hS ?_
  rotate_left
  · ((intro w hSw; have y0 := blk_at hSw.1 0; have y1 := blk_at hSw.1 1; have y2 := blk_at hSw.1 2; have z0 := blk_at hSw.2 0; have z2 := blk_at hSw.2 2; have z3 := blk_at hSw.2 3; simp only [List.getElem?_cons_zero, List.getElem?_cons_succ] at y0 y1 y2 z0 z2 z3; clear hSw; go_simp) <;> with_reducible rfl)
  (try simp only [Act.put, List.setIfInBounds_toArray, List.set_cons_zero, List.set_cons_succ])
  refine any_take (i := 4) (v := ?_) rfl (by kernel_rfl) (by kernel_rfl) (by kernel_rfl) (by exact fun _ _ _ h => h) (by rfl) ?_ hS ?_
  rotate_left
  · ((intro w hSw; have y0 := blk_at hSw.1 0; have y1 := blk_at hSw.1 1; have y2 := blk_at hSw.1 2; have z0 := blk_at hSw.2 0; have z2 := blk_at hSw.2 2; have z3 := blk_at hSw.2 3; simp only [List.getElem?_cons_zero, List.getElem?_cons_succ] at y0 y1 y2 z0 z2 z3; clear hSw; go_simp) <;> with_reducible rfl)
  (try simp only [Act.put, List.setIfInBounds_toArray, List.set_cons_zero, List.set_cons_succ])
  refine any_take (i := 5) (v := ?_) rfl (by kernel_rfl) (by kernel_rfl) (by kernel_rfl) (by exact fun _ _ _ h => h) (by rfl) ?_ hS ?_
  rotate_left
  · ((intro w hSw; have y0 := blk_at hSw.1 0; have y1 := blk_at hSw.1 1; have y2 := blk_at hSw.1 2; have z0 := blk_at hSw.2 0; have z2 := blk_at hSw.2 2; have z3 := blk_at hSw.2 3; simp only [List.getElem?_cons_zero, List.getElem?_cons_succ] at y0 y1 y2 z0 z2 z3; clear hSw; go_simp) <;> with_reducible rfl)
  (try simp only [Act.put, List.setIfInBounds_toArray, List.set_cons_zero, List.set_cons_succ])
  refine any_take (i := 6) (v := ?_) rfl (by kernel_rfl) (by kernel_rfl) (by kernel_rfl) (by exact fun _ _ _ h => h) (by rfl) ?_ hS ?_
  rotate_left
  · ((intro w hSw; have y0 := blk_at hSw.1 0; have y1 := blk_at hSw.1 1; have y2 := blk_at hSw.1 2; have z0 := blk_at hSw.2 0; have z2 := blk_at hSw.2 2; have z3 := blk_at hSw.2 3; simp only [List.getElem?_cons_zero, List.getElem?_cons_succ] at y0 y1 y2 z0 z2 z3; clear hSw; go_simp) <;> with_reducible rfl)
  (try simp only [Act.put, List.setIfInBounds_toArray, List.set_cons_zero, List.set_cons_succ])
  refine wpAnyH_done (by kernel_rfl) ?_ _
  clear hS
  have H5 : Hid _ := And.intro (And.intro (H4.out.1.1.laterB (Below.refl _ _).drew) (H4.out.1.2.laterB (Below.refl _ _).drew)) (below_then H4.out.2 (Below.refl _ _).drew)
  generalize w4.drew = w5 at *
  clear H4
  go_upto_region 12 with fail
  refine wp_region_held_drew (S := fun W => Blk W g 67 [.int .i64 id, .int .u32 s, .slice (some ⟨t1, 0, none⟩) cnt cnt, .slice (some ⟨d1, 0, none⟩) cnt cnt, .int .i64 len, .int .i64 ad, .int .u32 0, .int .i32 0, .int .u32 0, .bool false] ∧ Blk W P 49 [.int .i64 id, .int .i64 i, .int .i64 cnt, .int .u32 s, .slice x d.length c]) (by kernel_rfl) (⟨H5.out.1.1.laterB (Below.refl _ _).drew, H5.out.1.2.laterB (Below.refl _ _).drew⟩) (fun hS => ?_)
  refine any_take (i := 0) (v := ?_) rfl (by kernel_rfl) (by kernel_rfl) (by kernel_rfl) (by exact fun _ _ _ h => h) (by rfl) ?_ hS ?_
  rotate_left
  · ((intro w hSw; have y0 := blk_at hSw.1 0; have y1 := blk_at hSw.1 1; have y2 := blk_at hSw.1 2; have z0 := blk_at hSw.2 0; have z2 := blk_at hSw.2 2; have z3 := blk_at hSw.2 3; simp only [List.getElem?_cons_zero, List.getElem?_cons_succ] at y0 y1 y2 z0 z2 z3; clear hSw; go_simp) <;> with_reducible rfl)
  (try simp only [Act.put, List.setIfInBounds_toArray, List.set_cons_zero, List.set_cons_succ])
  refine any_take (i := 1) (v := ?_) rfl (by kernel_rfl) (by kernel_rfl) (by kernel_rfl) (by exact fun _ _ _ h => h) (by rfl) ?_ hS ?_
  rotate_left
  · ((intro w hSw; have y0 := blk_at hSw.1 0; have y1 := blk_at hSw.1 1; have y2 := blk_at hSw.1 2; have z0 := blk_at hSw.2 0; have z2 := blk_at hSw.2 2; have z3 := blk_at hSw.2 3; simp only [List.getElem?_cons_zero, List.getElem?_cons_succ] at y0 y1 y2 z0 z2 z3; clear hSw; go_simp) <;> with_reducible rfl)
  (try simp only [Act.put, List.setIfInBounds_toArray, List.set_cons_zero, List.set_cons_succ])
  refine any_take (i := 2) (v := ?_) rfl (by kernel_rfl) (by kernel_rfl) (by kernel_rfl) (by exact fun _ _ _ h => h) (by rfl) ?_ hS ?_
  rotate_left
  · ((intro w hSw; have y0 := blk_at hSw.1 0; have y1 := blk_at hSw.1 1; have y2 := blk_at hSw.1 2; have z0 := blk_at hSw.2 0; have z2 := blk_at hSw.2 2; have z3 := blk_at hSw.2 3; simp only [List.getElem?_cons_zero, List.getElem?_cons_succ] at y0 y1 y2 z0 z2 z3; clear hSw; go_simp) <;> with_reducible rfl)
  (try simp only [Act.put, List.setIfInBounds_toArray, List.set_cons_zero, List.set_cons_succ])
  refine any_take (i := 3) (v := ?_) rfl (by kernel_rfl) (by kernel_rfl) (by kernel_rfl) (by exact fun _ _ _ h => h) (by rfl) ?_ hS ?_
  rotate_left
  · ((intro w hSw; have y0 := blk_at hSw.1 0; have y1 := blk_at hSw.1 1; have y2 := blk_at hSw.1 2; have z0 := blk_at hSw.2 0; have z2 := blk_at hSw.2 2; have z3 := blk_at hSw.2 3; simp only [List.getElem?_cons_zero, List.getElem?_cons_succ] at y0 y1 y2 z0 z2 z3; clear hSw; go_simp) <;> with_reducible rfl)
  (try simp only [Act.put, List.setIfInBounds_toArray, List.set_cons_zero, List.set_cons_succ])
  refine any_take (i := 4) (v := ?_) rfl (by kernel_rfl) (by kernel_rfl) (by kernel_rfl) (by exact fun _ _ _ h => h) (by rfl) ?_ hS ?_
  rotate_left
  · ((intro w hSw; have y0 := blk_at hSw.1 0; have y1 := blk_at hSw.1 1; have y2 := blk_at hSw.1 2; have z0 := blk_at hSw.2 0; have z2 := blk_at hSw.2 2; have z3 := blk_at hSw.2 3; simp only [List.getElem?_cons_zero, List.getElem?_cons_succ] at y0 y1 y2 z0 z2 z3; clear hSw; go_simp) <;> with_reducible rfl)
  (try simp only [Act.put, List.setIfInBounds_toArray, List.set_cons_zero, List.set_cons_succ])
  refine any_take (i := 5) (v := ?_) rfl (by kernel_rfl) (by kernel_rfl) (by kernel_rfl) (by exact fun _ _ _ h => h) (by rfl) ?_ hS ?_
  rotate_left
  · ((intro w hSw; have y0 := blk_at hSw.1 0; have y1 := blk_at hSw.1 1; have y2 := blk_at hSw.1 2; have z0 := blk_at hSw.2 0; have z2 := blk_at hSw.2 2; have z3 := blk_at hSw.2 3; simp only [List.getElem?_cons_zero, List.getElem?_cons_succ] at y0 y1 y2 z0 z2 z3; clear hSw; go_simp) <;> with_reducible rfl)
  (try simp only [Act.put, List.setIfInBounds_toArray, List.set_cons_zero, List.set_cons_succ])
  refine any_take (i := 6) (v := ?_) rfl (by kernel_rfl) (by kernel_rfl) (by kernel_rfl) (by exact fun _ _ _ h => h) (by rfl) ?_ hS ?_
  rotate_left
  · ((intro w hSw; have y0 := blk_at hSw.1 0; have y1 := blk_at hSw.1 1; have y2 := blk_at hSw.1 2; have z0 := blk_at hSw.2 0; have z2 := blk_at hSw.2 2; have z3 := blk_at hSw.2 3; simp only [List.getElem?_cons_zero, List.getElem?_cons_succ] at y0 y1 y2 z0 z2 z3; clear hSw; go_simp) <;> with_reducible rfl)
  (try simp only [Act.put, List.setIfInBounds_toArray, List.set_cons_zero, List.set_cons_succ])
  refine any_take (i := 7) (v := ?_) rfl (by kernel_rfl) (by kernel_rfl) (by kernel_rfl) (by exact fun _ _ _ h => h) (by rfl) ?_ hS ?_
  rotate_left
  · ((intro w hSw; have y0 := blk_at hSw.1 0; have y1 := blk_at hSw.1 1; have y2 := blk_at hSw.1 2; have z0 := blk_at hSw.2 0; have z2 := blk_at hSw.2 2; have z3 := blk_at hSw.2 3; simp only [List.getElem?_cons_zero, List.getElem?_cons_succ] at y0 y1 y2 z0 z2 z3; clear hSw; go_simp) <;> with_reducible rfl)
  (try simp only [Act.put, List.setIfInBounds_toArray, List.set_cons_zero, List.set_cons_succ])
  refine any_take (i := 8) (v := ?_) rfl (by kernel_rfl) (by kernel_rfl) (by kernel_rfl) (by exact fun _ _ _ h => h) (by rfl) ?_ hS ?_
  rotate_left
  · ((intro w hSw; have y0 := blk_at hSw.1 0; have y1 := blk_at hSw.1 1; have y2 := blk_at hSw.1 2; have z0 := blk_at hSw.2 0; have z2 := blk_at hSw.2 2; have z3 := blk_at hSw.2 3; simp only [List.getElem?_cons_zero, List.getElem?_cons_succ] at y0 y1 y2 z0 z2 z3; clear hSw; go_simp) <;> with_reducible rfl)
  (try simp only [Act.put, List.setIfInBounds_toArray, List.set_cons_zero, List.set_cons_succ])
  refine any_take (i := 9) (v := ?_) rfl (by kernel_rfl) (by kernel_rfl) (by kernel_rfl) (by exact fun _ _ _ h => h) (by rfl) ?_ hS ?_
  rotate_left
  · ((intro w hSw; have y0 := blk_at hSw.1 0; have y1 := blk_at hSw.1 1; have y2 := blk_at hSw.1 2; have z0 := blk_at hSw.2 0; have z2 := blk_at hSw.2 2; have z3 := blk_at hSw.2 3; simp only [List.getElem?_cons_zero, List.getElem?_cons_succ] at y0 y1 y2 z0 z2 z3; clear hSw; go_simp) <;> with_reducible rfl)
  (try simp only [Act.put, List.setIfInBounds_toArray, List.set_cons_zero, List.set_cons_succ])
  refine any_take (i := 10) (v := ?_) rfl (by kernel_rfl) (by kernel_rfl) (by kernel_rfl) (by exact fun _ _ _ h => h) (by rfl) ?_ hS ?_
  rotate_left
  · ((intro w hSw; have y0 := blk_at hSw.1 0; have y1 := blk_at hSw.1 1; have y2 := blk_at hSw.1 2; have z0 := blk_at hSw.2 0; have z2 := blk_at hSw.2 2; have z3 := blk_at hSw.2 3; simp only [List.getElem?_cons_zero, List.getElem?_cons_succ] at y0 y1 y2 z0 z2 z3; clear hSw; go_simp) <;> with_reducible rfl)
  (try simp only [Act.put, List.setIfInBounds_toArray, List.set_cons_zero, List.set_cons_succ])
  refine any_take (i := 11) (v := ?_) rfl (by kernel_rfl) (by kernel_rfl) (by kernel_rfl) (by exact fun _ _ _ h => h) (by rfl) ?_ hS ?_
  rotate_left
  · ((intro w hSw; have y0 := blk_at hSw.1 0; have y1 := blk_at hSw.1 1; have y2 := blk_at hSw.1 2; have z0 := blk_at hSw.2 0; have z2 := blk_at hSw.2 2; have z3 := blk_at hSw.2 3; simp only [List.getElem?_cons_zero, List.getElem?_cons_succ] at y0 y1 y2 z0 z2 z3; clear hSw; go_simp) <;> with_reducible rfl)
  (try simp only [Act.put, List.setIfInBounds_toArray, List.set_cons_zero, List.set_cons_succ])
  refine any_take (i := 12) (v := ?_) rfl (by kernel_rfl) (by kernel_rfl) (by kernel_rfl) (by exact fun _ _ _ h => h) (by rfl) ?_ hS ?_
  rotate_left
  · ((intro w hSw; have y0 := blk_at hSw.1 0; have y1 := blk_at hSw.1 1; have y2 := blk_at hSw.1 2; have z0 := blk_at hSw.2 0; have z2 := blk_at hSw.2 2; have z3 := blk_at hSw.2 3; simp only [List.getElem?_cons_zero, List.getElem?_cons_succ] at y0 y1 y2 z0 z2 z3; clear hSw; go_simp) <;> with_reducible rfl)
  (try simp only [Act.put, List.setIfInBounds_toArray, List.set_cons_zero, List.set_cons_succ])
  refine any_take (i := 13) (v := ?_) rfl (by kernel_rfl) (by kernel_rfl) (by kernel_rfl) (by exact fun _ _ _ h => h) (by rfl) ?_ hS ?_
  rotate_left
  · ((intro w hSw; have y0 := blk_at hSw.1 0; have y1 := blk_at hSw.1 1; have y2 := blk_at hSw.1 2; have z0 := blk_at hSw.2 0; have z2 := blk_at hSw.2 2; have z3 := blk_at hSw.2 3; simp only [List.getElem?_cons_zero, List.getElem?_cons_succ] at y0 y1 y2 z0 z2 z3; clear hSw; go_simp) <;> with_reducible rfl)
  (try simp only [Act.put, List.setIfInBounds_toArray, List.set_cons_zero, List.set_cons_succ])
  refine any_take (i := 14) (v := ?_) rfl (by kernel_rfl) (by kernel_rfl) (by kernel_rfl) (by exact fun _ _ _ h => h) (by rfl) ?_ hS ?_
  rotate_left
  · ((intro w hSw; have y0 := blk_at hSw.1 0; have y1 := blk_at hSw.1 1; have y2 := blk_at hSw.1 2; have z0 := blk_at hSw.2 0; have z2 := blk_at hSw.2 2; have z3 := blk_at hSw.2 3; simp only [List.getElem?_cons_zero, List.getElem?_cons_succ] at y0 y1 y2 z0 z2 z3; clear hSw; go_simp) <;> with_reducible rfl)
  (try simp only [Act.put, List.setIfInBounds_toArray, List.set_cons_zero, List.set_cons_succ])
  refine any_take (i := 15) (v := ?_) rfl (by kernel_rfl) (by kernel_rfl) (by kernel_rfl) (by exact fun _ _ _ h => h) (by rfl) ?_ hS ?_
  rotate_left
  · ((intro w hSw; have y0 := blk_at hSw.1 0; have y1 := blk_at hSw.1 1; have y2 := blk_at hSw.1 2; have z0 := blk_at hSw.2 0; have z2 := blk_at hSw.2 2; have z3 := blk_at hSw.2 3; simp only [List.getElem?_cons_zero, List.getElem?_cons_succ] at y0 y1 y2 z0 z2 z3; clear hSw; go_simp) <;> with_reducible rfl)
  (try simp only [Act.put, List.setIfInBounds_toArray, List.set_cons_zero, List.set_cons_succ])
  refine any_take (i := 16) (v := ?_) rfl (by kernel_rfl) (by kernel_rfl) (by kernel_rfl) (by exact fun _ _ _ h => h) (by rfl) ?_ hS ?_
  rotate_left
  · ((intro w hSw; have y0 := blk_at hSw.1 0; have y1 := blk_at hSw.1 1; have y2 := blk_at hSw.1 2; have z0 := blk_at hSw.2 0; have z2 := blk_at hSw.2 2; have z3 := blk_at hSw.2 3; simp only [List.getElem?_cons_zero, List.getElem?_cons_succ] at y0 y1 y2 z0 z2 z3; clear hSw; go_simp) <;> with_reducible rfl)
  (try simp only [Act.put, List.setIfInBounds_toArray, List.set_cons_zero, List.set_cons_succ])
  refine wpAnyH_done (by kernel_rfl) ?_ _
  clear hS
  have H6 : Hid _ := And.intro (H5.out.1.2.laterB (Below.refl _ _).drew) (below_then H5.out.2 (Below.refl _ _).drew)
  generalize w5.drew = w6 at *
  clear H5
  have z0 := blk_at H6.out.1 0
  have z1 := blk_at H6.out.1 1
  have z2 := blk_at H6.out.1 2
  have z3 := blk_at H6.out.1 3
  have z4 := blk_at H6.out.1 4
  simp only [List.getElem?_cons_zero, List.getElem?_cons_succ] at z0 z1 z2 z3 z4
  have NP : Hid _ := HPut.out _ H6.out.2
  clear HPut
  go_wp2_with fail
  clear z0 z1 z2 z3 z4 H6
  refine (Calls.mono NP.out) ?_
  rintro e w7 ⟨rfl, p', q1, q2, q3, q4, q5⟩
  clear NP
  have y5 := blk_at q2.holds.blk 5
  have y6 := blk_frozen q2.holds.blk 5
  simp only [List.getElem?_cons_zero, List.getElem?_cons_succ] at y5
  rw [KS.out.2.1, ← had1] at y5
  rw [q1] at y5 y6
  have hno := q2.holds.ad
  rw [KS.out.2.1, ← had1] at hno
  have hbad : ad ≤ 1000000000 := by rw [had1]; exact hadm
  have NA : Hid _ := atAdd_any g 5 ad w7 y5 y6 ⟨hno, hbad⟩
  have F : Hid _ := add_step KS.out.1 q3 q2 q4 q5
  rw [q1, KS.out.2.1, ← had1] at F
  have F2 : Hid _ := And.intro q1 F.out
  clear y5 y6 F q3 q4 q5 hno hbad had1
  go_wp2_with fail
  refine (Calls.mono NA.out) ?_
  rintro e _ ⟨rfl, rfl⟩
  clear NA
  go_wp2
  go_ret
  exact ⟨rfl, p', by rw [F2.out.1]; exact HGg.out.1, by have := F2.out.2; rw [KS.out.2.2] at this; exact this⟩

end Go.Proofs.Ytdagekciipfnoaa

