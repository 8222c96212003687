/- Add: a piece more, of one image. -/
import Derived.Test.YtdagekciipfnoaaXCk6
namespace Go.Proofs.Ytdagekciipfnoaa
open Go.RowKit
set_option linter.unusedVariables false
set_option linter.unusedSimpArgs false
set_option maxRecDepth 4000

theorem own_notW {w : World} {p : CPl} {m : CR} {b : Nat} {v : Value} {l : List (BitVec 8)} (h : CrP w p m) (ho : Own w b v l) : ∀ k, v.ownBlock = some k → k ∉ (crOb p m).W := fun k e hk => by
  obtain ⟨T, xs, hb, hT⟩ := h.mem_W hk
  exact own_apart ho hb hT k e rfl
/-- one more is taken -/
def addM (m : CR) : CR := { m with ad := m.ad + 1 }
theorem added_ok {p : CPl} {m : CR} {w : World} (h : (crOb p m).Ok w) : (crOb p (addM m)).Ok (w.setCell ⟨p.g, 5, none⟩ (.int .i64 (m.ad + 1))) := by
  have hP := h.holds
  have u := turned_set w p.g 5 (.int .i64 (m.ad + 1))
  refine crOb_ok ⟨?_, fun h0 => ?_, fun h0 => ?_, hP.len, fun j o hj => ?_, by have := hP.ad; simp only [addM]; omega⟩
  · exact hP.blk.set 5 _
  · exact (hP.there h0).turned u (blk_ne (hP.there h0) hP.blk (by decide))
  · exact (hP.data h0).turned u (blk_ne (hP.data h0) hP.blk (by decide))
  · obtain ⟨v, hv, ho⟩ := hP.each j o hj
    exact ⟨v, hv, ho.turned u (own_apart ho hP.blk (by decide))⟩
set_option maxHeartbeats 4000000 in
/-- bytes that are no piece -/
theorem add_err (a : Option Addr) (cap : Nat) (l : List (BitVec 8)) (p : CPl) (m : CR) (w : World) (h : (crOb p m).Ok w) (hle : l.length ≤ cap) (hr : Row w a l) (hn : a = none → cap = 0) (hlen : l.length ≤ 140737488351232) (hE : dcE l ≠ 0) : Calls Try.prog 12 #[.pointer (some ⟨p.g, 0, none⟩), .slice a l.length cap] w fun e w' => e = .returned (.int .i64 (dcE l)) ∧ Below w.heap.size w w' := by
  have HD : Hid _ := decode_any a cap l w hle hr hn hlen
  have hG := h.holds.blk
  have y9 := blk_at hG 9
  simp only [List.getElem?_cons_zero, List.getElem?_cons_succ] at y9
  clear hr hn h hG
  generalize dcE l = E at *
  generalize dcR l = R at *
  go_enter Try.func12, Try.ntmps12
  go_wp2_with fail
  clear y9
  refine (Calls.mono HD.out) ?_
  rintro r w1 ⟨x, c, rfl, ho, b1⟩
  have b2 : Below w1.heap.size w1 (w1.alloc (.cells #[.int .i64 R.1, .int .i64 R.2.1, .int .i64 R.2.2.1, .int .u32 R.2.2.2.1, .slice x R.2.2.2.2.length c] 49)) := (Below.refl _ _).alloc (Nat.le_refl _) _
  have F : Hid _ := below_then b1 b2
  have hE' : (E == 0) = false := by rw [beq_eq_false_iff_ne]; exact hE
  clear HD ho b1 b2
  go_wp2
  go_ret
  exact ⟨rfl, F.out⟩
set_option maxHeartbeats 4000000 in
/-- a piece of an elder image -/
theorem add_old (a : Option Addr) (cap : Nat) (l : List (BitVec 8)) (p : CPl) (m : CR) (w : World) (h : (crOb p m).Ok w) (hle : l.length ≤ cap) (hr : Row w a l) (hn : a = none → cap = 0) (hlen : l.length ≤ 140737488351232) (hE : dcE l = 0) (id s : Int) (i cnt : Nat) (d : List (BitVec 8)) (hR : dcR l = (id, (i : Int), (cnt : Int), s, d)) (hid : id < m.id) : Calls Try.prog 12 #[.pointer (some ⟨p.g, 0, none⟩), .slice a l.length cap] w fun e w' => e = .returned (.int .i64 5) ∧ Below w.heap.size w w' := by
  have HD : Hid _ := decode_any a cap l w hle hr hn hlen
  have hG := h.holds.blk
  have y9 := blk_at hG 9
  simp only [List.getElem?_cons_zero, List.getElem?_cons_succ] at y9
  rw [hE, hR] at HD
  dsimp only at HD
  clear hr hn
  obtain ⟨g, hg⟩ : ∃ g, g = p.g := ⟨_, rfl⟩
  go_enter Try.func12, Try.ntmps12
  go_wp2_with fail
  clear y9
  refine (Calls.mono HD.out) ?_
  rintro r w1 ⟨x, c, rfl, ho, b1⟩
  have b2 : Below w1.heap.size w1 (w1.alloc (.cells #[.int .i64 id, .int .i64 i, .int .i64 cnt, .int .u32 s, .slice x d.length c] 49)) := (Below.refl _ _).alloc (Nat.le_refl _) _
  have hP := Blk.new' w1 49 [.int .i64 id, .int .i64 i, .int .i64 cnt, .int .u32 s, .slice x d.length c]
  have K2 : Hid _ := And.intro (h.later (below_then b1 b2)) (And.intro (below_then b1 b2) (And.intro (ho.later b2) hP))
  clear HD ho b1 b2 hP h hG
  go_upto_region 8 with fail
  obtain ⟨P, hPe⟩ : ∃ P, P = w1.heap.size := ⟨_, rfl⟩
  rw [← hPe] at K2 ⊢
  generalize (w1.alloc (.cells #[.int .i64 id, .int .i64 i, .int .i64 cnt, .int .u32 s, .slice x d.length c] 49)) = w2 at *
  clear hPe

  have H2 : Hid _ := And.intro (And.intro K2.out.1.holds.blk K2.out.2.2.2) K2.out.2.1
  rw [← hg] at H2 ⊢
  clear K2 hg
  generalize m.id = mid at *
  generalize m.s = ms at *
  generalize p.tv m.ps.length = TV at *
  generalize p.dv m.ps.length = DV at *
  generalize lenOf m.ps = len at *
  generalize m.ad = ad at *
  refine wp_region_held_drew (S := fun W => Blk W g 67 [.int .i64 mid, .int .u32 ms, TV, DV, .int .i64 len, .int .i64 ad, .int .u32 0, .int .i32 0, .int .u32 0, .bool false] ∧ Blk W P 49 [.int .i64 id, .int .i64 i, .int .i64 cnt, .int .u32 s, .slice x d.length c]) (by kernel_rfl) (⟨H2.out.1.1.laterB (Below.refl _ _).drew, H2.out.1.2.laterB (Below.refl _ _).drew⟩) (fun hS => ?_)
  refine any_take (i := 0) (v := ?_) rfl (by kernel_rfl) (by kernel_rfl) (by kernel_rfl) (by exact fun _ _ _ h => h) (by rfl) ?_ hS ?_
  rotate_left
  · ((intro w hSw; have y0 := blk_at hSw.1 0; have y1 := blk_at hSw.1 1; have y2 := blk_at hSw.1 2; have z0 := blk_at hSw.2 0; have z2 := blk_at hSw.2 2; have z3 := blk_at hSw.2 3; simp only [List.getElem?_cons_zero, List.getElem?_cons_succ] at y0 y1 y2 z0 z2 z3; clear hSw; go_simp) <;> with_reducible rfl)
  (try simp only [Act.put, List.setIfInBounds_toArray, List.set_cons_zero, List.set_cons_succ])
  refine any_take (i := 1) (v := ?_) rfl (by kernel_rfl) (by kernel_rfl) (by kernel_rfl) (by exact fun _ _ _ h => h) (by rfl) ?_ hS ?_
  rotate_left
  · ((intro w hSw; have y0 := blk_at hSw.1 0; have y1 := blk_at hSw.1 1; have y2 := blk_at hSw.1 2; have z0 := blk_at hSw.2 0; have z2 := blk_at hSw.2 2; have z3 := blk_at hSw.2 3; simp only [List.getElem?_cons_zero, List.getElem?_cons_succ] at y0 y1 y2 z0 z2 z3; clear hSw; go_simp) <;> with_reducible rfl)
  (try simp only [Act.put, List.setIfInBounds_toArray, List.set_cons_zero, List.set_cons_succ])
  refine any_take (i := 2) (v := ?_) rfl (by kernel_rfl) (by kernel_rfl) (by kernel_rfl) (by exact fun _ _ _ h => h) (by rfl) ?_ hS ?_
  rotate_left
  · ((intro w hSw; have y0 := blk_at hSw.1 0; have y1 := blk_at hSw.1 1; have y2 := blk_at hSw.1 2; have z0 := blk_at hSw.2 0; have z2 := blk_at hSw.2 2; have z3 := blk_at hSw.2 3; simp only [List.getElem?_cons_zero, List.getElem?_cons_succ] at y0 y1 y2 z0 z2 z3; clear hSw; go_simp) <;> with_reducible rfl)
  (try simp only [Act.put, List.setIfInBounds_toArray, List.set_cons_zero, List.set_cons_succ])
  refine any_take (i := 3) (v := ?_) rfl (by kernel_rfl) (by kernel_rfl) (by kernel_rfl) (by exact fun _ _ _ h => h) (by rfl) ?_ hS ?_
  rotate_left
  · ((intro w hSw; have y0 := blk_at hSw.1 0; have y1 := blk_at hSw.1 1; have y2 := blk_at hSw.1 2; have z0 := blk_at hSw.2 0; have z2 := blk_at hSw.2 2; have z3 := blk_at hSw.2 3; simp only [List.getElem?_cons_zero, List.getElem?_cons_succ] at y0 y1 y2 z0 z2 z3; clear hSw; go_simp) <;> with_reducible rfl)
  (try simp only [Act.put, List.setIfInBounds_toArray, List.set_cons_zero, List.set_cons_succ])
  refine any_take (i := 4) (v := ?_) rfl (by kernel_rfl) (by kernel_rfl) (by kernel_rfl) (by exact fun _ _ _ h => h) (by rfl) ?_ hS ?_
  rotate_left
  · ((intro w hSw; have y0 := blk_at hSw.1 0; have y1 := blk_at hSw.1 1; have y2 := blk_at hSw.1 2; have z0 := blk_at hSw.2 0; have z2 := blk_at hSw.2 2; have z3 := blk_at hSw.2 3; simp only [List.getElem?_cons_zero, List.getElem?_cons_succ] at y0 y1 y2 z0 z2 z3; clear hSw; go_simp) <;> with_reducible rfl)
  (try simp only [Act.put, List.setIfInBounds_toArray, List.set_cons_zero, List.set_cons_succ])
  refine any_take (i := 5) (v := ?_) rfl (by kernel_rfl) (by kernel_rfl) (by kernel_rfl) (by exact fun _ _ _ h => h) (by rfl) ?_ hS ?_
  rotate_left
  · ((intro w hSw; have y0 := blk_at hSw.1 0; have y1 := blk_at hSw.1 1; have y2 := blk_at hSw.1 2; have z0 := blk_at hSw.2 0; have z2 := blk_at hSw.2 2; have z3 := blk_at hSw.2 3; simp only [List.getElem?_cons_zero, List.getElem?_cons_succ] at y0 y1 y2 z0 z2 z3; clear hSw; go_simp) <;> with_reducible rfl)
  (try simp only [Act.put, List.setIfInBounds_toArray, List.set_cons_zero, List.set_cons_succ])
  refine any_take (i := 6) (v := ?_) rfl (by kernel_rfl) (by kernel_rfl) (by kernel_rfl) (by exact fun _ _ _ h => h) (by rfl) ?_ hS ?_
  rotate_left
  · ((intro w hSw; have y0 := blk_at hSw.1 0; have y1 := blk_at hSw.1 1; have y2 := blk_at hSw.1 2; have z0 := blk_at hSw.2 0; have z2 := blk_at hSw.2 2; have z3 := blk_at hSw.2 3; simp only [List.getElem?_cons_zero, List.getElem?_cons_succ] at y0 y1 y2 z0 z2 z3; clear hSw; go_simp) <;> with_reducible rfl)
  (try simp only [Act.put, List.setIfInBounds_toArray, List.set_cons_zero, List.set_cons_succ])
  refine wpAnyH_done (by kernel_rfl) ?_ _
  clear hS
  have H3 : Hid _ := And.intro (And.intro (H2.out.1.1.laterB (Below.refl _ _).drew) (H2.out.1.2.laterB (Below.refl _ _).drew)) (below_then H2.out.2 (Below.refl _ _).drew)
  generalize w2.drew = w3 at *
  clear H2
  go_upto_region 10 with fail
  refine wp_region_held_drew (S := fun W => Blk W g 67 [.int .i64 mid, .int .u32 ms, TV, DV, .int .i64 len, .int .i64 ad, .int .u32 0, .int .i32 0, .int .u32 0, .bool false] ∧ Blk W P 49 [.int .i64 id, .int .i64 i, .int .i64 cnt, .int .u32 s, .slice x d.length c]) (by kernel_rfl) (⟨H3.out.1.1.laterB (Below.refl _ _).drew, H3.out.1.2.laterB (Below.refl _ _).drew⟩) (fun hS => ?_)
  refine any_take (i := 0) (v := ?_) rfl (by kernel_rfl) (by kernel_rfl) (by kernel_rfl) (by exact fun _ _ _ h => h) (by rfl) ?_ hS ?_
  rotate_left
  · ((intro w hSw; have y0 := blk_at hSw.1 0; have y1 := blk_at hSw.1 1; have y2 := blk_at hSw.1 2; have z0 := blk_at hSw.2 0; have z2 := blk_at hSw.2 2; have z3 := blk_at hSw.2 3; simp only [List.getElem?_cons_zero, List.getElem?_cons_succ] at y0 y1 y2 z0 z2 z3; clear hSw; go_simp) <;> with_reducible rfl)
  (try simp only [Act.put, List.setIfInBounds_toArray, List.set_cons_zero, List.set_cons_succ])
  refine any_take (i := 1) (v := ?_) rfl (by kernel_rfl) (by kernel_rfl) (by kernel_rfl) (by exact fun _ _ _ h => h) (by rfl) ?_ hS ?_
  rotate_left
  · ((intro w hSw; have y0 := blk_at hSw.1 0; have y1 := blk_at hSw.1 1; have y2 := blk_at hSw.1 2; have z0 := blk_at hSw.2 0; have z2 := blk_at hSw.2 2; have z3 := blk_at hSw.2 3; simp only [List.getElem?_cons_zero, List.getElem?_cons_succ] at y0 y1 y2 z0 z2 z3; clear hSw; go_simp) <;> with_reducible rfl)
  (try simp only [Act.put, List.setIfInBounds_toArray, List.set_cons_zero, List.set_cons_succ])
  refine any_take (i := 2) (v := ?_) rfl (by kernel_rfl) (by kernel_rfl) (by kernel_rfl) (by exact fun _ _ _ h => h) (by rfl) ?_ hS ?_
  rotate_left
  · ((intro w hSw; have y0 := blk_at hSw.1 0; have y1 := blk_at hSw.1 1; have y2 := blk_at hSw.1 2; have z0 := blk_at hSw.2 0; have z2 := blk_at hSw.2 2; have z3 := blk_at hSw.2 3; simp only [List.getElem?_cons_zero, List.getElem?_cons_succ] at y0 y1 y2 z0 z2 z3; clear hSw; go_simp) <;> with_reducible rfl)
  (try simp only [Act.put, List.setIfInBounds_toArray, List.set_cons_zero, List.set_cons_succ])
  refine any_take (i := 3) (v := ?_) rfl (by kernel_rfl) (by kernel_rfl) (by kernel_rfl) (by exact fun _ _ _ h => h) (by rfl) ?_ hS ?_
  rotate_left
  · ((intro w hSw; have y0 := blk_at hSw.1 0; have y1 := blk_at hSw.1 1; have y2 := blk_at hSw.1 2; have z0 := blk_at hSw.2 0; have z2 := blk_at hSw.2 2; have z3 := blk_at hSw.2 3; simp only [List.getElem?_cons_zero, List.getElem?_cons_succ] at y0 y1 y2 z0 z2 z3; clear hSw; go_simp) <;> with_reducible rfl)
  (try simp only [Act.put, List.setIfInBounds_toArray, List.set_cons_zero, List.set_cons_succ])
  refine any_take (i := 4) (v := ?_) rfl (by kernel_rfl) (by kernel_rfl) (by kernel_rfl) (by exact fun _ _ _ h => h) (by rfl) ?_ hS ?_
  rotate_left
  · ((intro w hSw; have y0 := blk_at hSw.1 0; have y1 := blk_at hSw.1 1; have y2 := blk_at hSw.1 2; have z0 := blk_at hSw.2 0; have z2 := blk_at hSw.2 2; have z3 := blk_at hSw.2 3; simp only [List.getElem?_cons_zero, List.getElem?_cons_succ] at y0 y1 y2 z0 z2 z3; clear hSw; go_simp) <;> with_reducible rfl)
  (try simp only [Act.put, List.setIfInBounds_toArray, List.set_cons_zero, List.set_cons_succ])
  refine any_take (i := 5) (v := ?_) rfl (by kernel_rfl) (by kernel_rfl) (by kernel_rfl) (by exact fun _ _ _ h => h) (by rfl) ?_ hS ?_
  rotate_left
  · ((intro w hSw; have y0 := blk_at hSw.1 0; have y1 := blk_at hSw.1 1; have y2 := blk_at hSw.1 2; have z0 := blk_at hSw.2 0; have z2 := blk_at hSw.2 2; have z3 := blk_at hSw.2 3; simp only [List.getElem?_cons_zero, List.getElem?_cons_succ] at y0 y1 y2 z0 z2 z3; clear hSw; go_simp) <;> with_reducible rfl)
  (try simp only [Act.put, List.setIfInBounds_toArray, List.set_cons_zero, List.set_cons_succ])
  refine any_take (i := 6) (v := ?_) rfl (by kernel_rfl) (by kernel_rfl) (by kernel_rfl) (by exact fun _ _ _ h => h) (by rfl) ?_ hS ?_
  rotate_left
  · ((intro w hSw; have y0 := blk_at hSw.1 0; have y1 := blk_at hSw.1 1; have y2 := blk_at hSw.1 2; have z0 := blk_at hSw.2 0; have z2 := blk_at hSw.2 2; have z3 := blk_at hSw.2 3; simp only [List.getElem?_cons_zero, List.getElem?_cons_succ] at y0 y1 y2 z0 z2 z3; clear hSw; go_simp) <;> with_reducible rfl)
  (try simp only [Act.put, List.setIfInBounds_toArray, List.set_cons_zero, List.set_cons_succ])
  refine wpAnyH_done (by kernel_rfl) ?_ _
  clear hS
  have F : Hid _ := below_then H3.out.2 (Below.refl _ _).drew
  clear H3
  go_wp2
  go_ret
  exact ⟨rfl, F.out⟩
end Go.Proofs.Ytdagekciipfnoaa

