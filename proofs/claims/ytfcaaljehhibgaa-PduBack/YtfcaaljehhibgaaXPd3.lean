/- pdu: a letter is gone through. -/
import Derived.Test.YtfcaaljehhibgaaXPd1
import Derived.Handy
namespace Go.Proofs.Ytfcaaljehhibgaa
open Go.RowKit
set_option linter.unusedVariables false
set_option linter.unusedSimpArgs false
set_option maxRecDepth 4000

/-- a whole block is stored anew -/
theorem store_all {T T' : TypeId} {xs vs : List Value} (hs : (Try.prog.info? T).map (·.size) = some vs.length) {w : World} {g : Nat} (hB : Blk w g T' xs) (hl : xs.length = vs.length) (h1 : ∀ u ∈ vs, u.oneCell' = true) :
    (Instr.storeAt T (.pointer (some ⟨g, 0, none⟩)) (.agg vs.toArray)).run Try.prog w = .ok () (w.setCells g 0 vs) := by
  have h := run_storeCells_cells (P := Try.prog) g 0 vs 0 w (fun j hj => by rw [Nat.zero_add, blk_at hB, List.getElem?_eq_getElem (by omega)]; rfl) (fun j hj => blk_frozen hB _) h1
  obtain ⟨i, hi, hz⟩ := Option.map_eq_some_iff.1 hs
  simp [Instr.storeAt, Instr.sureAddr, storeVar, Sem.run_bind, sizeOf, typeInfo, hi, hz, Value.cells, h]
theorem Blk.whole {w : World} {g : Nat} {t : TypeId} {xs vs : List Value} (hB : Blk w g t xs) (hl : xs.length = vs.length) : Blk (w.setCells g 0 vs) g t vs ∧ w.grownBy (w.setCells g 0 vs) (some g) := by
  obtain ⟨h1, h2⟩ := Blk.setCells vs 0 w xs hB (by omega)
  refine ⟨?_, h2⟩
  have : splice xs 0 vs = vs := by unfold splice; simp [← hl]
  rwa [this] at h1
def dgN (b : Bool) : Nat := if b = true then 4 else 0
theorem dgN_i (b : Bool) : (if b = true then (4 : Int) else 0) = ((dgN b : Nat) : Int) := by unfold dgN; cases b <;> rfl
theorem dgN_le (b : Bool) : dgN b ≤ 4 := by unfold dgN; cases b <;> decide
def hN (hs : Bool) : Nat := 48 + dgN hs
def lH (L : List (BitVec 8)) : List (BitVec 8) := L.take 48
def lD1 (hs : Bool) (L : List (BitVec 8)) : List (BitVec 8) := (L.drop 48).take (dgN hs)
def lB (hs : Bool) (L : List (BitVec 8)) : List (BitVec 8) := (L.drop (hN hs)).take (bodyN (cnt (lH L)))
def dN (ds : Bool) (L : List (BitVec 8)) : Nat := dgN (ds && decide (0 < cnt (lH L)))
def lD3 (hs ds : Bool) (L : List (BitVec 8)) : List (BitVec 8) := (L.drop (hN hs + bodyN (cnt (lH L)))).take (dN ds L)
/-- what is wrong, and is it whole -/
def wkM (hs ds : Bool) (mo : Int) (L : List (BitVec 8)) : Int × Bool :=
  if L.length < hN hs then (0, false) else if ¬ hfE hs mo (lH L) (lD1 hs L) = 0 then (hfE hs mo (lH L) (lD1 hs L), false)
  else if L.length < hN hs + bodyN (cnt (lH L)) + dN ds L then (0, false) else (bfE ds (lH L) (lB hs L) (lD3 hs ds L), true)
/-- what lies in memory while it is gone through -/
structure WkS (w W : World) (ops cells : List Value) : Prop where
  be : Below w.heap.size w W
  bo : Blk W w.heap.size 29 ops
  br : Blk W (w.heap.size + 1) 69 [.slice none 0 0, .slice none 0 0, .slice none 0 0, .slice none 0 0]
  bl : Blk W (w.heap.size + 1 + 1) 69 cells
theorem WkS.later {w W W' : World} {o c : List Value} (h : WkS w W o c) (hb : Below W.heap.size W W') : WkS w W' o c := ⟨below_then h.be hb, h.bo.laterB hb, h.br.laterB hb, h.bl.laterB hb⟩
theorem WkS.put {w W : World} {o c : List Value} (h : WkS w W o c) (k : Nat) (v : Value) : WkS w (W.setCell ⟨w.heap.size + 1 + 1, k, none⟩ v).drew o (c.set k v) := by
  have t := turned_set W (w.heap.size + 1 + 1) k v
  have h' : WkS w (W.setCell ⟨w.heap.size + 1 + 1, k, none⟩ v) o (c.set k v) := ⟨h.be.trans (t.below _ h.be.size (fun k e => by omega)), h.bo.turned t (by omega), h.br.turned t (by omega), h.bl.set k v⟩
  exact h'.later (Below.refl _ _).drew
/-- bytes that are a part of a slice -/
structure Sl (w : World) (a : Option Addr) (y : Option Addr) (n c : Nat) (l : List (BitVec 8)) : Prop where
  len : l.length = n
  cap : n ≤ c
  row : Row w y l
  nil : y = none → c = 0
  blk : ∀ x, y = some x → ∃ x0, a = some x0 ∧ x.block = x0.block
theorem Sl.from {w : World} {a y : Option Addr} {n c : Nat} {l : List (BitVec 8)} (h : Sl w a y n c l) (k : Nat) (hk : k ≤ n) : ∃ z, (∀ W : World, (Instr.sliceAt 34 (.slice y n c) (some (.int .i64 (k : Int))) none none).run Try.prog W = .ok (.slice z (n - k) (c - k)) W) ∧ Sl w a z (n - k) (c - k) (l.drop k) := by
  obtain ⟨z, h1, h2, h3, h4⟩ := slice_from h.row h.len h.cap h.nil k hk
  refine ⟨z, h1, by rw [List.length_drop, h.len], by have := h.cap; omega, h2, h3, fun x hx => ?_⟩
  obtain ⟨x0, e0, e1⟩ := h4 x hx
  obtain ⟨x1, e2, e3⟩ := h.blk x0 e0
  exact ⟨x1, e2, e1.trans e3⟩
theorem Sl.upto {w : World} {a y : Option Addr} {n c : Nat} {l : List (BitVec 8)} (h : Sl w a y n c l) (k : Nat) (hk : k ≤ n) : ∃ z, (∀ W : World, (Instr.sliceAt 34 (.slice y n c) none (some (.int .i64 (k : Int))) none).run Try.prog W = .ok (.slice z k c) W) ∧ Sl w a z k c (l.take k) := by
  obtain ⟨z, h1, h2, h3, h4⟩ := slice_upto h.row h.len h.cap k hk h.nil
  refine ⟨z, h1, by rw [List.length_take, h.len]; omega, by have := h.cap; omega, h2, h3, fun x hx => ?_⟩
  obtain ⟨x0, e0, e1⟩ := h4 x hx
  obtain ⟨x1, e2, e3⟩ := h.blk x0 e0
  exact ⟨x1, e2, e1.trans e3⟩
/-- what a whole letter is -/
structure WkW (w : World) (a : Option Addr) (hs ds : Bool) (L : List (BitVec 8)) (a0 a1 a2 a3 : Option Addr) (n0 c0 n1 c1 n2 c2 n3 c3 : Nat) : Prop where
  e0 : n0 = 48
  all : hN hs + bodyN (cnt (lH L)) + dN ds L ≤ L.length
  e2 : n2 = bodyN (cnt (lH L))
  e1 : n1 = dgN hs
  e3 : n3 = dN ds L
  h : Sl w a a0 48 c0 (lH L)
  b : Sl w a a2 n2 c2 (lB hs L)
theorem Sl.later {w w' : World} {a y : Option Addr} {n c : Nat} {l : List (BitVec 8)} (h : Sl w a y n c l) (hb : Below w.heap.size w w') : Sl w' a y n c l := ⟨h.len, h.cap, h.row.later hb, h.nil, h.blk⟩
theorem WkW.later {w w' : World} {a : Option Addr} {hs ds : Bool} {L : List (BitVec 8)} {a0 a1 a2 a3 : Option Addr} {n0 c0 n1 c1 n2 c2 n3 c3 : Nat} (h : WkW w a hs ds L a0 a1 a2 a3 n0 c0 n1 c1 n2 c2 n3 c3) (hb : Below w.heap.size w w') : WkW w' a hs ds L a0 a1 a2 a3 n0 c0 n1 c1 n2 c2 n3 c3 :=
  ⟨h.e0, h.all, h.e2, h.e1, h.e3, h.h.later hb, h.b.later hb⟩
theorem Sl.same {w w' : World} {a y : Option Addr} {n c : Nat} {l : List (BitVec 8)} (h : Sl w a y n c l) {R : Nat → Prop} (t : Turned R w w') (hn : ∀ x, a = some x → x.block < w.heap.size ∧ ¬ R x.block) : Sl w' a y n c l :=
  ⟨h.len, h.cap, h.row.same (fun x hx => by obtain ⟨x0, e0, e1⟩ := h.blk x hx; rw [e1]; exact t.block _ (hn x0 e0).1 (hn x0 e0).2), h.nil, h.blk⟩
theorem WkW.same {w w' : World} {a : Option Addr} {hs ds : Bool} {L : List (BitVec 8)} {a0 a1 a2 a3 : Option Addr} {n0 c0 n1 c1 n2 c2 n3 c3 : Nat} (h : WkW w a hs ds L a0 a1 a2 a3 n0 c0 n1 c1 n2 c2 n3 c3) {R : Nat → Prop} (t : Turned R w w') (hn : ∀ x, a = some x → x.block < w.heap.size ∧ ¬ R x.block) : WkW w' a hs ds L a0 a1 a2 a3 n0 c0 n1 c1 n2 c2 n3 c3 :=
  ⟨h.e0, h.all, h.e2, h.e1, h.e3, h.h.same t hn, h.b.same t hn⟩
set_option maxHeartbeats 8000000 in
theorem walk_any (hs ds : Bool) (mo : Int) (a : Option Addr) (n c : Nat) (L : List (BitVec 8)) (w : World) (hl : L.length = n) (hm : n ≤ 1000000) (hc : n ≤ c) (hn : a = none → c = 0) (hr : Row w a L) :
    Calls Try.prog 27 #[.agg #[.bool hs, .bool ds, .int .i64 mo], .slice a n c] w fun e w' => Below w.heap.size w w' ∧ ∃ a0 a1 a2 a3 n0 c0 n1 c1 n2 c2 n3 c3, e = .returned (.tuple #[.agg #[.slice a0 n0 c0, .slice a1 n1 c1, .slice a2 n2 c2, .slice a3 n3 c3], .int .i64 (wkM hs ds mo L).1, .bool (wkM hs ds mo L).2]) ∧ ((wkM hs ds mo L).2 = true → WkW w a hs ds L a0 a1 a2 a3 n0 c0 n1 c1 n2 c2 n3 c3) := by
  have S0 : WkS w (((w.alloc (.cells #[.bool hs, .bool ds, .int .i64 mo] 29)).alloc (.cells #[.slice none 0 0, .slice none 0 0, .slice none 0 0, .slice none 0 0] 69)).alloc (.cells #[.slice none 0 0, .slice none 0 0, .slice none 0 0, .slice none 0 0] 69)) [.bool hs, .bool ds, .int .i64 mo] [.slice none 0 0, .slice none 0 0, .slice none 0 0, .slice none 0 0] := by
    have b0 : Below w.heap.size w (w.alloc (.cells #[.bool hs, .bool ds, .int .i64 mo] 29)) := (Below.refl _ _).alloc (Nat.le_refl _) _
    have B0 := Blk.new' w 29 [.bool hs, .bool ds, .int .i64 mo]
    have z0 : (w.alloc (.cells #[.bool hs, .bool ds, .int .i64 mo] 29)).heap.size = w.heap.size + 1 := by simp
    have B1 := Blk.new' (w.alloc (.cells #[.bool hs, .bool ds, .int .i64 mo] 29)) 69 [.slice none 0 0, .slice none 0 0, .slice none 0 0, .slice none 0 0]
    have b1 : Below (w.alloc (.cells #[.bool hs, .bool ds, .int .i64 mo] 29)).heap.size (w.alloc (.cells #[.bool hs, .bool ds, .int .i64 mo] 29)) ((w.alloc (.cells #[.bool hs, .bool ds, .int .i64 mo] 29)).alloc (.cells #[.slice none 0 0, .slice none 0 0, .slice none 0 0, .slice none 0 0] 69)) := (Below.refl _ _).alloc (Nat.le_refl _) _
    have z1 : ((w.alloc (.cells #[.bool hs, .bool ds, .int .i64 mo] 29)).alloc (.cells #[.slice none 0 0, .slice none 0 0, .slice none 0 0, .slice none 0 0] 69)).heap.size = w.heap.size + 1 + 1 := by simp
    have B2 := Blk.new' ((w.alloc (.cells #[.bool hs, .bool ds, .int .i64 mo] 29)).alloc (.cells #[.slice none 0 0, .slice none 0 0, .slice none 0 0, .slice none 0 0] 69)) 69 [.slice none 0 0, .slice none 0 0, .slice none 0 0, .slice none 0 0]
    have b2 : Below ((w.alloc (.cells #[.bool hs, .bool ds, .int .i64 mo] 29)).alloc (.cells #[.slice none 0 0, .slice none 0 0, .slice none 0 0, .slice none 0 0] 69)).heap.size ((w.alloc (.cells #[.bool hs, .bool ds, .int .i64 mo] 29)).alloc (.cells #[.slice none 0 0, .slice none 0 0, .slice none 0 0, .slice none 0 0] 69)) (((w.alloc (.cells #[.bool hs, .bool ds, .int .i64 mo] 29)).alloc (.cells #[.slice none 0 0, .slice none 0 0, .slice none 0 0, .slice none 0 0] 69)).alloc (.cells #[.slice none 0 0, .slice none 0 0, .slice none 0 0, .slice none 0 0] 69)) := (Below.refl _ _).alloc (Nat.le_refl _) _
    rw [z0] at B1
    rw [z1] at B2
    exact ⟨below_then b0 (below_then b1 b2), (B0.laterB b1).laterB b2, B1.laterB b2, B2⟩
  have A0 : Sl w a a n c L := ⟨hl, hc, hr, hn, fun x hx => ⟨x, hx, rfl⟩⟩
  have X0 : Hid _ := And.intro S0 A0
  have HL : Hid _ := And.intro hl hm
  clear S0 A0 hr hl hm
  go_enter Try.func27, Try.ntmps27
  go_wp2_with fail
  go_step3
  go_wp2_with fail
  go_step3
  go_wp2_with fail
  generalize ((w.alloc (.cells #[.bool hs, .bool ds, .int .i64 mo] 29)).alloc (.cells #[.slice none 0 0, .slice none 0 0, .slice none 0 0, .slice none 0 0] 69)).alloc (.cells #[.slice none 0 0, .slice none 0 0, .slice none 0 0, .slice none 0 0] 69) = w0 at *
  refine wp_loop_rounds 5 ?_
  rw [rounds_succ]
  have ld := load_all size_lt agg_lt X0.out.1.bl
  have lo := load_all size_op agg_op X0.out.1.bo
  have HZ : Hid _ := psize_0 hs ds mo none none none none 0 0 0 0 0 0 0 0 w0
  go_wp2_with (first | (refine wpList_value rfl (exec_load rfl rfl ld) ?_) | (refine wpList_value rfl (exec_load rfl rfl lo) ?_))
  clear ld lo
  refine (Calls.mono HZ.out) ?_
  rintro e x0 ⟨rfl, bb⟩
  have Y0 : Hid _ := And.intro (X0.out.1.later bb) X0.out.2
  clear bb HZ X0
  by_cases t0 : n < 48
  · have u1 : ((n : Nat) : Int) < ((48 : Nat) : Int) := by omega
    have hcut : wkM hs ds mo L = (0, false) := by
      unfold wkM
      have e1 := HL.out.1
      rw [if_pos (by unfold hN; omega)]
    clear t0
    have F : Hid _ := Y0.out.1
    have ld := load_all size_lt agg_lt F.out.bl
    have st := store_all (vs := [.slice none 0 0, .slice none 0 0, .slice none 0 0, .slice none 0 0]) size_lt F.out.br rfl (fun u hu => by simp at hu; rcases hu with rfl | rfl | rfl | rfl <;> rfl)
    obtain ⟨B9, g9⟩ := F.out.br.whole (vs := [.slice none 0 0, .slice none 0 0, .slice none 0 0, .slice none 0 0]) rfl
    have F9 : Hid _ := And.intro (F.out.be.trans ((turned_grown (R := fun k => k = w.heap.size + 1) g9 (fun k hk => by cases hk; rfl)).below _ F.out.be.size (fun k e => by omega))) B9
    clear B9 g9
    go_wp2_with (first | (refine wpList_value rfl (exec_load rfl rfl ld) ?_) | (refine wpList_skip rfl (exec_store rfl rfl rfl st) ?_))
    clear ld st
    (try unfold Exit.noGoto)
    (try dsimp only)
    have y0 := blk_at F9.out.2 0
    have y1 := blk_at F9.out.2 1
    have y2 := blk_at F9.out.2 2
    have y3 := blk_at F9.out.2 3
    simp only [List.getElem?_cons_zero, List.getElem?_cons_succ] at y0 y1 y2 y3
    generalize World.setCells _ _ _ _ = w9 at *
    refine bodyPost_ret (v := .tuple #[.agg #[.slice none 0 0, .slice none 0 0, .slice none 0 0, .slice none 0 0], .int .i64 (0), .bool false]) (by simp [results, Try.results27, go_sem, y0, y1, y2, y3]) rfl ?_
    refine ⟨F9.out.1, _, _, _, _, _, _, _, _, _, _, _, _, by rw [hcut], ?_⟩
    intro e; rw [hcut] at e; cases e
  · have u1 : ¬ ((n : Nat) : Int) < ((48 : Nat) : Int) := by omega
    obtain ⟨p0, hp, ap⟩ := Y0.out.2.upto 48 (by omega)
    obtain ⟨q1, hq, aq⟩ := Y0.out.2.from 48 (by omega)
    have cl := blk_at Y0.out.1.bl 0
    simp only [List.getElem?_cons_zero, List.getElem?_cons_succ] at cl
    have fz := blk_frozen Y0.out.1.bl 0
    (try rw [List.drop_drop] at aq)
    (try rw [show 48 + dgN hs = hN hs from rfl] at aq)
    have P : Hid _ := And.intro hp hq
    have A : Hid _ := And.intro ap aq
    clear hp hq ap aq
    go_wp2_with fail
    refine wp_region_held_drew (S := fun W => True) (by kernel_rfl) (trivial) (fun hS => ?_)
    refine any_take (i := 0) (v := ?_) rfl (by kernel_rfl) (by kernel_rfl) (by kernel_rfl) (by exact fun _ _ _ h => h) (by rfl) ?_ hS ?_
    rotate_left
    · ((intro w hSw; (try dsimp only at hSw); go_simp) <;> with_reducible rfl)
    (try simp only [Act.put, List.setIfInBounds_toArray, List.set_cons_zero, List.set_cons_succ])
    refine any_take (i := 1) (v := ?_) rfl (by kernel_rfl) (by kernel_rfl) (by kernel_rfl) (by exact fun _ _ _ h => h) (by rfl) ?_ hS ?_
    rotate_left
    · ((intro w hSw; (try dsimp only at hSw); go_simp) <;> with_reducible rfl)
    (try simp only [Act.put, List.setIfInBounds_toArray, List.set_cons_zero, List.set_cons_succ])
    refine any_take (i := 2) (v := ?_) rfl (by kernel_rfl) (by kernel_rfl) (by kernel_rfl) (by exact fun _ _ _ h => h) (by rfl) ?_ hS ?_
    rotate_left
    · ((intro w hSw; (try dsimp only at hSw); go_simp) <;> with_reducible rfl)
    (try simp only [Act.put, List.setIfInBounds_toArray, List.set_cons_zero, List.set_cons_succ])
    refine any_take (i := 3) (v := .slice p0 48 c) rfl (by kernel_rfl) (by kernel_rfl) (by kernel_rfl) (by exact fun _ _ _ h => h) (by rfl) ?_ hS ?_
    · intro W hSW; exact exec_slice rfl rfl (P.out.1 W)
    (try simp only [Act.put, List.setIfInBounds_toArray, List.set_cons_zero, List.set_cons_succ])
    refine any_take (i := 4) (v := ?_) rfl (by kernel_rfl) (by kernel_rfl) (by kernel_rfl) (by exact fun _ _ _ h => h) (by rfl) ?_ hS ?_
    rotate_left
    · ((intro w hSw; (try dsimp only at hSw); go_simp) <;> with_reducible rfl)
    (try simp only [Act.put, List.setIfInBounds_toArray, List.set_cons_zero, List.set_cons_succ])
    refine any_take (i := 5) (v := ?_) rfl (by kernel_rfl) (by kernel_rfl) (by kernel_rfl) (by exact fun _ _ _ h => h) (by rfl) ?_ hS ?_
    rotate_left
    · ((intro w hSw; (try dsimp only at hSw); go_simp) <;> with_reducible rfl)
    (try simp only [Act.put, List.setIfInBounds_toArray, List.set_cons_zero, List.set_cons_succ])
    refine any_take (i := 6) (v := .slice q1 (n - 48) (c - 48)) rfl (by kernel_rfl) (by kernel_rfl) (by kernel_rfl) (by exact fun _ _ _ h => h) (by rfl) ?_ hS ?_
    · intro W hSW; exact exec_slice rfl rfl (P.out.2 W)
    (try simp only [Act.put, List.setIfInBounds_toArray, List.set_cons_zero, List.set_cons_succ])
    refine any_take (i := 7) (v := ?_) rfl (by kernel_rfl) (by kernel_rfl) (by kernel_rfl) (by exact fun _ _ _ h => h) (by rfl) ?_ hS ?_
    rotate_left
    · ((intro w hSw; (try dsimp only at hSw); go_simp) <;> with_reducible rfl)
    (try simp only [Act.put, List.setIfInBounds_toArray, List.set_cons_zero, List.set_cons_succ])
    clear hS
    refine any_on (i := 8) rfl (by kernel_rfl) (fun K hK => ?_)
    go_simp
    refine hK.out _ _ (trivial) (fun hS => ?_)
    clear hK K
    refine any_take (i := 9) (v := ?_) rfl (by kernel_rfl) (by kernel_rfl) (by kernel_rfl) (by exact fun _ _ _ h => h) (by rfl) ?_ hS ?_
    rotate_left
    · ((intro w hSw; (try dsimp only at hSw); go_simp) <;> with_reducible rfl)
    (try simp only [Act.put, List.setIfInBounds_toArray, List.set_cons_zero, List.set_cons_succ])
    refine wpAnyH_done (by kernel_rfl) ?_ _
    have Z := Y0.out.1.put 0 (.slice p0 48 c)
    simp only [List.set_cons_zero, List.set_cons_succ] at Z
    have X1 : Hid _ := And.intro Z A.out.2
    clear Z cl fz P Y0
    generalize (x0.setCell _ _).drew = w1 at *
    have G0 : Hid _ := A.out.1
    clear A
    go_wp2_with fail
    rw [rounds_succ]
    have ld := load_all size_lt agg_lt X1.out.1.bl
    have lo := load_all size_op agg_op X1.out.1.bo
    have HZ : Hid _ := psize_1 hs ds mo p0 none none none 48 c 0 0 0 0 0 0 w1
    rw [dgN_i] at HZ
    go_wp2_with (first | (refine wpList_value rfl (exec_load rfl rfl ld) ?_) | (refine wpList_value rfl (exec_load rfl rfl lo) ?_))
    clear ld lo
    refine (Calls.mono HZ.out) ?_
    rintro e x1 ⟨rfl, bb⟩
    have Y1 : Hid _ := And.intro (X1.out.1.later bb) X1.out.2
    clear bb HZ X1
    by_cases t1 : (n - 48) < (dgN hs)
    · have u1 : (((n - 48) : Nat) : Int) < (((dgN hs) : Nat) : Int) := by omega
      have hcut : wkM hs ds mo L = (0, false) := by
        unfold wkM
        have e1 := HL.out.1
        rw [if_pos (by unfold hN; omega)]
      clear t1
      have F : Hid _ := Y1.out.1
      have ld := load_all size_lt agg_lt F.out.bl
      have st := store_all (vs := [.slice p0 48 c, .slice none 0 0, .slice none 0 0, .slice none 0 0]) size_lt F.out.br rfl (fun u hu => by simp at hu; rcases hu with rfl | rfl | rfl | rfl <;> rfl)
      obtain ⟨B9, g9⟩ := F.out.br.whole (vs := [.slice p0 48 c, .slice none 0 0, .slice none 0 0, .slice none 0 0]) rfl
      have F9 : Hid _ := And.intro (F.out.be.trans ((turned_grown (R := fun k => k = w.heap.size + 1) g9 (fun k hk => by cases hk; rfl)).below _ F.out.be.size (fun k e => by omega))) B9
      clear B9 g9
      go_wp2_with (first | (refine wpList_value rfl (exec_load rfl rfl ld) ?_) | (refine wpList_skip rfl (exec_store rfl rfl rfl st) ?_))
      clear ld st
      (try unfold Exit.noGoto)
      (try dsimp only)
      have y0 := blk_at F9.out.2 0
      have y1 := blk_at F9.out.2 1
      have y2 := blk_at F9.out.2 2
      have y3 := blk_at F9.out.2 3
      simp only [List.getElem?_cons_zero, List.getElem?_cons_succ] at y0 y1 y2 y3
      generalize World.setCells _ _ _ _ = w9 at *
      refine bodyPost_ret (v := .tuple #[.agg #[.slice p0 48 c, .slice none 0 0, .slice none 0 0, .slice none 0 0], .int .i64 (0), .bool false]) (by simp [results, Try.results27, go_sem, y0, y1, y2, y3]) rfl ?_
      refine ⟨F9.out.1, _, _, _, _, _, _, _, _, _, _, _, _, by rw [hcut], ?_⟩
      intro e; rw [hcut] at e; cases e
    · have u1 : ¬ (((n - 48) : Nat) : Int) < (((dgN hs) : Nat) : Int) := by omega
      obtain ⟨p1, hp, ap⟩ := Y1.out.2.upto (dgN hs) (by omega)
      obtain ⟨q2, hq, aq⟩ := Y1.out.2.from (dgN hs) (by omega)
      have cl := blk_at Y1.out.1.bl 1
      simp only [List.getElem?_cons_zero, List.getElem?_cons_succ] at cl
      have fz := blk_frozen Y1.out.1.bl 1
      (try rw [List.drop_drop] at aq)
      (try rw [show 48 + dgN hs = hN hs from rfl] at aq)
      have P : Hid _ := And.intro hp hq
      have A : Hid _ := And.intro ap aq
      clear hp hq ap aq
      go_wp2_with fail
      refine wp_region_held_drew (S := fun W => True) (by kernel_rfl) (trivial) (fun hS => ?_)
      refine any_take (i := 0) (v := ?_) rfl (by kernel_rfl) (by kernel_rfl) (by kernel_rfl) (by exact fun _ _ _ h => h) (by rfl) ?_ hS ?_
      rotate_left
      · ((intro w hSw; (try dsimp only at hSw); go_simp) <;> with_reducible rfl)
      (try simp only [Act.put, List.setIfInBounds_toArray, List.set_cons_zero, List.set_cons_succ])
      refine any_take (i := 1) (v := ?_) rfl (by kernel_rfl) (by kernel_rfl) (by kernel_rfl) (by exact fun _ _ _ h => h) (by rfl) ?_ hS ?_
      rotate_left
      · ((intro w hSw; (try dsimp only at hSw); go_simp) <;> with_reducible rfl)
      (try simp only [Act.put, List.setIfInBounds_toArray, List.set_cons_zero, List.set_cons_succ])
      refine any_take (i := 2) (v := ?_) rfl (by kernel_rfl) (by kernel_rfl) (by kernel_rfl) (by exact fun _ _ _ h => h) (by rfl) ?_ hS ?_
      rotate_left
      · ((intro w hSw; (try dsimp only at hSw); go_simp) <;> with_reducible rfl)
      (try simp only [Act.put, List.setIfInBounds_toArray, List.set_cons_zero, List.set_cons_succ])
      refine any_take (i := 3) (v := .slice p1 (dgN hs) (c - 48)) rfl (by kernel_rfl) (by kernel_rfl) (by kernel_rfl) (by exact fun _ _ _ h => h) (by rfl) ?_ hS ?_
      · intro W hSW; exact exec_slice rfl rfl (P.out.1 W)
      (try simp only [Act.put, List.setIfInBounds_toArray, List.set_cons_zero, List.set_cons_succ])
      refine any_take (i := 4) (v := ?_) rfl (by kernel_rfl) (by kernel_rfl) (by kernel_rfl) (by exact fun _ _ _ h => h) (by rfl) ?_ hS ?_
      rotate_left
      · ((intro w hSw; (try dsimp only at hSw); go_simp) <;> with_reducible rfl)
      (try simp only [Act.put, List.setIfInBounds_toArray, List.set_cons_zero, List.set_cons_succ])
      refine any_take (i := 5) (v := ?_) rfl (by kernel_rfl) (by kernel_rfl) (by kernel_rfl) (by exact fun _ _ _ h => h) (by rfl) ?_ hS ?_
      rotate_left
      · ((intro w hSw; (try dsimp only at hSw); go_simp) <;> with_reducible rfl)
      (try simp only [Act.put, List.setIfInBounds_toArray, List.set_cons_zero, List.set_cons_succ])
      refine any_take (i := 6) (v := .slice q2 ((n - 48) - (dgN hs)) ((c - 48) - (dgN hs))) rfl (by kernel_rfl) (by kernel_rfl) (by kernel_rfl) (by exact fun _ _ _ h => h) (by rfl) ?_ hS ?_
      · intro W hSW; exact exec_slice rfl rfl (P.out.2 W)
      (try simp only [Act.put, List.setIfInBounds_toArray, List.set_cons_zero, List.set_cons_succ])
      refine any_take (i := 7) (v := ?_) rfl (by kernel_rfl) (by kernel_rfl) (by kernel_rfl) (by exact fun _ _ _ h => h) (by rfl) ?_ hS ?_
      rotate_left
      · ((intro w hSw; (try dsimp only at hSw); go_simp) <;> with_reducible rfl)
      (try simp only [Act.put, List.setIfInBounds_toArray, List.set_cons_zero, List.set_cons_succ])
      clear hS
      refine any_on (i := 8) rfl (by kernel_rfl) (fun K hK => ?_)
      go_simp
      refine hK.out _ _ (trivial) (fun hS => ?_)
      clear hK K
      refine any_take (i := 9) (v := ?_) rfl (by kernel_rfl) (by kernel_rfl) (by kernel_rfl) (by exact fun _ _ _ h => h) (by rfl) ?_ hS ?_
      rotate_left
      · ((intro w hSw; (try dsimp only at hSw); go_simp) <;> with_reducible rfl)
      (try simp only [Act.put, List.setIfInBounds_toArray, List.set_cons_zero, List.set_cons_succ])
      refine wpAnyH_done (by kernel_rfl) ?_ _
      have Z := Y1.out.1.put 1 (.slice p1 (dgN hs) (c - 48))
      simp only [List.set_cons_zero, List.set_cons_succ] at Z
      have X2 : Hid _ := And.intro Z A.out.2
      clear Z cl fz P Y1
      generalize (x1.setCell _ _).drew = w2 at *
      have HZ : Hid _ := phead_any hs ds mo p0 p1 none none c (dgN hs) (c - 48) 0 0 0 0 (lH L) (lD1 hs L) w2 G0.out.len (G0.out.row.later X2.out.1.be) A.out.1.len (A.out.1.row.later X2.out.1.be)
      have hM : Hid (∀ E, hfE hs mo (lH L) (lD1 hs L) = E → ¬ E = 0 → wkM hs ds mo L = (E, false)) := by
        intro E e1 e2
        unfold wkM
        rw [e1, if_neg (by have := HL.out.1; unfold hN; omega), if_pos e2]
      generalize hEE : hfE hs mo (lH L) (lD1 hs L) = E at HZ
      have ld := load_all size_lt agg_lt X2.out.1.bl
      have lo := load_all size_op agg_op X2.out.1.bo
      go_wp2_with (first | (refine wpList_value rfl (exec_load rfl rfl ld) ?_) | (refine wpList_value rfl (exec_load rfl rfl lo) ?_))
      clear ld lo
      refine (Calls.mono HZ.out) ?_
      rintro e x9 ⟨rfl, bb⟩
      have X2 : Hid _ := And.intro (X2.out.1.later bb) X2.out.2
      clear bb HZ
      by_cases h0 : E = 0
      · subst h0
        have G1 : Hid _ := And.intro G0.out (And.intro A.out.1 hEE)
        clear G0 A hM
        generalize hx9 : x9 = w2 at *
        go_wp2_with fail
        rw [rounds_succ]
        have ld := load_all size_lt agg_lt X2.out.1.bl
        have lo := load_all size_op agg_op X2.out.1.bo
        have HZ : Hid _ := psize_2 hs ds mo p0 p1 none none c (dgN hs) (c - 48) 0 0 0 0 (lH L) w2 G1.out.1.len (G1.out.1.row.later X2.out.1.be)
        go_wp2_with (first | (refine wpList_value rfl (exec_load rfl rfl ld) ?_) | (refine wpList_value rfl (exec_load rfl rfl lo) ?_))
        clear ld lo
        refine (Calls.mono HZ.out) ?_
        rintro e x2 ⟨rfl, bb⟩
        have Y2 : Hid _ := And.intro (X2.out.1.later bb) X2.out.2
        clear bb HZ X2
        by_cases t2 : (n - 48 - dgN hs) < (bodyN (cnt (lH L)))
        · have u1 : (((n - 48 - dgN hs) : Nat) : Int) < (((bodyN (cnt (lH L))) : Nat) : Int) := by omega
          have hcut : wkM hs ds mo L = (0, false) := by
            unfold wkM
            have e1 := HL.out.1
            rw [if_neg (by unfold hN; omega), if_neg (by simp [G1.out.2.2]), if_pos (by unfold hN; omega)]
          clear t2
          have F : Hid _ := Y2.out.1
          have ld := load_all size_lt agg_lt F.out.bl
          have st := store_all (vs := [.slice p0 48 c, .slice p1 (dgN hs) (c - 48), .slice none 0 0, .slice none 0 0]) size_lt F.out.br rfl (fun u hu => by simp at hu; rcases hu with rfl | rfl | rfl | rfl <;> rfl)
          obtain ⟨B9, g9⟩ := F.out.br.whole (vs := [.slice p0 48 c, .slice p1 (dgN hs) (c - 48), .slice none 0 0, .slice none 0 0]) rfl
          have F9 : Hid _ := And.intro (F.out.be.trans ((turned_grown (R := fun k => k = w.heap.size + 1) g9 (fun k hk => by cases hk; rfl)).below _ F.out.be.size (fun k e => by omega))) B9
          clear B9 g9
          go_wp2_with (first | (refine wpList_value rfl (exec_load rfl rfl ld) ?_) | (refine wpList_skip rfl (exec_store rfl rfl rfl st) ?_))
          clear ld st
          (try unfold Exit.noGoto)
          (try dsimp only)
          have y0 := blk_at F9.out.2 0
          have y1 := blk_at F9.out.2 1
          have y2 := blk_at F9.out.2 2
          have y3 := blk_at F9.out.2 3
          simp only [List.getElem?_cons_zero, List.getElem?_cons_succ] at y0 y1 y2 y3
          generalize World.setCells _ _ _ _ = w9 at *
          refine bodyPost_ret (v := .tuple #[.agg #[.slice p0 48 c, .slice p1 (dgN hs) (c - 48), .slice none 0 0, .slice none 0 0], .int .i64 (0), .bool false]) (by simp [results, Try.results27, go_sem, y0, y1, y2, y3]) rfl ?_
          refine ⟨F9.out.1, _, _, _, _, _, _, _, _, _, _, _, _, by rw [hcut], ?_⟩
          intro e; rw [hcut] at e; cases e
        · have u1 : ¬ (((n - 48 - dgN hs) : Nat) : Int) < (((bodyN (cnt (lH L))) : Nat) : Int) := by omega
          obtain ⟨p2, hp, ap⟩ := Y2.out.2.upto (bodyN (cnt (lH L))) (by omega)
          obtain ⟨q3, hq, aq⟩ := Y2.out.2.from (bodyN (cnt (lH L))) (by omega)
          have cl := blk_at Y2.out.1.bl 2
          simp only [List.getElem?_cons_zero, List.getElem?_cons_succ] at cl
          have fz := blk_frozen Y2.out.1.bl 2
          (try rw [List.drop_drop] at aq)
          (try rw [show 48 + dgN hs = hN hs from rfl] at aq)
          have P : Hid _ := And.intro hp hq
          have A : Hid _ := And.intro ap aq
          clear hp hq ap aq
          go_wp2_with fail
          refine wp_region_held_drew (S := fun W => True) (by kernel_rfl) (trivial) (fun hS => ?_)
          refine any_take (i := 0) (v := ?_) rfl (by kernel_rfl) (by kernel_rfl) (by kernel_rfl) (by exact fun _ _ _ h => h) (by rfl) ?_ hS ?_
          rotate_left
          · ((intro w hSw; (try dsimp only at hSw); go_simp) <;> with_reducible rfl)
          (try simp only [Act.put, List.setIfInBounds_toArray, List.set_cons_zero, List.set_cons_succ])
          refine any_take (i := 1) (v := ?_) rfl (by kernel_rfl) (by kernel_rfl) (by kernel_rfl) (by exact fun _ _ _ h => h) (by rfl) ?_ hS ?_
          rotate_left
          · ((intro w hSw; (try dsimp only at hSw); go_simp) <;> with_reducible rfl)
          (try simp only [Act.put, List.setIfInBounds_toArray, List.set_cons_zero, List.set_cons_succ])
          refine any_take (i := 2) (v := ?_) rfl (by kernel_rfl) (by kernel_rfl) (by kernel_rfl) (by exact fun _ _ _ h => h) (by rfl) ?_ hS ?_
          rotate_left
          · ((intro w hSw; (try dsimp only at hSw); go_simp) <;> with_reducible rfl)
          (try simp only [Act.put, List.setIfInBounds_toArray, List.set_cons_zero, List.set_cons_succ])
          refine any_take (i := 3) (v := .slice p2 (bodyN (cnt (lH L))) (c - 48 - dgN hs)) rfl (by kernel_rfl) (by kernel_rfl) (by kernel_rfl) (by exact fun _ _ _ h => h) (by rfl) ?_ hS ?_
          · intro W hSW; exact exec_slice rfl rfl (P.out.1 W)
          (try simp only [Act.put, List.setIfInBounds_toArray, List.set_cons_zero, List.set_cons_succ])
          refine any_take (i := 4) (v := ?_) rfl (by kernel_rfl) (by kernel_rfl) (by kernel_rfl) (by exact fun _ _ _ h => h) (by rfl) ?_ hS ?_
          rotate_left
          · ((intro w hSw; (try dsimp only at hSw); go_simp) <;> with_reducible rfl)
          (try simp only [Act.put, List.setIfInBounds_toArray, List.set_cons_zero, List.set_cons_succ])
          refine any_take (i := 5) (v := ?_) rfl (by kernel_rfl) (by kernel_rfl) (by kernel_rfl) (by exact fun _ _ _ h => h) (by rfl) ?_ hS ?_
          rotate_left
          · ((intro w hSw; (try dsimp only at hSw); go_simp) <;> with_reducible rfl)
          (try simp only [Act.put, List.setIfInBounds_toArray, List.set_cons_zero, List.set_cons_succ])
          refine any_take (i := 6) (v := .slice q3 ((n - 48 - dgN hs) - (bodyN (cnt (lH L)))) ((c - 48 - dgN hs) - (bodyN (cnt (lH L))))) rfl (by kernel_rfl) (by kernel_rfl) (by kernel_rfl) (by exact fun _ _ _ h => h) (by rfl) ?_ hS ?_
          · intro W hSW; exact exec_slice rfl rfl (P.out.2 W)
          (try simp only [Act.put, List.setIfInBounds_toArray, List.set_cons_zero, List.set_cons_succ])
          refine any_take (i := 7) (v := ?_) rfl (by kernel_rfl) (by kernel_rfl) (by kernel_rfl) (by exact fun _ _ _ h => h) (by rfl) ?_ hS ?_
          rotate_left
          · ((intro w hSw; (try dsimp only at hSw); go_simp) <;> with_reducible rfl)
          (try simp only [Act.put, List.setIfInBounds_toArray, List.set_cons_zero, List.set_cons_succ])
          clear hS
          refine any_on (i := 8) rfl (by kernel_rfl) (fun K hK => ?_)
          go_simp
          refine hK.out _ _ (trivial) (fun hS => ?_)
          clear hK K
          refine any_take (i := 9) (v := ?_) rfl (by kernel_rfl) (by kernel_rfl) (by kernel_rfl) (by exact fun _ _ _ h => h) (by rfl) ?_ hS ?_
          rotate_left
          · ((intro w hSw; (try dsimp only at hSw); go_simp) <;> with_reducible rfl)
          (try simp only [Act.put, List.setIfInBounds_toArray, List.set_cons_zero, List.set_cons_succ])
          refine wpAnyH_done (by kernel_rfl) ?_ _
          have Z := Y2.out.1.put 2 (.slice p2 (bodyN (cnt (lH L))) (c - 48 - dgN hs))
          simp only [List.set_cons_zero, List.set_cons_succ] at Z
          have X3 : Hid _ := And.intro Z A.out.2
          clear Z cl fz P Y2
          generalize (x2.setCell _ _).drew = w3 at *
          have G2 : Hid _ := A.out.1
          clear A
          go_wp2_with fail
          rw [rounds_succ]
          have ld := load_all size_lt agg_lt X3.out.1.bl
          have lo := load_all size_op agg_op X3.out.1.bo
          have HZ : Hid _ := psize_3 hs ds mo p0 p1 p2 none c (dgN hs) (c - 48) (bodyN (cnt (lH L))) (c - 48 - dgN hs) 0 0 (lH L) w3 G1.out.1.len (G1.out.1.row.later X3.out.1.be)
          rw [dgN_i] at HZ
          rw [show dgN (ds && decide (0 < cnt (lH L))) = dN ds L from rfl] at HZ
          go_wp2_with (first | (refine wpList_value rfl (exec_load rfl rfl ld) ?_) | (refine wpList_value rfl (exec_load rfl rfl lo) ?_))
          clear ld lo
          refine (Calls.mono HZ.out) ?_
          rintro e x3 ⟨rfl, bb⟩
          have Y3 : Hid _ := And.intro (X3.out.1.later bb) X3.out.2
          clear bb HZ X3
          by_cases t3 : (n - 48 - dgN hs - bodyN (cnt (lH L))) < (dN ds L)
          · have u1 : (((n - 48 - dgN hs - bodyN (cnt (lH L))) : Nat) : Int) < (((dN ds L) : Nat) : Int) := by omega
            have hcut : wkM hs ds mo L = (0, false) := by
              unfold wkM
              have e1 := HL.out.1
              rw [if_neg (by unfold hN; omega), if_neg (by simp [G1.out.2.2]), if_pos (by unfold hN; omega)]
            clear t3
            have F : Hid _ := Y3.out.1
            have ld := load_all size_lt agg_lt F.out.bl
            have st := store_all (vs := [.slice p0 48 c, .slice p1 (dgN hs) (c - 48), .slice p2 (bodyN (cnt (lH L))) (c - 48 - dgN hs), .slice none 0 0]) size_lt F.out.br rfl (fun u hu => by simp at hu; rcases hu with rfl | rfl | rfl | rfl <;> rfl)
            obtain ⟨B9, g9⟩ := F.out.br.whole (vs := [.slice p0 48 c, .slice p1 (dgN hs) (c - 48), .slice p2 (bodyN (cnt (lH L))) (c - 48 - dgN hs), .slice none 0 0]) rfl
            have F9 : Hid _ := And.intro (F.out.be.trans ((turned_grown (R := fun k => k = w.heap.size + 1) g9 (fun k hk => by cases hk; rfl)).below _ F.out.be.size (fun k e => by omega))) B9
            clear B9 g9
            go_wp2_with (first | (refine wpList_value rfl (exec_load rfl rfl ld) ?_) | (refine wpList_skip rfl (exec_store rfl rfl rfl st) ?_))
            clear ld st
            (try unfold Exit.noGoto)
            (try dsimp only)
            have y0 := blk_at F9.out.2 0
            have y1 := blk_at F9.out.2 1
            have y2 := blk_at F9.out.2 2
            have y3 := blk_at F9.out.2 3
            simp only [List.getElem?_cons_zero, List.getElem?_cons_succ] at y0 y1 y2 y3
            generalize World.setCells _ _ _ _ = w9 at *
            refine bodyPost_ret (v := .tuple #[.agg #[.slice p0 48 c, .slice p1 (dgN hs) (c - 48), .slice p2 (bodyN (cnt (lH L))) (c - 48 - dgN hs), .slice none 0 0], .int .i64 (0), .bool false]) (by simp [results, Try.results27, go_sem, y0, y1, y2, y3]) rfl ?_
            refine ⟨F9.out.1, _, _, _, _, _, _, _, _, _, _, _, _, by rw [hcut], ?_⟩
            intro e; rw [hcut] at e; cases e
          · have u1 : ¬ (((n - 48 - dgN hs - bodyN (cnt (lH L))) : Nat) : Int) < (((dN ds L) : Nat) : Int) := by omega
            obtain ⟨p3, hp, ap⟩ := Y3.out.2.upto (dN ds L) (by omega)
            obtain ⟨q4, hq, aq⟩ := Y3.out.2.from (dN ds L) (by omega)
            have cl := blk_at Y3.out.1.bl 3
            simp only [List.getElem?_cons_zero, List.getElem?_cons_succ] at cl
            have fz := blk_frozen Y3.out.1.bl 3
            (try rw [List.drop_drop] at aq)
            (try rw [show 48 + dgN hs = hN hs from rfl] at aq)
            have P : Hid _ := And.intro hp hq
            have A : Hid _ := And.intro ap aq
            clear hp hq ap aq
            go_wp2_with fail
            refine wp_region_held_drew (S := fun W => True) (by kernel_rfl) (trivial) (fun hS => ?_)
            refine any_take (i := 0) (v := ?_) rfl (by kernel_rfl) (by kernel_rfl) (by kernel_rfl) (by exact fun _ _ _ h => h) (by rfl) ?_ hS ?_
            rotate_left
            · ((intro w hSw; (try dsimp only at hSw); go_simp) <;> with_reducible rfl)
            (try simp only [Act.put, List.setIfInBounds_toArray, List.set_cons_zero, List.set_cons_succ])
            refine any_take (i := 1) (v := ?_) rfl (by kernel_rfl) (by kernel_rfl) (by kernel_rfl) (by exact fun _ _ _ h => h) (by rfl) ?_ hS ?_
            rotate_left
            · ((intro w hSw; (try dsimp only at hSw); go_simp) <;> with_reducible rfl)
            (try simp only [Act.put, List.setIfInBounds_toArray, List.set_cons_zero, List.set_cons_succ])
            refine any_take (i := 2) (v := ?_) rfl (by kernel_rfl) (by kernel_rfl) (by kernel_rfl) (by exact fun _ _ _ h => h) (by rfl) ?_ hS ?_
            rotate_left
            · ((intro w hSw; (try dsimp only at hSw); go_simp) <;> with_reducible rfl)
            (try simp only [Act.put, List.setIfInBounds_toArray, List.set_cons_zero, List.set_cons_succ])
            refine any_take (i := 3) (v := .slice p3 (dN ds L) (c - 48 - dgN hs - bodyN (cnt (lH L)))) rfl (by kernel_rfl) (by kernel_rfl) (by kernel_rfl) (by exact fun _ _ _ h => h) (by rfl) ?_ hS ?_
            · intro W hSW; exact exec_slice rfl rfl (P.out.1 W)
            (try simp only [Act.put, List.setIfInBounds_toArray, List.set_cons_zero, List.set_cons_succ])
            refine any_take (i := 4) (v := ?_) rfl (by kernel_rfl) (by kernel_rfl) (by kernel_rfl) (by exact fun _ _ _ h => h) (by rfl) ?_ hS ?_
            rotate_left
            · ((intro w hSw; (try dsimp only at hSw); go_simp) <;> with_reducible rfl)
            (try simp only [Act.put, List.setIfInBounds_toArray, List.set_cons_zero, List.set_cons_succ])
            refine any_take (i := 5) (v := ?_) rfl (by kernel_rfl) (by kernel_rfl) (by kernel_rfl) (by exact fun _ _ _ h => h) (by rfl) ?_ hS ?_
            rotate_left
            · ((intro w hSw; (try dsimp only at hSw); go_simp) <;> with_reducible rfl)
            (try simp only [Act.put, List.setIfInBounds_toArray, List.set_cons_zero, List.set_cons_succ])
            refine any_take (i := 6) (v := .slice q4 ((n - 48 - dgN hs - bodyN (cnt (lH L))) - (dN ds L)) ((c - 48 - dgN hs - bodyN (cnt (lH L))) - (dN ds L))) rfl (by kernel_rfl) (by kernel_rfl) (by kernel_rfl) (by exact fun _ _ _ h => h) (by rfl) ?_ hS ?_
            · intro W hSW; exact exec_slice rfl rfl (P.out.2 W)
            (try simp only [Act.put, List.setIfInBounds_toArray, List.set_cons_zero, List.set_cons_succ])
            refine any_take (i := 7) (v := ?_) rfl (by kernel_rfl) (by kernel_rfl) (by kernel_rfl) (by exact fun _ _ _ h => h) (by rfl) ?_ hS ?_
            rotate_left
            · ((intro w hSw; (try dsimp only at hSw); go_simp) <;> with_reducible rfl)
            (try simp only [Act.put, List.setIfInBounds_toArray, List.set_cons_zero, List.set_cons_succ])
            clear hS
            refine any_on (i := 8) rfl (by kernel_rfl) (fun K hK => ?_)
            go_simp
            refine hK.out _ _ (trivial) (fun hS => ?_)
            clear hK K
            refine any_take (i := 9) (v := ?_) rfl (by kernel_rfl) (by kernel_rfl) (by kernel_rfl) (by exact fun _ _ _ h => h) (by rfl) ?_ hS ?_
            rotate_left
            · ((intro w hSw; (try dsimp only at hSw); go_simp) <;> with_reducible rfl)
            (try simp only [Act.put, List.setIfInBounds_toArray, List.set_cons_zero, List.set_cons_succ])
            refine wpAnyH_done (by kernel_rfl) ?_ _
            have Z := Y3.out.1.put 3 (.slice p3 (dN ds L) (c - 48 - dgN hs - bodyN (cnt (lH L))))
            simp only [List.set_cons_zero, List.set_cons_succ] at Z
            have X4 : Hid _ := And.intro Z A.out.2
            clear Z cl fz P Y3
            generalize (x3.setCell _ _).drew = w4 at *
            have hcn : cnt (lH L) < 16777216 := cnt_lt _
            obtain ⟨-, hpb, hpb2⟩ := pad_body (cnt (lH L)) hcn
            have HZ : Hid _ := pbody_any hs ds mo p0 p1 p2 p3 c (dgN hs) (c - 48) (bodyN (cnt (lH L))) (c - 48 - dgN hs) (dN ds L) (c - 48 - dgN hs - bodyN (cnt (lH L))) (lH L) (lB hs L) (lD3 hs ds L) w4 G1.out.1.len (G1.out.1.row.later X4.out.1.be) G2.out.len G2.out.cap G2.out.nil hpb (by have := HL.out.2; omega) (G2.out.row.later X4.out.1.be) A.out.1.len (A.out.1.row.later X4.out.1.be)
            have ld := load_all size_lt agg_lt X4.out.1.bl
            have lo := load_all size_op agg_op X4.out.1.bo
            go_wp2_with (first | (refine wpList_value rfl (exec_load rfl rfl ld) ?_) | (refine wpList_value rfl (exec_load rfl rfl lo) ?_))
            clear ld lo
            refine (Calls.mono HZ.out) ?_
            rintro e x9 ⟨rfl, bb⟩
            have X4 : Hid _ := And.intro (X4.out.1.later bb) X4.out.2
            clear bb HZ
            have hcut : wkM hs ds mo L = (bfE ds (lH L) (lB hs L) (lD3 hs ds L), true) := by
              unfold wkM
              have e1 := HL.out.1
              rw [if_neg (by unfold hN; omega), if_neg (by simp [G1.out.2.2]), if_neg (by unfold hN; omega)]
            have hwh : Hid (WkW w a hs ds L p0 p1 p2 p3 48 c (dgN hs) (c - 48) (bodyN (cnt (lH L))) (c - 48 - dgN hs) (dN ds L) (c - 48 - dgN hs - bodyN (cnt (lH L)))) := ⟨rfl, by have := HL.out.1; unfold hN; omega, rfl, rfl, rfl, G1.out.1, G2.out⟩
            generalize bfE ds (lH L) (lB hs L) (lD3 hs ds L) = E at *
            go_wp2_with fail
            rw [rounds_succ]
            have F : Hid _ := X4.out.1
            have ld := load_all size_lt agg_lt F.out.bl
            have st := store_all (vs := [.slice p0 48 c, .slice p1 (dgN hs) (c - 48), .slice p2 (bodyN (cnt (lH L))) (c - 48 - dgN hs), .slice p3 (dN ds L) (c - 48 - dgN hs - bodyN (cnt (lH L)))]) size_lt F.out.br rfl (fun u hu => by simp at hu; rcases hu with rfl | rfl | rfl | rfl <;> rfl)
            obtain ⟨B9, g9⟩ := F.out.br.whole (vs := [.slice p0 48 c, .slice p1 (dgN hs) (c - 48), .slice p2 (bodyN (cnt (lH L))) (c - 48 - dgN hs), .slice p3 (dN ds L) (c - 48 - dgN hs - bodyN (cnt (lH L)))]) rfl
            have F9 : Hid _ := And.intro (F.out.be.trans ((turned_grown (R := fun k => k = w.heap.size + 1) g9 (fun k hk => by cases hk; rfl)).below _ F.out.be.size (fun k e => by omega))) B9
            clear B9 g9
            go_wp2_with (first | (refine wpList_value rfl (exec_load rfl rfl ld) ?_) | (refine wpList_skip rfl (exec_store rfl rfl rfl st) ?_))
            clear ld st
            (try unfold Exit.noGoto)
            (try dsimp only)
            have y0 := blk_at F9.out.2 0
            have y1 := blk_at F9.out.2 1
            have y2 := blk_at F9.out.2 2
            have y3 := blk_at F9.out.2 3
            simp only [List.getElem?_cons_zero, List.getElem?_cons_succ] at y0 y1 y2 y3
            generalize World.setCells _ _ _ _ = w9 at *
            refine bodyPost_ret (v := .tuple #[.agg #[.slice p0 48 c, .slice p1 (dgN hs) (c - 48), .slice p2 (bodyN (cnt (lH L))) (c - 48 - dgN hs), .slice p3 (dN ds L) (c - 48 - dgN hs - bodyN (cnt (lH L)))], .int .i64 (E), .bool true]) (by simp [results, Try.results27, go_sem, y0, y1, y2, y3]) rfl ?_
            refine ⟨F9.out.1, _, _, _, _, _, _, _, _, _, _, _, _, by rw [hcut], ?_⟩
            intro _; exact hwh.out
      · have hcut := hM.out E hEE h0
        clear hM hEE
        have F : Hid _ := X2.out.1
        have ld := load_all size_lt agg_lt F.out.bl
        have st := store_all (vs := [.slice p0 48 c, .slice p1 (dgN hs) (c - 48), .slice none 0 0, .slice none 0 0]) size_lt F.out.br rfl (fun u hu => by simp at hu; rcases hu with rfl | rfl | rfl | rfl <;> rfl)
        obtain ⟨B9, g9⟩ := F.out.br.whole (vs := [.slice p0 48 c, .slice p1 (dgN hs) (c - 48), .slice none 0 0, .slice none 0 0]) rfl
        have F9 : Hid _ := And.intro (F.out.be.trans ((turned_grown (R := fun k => k = w.heap.size + 1) g9 (fun k hk => by cases hk; rfl)).below _ F.out.be.size (fun k e => by omega))) B9
        clear B9 g9
        go_wp2_with (first | (refine wpList_value rfl (exec_load rfl rfl ld) ?_) | (refine wpList_skip rfl (exec_store rfl rfl rfl st) ?_))
        clear ld st
        (try unfold Exit.noGoto)
        (try dsimp only)
        have y0 := blk_at F9.out.2 0
        have y1 := blk_at F9.out.2 1
        have y2 := blk_at F9.out.2 2
        have y3 := blk_at F9.out.2 3
        simp only [List.getElem?_cons_zero, List.getElem?_cons_succ] at y0 y1 y2 y3
        generalize World.setCells _ _ _ _ = w9 at *
        refine bodyPost_ret (v := .tuple #[.agg #[.slice p0 48 c, .slice p1 (dgN hs) (c - 48), .slice none 0 0, .slice none 0 0], .int .i64 (E), .bool false]) (by simp [results, Try.results27, go_sem, y0, y1, y2, y3]) rfl ?_
        refine ⟨F9.out.1, _, _, _, _, _, _, _, _, _, _, _, _, by rw [hcut], ?_⟩
        intro e; rw [hcut] at e; cases e
end Go.Proofs.Ytfcaaljehhibgaa

