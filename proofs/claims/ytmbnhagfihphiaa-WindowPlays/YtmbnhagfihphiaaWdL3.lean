/- The walk of WindowPlays. -/
import Derived.Test.YtmbnhagfihphiaaWr3
import Derived.Test.YtmbnhagfihphiaaWdK
import Derived.Test.YtmbnhagfihphiaaWdA
import Derived.Test.YtmbnhagfihphiaaDrawF
import Derived.Deep.CutRange
import Derived.Deep.CutBlock
namespace Go.Proofs.Ytmbnhagfihphiaa
open Go.RowKit
set_option linter.unusedVariables false
set_option linter.unusedSimpArgs false
set_option maxRecDepth 8000

theorem add_int (a b : BitVec 32) : ((a.toNat : Int) + (b.toNat : Int)) % 4294967296 = ((a + b).toNat : Int) := by
  rw [BitVec.toNat_add]; omega
theorem inv_more {m : Wn} {k : Nat} (h : m.Inv k) : m.Inv (k + 1) := ⟨h.half, h.nx, h.now64, h.nows, by have := h.few; omega⟩
theorem rnCome_any (g : Nat) (p : Wq) (m : Wn) (n : BitVec 32) (now : Bool) (id : Int) (w : World) (h : (rn g p m).Ok w) (hw : m.Wf) (hf : ∀ c ∈ m.held, c.2.1 = false) :
    Calls Try.prog 11 #[.pointer (some ⟨g, 0, none⟩), .int .u32 (n.toNat : Int), .bool now, .int .i64 id] w fun e w' => e = .returned (.int .i64 (m.comeE n now)) ∧ ∃ p', Step w w' (rn g p m) (rn g p' (m.come n id now)) := by
  cases now
  · unfold Wn.comeE Wn.come
    by_cases h0 : (m.room n && !m.has n) = true
    · simp only [if_pos h0]; exact rnCome_yes g p m n id w h hw hf h0
    · simp only [if_neg h0]
      exact (rnCome_no g p m n id w h hw (by simpa using h0)).mono (fun e w' ⟨h1, h2⟩ => ⟨h1, p, Step.quiet h h2⟩)
  · exact rnCome_now g p m n id w h hw
theorem rnHighB (g : Nat) (p : Wq) (m : Wn) (w : World) (h : (rn g p m).Ok w) (hw : m.Wf) :
    Calls Try.prog 18 #[.pointer (some ⟨g, 0, none⟩)] w fun e w' => e = .returned (.int .u32 (m.high.toNat : Int)) ∧ Below w.heap.size w w' :=
  (rnHigh_any g p m w h hw).mono (fun e w' ⟨h1, n, h2⟩ => ⟨h1, by rw [h2]; exact dn9 _ _ _⟩)
/-- between two rounds -/
structure PlI (w : World) (g r : Nat) (wr : World) (k : Nat) (p q : Wq) (m : Wn) : Prop where
  sep : Sep w.heap.size [wd g p m, rn r q m] wr
  below : Below w.heap.size w wr
  inv : m.Inv k
/-- the act's own block lies apart -/
def rcOb (rc : Nat) (xs : List Value) : Ob := ⟨[], [rc], fun w => Blk w rc 33 xs⟩
theorem rc_ok {rc : Nat} {xs : List Value} {w : World} (h : Blk w rc 33 xs) : (rcOb rc xs).Ok w :=
  ⟨h, (fun k hk => by rcases hk with hk | hk; cases hk; simp only [rcOb, List.mem_singleton] at hk; subst hk; exact h.lt), (fun k hk => by cases hk), fun w1 w2 hs h => by
    have e := hs rc (.inr (by simp [rcOb]))
    have h' : Blk w1 rc _ _ := h
    show Blk w2 rc _ _
    unfold Blk at *; rw [e]; exact h'⟩
/-- the program's, the document's, the act -/
structure PlC (w : World) (g r rc : Nat) (xs : List Value) (wx : World) (k : Nat) (p q : Wq) (m : Wn) : Prop where
  sep : Sep w.heap.size [wd g p m, rn r q m, rcOb rc xs] wx
  below : Below w.heap.size w wx
  inv : m.Inv k
/-- the program's has gone ahead -/
structure PlH (w : World) (g r rc : Nat) (xs : List Value) (wx : World) (p q : Wq) (m m' : Wn) : Prop where
  sep : Sep w.heap.size [rn r q m, rcOb rc xs, wd g p m'] wx
  below : Below w.heap.size w wx
theorem PlC.first {w wx wy : World} {g r rc k : Nat} {xs : List Value} {p p' q : Wq} {m m' : Wn} (h : PlC w g r rc xs wx k p q m) (s : Step wx wy (wd g p m) (wd g p' m')) : PlH w g r rc xs wy p' q m m' :=
  ⟨(h.sep.step s).perm (List.Perm.trans (List.Perm.swap _ _ _) (List.Perm.cons _ (List.Perm.swap _ _ _))), h.below.trans (h.sep.below s)⟩
theorem PlH.last {w wx wy : World} {g r rc k : Nat} {xs : List Value} {p q q' : Wq} {m m' : Wn} (h : PlH w g r rc xs wx p q m m') (s : Step wx wy (rn r q m) (rn r q' m')) (hi : m'.Inv (k + 1)) : PlC w g r rc xs wy (k + 1) p q' m' :=
  ⟨(h.sep.step s).perm (List.Perm.trans (List.Perm.cons _ (List.Perm.swap _ _ _)) (List.Perm.swap _ _ _)), h.below.trans (h.sep.below s), hi⟩
theorem PlC.later {w wx wy : World} {g r rc k : Nat} {xs : List Value} {p q : Wq} {m : Wn} (h : PlC w g r rc xs wx k p q m) (hb : Below wx.heap.size wx wy) : PlC w g r rc xs wy k p q m := ⟨h.sep.later hb, below_then h.below hb, h.inv⟩
theorem PlH.later {w wx wy : World} {g r rc : Nat} {xs : List Value} {p q : Wq} {m m' : Wn} (h : PlH w g r rc xs wx p q m m') (hb : Below wx.heap.size wx wy) : PlH w g r rc xs wy p q m m' := ⟨h.sep.later hb, below_then h.below hb⟩
theorem PlC.w {w wx : World} {g r rc k : Nat} {xs : List Value} {p q : Wq} {m : Wn} (h : PlC w g r rc xs wx k p q m) : (wd g p m).Ok wx := h.sep.head
theorem PlC.r {w wx : World} {g r rc k : Nat} {xs : List Value} {p q : Wq} {m : Wn} (h : PlC w g r rc xs wx k p q m) : (rn r q m).Ok wx := h.sep.tail.head
theorem PlC.a {w wx : World} {g r rc k : Nat} {xs : List Value} {p q : Wq} {m : Wn} (h : PlC w g r rc xs wx k p q m) : Blk wx rc 33 xs := h.sep.tail.tail.head.holds
theorem PlH.r {w wx : World} {g r rc : Nat} {xs : List Value} {p q : Wq} {m m' : Wn} (h : PlH w g r rc xs wx p q m m') : (rn r q m).Ok wx := h.sep.head
theorem PlH.a {w wx : World} {g r rc : Nat} {xs : List Value} {p q : Wq} {m m' : Wn} (h : PlH w g r rc xs wx p q m m') : Blk wx rc 33 xs := h.sep.tail.head.holds
theorem rn_exp {r : Nat} {q : Wq} {m : Wn} {wx : World} (h : (rn r q m).Ok wx) : ∃ a c, wx.cell? ⟨r, 0, none⟩ = some (.int .u32 (m.exp.toNat : Int)) ∧ wx.cell? ⟨r, 2, none⟩ = some (.int .i64 m.busy) ∧ wx.cell? ⟨r, 3, none⟩ = some (.slice a m.held.length c) := by
  obtain ⟨-, hv, wv, hB, hH, -⟩ := h.holds
  obtain ⟨a, c, e, -, -, -⟩ := hH.cell kHeld_ok
  subst e
  exact ⟨a, c, by rw [blk_at hB]; rfl, by rw [blk_at hB]; rfl, by rw [blk_at hB]; rfl⟩
set_option maxHeartbeats 8000000 in
theorem windowPlays_walk (first : BitVec 32) (size : Int) (a : Option Addr) (len cap : Nat) (w : World) (hs : I64 size) (A : Act19Arg w a len cap) :
    Calls Try.prog 3 #[.int .u32 (first.toNat : Int), .int .i64 size, .slice a len cap] w fun e w' => e = .returned (.bool true) ∧ Below w.heap.size w w' := by
  have HA : Hid _ := A
  have HK : Hid (∀ X, _) := known19_any
  clear A
  by_cases hsz : size < 1 ∨ 64 < size
  · have H1 : Hid _ := wdNew_no first size w hsz
    have H2 : Hid _ := rnNew_no first size w hsz
    clear hsz hs
    go_enter Try.func3, Try.ntmps3
    go_wp2_with fail
    refine (Calls.mono H1.out) ?_
    rintro e w' ⟨rfl, hw'⟩
    obtain rfl := hw'.symm
    clear hw' H1
    go_wp2_with fail
    refine (Calls.mono H2.out) ?_
    rintro e w' ⟨rfl, hw'⟩
    obtain rfl := hw'.symm
    clear hw' H2
    go_wp2_with fail
    refine (Calls.mono (HK.out _)) ?_
    rintro e w9 ⟨rfl, b9⟩
    have F9 : Hid _ := b9
    clear b9 HK
    go_wp2
    go_ret
    exact ⟨rfl, F9.out⟩
  obtain ⟨n, rfl⟩ : ∃ n : Nat, size = n := ⟨size.toNat, by omega⟩
  have hn1 : 1 ≤ n := by omega
  have hn64 : n ≤ 64 := by omega
  clear hsz hs
  have H1 : Hid _ := wdNew_yes first n w hn1 hn64
  go_enter Try.func3, Try.ntmps3
  go_wp2_with fail
  refine (Calls.mono H1.out) ?_
  rintro e w2 ⟨rfl, ok2, b2⟩
  have H2 : Hid _ := rnNew_yes first n w2 hn1 hn64
  have J1 : Hid _ := And.intro ok2 b2
  clear ok2 b2 H1
  go_wp2_with fail
  refine (Calls.mono H2.out) ?_
  rintro e w3 ⟨rfl, ok3, b3⟩
  have Z1 : Sep w.heap.size [wd w.heap.size (none, none) (Wn.new first n)] w2 := Sep.nil.fresh J1.out.2 J1.out.1 (fun k hk => by
    rcases hk with hk | hk
    · rcases (mem_wdW _ k (none, none)).1 hk with rfl | hk | hk
      · exact Nat.le_refl _
      · cases hk
      · cases hk
    · cases hk)
  have Z2 : Sep w.heap.size [rn w2.heap.size (none, none) (Wn.new first n), wd w.heap.size (none, none) (Wn.new first n)] w3 := Z1.fresh b3 ok3 (fun k hk => by
    rcases hk with hk | hk
    · rcases (mem_wdW _ k (none, none)).1 hk with rfl | hk | hk
      · exact Nat.le_refl _
      · cases hk
      · cases hk
    · cases hk)
  have J2 : Hid _ := (⟨Z2.swap, below_then J1.out.2 b3, new_inv first n hn1 hn64⟩ : PlI w w.heap.size w2.heap.size w3 0 (none, none) (none, none) (Wn.new first n))
  clear ok3 b3 Z1 Z2 J1 H2
  generalize w2.heap.size = r at *
  generalize w.heap.size = g at J2 ⊢
  go_wp2_with fail
  go_loopw [11] (fun iv wr => ∃ (k : Nat) (p q : Wq) (m : Wn), iv = .int .i64 k ∧ k ≤ 300 ∧ PlI w g r wr k p q m) (fun iv _ => 300 - (intOf iv).toNat)
  case atStart => exact ⟨0, _, _, _, rfl, by omega, J2.out⟩
  case round =>
    clear J2
    obtain ⟨k, p, q, m, rfl, hk, hI0⟩ := hrel
    have HI : Hid _ := hI0
    clear hI0
    have hk8 : (k : Int) ≤ 300 := by omega
    go_upto_region 8 with fail
    go_cut [49] from 42 to 169 (fun cv wx => cv = .bool (decide (k < len ∧ k < 300)) ∧ wx = wr)
    case first =>
      by_cases t1 : (k : Int) < (len : Int)
      · by_cases t2 : (k : Int) < 300
        · go_wp2
          go_meet
          exact ⟨congrArg Value.bool (decide_eq_true (p := k < len ∧ k < 300) (by omega)).symm, rfl⟩
        · go_wp2
          go_meet
          exact ⟨congrArg Value.bool (decide_eq_false (p := k < len ∧ k < 300) (by omega)).symm, rfl⟩
      · go_wp2
        go_meet
        exact ⟨congrArg Value.bool (decide_eq_false (p := k < len ∧ k < 300) (by omega)).symm, rfl⟩
    case rest =>
    obtain ⟨rfl, hwc⟩ := hcut
    obtain rfl := hwc.symm
    clear hwc
    by_cases hlt : k < len ∧ k < 300
    · rw [decide_eq_true hlt]
      obtain ⟨ab, ao, rfl, hcells⟩ := HA.out.each (by omega)
      obtain ⟨z0, z1, z2, z3, x0, x1, x2, x3, i0, i3⟩ := hcells k hlt.1
      have y0 := cell_later HI.out.below x0
      have y1 := cell_later HI.out.below x1
      have y2 := cell_later HI.out.below x2
      have y3 := cell_later HI.out.below x3
      have hq : (k : Int) < (len : Int) := by omega
      have bn : Below wr.heap.size wr (wr.alloc (.cells #[.int .i64 z0, .int .u32 (z1.toNat : Int), .bool z2, .int .i64 z3] 33)) := (Below.refl _ _).alloc (Nat.le_refl _) _
      have N := Blk.new' wr 33 [.int .i64 z0, .int .u32 (z1.toNat : Int), .bool z2, .int .i64 z3]
      have hzr := HI.out.below.size
      have Z3 : Sep w.heap.size [wd g p m, rn r q m, rcOb wr.heap.size [.int .i64 z0, .int .u32 (z1.toNat : Int), .bool z2, .int .i64 z3]] _ := (HI.out.sep.fresh bn (rc_ok N) (fun k hk => by
        rcases hk with hk | hk
        · cases hk
        · simp only [rcOb, List.mem_singleton] at hk; omega)).perm (List.Perm.trans (List.Perm.swap _ _ _) (List.Perm.cons _ (List.Perm.swap _ _ _)))
      have J3 : PlC w g r wr.heap.size [.int .i64 z0, .int .u32 (z1.toNat : Int), .bool z2, .int .i64 z3] _ k p q m := ⟨Z3, below_then HI.out.below bn, HI.out.inv⟩
      have wf3 := HI.out.inv.wf (by omega)
      have c0 := blk_at N 0
      simp only [List.getElem?_cons_zero, List.getElem?_cons_succ] at c0
      have HJ : Hid _ := And.intro J3 wf3
      clear hcells x0 x1 x2 x3 bn N J3 HI Z3 hzr wf3
      go_upto_block 2 with fail
      generalize wr.alloc (.cells #[.int .i64 z0, .int .u32 (z1.toNat : Int), .bool z2, .int .i64 z3] 33) = w4 at *
      clear y0 y1 y2 y3
      generalize wr.heap.size = rc at *
      go_cut [58] from 58 to 169 (fun _ wx => ∃ p' q' m', PlC w g r rc [.int .i64 z0, .int .u32 (z1.toNat : Int), .bool z2, .int .i64 z3] wx (k + 1) p' q' m')
      case first =>
        by_cases hk0 : z0 = 0 ∨ z0 = 1 ∨ z0 = 2 ∨ z0 = 3
        · rcases hk0 with rfl | rfl | rfl | rfl
          · go_wp2_with fail
            obtain ⟨-, -, o0, -, -⟩ := rn_exp HJ.out.1.r
            have a1 := blk_at HJ.out.1.a 1
            have a2 := blk_at HJ.out.1.a 2
            have a3 := blk_at HJ.out.1.a 3
            simp only [List.getElem?_cons_zero, List.getElem?_cons_succ] at a1 a2 a3
            refine f_begin (S := fun W => W.cell? ⟨r, 0, none⟩ = some (.int .u32 (m.exp.toNat : Int)) ∧ W.cell? ⟨rc, 1, none⟩ = some (.int .u32 (z1.toNat : Int)) ∧ W.cell? ⟨rc, 2, none⟩ = some (.bool z2) ∧ W.cell? ⟨rc, 3, none⟩ = some (.int .i64 z3)) [25, 26] (by kernel_rfl) (⟨o0, a1, a2, a3⟩) (fun hS => ?_)
            refine f_take (i := 0) (v := ?_) [12, 25, 26] rfl (by kernel_rfl) (by kernel_rfl) (by kernel_rfl) (by kernel_rfl) (by exact fun _ _ _ h => h) (by rfl) ?_ hS ?_
            rotate_left
            · ((intro W hSw; obtain ⟨r0, r1, r2, r3⟩ := hSw; go_simp) <;> with_reducible rfl)
            (try simp only [Act.put, List.setIfInBounds_toArray, List.set_cons_zero, List.set_cons_succ])
            refine f_take (i := 1) (v := ?_) [2, 3, 4, 7, 12, 25, 26] rfl (by kernel_rfl) (by kernel_rfl) (by kernel_rfl) (by kernel_rfl) (by exact fun _ _ _ h => h) (by rfl) ?_ hS ?_
            rotate_left
            · ((intro W hSw; obtain ⟨r0, r1, r2, r3⟩ := hSw; go_simp) <;> with_reducible rfl)
            (try simp only [Act.put, List.setIfInBounds_toArray, List.set_cons_zero, List.set_cons_succ])
            refine f_take (i := 2) (v := ?_) [3, 4, 7, 12, 25, 26] rfl (by kernel_rfl) (by kernel_rfl) (by kernel_rfl) (by kernel_rfl) (by exact fun _ _ _ h => h) (by rfl) ?_ hS ?_
            rotate_left
            · ((intro W hSw; obtain ⟨r0, r1, r2, r3⟩ := hSw; go_simp) <;> with_reducible rfl)
            (try simp only [Act.put, List.setIfInBounds_toArray, List.set_cons_zero, List.set_cons_succ])
            refine f_take (i := 3) (v := ?_) [4, 7, 12, 25, 26] rfl (by kernel_rfl) (by kernel_rfl) (by kernel_rfl) (by kernel_rfl) (by exact fun _ _ _ h => h) (by rfl) ?_ hS ?_
            rotate_left
            · ((intro W hSw; obtain ⟨r0, r1, r2, r3⟩ := hSw; go_simp) <;> with_reducible rfl)
            (try simp only [Act.put, List.setIfInBounds_toArray, List.set_cons_zero, List.set_cons_succ])
            refine f_take (i := 4) (v := ?_) [7, 12, 25, 26] rfl (by kernel_rfl) (by kernel_rfl) (by kernel_rfl) (by kernel_rfl) (by exact fun _ _ _ h => h) (by rfl) ?_ hS ?_
            rotate_left
            · ((intro W hSw; obtain ⟨r0, r1, r2, r3⟩ := hSw; go_simp) <;> with_reducible rfl)
            (try simp only [Act.put, List.setIfInBounds_toArray, List.set_cons_zero, List.set_cons_succ])
            refine f_take (i := 5) (v := ?_) [6, 7, 12, 25, 26] rfl (by kernel_rfl) (by kernel_rfl) (by kernel_rfl) (by kernel_rfl) (by exact fun _ _ _ h => h) (by rfl) ?_ hS ?_
            rotate_left
            · ((intro W hSw; obtain ⟨r0, r1, r2, r3⟩ := hSw; go_simp) <;> with_reducible rfl)
            (try simp only [Act.put, List.setIfInBounds_toArray, List.set_cons_zero, List.set_cons_succ])
            refine f_take (i := 6) (v := ?_) [7, 12, 25, 26] rfl (by kernel_rfl) (by kernel_rfl) (by kernel_rfl) (by kernel_rfl) (by exact fun _ _ _ h => h) (by rfl) ?_ hS ?_
            rotate_left
            · ((intro W hSw; obtain ⟨r0, r1, r2, r3⟩ := hSw; go_simp) <;> with_reducible rfl)
            (try simp only [Act.put, List.setIfInBounds_toArray, List.set_cons_zero, List.set_cons_succ])
            refine f_take (i := 7) (v := .int .u32 (((m.exp + z1).toNat : Nat) : Int)) [12, 25, 26] rfl (by kernel_rfl) (by kernel_rfl) (by kernel_rfl) (by kernel_rfl) (by exact fun _ _ _ h => h) (by rfl) ?_ hS ?_
            · intro W hSw; clear hSw; go_simp <;> (first | rfl | exact add_int _ _)
            (try simp only [Act.put, List.setIfInBounds_toArray, List.set_cons_zero, List.set_cons_succ])
            refine f_take (i := 8) (v := ?_) [9, 12, 25, 26] rfl (by kernel_rfl) (by kernel_rfl) (by kernel_rfl) (by kernel_rfl) (by exact fun _ _ _ h => h) (by rfl) ?_ hS ?_
            rotate_left
            · ((intro W hSw; obtain ⟨r0, r1, r2, r3⟩ := hSw; go_simp) <;> with_reducible rfl)
            (try simp only [Act.put, List.setIfInBounds_toArray, List.set_cons_zero, List.set_cons_succ])
            refine f_take (i := 9) (v := ?_) [12, 25, 26] rfl (by kernel_rfl) (by kernel_rfl) (by kernel_rfl) (by kernel_rfl) (by exact fun _ _ _ h => h) (by rfl) ?_ hS ?_
            rotate_left
            · ((intro W hSw; obtain ⟨r0, r1, r2, r3⟩ := hSw; go_simp) <;> with_reducible rfl)
            (try simp only [Act.put, List.setIfInBounds_toArray, List.set_cons_zero, List.set_cons_succ])
            refine f_take (i := 10) (v := ?_) [11, 12, 25, 26] rfl (by kernel_rfl) (by kernel_rfl) (by kernel_rfl) (by kernel_rfl) (by exact fun _ _ _ h => h) (by rfl) ?_ hS ?_
            rotate_left
            · ((intro W hSw; obtain ⟨r0, r1, r2, r3⟩ := hSw; go_simp) <;> with_reducible rfl)
            (try simp only [Act.put, List.setIfInBounds_toArray, List.set_cons_zero, List.set_cons_succ])
            refine f_take (i := 11) (v := ?_) [12, 25, 26] rfl (by kernel_rfl) (by kernel_rfl) (by kernel_rfl) (by kernel_rfl) (by exact fun _ _ _ h => h) (by rfl) ?_ hS ?_
            rotate_left
            · ((intro W hSw; obtain ⟨r0, r1, r2, r3⟩ := hSw; go_simp) <;> with_reducible rfl)
            (try simp only [Act.put, List.setIfInBounds_toArray, List.set_cons_zero, List.set_cons_succ])
            refine f_take (i := 13) (v := ?_) [25, 26] rfl (by kernel_rfl) (by kernel_rfl) (by kernel_rfl) (by kernel_rfl) (by exact fun _ _ _ h => h) (by rfl) ?_ hS ?_
            rotate_left
            · ((intro W hSw; obtain ⟨r0, r1, r2, r3⟩ := hSw; go_simp) <;> with_reducible rfl)
            (try simp only [Act.put, List.setIfInBounds_toArray, List.set_cons_zero, List.set_cons_succ])
            refine f_take (i := 14) (v := ?_) [15, 16, 17, 20, 25, 26] rfl (by kernel_rfl) (by kernel_rfl) (by kernel_rfl) (by kernel_rfl) (by exact fun _ _ _ h => h) (by rfl) ?_ hS ?_
            rotate_left
            · ((intro W hSw; obtain ⟨r0, r1, r2, r3⟩ := hSw; go_simp) <;> with_reducible rfl)
            (try simp only [Act.put, List.setIfInBounds_toArray, List.set_cons_zero, List.set_cons_succ])
            refine f_take (i := 15) (v := ?_) [16, 17, 20, 25, 26] rfl (by kernel_rfl) (by kernel_rfl) (by kernel_rfl) (by kernel_rfl) (by exact fun _ _ _ h => h) (by rfl) ?_ hS ?_
            rotate_left
            · ((intro W hSw; obtain ⟨r0, r1, r2, r3⟩ := hSw; go_simp) <;> with_reducible rfl)
            (try simp only [Act.put, List.setIfInBounds_toArray, List.set_cons_zero, List.set_cons_succ])
            refine f_take (i := 16) (v := ?_) [17, 20, 25, 26] rfl (by kernel_rfl) (by kernel_rfl) (by kernel_rfl) (by kernel_rfl) (by exact fun _ _ _ h => h) (by rfl) ?_ hS ?_
            rotate_left
            · ((intro W hSw; obtain ⟨r0, r1, r2, r3⟩ := hSw; go_simp) <;> with_reducible rfl)
            (try simp only [Act.put, List.setIfInBounds_toArray, List.set_cons_zero, List.set_cons_succ])
            refine f_take (i := 17) (v := ?_) [20, 25, 26] rfl (by kernel_rfl) (by kernel_rfl) (by kernel_rfl) (by kernel_rfl) (by exact fun _ _ _ h => h) (by rfl) ?_ hS ?_
            rotate_left
            · ((intro W hSw; obtain ⟨r0, r1, r2, r3⟩ := hSw; go_simp) <;> with_reducible rfl)
            (try simp only [Act.put, List.setIfInBounds_toArray, List.set_cons_zero, List.set_cons_succ])
            refine f_take (i := 18) (v := ?_) [19, 20, 25, 26] rfl (by kernel_rfl) (by kernel_rfl) (by kernel_rfl) (by kernel_rfl) (by exact fun _ _ _ h => h) (by rfl) ?_ hS ?_
            rotate_left
            · ((intro W hSw; obtain ⟨r0, r1, r2, r3⟩ := hSw; go_simp) <;> with_reducible rfl)
            (try simp only [Act.put, List.setIfInBounds_toArray, List.set_cons_zero, List.set_cons_succ])
            refine f_take (i := 19) (v := ?_) [20, 25, 26] rfl (by kernel_rfl) (by kernel_rfl) (by kernel_rfl) (by kernel_rfl) (by exact fun _ _ _ h => h) (by rfl) ?_ hS ?_
            rotate_left
            · ((intro W hSw; obtain ⟨r0, r1, r2, r3⟩ := hSw; go_simp) <;> with_reducible rfl)
            (try simp only [Act.put, List.setIfInBounds_toArray, List.set_cons_zero, List.set_cons_succ])
            refine f_take (i := 20) (v := .int .u32 (((m.exp + z1).toNat : Nat) : Int)) [25, 26] rfl (by kernel_rfl) (by kernel_rfl) (by kernel_rfl) (by kernel_rfl) (by exact fun _ _ _ h => h) (by rfl) ?_ hS ?_
            · intro W hSw; clear hSw; go_simp <;> (first | rfl | exact add_int _ _)
            (try simp only [Act.put, List.setIfInBounds_toArray, List.set_cons_zero, List.set_cons_succ])
            refine f_take (i := 21) (v := ?_) [22, 25, 26] rfl (by kernel_rfl) (by kernel_rfl) (by kernel_rfl) (by kernel_rfl) (by exact fun _ _ _ h => h) (by rfl) ?_ hS ?_
            rotate_left
            · ((intro W hSw; obtain ⟨r0, r1, r2, r3⟩ := hSw; go_simp) <;> with_reducible rfl)
            (try simp only [Act.put, List.setIfInBounds_toArray, List.set_cons_zero, List.set_cons_succ])
            refine f_take (i := 22) (v := ?_) [25, 26] rfl (by kernel_rfl) (by kernel_rfl) (by kernel_rfl) (by kernel_rfl) (by exact fun _ _ _ h => h) (by rfl) ?_ hS ?_
            rotate_left
            · ((intro W hSw; obtain ⟨r0, r1, r2, r3⟩ := hSw; go_simp) <;> with_reducible rfl)
            (try simp only [Act.put, List.setIfInBounds_toArray, List.set_cons_zero, List.set_cons_succ])
            refine f_take (i := 23) (v := ?_) [24, 25, 26] rfl (by kernel_rfl) (by kernel_rfl) (by kernel_rfl) (by kernel_rfl) (by exact fun _ _ _ h => h) (by rfl) ?_ hS ?_
            rotate_left
            · ((intro W hSw; obtain ⟨r0, r1, r2, r3⟩ := hSw; go_simp) <;> with_reducible rfl)
            (try simp only [Act.put, List.setIfInBounds_toArray, List.set_cons_zero, List.set_cons_succ])
            refine f_take (i := 24) (v := ?_) [25, 26] rfl (by kernel_rfl) (by kernel_rfl) (by kernel_rfl) (by kernel_rfl) (by exact fun _ _ _ h => h) (by rfl) ?_ hS ?_
            rotate_left
            · ((intro W hSw; obtain ⟨r0, r1, r2, r3⟩ := hSw; go_simp) <;> with_reducible rfl)
            (try simp only [Act.put, List.setIfInBounds_toArray, List.set_cons_zero, List.set_cons_succ])
            refine f_one (i := 12) rfl (by kernel_rfl) (fun K hK => ?_)
            go_simp
            refine (Calls.mono (wdCome_any g p m (m.exp + z1) z2 z3 _ (HJ.out.1.w.later (Below.refl _ _).drew) HJ.out.2)) ?_
            rintro e x1 ⟨rfl, p5, s5⟩
            have H5 : Hid _ := (HJ.out.1.later (Below.refl _ _).drew).first s5
            obtain ⟨-, -, u0, -, -⟩ := rn_exp H5.out.r
            have u1 := blk_at H5.out.a 1
            have u2 := blk_at H5.out.a 2
            have u3 := blk_at H5.out.a 3
            simp only [List.getElem?_cons_zero, List.getElem?_cons_succ] at u1 u2 u3
            clear s5
            go_wp2_with fail
            refine hK.out _ _ ⟨u0, u1, u2, u3⟩ (fun hS => ?_)
            clear hK K
            clear hS
            refine f_last (i := 25) rfl (by simp) (by kernel_rfl) (fun K hK => ?_)
            go_simp
            refine (Calls.mono (rnCome_any r q m (m.exp + z1) z2 z3 _ H5.out.r HJ.out.2 HJ.out.1.inv.half.nn)) ?_
            rintro e x2 ⟨rfl, q6, s6⟩
            have F : Hid _ := H5.out.last s6 (come_inv HJ.out.1.inv (m.exp + z1) z3 z2).1
            clear s6
            go_wp2_with fail
            refine hK.out _ _ ?_
            clear hK K
            refine f_last (i := 26) rfl (by simp) (by kernel_rfl) (fun K hK => ?_)
            generalize m.comeE (m.exp + z1) z2 = ev at *
            go_simp
            refine hK.out _ _ ?_
            clear hK K
            refine f_done (by kernel_rfl) ?_ _
            clear HJ H5 u0 u1 u2 u3 a1 a2 a3 o0
            go_wp2
            go_meet
            case rel => exact ⟨_, _, _, F.out⟩
          · go_wp2_with fail
            obtain ⟨-, -, o0, -, -⟩ := rn_exp HJ.out.1.r
            have a1 := blk_at HJ.out.1.a 1
            have a2 := blk_at HJ.out.1.a 2
            have a3 := blk_at HJ.out.1.a 3
            simp only [List.getElem?_cons_zero, List.getElem?_cons_succ] at a1 a2 a3
            refine f_begin (S := fun W => W.cell? ⟨r, 0, none⟩ = some (.int .u32 (m.exp.toNat : Int)) ∧ W.cell? ⟨rc, 1, none⟩ = some (.int .u32 (z1.toNat : Int)) ∧ W.cell? ⟨rc, 2, none⟩ = some (.bool z2) ∧ W.cell? ⟨rc, 3, none⟩ = some (.int .i64 z3)) [25, 26] (by kernel_rfl) (⟨o0, a1, a2, a3⟩) (fun hS => ?_)
            refine f_take (i := 0) (v := ?_) [12, 25, 26] rfl (by kernel_rfl) (by kernel_rfl) (by kernel_rfl) (by kernel_rfl) (by exact fun _ _ _ h => h) (by rfl) ?_ hS ?_
            rotate_left
            · ((intro W hSw; obtain ⟨r0, r1, r2, r3⟩ := hSw; go_simp) <;> with_reducible rfl)
            (try simp only [Act.put, List.setIfInBounds_toArray, List.set_cons_zero, List.set_cons_succ])
            refine f_take (i := 1) (v := ?_) [2, 3, 4, 7, 12, 25, 26] rfl (by kernel_rfl) (by kernel_rfl) (by kernel_rfl) (by kernel_rfl) (by exact fun _ _ _ h => h) (by rfl) ?_ hS ?_
            rotate_left
            · ((intro W hSw; obtain ⟨r0, r1, r2, r3⟩ := hSw; go_simp) <;> with_reducible rfl)
            (try simp only [Act.put, List.setIfInBounds_toArray, List.set_cons_zero, List.set_cons_succ])
            refine f_take (i := 2) (v := ?_) [3, 4, 7, 12, 25, 26] rfl (by kernel_rfl) (by kernel_rfl) (by kernel_rfl) (by kernel_rfl) (by exact fun _ _ _ h => h) (by rfl) ?_ hS ?_
            rotate_left
            · ((intro W hSw; obtain ⟨r0, r1, r2, r3⟩ := hSw; go_simp) <;> with_reducible rfl)
            (try simp only [Act.put, List.setIfInBounds_toArray, List.set_cons_zero, List.set_cons_succ])
            refine f_take (i := 3) (v := ?_) [4, 7, 12, 25, 26] rfl (by kernel_rfl) (by kernel_rfl) (by kernel_rfl) (by kernel_rfl) (by exact fun _ _ _ h => h) (by rfl) ?_ hS ?_
            rotate_left
            · ((intro W hSw; obtain ⟨r0, r1, r2, r3⟩ := hSw; go_simp) <;> with_reducible rfl)
            (try simp only [Act.put, List.setIfInBounds_toArray, List.set_cons_zero, List.set_cons_succ])
            refine f_take (i := 4) (v := ?_) [7, 12, 25, 26] rfl (by kernel_rfl) (by kernel_rfl) (by kernel_rfl) (by kernel_rfl) (by exact fun _ _ _ h => h) (by rfl) ?_ hS ?_
            rotate_left
            · ((intro W hSw; obtain ⟨r0, r1, r2, r3⟩ := hSw; go_simp) <;> with_reducible rfl)
            (try simp only [Act.put, List.setIfInBounds_toArray, List.set_cons_zero, List.set_cons_succ])
            refine f_take (i := 5) (v := ?_) [6, 7, 12, 25, 26] rfl (by kernel_rfl) (by kernel_rfl) (by kernel_rfl) (by kernel_rfl) (by exact fun _ _ _ h => h) (by rfl) ?_ hS ?_
            rotate_left
            · ((intro W hSw; obtain ⟨r0, r1, r2, r3⟩ := hSw; go_simp) <;> with_reducible rfl)
            (try simp only [Act.put, List.setIfInBounds_toArray, List.set_cons_zero, List.set_cons_succ])
            refine f_take (i := 6) (v := ?_) [7, 12, 25, 26] rfl (by kernel_rfl) (by kernel_rfl) (by kernel_rfl) (by kernel_rfl) (by exact fun _ _ _ h => h) (by rfl) ?_ hS ?_
            rotate_left
            · ((intro W hSw; obtain ⟨r0, r1, r2, r3⟩ := hSw; go_simp) <;> with_reducible rfl)
            (try simp only [Act.put, List.setIfInBounds_toArray, List.set_cons_zero, List.set_cons_succ])
            refine f_take (i := 7) (v := .int .u32 (((m.exp + z1).toNat : Nat) : Int)) [12, 25, 26] rfl (by kernel_rfl) (by kernel_rfl) (by kernel_rfl) (by kernel_rfl) (by exact fun _ _ _ h => h) (by rfl) ?_ hS ?_
            · intro W hSw; clear hSw; go_simp <;> (first | rfl | exact add_int _ _)
            (try simp only [Act.put, List.setIfInBounds_toArray, List.set_cons_zero, List.set_cons_succ])
            refine f_take (i := 8) (v := ?_) [9, 12, 25, 26] rfl (by kernel_rfl) (by kernel_rfl) (by kernel_rfl) (by kernel_rfl) (by exact fun _ _ _ h => h) (by rfl) ?_ hS ?_
            rotate_left
            · ((intro W hSw; obtain ⟨r0, r1, r2, r3⟩ := hSw; go_simp) <;> with_reducible rfl)
            (try simp only [Act.put, List.setIfInBounds_toArray, List.set_cons_zero, List.set_cons_succ])
            refine f_take (i := 9) (v := ?_) [12, 25, 26] rfl (by kernel_rfl) (by kernel_rfl) (by kernel_rfl) (by kernel_rfl) (by exact fun _ _ _ h => h) (by rfl) ?_ hS ?_
            rotate_left
            · ((intro W hSw; obtain ⟨r0, r1, r2, r3⟩ := hSw; go_simp) <;> with_reducible rfl)
            (try simp only [Act.put, List.setIfInBounds_toArray, List.set_cons_zero, List.set_cons_succ])
            refine f_take (i := 10) (v := ?_) [11, 12, 25, 26] rfl (by kernel_rfl) (by kernel_rfl) (by kernel_rfl) (by kernel_rfl) (by exact fun _ _ _ h => h) (by rfl) ?_ hS ?_
            rotate_left
            · ((intro W hSw; obtain ⟨r0, r1, r2, r3⟩ := hSw; go_simp) <;> with_reducible rfl)
            (try simp only [Act.put, List.setIfInBounds_toArray, List.set_cons_zero, List.set_cons_succ])
            refine f_take (i := 11) (v := ?_) [12, 25, 26] rfl (by kernel_rfl) (by kernel_rfl) (by kernel_rfl) (by kernel_rfl) (by exact fun _ _ _ h => h) (by rfl) ?_ hS ?_
            rotate_left
            · ((intro W hSw; obtain ⟨r0, r1, r2, r3⟩ := hSw; go_simp) <;> with_reducible rfl)
            (try simp only [Act.put, List.setIfInBounds_toArray, List.set_cons_zero, List.set_cons_succ])
            refine f_take (i := 13) (v := ?_) [25, 26] rfl (by kernel_rfl) (by kernel_rfl) (by kernel_rfl) (by kernel_rfl) (by exact fun _ _ _ h => h) (by rfl) ?_ hS ?_
            rotate_left
            · ((intro W hSw; obtain ⟨r0, r1, r2, r3⟩ := hSw; go_simp) <;> with_reducible rfl)
            (try simp only [Act.put, List.setIfInBounds_toArray, List.set_cons_zero, List.set_cons_succ])
            refine f_take (i := 14) (v := ?_) [15, 16, 17, 20, 25, 26] rfl (by kernel_rfl) (by kernel_rfl) (by kernel_rfl) (by kernel_rfl) (by exact fun _ _ _ h => h) (by rfl) ?_ hS ?_
            rotate_left
            · ((intro W hSw; obtain ⟨r0, r1, r2, r3⟩ := hSw; go_simp) <;> with_reducible rfl)
            (try simp only [Act.put, List.setIfInBounds_toArray, List.set_cons_zero, List.set_cons_succ])
            refine f_take (i := 15) (v := ?_) [16, 17, 20, 25, 26] rfl (by kernel_rfl) (by kernel_rfl) (by kernel_rfl) (by kernel_rfl) (by exact fun _ _ _ h => h) (by rfl) ?_ hS ?_
            rotate_left
            · ((intro W hSw; obtain ⟨r0, r1, r2, r3⟩ := hSw; go_simp) <;> with_reducible rfl)
            (try simp only [Act.put, List.setIfInBounds_toArray, List.set_cons_zero, List.set_cons_succ])
            refine f_take (i := 16) (v := ?_) [17, 20, 25, 26] rfl (by kernel_rfl) (by kernel_rfl) (by kernel_rfl) (by kernel_rfl) (by exact fun _ _ _ h => h) (by rfl) ?_ hS ?_
            rotate_left
            · ((intro W hSw; obtain ⟨r0, r1, r2, r3⟩ := hSw; go_simp) <;> with_reducible rfl)
            (try simp only [Act.put, List.setIfInBounds_toArray, List.set_cons_zero, List.set_cons_succ])
            refine f_take (i := 17) (v := ?_) [20, 25, 26] rfl (by kernel_rfl) (by kernel_rfl) (by kernel_rfl) (by kernel_rfl) (by exact fun _ _ _ h => h) (by rfl) ?_ hS ?_
            rotate_left
            · ((intro W hSw; obtain ⟨r0, r1, r2, r3⟩ := hSw; go_simp) <;> with_reducible rfl)
            (try simp only [Act.put, List.setIfInBounds_toArray, List.set_cons_zero, List.set_cons_succ])
            refine f_take (i := 18) (v := ?_) [19, 20, 25, 26] rfl (by kernel_rfl) (by kernel_rfl) (by kernel_rfl) (by kernel_rfl) (by exact fun _ _ _ h => h) (by rfl) ?_ hS ?_
            rotate_left
            · ((intro W hSw; obtain ⟨r0, r1, r2, r3⟩ := hSw; go_simp) <;> with_reducible rfl)
            (try simp only [Act.put, List.setIfInBounds_toArray, List.set_cons_zero, List.set_cons_succ])
            refine f_take (i := 19) (v := ?_) [20, 25, 26] rfl (by kernel_rfl) (by kernel_rfl) (by kernel_rfl) (by kernel_rfl) (by exact fun _ _ _ h => h) (by rfl) ?_ hS ?_
            rotate_left
            · ((intro W hSw; obtain ⟨r0, r1, r2, r3⟩ := hSw; go_simp) <;> with_reducible rfl)
            (try simp only [Act.put, List.setIfInBounds_toArray, List.set_cons_zero, List.set_cons_succ])
            refine f_take (i := 20) (v := .int .u32 (((m.exp + z1).toNat : Nat) : Int)) [25, 26] rfl (by kernel_rfl) (by kernel_rfl) (by kernel_rfl) (by kernel_rfl) (by exact fun _ _ _ h => h) (by rfl) ?_ hS ?_
            · intro W hSw; clear hSw; go_simp <;> (first | rfl | exact add_int _ _)
            (try simp only [Act.put, List.setIfInBounds_toArray, List.set_cons_zero, List.set_cons_succ])
            refine f_take (i := 21) (v := ?_) [22, 25, 26] rfl (by kernel_rfl) (by kernel_rfl) (by kernel_rfl) (by kernel_rfl) (by exact fun _ _ _ h => h) (by rfl) ?_ hS ?_
            rotate_left
            · ((intro W hSw; obtain ⟨r0, r1, r2, r3⟩ := hSw; go_simp) <;> with_reducible rfl)
            (try simp only [Act.put, List.setIfInBounds_toArray, List.set_cons_zero, List.set_cons_succ])
            refine f_take (i := 22) (v := ?_) [25, 26] rfl (by kernel_rfl) (by kernel_rfl) (by kernel_rfl) (by kernel_rfl) (by exact fun _ _ _ h => h) (by rfl) ?_ hS ?_
            rotate_left
            · ((intro W hSw; obtain ⟨r0, r1, r2, r3⟩ := hSw; go_simp) <;> with_reducible rfl)
            (try simp only [Act.put, List.setIfInBounds_toArray, List.set_cons_zero, List.set_cons_succ])
            refine f_take (i := 23) (v := ?_) [24, 25, 26] rfl (by kernel_rfl) (by kernel_rfl) (by kernel_rfl) (by kernel_rfl) (by exact fun _ _ _ h => h) (by rfl) ?_ hS ?_
            rotate_left
            · ((intro W hSw; obtain ⟨r0, r1, r2, r3⟩ := hSw; go_simp) <;> with_reducible rfl)
            (try simp only [Act.put, List.setIfInBounds_toArray, List.set_cons_zero, List.set_cons_succ])
            refine f_take (i := 24) (v := ?_) [25, 26] rfl (by kernel_rfl) (by kernel_rfl) (by kernel_rfl) (by kernel_rfl) (by exact fun _ _ _ h => h) (by rfl) ?_ hS ?_
            rotate_left
            · ((intro W hSw; obtain ⟨r0, r1, r2, r3⟩ := hSw; go_simp) <;> with_reducible rfl)
            (try simp only [Act.put, List.setIfInBounds_toArray, List.set_cons_zero, List.set_cons_succ])
            refine f_one (i := 12) rfl (by kernel_rfl) (fun K hK => ?_)
            go_simp
            refine (Calls.mono (wdCome_any g p m (m.exp + z1) z2 z3 _ (HJ.out.1.w.later (Below.refl _ _).drew) HJ.out.2)) ?_
            rintro e x1 ⟨rfl, p5, s5⟩
            have H5 : Hid _ := (HJ.out.1.later (Below.refl _ _).drew).first s5
            obtain ⟨-, -, u0, -, -⟩ := rn_exp H5.out.r
            have u1 := blk_at H5.out.a 1
            have u2 := blk_at H5.out.a 2
            have u3 := blk_at H5.out.a 3
            simp only [List.getElem?_cons_zero, List.getElem?_cons_succ] at u1 u2 u3
            clear s5
            go_wp2_with fail
            refine hK.out _ _ ⟨u0, u1, u2, u3⟩ (fun hS => ?_)
            clear hK K
            clear hS
            refine f_last (i := 25) rfl (by simp) (by kernel_rfl) (fun K hK => ?_)
            go_simp
            refine (Calls.mono (rnCome_any r q m (m.exp + z1) z2 z3 _ H5.out.r HJ.out.2 HJ.out.1.inv.half.nn)) ?_
            rintro e x2 ⟨rfl, q6, s6⟩
            have F : Hid _ := H5.out.last s6 (come_inv HJ.out.1.inv (m.exp + z1) z3 z2).1
            clear s6
            go_wp2_with fail
            refine hK.out _ _ ?_
            clear hK K
            refine f_last (i := 26) rfl (by simp) (by kernel_rfl) (fun K hK => ?_)
            generalize m.comeE (m.exp + z1) z2 = ev at *
            go_simp
            refine hK.out _ _ ?_
            clear hK K
            refine f_done (by kernel_rfl) ?_ _
            clear HJ H5 u0 u1 u2 u3 a1 a2 a3 o0
            go_wp2
            go_meet
            case rel => exact ⟨_, _, _, F.out⟩
          · go_wp2_with fail
            obtain ⟨-, -, o0, -, -⟩ := rn_exp HJ.out.1.r
            have a1 := blk_at HJ.out.1.a 1
            have a2 := blk_at HJ.out.1.a 2
            have a3 := blk_at HJ.out.1.a 3
            simp only [List.getElem?_cons_zero, List.getElem?_cons_succ] at a1 a2 a3
            refine f_begin (S := fun W => W.cell? ⟨r, 0, none⟩ = some (.int .u32 (m.exp.toNat : Int)) ∧ W.cell? ⟨rc, 1, none⟩ = some (.int .u32 (z1.toNat : Int)) ∧ W.cell? ⟨rc, 2, none⟩ = some (.bool z2) ∧ W.cell? ⟨rc, 3, none⟩ = some (.int .i64 z3)) [25, 26] (by kernel_rfl) (⟨o0, a1, a2, a3⟩) (fun hS => ?_)
            refine f_take (i := 0) (v := ?_) [12, 25, 26] rfl (by kernel_rfl) (by kernel_rfl) (by kernel_rfl) (by kernel_rfl) (by exact fun _ _ _ h => h) (by rfl) ?_ hS ?_
            rotate_left
            · ((intro W hSw; obtain ⟨r0, r1, r2, r3⟩ := hSw; go_simp) <;> with_reducible rfl)
            (try simp only [Act.put, List.setIfInBounds_toArray, List.set_cons_zero, List.set_cons_succ])
            refine f_take (i := 1) (v := ?_) [2, 3, 4, 7, 12, 25, 26] rfl (by kernel_rfl) (by kernel_rfl) (by kernel_rfl) (by kernel_rfl) (by exact fun _ _ _ h => h) (by rfl) ?_ hS ?_
            rotate_left
            · ((intro W hSw; obtain ⟨r0, r1, r2, r3⟩ := hSw; go_simp) <;> with_reducible rfl)
            (try simp only [Act.put, List.setIfInBounds_toArray, List.set_cons_zero, List.set_cons_succ])
            refine f_take (i := 2) (v := ?_) [3, 4, 7, 12, 25, 26] rfl (by kernel_rfl) (by kernel_rfl) (by kernel_rfl) (by kernel_rfl) (by exact fun _ _ _ h => h) (by rfl) ?_ hS ?_
            rotate_left
            · ((intro W hSw; obtain ⟨r0, r1, r2, r3⟩ := hSw; go_simp) <;> with_reducible rfl)
            (try simp only [Act.put, List.setIfInBounds_toArray, List.set_cons_zero, List.set_cons_succ])
            refine f_take (i := 3) (v := ?_) [4, 7, 12, 25, 26] rfl (by kernel_rfl) (by kernel_rfl) (by kernel_rfl) (by kernel_rfl) (by exact fun _ _ _ h => h) (by rfl) ?_ hS ?_
            rotate_left
            · ((intro W hSw; obtain ⟨r0, r1, r2, r3⟩ := hSw; go_simp) <;> with_reducible rfl)
            (try simp only [Act.put, List.setIfInBounds_toArray, List.set_cons_zero, List.set_cons_succ])
            refine f_take (i := 4) (v := ?_) [7, 12, 25, 26] rfl (by kernel_rfl) (by kernel_rfl) (by kernel_rfl) (by kernel_rfl) (by exact fun _ _ _ h => h) (by rfl) ?_ hS ?_
            rotate_left
            · ((intro W hSw; obtain ⟨r0, r1, r2, r3⟩ := hSw; go_simp) <;> with_reducible rfl)
            (try simp only [Act.put, List.setIfInBounds_toArray, List.set_cons_zero, List.set_cons_succ])
            refine f_take (i := 5) (v := ?_) [6, 7, 12, 25, 26] rfl (by kernel_rfl) (by kernel_rfl) (by kernel_rfl) (by kernel_rfl) (by exact fun _ _ _ h => h) (by rfl) ?_ hS ?_
            rotate_left
            · ((intro W hSw; obtain ⟨r0, r1, r2, r3⟩ := hSw; go_simp) <;> with_reducible rfl)
            (try simp only [Act.put, List.setIfInBounds_toArray, List.set_cons_zero, List.set_cons_succ])
            refine f_take (i := 6) (v := ?_) [7, 12, 25, 26] rfl (by kernel_rfl) (by kernel_rfl) (by kernel_rfl) (by kernel_rfl) (by exact fun _ _ _ h => h) (by rfl) ?_ hS ?_
            rotate_left
            · ((intro W hSw; obtain ⟨r0, r1, r2, r3⟩ := hSw; go_simp) <;> with_reducible rfl)
            (try simp only [Act.put, List.setIfInBounds_toArray, List.set_cons_zero, List.set_cons_succ])
            refine f_take (i := 7) (v := .int .u32 (((m.exp + z1).toNat : Nat) : Int)) [12, 25, 26] rfl (by kernel_rfl) (by kernel_rfl) (by kernel_rfl) (by kernel_rfl) (by exact fun _ _ _ h => h) (by rfl) ?_ hS ?_
            · intro W hSw; clear hSw; go_simp <;> (first | rfl | exact add_int _ _)
            (try simp only [Act.put, List.setIfInBounds_toArray, List.set_cons_zero, List.set_cons_succ])
            refine f_take (i := 8) (v := ?_) [9, 12, 25, 26] rfl (by kernel_rfl) (by kernel_rfl) (by kernel_rfl) (by kernel_rfl) (by exact fun _ _ _ h => h) (by rfl) ?_ hS ?_
            rotate_left
            · ((intro W hSw; obtain ⟨r0, r1, r2, r3⟩ := hSw; go_simp) <;> with_reducible rfl)
            (try simp only [Act.put, List.setIfInBounds_toArray, List.set_cons_zero, List.set_cons_succ])
            refine f_take (i := 9) (v := ?_) [12, 25, 26] rfl (by kernel_rfl) (by kernel_rfl) (by kernel_rfl) (by kernel_rfl) (by exact fun _ _ _ h => h) (by rfl) ?_ hS ?_
            rotate_left
            · ((intro W hSw; obtain ⟨r0, r1, r2, r3⟩ := hSw; go_simp) <;> with_reducible rfl)
            (try simp only [Act.put, List.setIfInBounds_toArray, List.set_cons_zero, List.set_cons_succ])
            refine f_take (i := 10) (v := ?_) [11, 12, 25, 26] rfl (by kernel_rfl) (by kernel_rfl) (by kernel_rfl) (by kernel_rfl) (by exact fun _ _ _ h => h) (by rfl) ?_ hS ?_
            rotate_left
            · ((intro W hSw; obtain ⟨r0, r1, r2, r3⟩ := hSw; go_simp) <;> with_reducible rfl)
            (try simp only [Act.put, List.setIfInBounds_toArray, List.set_cons_zero, List.set_cons_succ])
            refine f_take (i := 11) (v := ?_) [12, 25, 26] rfl (by kernel_rfl) (by kernel_rfl) (by kernel_rfl) (by kernel_rfl) (by exact fun _ _ _ h => h) (by rfl) ?_ hS ?_
            rotate_left
            · ((intro W hSw; obtain ⟨r0, r1, r2, r3⟩ := hSw; go_simp) <;> with_reducible rfl)
            (try simp only [Act.put, List.setIfInBounds_toArray, List.set_cons_zero, List.set_cons_succ])
            refine f_take (i := 13) (v := ?_) [25, 26] rfl (by kernel_rfl) (by kernel_rfl) (by kernel_rfl) (by kernel_rfl) (by exact fun _ _ _ h => h) (by rfl) ?_ hS ?_
            rotate_left
            · ((intro W hSw; obtain ⟨r0, r1, r2, r3⟩ := hSw; go_simp) <;> with_reducible rfl)
            (try simp only [Act.put, List.setIfInBounds_toArray, List.set_cons_zero, List.set_cons_succ])
            refine f_take (i := 14) (v := ?_) [15, 16, 17, 20, 25, 26] rfl (by kernel_rfl) (by kernel_rfl) (by kernel_rfl) (by kernel_rfl) (by exact fun _ _ _ h => h) (by rfl) ?_ hS ?_
            rotate_left
            · ((intro W hSw; obtain ⟨r0, r1, r2, r3⟩ := hSw; go_simp) <;> with_reducible rfl)
            (try simp only [Act.put, List.setIfInBounds_toArray, List.set_cons_zero, List.set_cons_succ])
            refine f_take (i := 15) (v := ?_) [16, 17, 20, 25, 26] rfl (by kernel_rfl) (by kernel_rfl) (by kernel_rfl) (by kernel_rfl) (by exact fun _ _ _ h => h) (by rfl) ?_ hS ?_
            rotate_left
            · ((intro W hSw; obtain ⟨r0, r1, r2, r3⟩ := hSw; go_simp) <;> with_reducible rfl)
            (try simp only [Act.put, List.setIfInBounds_toArray, List.set_cons_zero, List.set_cons_succ])
            refine f_take (i := 16) (v := ?_) [17, 20, 25, 26] rfl (by kernel_rfl) (by kernel_rfl) (by kernel_rfl) (by kernel_rfl) (by exact fun _ _ _ h => h) (by rfl) ?_ hS ?_
            rotate_left
            · ((intro W hSw; obtain ⟨r0, r1, r2, r3⟩ := hSw; go_simp) <;> with_reducible rfl)
            (try simp only [Act.put, List.setIfInBounds_toArray, List.set_cons_zero, List.set_cons_succ])
            refine f_take (i := 17) (v := ?_) [20, 25, 26] rfl (by kernel_rfl) (by kernel_rfl) (by kernel_rfl) (by kernel_rfl) (by exact fun _ _ _ h => h) (by rfl) ?_ hS ?_
            rotate_left
            · ((intro W hSw; obtain ⟨r0, r1, r2, r3⟩ := hSw; go_simp) <;> with_reducible rfl)
            (try simp only [Act.put, List.setIfInBounds_toArray, List.set_cons_zero, List.set_cons_succ])
            refine f_take (i := 18) (v := ?_) [19, 20, 25, 26] rfl (by kernel_rfl) (by kernel_rfl) (by kernel_rfl) (by kernel_rfl) (by exact fun _ _ _ h => h) (by rfl) ?_ hS ?_
            rotate_left
            · ((intro W hSw; obtain ⟨r0, r1, r2, r3⟩ := hSw; go_simp) <;> with_reducible rfl)
            (try simp only [Act.put, List.setIfInBounds_toArray, List.set_cons_zero, List.set_cons_succ])
            refine f_take (i := 19) (v := ?_) [20, 25, 26] rfl (by kernel_rfl) (by kernel_rfl) (by kernel_rfl) (by kernel_rfl) (by exact fun _ _ _ h => h) (by rfl) ?_ hS ?_
            rotate_left
            · ((intro W hSw; obtain ⟨r0, r1, r2, r3⟩ := hSw; go_simp) <;> with_reducible rfl)
            (try simp only [Act.put, List.setIfInBounds_toArray, List.set_cons_zero, List.set_cons_succ])
            refine f_take (i := 20) (v := .int .u32 (((m.exp + z1).toNat : Nat) : Int)) [25, 26] rfl (by kernel_rfl) (by kernel_rfl) (by kernel_rfl) (by kernel_rfl) (by exact fun _ _ _ h => h) (by rfl) ?_ hS ?_
            · intro W hSw; clear hSw; go_simp <;> (first | rfl | exact add_int _ _)
            (try simp only [Act.put, List.setIfInBounds_toArray, List.set_cons_zero, List.set_cons_succ])
            refine f_take (i := 21) (v := ?_) [22, 25, 26] rfl (by kernel_rfl) (by kernel_rfl) (by kernel_rfl) (by kernel_rfl) (by exact fun _ _ _ h => h) (by rfl) ?_ hS ?_
            rotate_left
            · ((intro W hSw; obtain ⟨r0, r1, r2, r3⟩ := hSw; go_simp) <;> with_reducible rfl)
            (try simp only [Act.put, List.setIfInBounds_toArray, List.set_cons_zero, List.set_cons_succ])
            refine f_take (i := 22) (v := ?_) [25, 26] rfl (by kernel_rfl) (by kernel_rfl) (by kernel_rfl) (by kernel_rfl) (by exact fun _ _ _ h => h) (by rfl) ?_ hS ?_
            rotate_left
            · ((intro W hSw; obtain ⟨r0, r1, r2, r3⟩ := hSw; go_simp) <;> with_reducible rfl)
            (try simp only [Act.put, List.setIfInBounds_toArray, List.set_cons_zero, List.set_cons_succ])
            refine f_take (i := 23) (v := ?_) [24, 25, 26] rfl (by kernel_rfl) (by kernel_rfl) (by kernel_rfl) (by kernel_rfl) (by exact fun _ _ _ h => h) (by rfl) ?_ hS ?_
            rotate_left
            · ((intro W hSw; obtain ⟨r0, r1, r2, r3⟩ := hSw; go_simp) <;> with_reducible rfl)
            (try simp only [Act.put, List.setIfInBounds_toArray, List.set_cons_zero, List.set_cons_succ])
            refine f_take (i := 24) (v := ?_) [25, 26] rfl (by kernel_rfl) (by kernel_rfl) (by kernel_rfl) (by kernel_rfl) (by exact fun _ _ _ h => h) (by rfl) ?_ hS ?_
            rotate_left
            · ((intro W hSw; obtain ⟨r0, r1, r2, r3⟩ := hSw; go_simp) <;> with_reducible rfl)
            (try simp only [Act.put, List.setIfInBounds_toArray, List.set_cons_zero, List.set_cons_succ])
            refine f_one (i := 12) rfl (by kernel_rfl) (fun K hK => ?_)
            go_simp
            refine (Calls.mono (wdCome_any g p m (m.exp + z1) z2 z3 _ (HJ.out.1.w.later (Below.refl _ _).drew) HJ.out.2)) ?_
            rintro e x1 ⟨rfl, p5, s5⟩
            have H5 : Hid _ := (HJ.out.1.later (Below.refl _ _).drew).first s5
            obtain ⟨-, -, u0, -, -⟩ := rn_exp H5.out.r
            have u1 := blk_at H5.out.a 1
            have u2 := blk_at H5.out.a 2
            have u3 := blk_at H5.out.a 3
            simp only [List.getElem?_cons_zero, List.getElem?_cons_succ] at u1 u2 u3
            clear s5
            go_wp2_with fail
            refine hK.out _ _ ⟨u0, u1, u2, u3⟩ (fun hS => ?_)
            clear hK K
            clear hS
            refine f_last (i := 25) rfl (by simp) (by kernel_rfl) (fun K hK => ?_)
            go_simp
            refine (Calls.mono (rnCome_any r q m (m.exp + z1) z2 z3 _ H5.out.r HJ.out.2 HJ.out.1.inv.half.nn)) ?_
            rintro e x2 ⟨rfl, q6, s6⟩
            have F : Hid _ := H5.out.last s6 (come_inv HJ.out.1.inv (m.exp + z1) z3 z2).1
            clear s6
            go_wp2_with fail
            refine hK.out _ _ ?_
            clear hK K
            refine f_last (i := 26) rfl (by simp) (by kernel_rfl) (fun K hK => ?_)
            generalize m.comeE (m.exp + z1) z2 = ev at *
            go_simp
            refine hK.out _ _ ?_
            clear hK K
            refine f_done (by kernel_rfl) ?_ _
            clear HJ H5 u0 u1 u2 u3 a1 a2 a3 o0
            go_wp2
            go_meet
            case rel => exact ⟨_, _, _, F.out⟩
          · go_wp2_with fail
            obtain ⟨-, -, o0, -, -⟩ := rn_exp HJ.out.1.r
            have a1 := blk_at HJ.out.1.a 1
            have a2 := blk_at HJ.out.1.a 2
            have a3 := blk_at HJ.out.1.a 3
            simp only [List.getElem?_cons_zero, List.getElem?_cons_succ] at a1 a2 a3
            refine f_begin (S := fun W => W.cell? ⟨r, 0, none⟩ = some (.int .u32 (m.exp.toNat : Int)) ∧ W.cell? ⟨rc, 1, none⟩ = some (.int .u32 (z1.toNat : Int)) ∧ W.cell? ⟨rc, 2, none⟩ = some (.bool z2) ∧ W.cell? ⟨rc, 3, none⟩ = some (.int .i64 z3)) [25, 26] (by kernel_rfl) (⟨o0, a1, a2, a3⟩) (fun hS => ?_)
            refine f_take (i := 0) (v := ?_) [12, 25, 26] rfl (by kernel_rfl) (by kernel_rfl) (by kernel_rfl) (by kernel_rfl) (by exact fun _ _ _ h => h) (by rfl) ?_ hS ?_
            rotate_left
            · ((intro W hSw; obtain ⟨r0, r1, r2, r3⟩ := hSw; go_simp) <;> with_reducible rfl)
            (try simp only [Act.put, List.setIfInBounds_toArray, List.set_cons_zero, List.set_cons_succ])
            refine f_take (i := 1) (v := ?_) [2, 3, 4, 7, 12, 25, 26] rfl (by kernel_rfl) (by kernel_rfl) (by kernel_rfl) (by kernel_rfl) (by exact fun _ _ _ h => h) (by rfl) ?_ hS ?_
            rotate_left
            · ((intro W hSw; obtain ⟨r0, r1, r2, r3⟩ := hSw; go_simp) <;> with_reducible rfl)
            (try simp only [Act.put, List.setIfInBounds_toArray, List.set_cons_zero, List.set_cons_succ])
            refine f_take (i := 2) (v := ?_) [3, 4, 7, 12, 25, 26] rfl (by kernel_rfl) (by kernel_rfl) (by kernel_rfl) (by kernel_rfl) (by exact fun _ _ _ h => h) (by rfl) ?_ hS ?_
            rotate_left
            · ((intro W hSw; obtain ⟨r0, r1, r2, r3⟩ := hSw; go_simp) <;> with_reducible rfl)
            (try simp only [Act.put, List.setIfInBounds_toArray, List.set_cons_zero, List.set_cons_succ])
            refine f_take (i := 3) (v := ?_) [4, 7, 12, 25, 26] rfl (by kernel_rfl) (by kernel_rfl) (by kernel_rfl) (by kernel_rfl) (by exact fun _ _ _ h => h) (by rfl) ?_ hS ?_
            rotate_left
            · ((intro W hSw; obtain ⟨r0, r1, r2, r3⟩ := hSw; go_simp) <;> with_reducible rfl)
            (try simp only [Act.put, List.setIfInBounds_toArray, List.set_cons_zero, List.set_cons_succ])
            refine f_take (i := 4) (v := ?_) [7, 12, 25, 26] rfl (by kernel_rfl) (by kernel_rfl) (by kernel_rfl) (by kernel_rfl) (by exact fun _ _ _ h => h) (by rfl) ?_ hS ?_
            rotate_left
            · ((intro W hSw; obtain ⟨r0, r1, r2, r3⟩ := hSw; go_simp) <;> with_reducible rfl)
            (try simp only [Act.put, List.setIfInBounds_toArray, List.set_cons_zero, List.set_cons_succ])
            refine f_take (i := 5) (v := ?_) [6, 7, 12, 25, 26] rfl (by kernel_rfl) (by kernel_rfl) (by kernel_rfl) (by kernel_rfl) (by exact fun _ _ _ h => h) (by rfl) ?_ hS ?_
            rotate_left
            · ((intro W hSw; obtain ⟨r0, r1, r2, r3⟩ := hSw; go_simp) <;> with_reducible rfl)
            (try simp only [Act.put, List.setIfInBounds_toArray, List.set_cons_zero, List.set_cons_succ])
            refine f_take (i := 6) (v := ?_) [7, 12, 25, 26] rfl (by kernel_rfl) (by kernel_rfl) (by kernel_rfl) (by kernel_rfl) (by exact fun _ _ _ h => h) (by rfl) ?_ hS ?_
            rotate_left
            · ((intro W hSw; obtain ⟨r0, r1, r2, r3⟩ := hSw; go_simp) <;> with_reducible rfl)
            (try simp only [Act.put, List.setIfInBounds_toArray, List.set_cons_zero, List.set_cons_succ])
            refine f_take (i := 7) (v := .int .u32 (((m.exp + z1).toNat : Nat) : Int)) [12, 25, 26] rfl (by kernel_rfl) (by kernel_rfl) (by kernel_rfl) (by kernel_rfl) (by exact fun _ _ _ h => h) (by rfl) ?_ hS ?_
            · intro W hSw; clear hSw; go_simp <;> (first | rfl | exact add_int _ _)
            (try simp only [Act.put, List.setIfInBounds_toArray, List.set_cons_zero, List.set_cons_succ])
            refine f_take (i := 8) (v := ?_) [9, 12, 25, 26] rfl (by kernel_rfl) (by kernel_rfl) (by kernel_rfl) (by kernel_rfl) (by exact fun _ _ _ h => h) (by rfl) ?_ hS ?_
            rotate_left
            · ((intro W hSw; obtain ⟨r0, r1, r2, r3⟩ := hSw; go_simp) <;> with_reducible rfl)
            (try simp only [Act.put, List.setIfInBounds_toArray, List.set_cons_zero, List.set_cons_succ])
            refine f_take (i := 9) (v := ?_) [12, 25, 26] rfl (by kernel_rfl) (by kernel_rfl) (by kernel_rfl) (by kernel_rfl) (by exact fun _ _ _ h => h) (by rfl) ?_ hS ?_
            rotate_left
            · ((intro W hSw; obtain ⟨r0, r1, r2, r3⟩ := hSw; go_simp) <;> with_reducible rfl)
            (try simp only [Act.put, List.setIfInBounds_toArray, List.set_cons_zero, List.set_cons_succ])
            refine f_take (i := 10) (v := ?_) [11, 12, 25, 26] rfl (by kernel_rfl) (by kernel_rfl) (by kernel_rfl) (by kernel_rfl) (by exact fun _ _ _ h => h) (by rfl) ?_ hS ?_
            rotate_left
            · ((intro W hSw; obtain ⟨r0, r1, r2, r3⟩ := hSw; go_simp) <;> with_reducible rfl)
            (try simp only [Act.put, List.setIfInBounds_toArray, List.set_cons_zero, List.set_cons_succ])
            refine f_take (i := 11) (v := ?_) [12, 25, 26] rfl (by kernel_rfl) (by kernel_rfl) (by kernel_rfl) (by kernel_rfl) (by exact fun _ _ _ h => h) (by rfl) ?_ hS ?_
            rotate_left
            · ((intro W hSw; obtain ⟨r0, r1, r2, r3⟩ := hSw; go_simp) <;> with_reducible rfl)
            (try simp only [Act.put, List.setIfInBounds_toArray, List.set_cons_zero, List.set_cons_succ])
            refine f_take (i := 13) (v := ?_) [25, 26] rfl (by kernel_rfl) (by kernel_rfl) (by kernel_rfl) (by kernel_rfl) (by exact fun _ _ _ h => h) (by rfl) ?_ hS ?_
            rotate_left
            · ((intro W hSw; obtain ⟨r0, r1, r2, r3⟩ := hSw; go_simp) <;> with_reducible rfl)
            (try simp only [Act.put, List.setIfInBounds_toArray, List.set_cons_zero, List.set_cons_succ])
            refine f_take (i := 14) (v := ?_) [15, 16, 17, 20, 25, 26] rfl (by kernel_rfl) (by kernel_rfl) (by kernel_rfl) (by kernel_rfl) (by exact fun _ _ _ h => h) (by rfl) ?_ hS ?_
            rotate_left
            · ((intro W hSw; obtain ⟨r0, r1, r2, r3⟩ := hSw; go_simp) <;> with_reducible rfl)
            (try simp only [Act.put, List.setIfInBounds_toArray, List.set_cons_zero, List.set_cons_succ])
            refine f_take (i := 15) (v := ?_) [16, 17, 20, 25, 26] rfl (by kernel_rfl) (by kernel_rfl) (by kernel_rfl) (by kernel_rfl) (by exact fun _ _ _ h => h) (by rfl) ?_ hS ?_
            rotate_left
            · ((intro W hSw; obtain ⟨r0, r1, r2, r3⟩ := hSw; go_simp) <;> with_reducible rfl)
            (try simp only [Act.put, List.setIfInBounds_toArray, List.set_cons_zero, List.set_cons_succ])
            refine f_take (i := 16) (v := ?_) [17, 20, 25, 26] rfl (by kernel_rfl) (by kernel_rfl) (by kernel_rfl) (by kernel_rfl) (by exact fun _ _ _ h => h) (by rfl) ?_ hS ?_
            rotate_left
            · ((intro W hSw; obtain ⟨r0, r1, r2, r3⟩ := hSw; go_simp) <;> with_reducible rfl)
            (try simp only [Act.put, List.setIfInBounds_toArray, List.set_cons_zero, List.set_cons_succ])
            refine f_take (i := 17) (v := ?_) [20, 25, 26] rfl (by kernel_rfl) (by kernel_rfl) (by kernel_rfl) (by kernel_rfl) (by exact fun _ _ _ h => h) (by rfl) ?_ hS ?_
            rotate_left
            · ((intro W hSw; obtain ⟨r0, r1, r2, r3⟩ := hSw; go_simp) <;> with_reducible rfl)
            (try simp only [Act.put, List.setIfInBounds_toArray, List.set_cons_zero, List.set_cons_succ])
            refine f_take (i := 18) (v := ?_) [19, 20, 25, 26] rfl (by kernel_rfl) (by kernel_rfl) (by kernel_rfl) (by kernel_rfl) (by exact fun _ _ _ h => h) (by rfl) ?_ hS ?_
            rotate_left
            · ((intro W hSw; obtain ⟨r0, r1, r2, r3⟩ := hSw; go_simp) <;> with_reducible rfl)
            (try simp only [Act.put, List.setIfInBounds_toArray, List.set_cons_zero, List.set_cons_succ])
            refine f_take (i := 19) (v := ?_) [20, 25, 26] rfl (by kernel_rfl) (by kernel_rfl) (by kernel_rfl) (by kernel_rfl) (by exact fun _ _ _ h => h) (by rfl) ?_ hS ?_
            rotate_left
            · ((intro W hSw; obtain ⟨r0, r1, r2, r3⟩ := hSw; go_simp) <;> with_reducible rfl)
            (try simp only [Act.put, List.setIfInBounds_toArray, List.set_cons_zero, List.set_cons_succ])
            refine f_take (i := 20) (v := .int .u32 (((m.exp + z1).toNat : Nat) : Int)) [25, 26] rfl (by kernel_rfl) (by kernel_rfl) (by kernel_rfl) (by kernel_rfl) (by exact fun _ _ _ h => h) (by rfl) ?_ hS ?_
            · intro W hSw; clear hSw; go_simp <;> (first | rfl | exact add_int _ _)
            (try simp only [Act.put, List.setIfInBounds_toArray, List.set_cons_zero, List.set_cons_succ])
            refine f_take (i := 21) (v := ?_) [22, 25, 26] rfl (by kernel_rfl) (by kernel_rfl) (by kernel_rfl) (by kernel_rfl) (by exact fun _ _ _ h => h) (by rfl) ?_ hS ?_
            rotate_left
            · ((intro W hSw; obtain ⟨r0, r1, r2, r3⟩ := hSw; go_simp) <;> with_reducible rfl)
            (try simp only [Act.put, List.setIfInBounds_toArray, List.set_cons_zero, List.set_cons_succ])
            refine f_take (i := 22) (v := ?_) [25, 26] rfl (by kernel_rfl) (by kernel_rfl) (by kernel_rfl) (by kernel_rfl) (by exact fun _ _ _ h => h) (by rfl) ?_ hS ?_
            rotate_left
            · ((intro W hSw; obtain ⟨r0, r1, r2, r3⟩ := hSw; go_simp) <;> with_reducible rfl)
            (try simp only [Act.put, List.setIfInBounds_toArray, List.set_cons_zero, List.set_cons_succ])
            refine f_take (i := 23) (v := ?_) [24, 25, 26] rfl (by kernel_rfl) (by kernel_rfl) (by kernel_rfl) (by kernel_rfl) (by exact fun _ _ _ h => h) (by rfl) ?_ hS ?_
            rotate_left
            · ((intro W hSw; obtain ⟨r0, r1, r2, r3⟩ := hSw; go_simp) <;> with_reducible rfl)
            (try simp only [Act.put, List.setIfInBounds_toArray, List.set_cons_zero, List.set_cons_succ])
            refine f_take (i := 24) (v := ?_) [25, 26] rfl (by kernel_rfl) (by kernel_rfl) (by kernel_rfl) (by kernel_rfl) (by exact fun _ _ _ h => h) (by rfl) ?_ hS ?_
            rotate_left
            · ((intro W hSw; obtain ⟨r0, r1, r2, r3⟩ := hSw; go_simp) <;> with_reducible rfl)
            (try simp only [Act.put, List.setIfInBounds_toArray, List.set_cons_zero, List.set_cons_succ])
            refine f_one (i := 12) rfl (by kernel_rfl) (fun K hK => ?_)
            go_simp
            refine (Calls.mono (wdCome_any g p m (m.exp + z1) z2 z3 _ (HJ.out.1.w.later (Below.refl _ _).drew) HJ.out.2)) ?_
            rintro e x1 ⟨rfl, p5, s5⟩
            have H5 : Hid _ := (HJ.out.1.later (Below.refl _ _).drew).first s5
            obtain ⟨-, -, u0, -, -⟩ := rn_exp H5.out.r
            have u1 := blk_at H5.out.a 1
            have u2 := blk_at H5.out.a 2
            have u3 := blk_at H5.out.a 3
            simp only [List.getElem?_cons_zero, List.getElem?_cons_succ] at u1 u2 u3
            clear s5
            go_wp2_with fail
            refine hK.out _ _ ⟨u0, u1, u2, u3⟩ (fun hS => ?_)
            clear hK K
            clear hS
            refine f_last (i := 25) rfl (by simp) (by kernel_rfl) (fun K hK => ?_)
            go_simp
            refine (Calls.mono (rnCome_any r q m (m.exp + z1) z2 z3 _ H5.out.r HJ.out.2 HJ.out.1.inv.half.nn)) ?_
            rintro e x2 ⟨rfl, q6, s6⟩
            have F : Hid _ := H5.out.last s6 (come_inv HJ.out.1.inv (m.exp + z1) z3 z2).1
            clear s6
            go_wp2_with fail
            refine hK.out _ _ ?_
            clear hK K
            refine f_last (i := 26) rfl (by simp) (by kernel_rfl) (fun K hK => ?_)
            generalize m.comeE (m.exp + z1) z2 = ev at *
            go_simp
            refine hK.out _ _ ?_
            clear hK K
            refine f_done (by kernel_rfl) ?_ _
            clear HJ H5 u0 u1 u2 u3 a1 a2 a3 o0
            go_wp2
            go_meet
            case rel => exact ⟨_, _, _, F.out⟩
        · by_cases hk4 : z0 = 4 ∨ z0 = 5
          · rcases hk4 with rfl | rfl
            · clear hk0
              have HN : Hid _ := wdNext_any g p m _ HJ.out.1.w HJ.out.2
              go_wp2_with fail
              refine (Calls.mono HN.out) ?_
              rintro e w5 ⟨rfl, s5⟩
              have H5 : Hid _ := HJ.out.1.first s5
              have HN2 : Hid _ := rnNext_any r q m w5 H5.out.r HJ.out.2
              clear s5 HN
              go_wp2_with fail
              refine (Calls.mono HN2.out) ?_
              rintro e w6 ⟨rfl, s6⟩
              have F : Hid _ := H5.out.last s6 (inv_more (next_inv HJ.out.1.inv).1)
              clear s6 HN2 H5 HJ
              generalize m.nextI = ni at *
              generalize m.nextB = nb at *
              go_wp2
              go_meet
              case rel => exact ⟨_, _, _, F.out⟩
            · clear hk0
              have HN : Hid _ := wdNext_any g p m _ HJ.out.1.w HJ.out.2
              go_wp2_with fail
              refine (Calls.mono HN.out) ?_
              rintro e w5 ⟨rfl, s5⟩
              have H5 : Hid _ := HJ.out.1.first s5
              have HN2 : Hid _ := rnNext_any r q m w5 H5.out.r HJ.out.2
              clear s5 HN
              go_wp2_with fail
              refine (Calls.mono HN2.out) ?_
              rintro e w6 ⟨rfl, s6⟩
              have F : Hid _ := H5.out.last s6 (inv_more (next_inv HJ.out.1.inv).1)
              clear s6 HN2 H5 HJ
              generalize m.nextI = ni at *
              generalize m.nextB = nb at *
              go_wp2
              go_meet
              case rel => exact ⟨_, _, _, F.out⟩
          · by_cases hk6 : z0 = 6
            · subst hk6
              have HD : Hid _ := wdDone_any g p m _ HJ.out.1.w HJ.out.2
              clear hk0 hk4
              go_wp2_with fail
              refine (Calls.mono HD.out) ?_
              rintro e w5 ⟨rfl, s5⟩
              have H5 : Hid _ := HJ.out.1.first s5
              have HD2 : Hid _ := rnDone_any r q m w5 H5.out.r HJ.out.2
              clear s5 HD
              go_wp2_with fail
              refine (Calls.mono HD2.out) ?_
              rintro e w6 ⟨rfl, s6⟩
              have F : Hid _ := H5.out.last s6 (inv_more (done_inv HJ.out.1.inv).1)
              clear s6 HD2 H5 HJ
              generalize m.doneE = ev at *
              go_wp2
              go_meet
              case rel => exact ⟨_, _, _, F.out⟩
            · by_cases hk7 : z0 = 7
              · subst hk7
                clear hk0 hk4 hk6
                go_wp2_with fail
                have a1 := blk_at HJ.out.1.a 1
                have a2 := blk_at HJ.out.1.a 2
                have a3 := blk_at HJ.out.1.a 3
                simp only [List.getElem?_cons_zero, List.getElem?_cons_succ] at a1 a2 a3
                refine wp_region_held_drew (S := fun W => W.cell? ⟨rc, 1, none⟩ = some (.int .u32 (z1.toNat : Int)) ∧ W.cell? ⟨rc, 2, none⟩ = some (.bool z2) ∧ W.cell? ⟨rc, 3, none⟩ = some (.int .i64 z3)) (by kernel_rfl) (⟨a1, a2, a3⟩) (fun hS => ?_)
                refine any_take (i := 0) (v := ?_) rfl (by kernel_rfl) (by kernel_rfl) (by kernel_rfl) (by exact fun _ _ _ h => h) (by rfl) ?_ hS ?_
                rotate_left
                · ((intro W hSw; obtain ⟨r1, r2, r3⟩ := hSw; go_simp) <;> with_reducible rfl)
                (try simp only [Act.put, List.setIfInBounds_toArray, List.set_cons_zero, List.set_cons_succ])
                refine any_take (i := 1) (v := ?_) rfl (by kernel_rfl) (by kernel_rfl) (by kernel_rfl) (by exact fun _ _ _ h => h) (by rfl) ?_ hS ?_
                rotate_left
                · ((intro W hSw; obtain ⟨r1, r2, r3⟩ := hSw; go_simp) <;> with_reducible rfl)
                (try simp only [Act.put, List.setIfInBounds_toArray, List.set_cons_zero, List.set_cons_succ])
                refine any_take (i := 2) (v := ?_) rfl (by kernel_rfl) (by kernel_rfl) (by kernel_rfl) (by exact fun _ _ _ h => h) (by rfl) ?_ hS ?_
                rotate_left
                · ((intro W hSw; obtain ⟨r1, r2, r3⟩ := hSw; go_simp) <;> with_reducible rfl)
                (try simp only [Act.put, List.setIfInBounds_toArray, List.set_cons_zero, List.set_cons_succ])
                refine any_take (i := 3) (v := ?_) rfl (by kernel_rfl) (by kernel_rfl) (by kernel_rfl) (by exact fun _ _ _ h => h) (by rfl) ?_ hS ?_
                rotate_left
                · ((intro W hSw; obtain ⟨r1, r2, r3⟩ := hSw; go_simp) <;> with_reducible rfl)
                (try simp only [Act.put, List.setIfInBounds_toArray, List.set_cons_zero, List.set_cons_succ])
                refine any_take (i := 4) (v := ?_) rfl (by kernel_rfl) (by kernel_rfl) (by kernel_rfl) (by exact fun _ _ _ h => h) (by rfl) ?_ hS ?_
                rotate_left
                · ((intro W hSw; obtain ⟨r1, r2, r3⟩ := hSw; go_simp) <;> with_reducible rfl)
                (try simp only [Act.put, List.setIfInBounds_toArray, List.set_cons_zero, List.set_cons_succ])
                refine any_take (i := 5) (v := ?_) rfl (by kernel_rfl) (by kernel_rfl) (by kernel_rfl) (by exact fun _ _ _ h => h) (by rfl) ?_ hS ?_
                rotate_left
                · ((intro W hSw; obtain ⟨r1, r2, r3⟩ := hSw; go_simp) <;> with_reducible rfl)
                (try simp only [Act.put, List.setIfInBounds_toArray, List.set_cons_zero, List.set_cons_succ])
                refine any_take (i := 6) (v := ?_) rfl (by kernel_rfl) (by kernel_rfl) (by kernel_rfl) (by exact fun _ _ _ h => h) (by rfl) ?_ hS ?_
                rotate_left
                · ((intro W hSw; obtain ⟨r1, r2, r3⟩ := hSw; go_simp) <;> with_reducible rfl)
                (try simp only [Act.put, List.setIfInBounds_toArray, List.set_cons_zero, List.set_cons_succ])
                refine any_take (i := 8) (v := ?_) rfl (by kernel_rfl) (by kernel_rfl) (by kernel_rfl) (by exact fun _ _ _ h => h) (by rfl) ?_ hS ?_
                rotate_left
                · ((intro W hSw; obtain ⟨r1, r2, r3⟩ := hSw; go_simp) <;> with_reducible rfl)
                (try simp only [Act.put, List.setIfInBounds_toArray, List.set_cons_zero, List.set_cons_succ])
                refine any_take (i := 9) (v := ?_) rfl (by kernel_rfl) (by kernel_rfl) (by kernel_rfl) (by exact fun _ _ _ h => h) (by rfl) ?_ hS ?_
                rotate_left
                · ((intro W hSw; obtain ⟨r1, r2, r3⟩ := hSw; go_simp) <;> with_reducible rfl)
                (try simp only [Act.put, List.setIfInBounds_toArray, List.set_cons_zero, List.set_cons_succ])
                refine any_take (i := 10) (v := ?_) rfl (by kernel_rfl) (by kernel_rfl) (by kernel_rfl) (by exact fun _ _ _ h => h) (by rfl) ?_ hS ?_
                rotate_left
                · ((intro W hSw; obtain ⟨r1, r2, r3⟩ := hSw; go_simp) <;> with_reducible rfl)
                (try simp only [Act.put, List.setIfInBounds_toArray, List.set_cons_zero, List.set_cons_succ])
                refine any_take (i := 11) (v := ?_) rfl (by kernel_rfl) (by kernel_rfl) (by kernel_rfl) (by exact fun _ _ _ h => h) (by rfl) ?_ hS ?_
                rotate_left
                · ((intro W hSw; obtain ⟨r1, r2, r3⟩ := hSw; go_simp) <;> with_reducible rfl)
                (try simp only [Act.put, List.setIfInBounds_toArray, List.set_cons_zero, List.set_cons_succ])
                refine any_take (i := 12) (v := ?_) rfl (by kernel_rfl) (by kernel_rfl) (by kernel_rfl) (by exact fun _ _ _ h => h) (by rfl) ?_ hS ?_
                rotate_left
                · ((intro W hSw; obtain ⟨r1, r2, r3⟩ := hSw; go_simp) <;> with_reducible rfl)
                (try simp only [Act.put, List.setIfInBounds_toArray, List.set_cons_zero, List.set_cons_succ])
                refine any_take (i := 13) (v := ?_) rfl (by kernel_rfl) (by kernel_rfl) (by kernel_rfl) (by exact fun _ _ _ h => h) (by rfl) ?_ hS ?_
                rotate_left
                · ((intro W hSw; obtain ⟨r1, r2, r3⟩ := hSw; go_simp) <;> with_reducible rfl)
                (try simp only [Act.put, List.setIfInBounds_toArray, List.set_cons_zero, List.set_cons_succ])
                refine any_take (i := 14) (v := ?_) rfl (by kernel_rfl) (by kernel_rfl) (by kernel_rfl) (by exact fun _ _ _ h => h) (by rfl) ?_ hS ?_
                rotate_left
                · ((intro W hSw; obtain ⟨r1, r2, r3⟩ := hSw; go_simp) <;> with_reducible rfl)
                (try simp only [Act.put, List.setIfInBounds_toArray, List.set_cons_zero, List.set_cons_succ])
                refine any_one (i := 7) rfl (by kernel_rfl) (fun K hK => ?_)
                go_simp
                refine (Calls.mono (wdCome_any g p m z1 z2 z3 _ (HJ.out.1.w.later (Below.refl _ _).drew) HJ.out.2)) ?_
                rintro e x1 ⟨rfl, p5, s5⟩
                have H5 : Hid _ := (HJ.out.1.later (Below.refl _ _).drew).first s5
                have u1 := blk_at H5.out.a 1
                have u2 := blk_at H5.out.a 2
                have u3 := blk_at H5.out.a 3
                simp only [List.getElem?_cons_zero, List.getElem?_cons_succ] at u1 u2 u3
                clear s5
                go_wp2_with fail
                refine hK.out _ _ ((⟨u1, u2, u3⟩ : _ ∧ _ ∧ _)) ?_
                clear hK K hS
                have hS := (⟨u1, u2, u3⟩ : _ ∧ _ ∧ _)
                refine any_one (i := 15) rfl (by kernel_rfl) (fun K hK => ?_)
                go_simp
                refine (Calls.mono (rnCome_any r q m z1 z2 z3 _ H5.out.r HJ.out.2 HJ.out.1.inv.half.nn)) ?_
                rintro e x2 ⟨rfl, q6, s6⟩
                have F : Hid _ := H5.out.last s6 (come_inv HJ.out.1.inv z1 z3 z2).1
                have v1 := blk_at F.out.a 1
                have v2 := blk_at F.out.a 2
                have v3 := blk_at F.out.a 3
                simp only [List.getElem?_cons_zero, List.getElem?_cons_succ] at v1 v2 v3
                clear s6
                go_wp2_with fail
                refine hK.out _ _ ((⟨v1, v2, v3⟩ : _ ∧ _ ∧ _)) ?_
                clear hK K hS
                have hS := (⟨v1, v2, v3⟩ : _ ∧ _ ∧ _)
                generalize m.comeE z1 z2 = ev at *
                refine any_take (i := 16) (v := ?_) rfl (by kernel_rfl) (by kernel_rfl) (by kernel_rfl) (by exact fun _ _ _ h => h) (by rfl) ?_ hS ?_
                rotate_left
                · ((intro W hSw; skip; go_simp) <;> with_reducible rfl)
                (try simp only [Act.put, List.setIfInBounds_toArray, List.set_cons_zero, List.set_cons_succ])
                refine wpAnyH_done (by kernel_rfl) ?_ _
                clear HJ H5 hS a1 a2 a3 u1 u2 u3 v1 v2 v3
                go_wp2
                go_meet
                case rel => exact ⟨_, _, _, F.out⟩
              · have e0 : ¬ z0 = 0 ∧ ¬ z0 = 1 ∧ ¬ z0 = 2 ∧ ¬ z0 = 3 ∧ ¬ z0 = 4 ∧ ¬ z0 = 5 := by omega
                obtain ⟨e0, e1, e2, e3, e4, e5⟩ := e0
                have F : Hid _ := (⟨HJ.out.1.sep, HJ.out.1.below, inv_more HJ.out.1.inv⟩ : PlC w g r rc [.int .i64 z0, .int .u32 (z1.toNat : Int), .bool z2, .int .i64 z3] w4 (k + 1) p q m)
                clear hk0 hk4 HJ
                go_wp2
                go_meet
                case rel => exact ⟨_, _, _, F.out⟩
      case rest =>
        obtain ⟨p5, q5, m5, I5⟩ := hcut
        have wf5 := I5.inv.wf (by omega)
        have H5 : Hid _ := And.intro I5 wf5
        clear HJ c0 I5 wf5 hk8
        go_wp2_with fail
        obtain ⟨xa, xc, -, -, xr3⟩ := rn_exp H5.out.1.r
        refine wp_region_held_drew (S := fun W => PlC w g r rc [.int .i64 z0, .int .u32 (z1.toNat : Int), .bool z2, .int .i64 z3] W (k + 1) p5 q5 m5 ∧ W.cell? ⟨r, 3, none⟩ = some (.slice xa m5.held.length xc)) (by kernel_rfl) (⟨H5.out.1.later (Below.refl _ _).drew, xr3⟩) (fun hS => ?_)
        refine any_take (i := 0) (v := ?_) rfl (by kernel_rfl) (by kernel_rfl) (by kernel_rfl) (by exact fun _ _ _ h => h) (by rfl) ?_ hS ?_
        rotate_left
        · ((intro W hSw; obtain ⟨hP, r3⟩ := hSw; obtain ⟨-, -, r0, r2, -⟩ := rn_exp hP.r; clear hP; go_simp) <;> with_reducible rfl)
        (try simp only [Act.put, List.setIfInBounds_toArray, List.set_cons_zero, List.set_cons_succ])
        refine any_take (i := 2) (v := ?_) rfl (by kernel_rfl) (by kernel_rfl) (by kernel_rfl) (by exact fun _ _ _ h => h) (by rfl) ?_ hS ?_
        rotate_left
        · ((intro W hSw; obtain ⟨hP, r3⟩ := hSw; obtain ⟨-, -, r0, r2, -⟩ := rn_exp hP.r; clear hP; go_simp) <;> with_reducible rfl)
        (try simp only [Act.put, List.setIfInBounds_toArray, List.set_cons_zero, List.set_cons_succ])
        refine any_take (i := 3) (v := ?_) rfl (by kernel_rfl) (by kernel_rfl) (by kernel_rfl) (by exact fun _ _ _ h => h) (by rfl) ?_ hS ?_
        rotate_left
        · ((intro W hSw; obtain ⟨hP, r3⟩ := hSw; obtain ⟨-, -, r0, r2, -⟩ := rn_exp hP.r; clear hP; go_simp) <;> with_reducible rfl)
        (try simp only [Act.put, List.setIfInBounds_toArray, List.set_cons_zero, List.set_cons_succ])
        refine any_take (i := 4) (v := ?_) rfl (by kernel_rfl) (by kernel_rfl) (by kernel_rfl) (by exact fun _ _ _ h => h) (by rfl) ?_ hS ?_
        rotate_left
        · ((intro W hSw; obtain ⟨hP, r3⟩ := hSw; obtain ⟨-, -, r0, r2, -⟩ := rn_exp hP.r; clear hP; go_simp) <;> with_reducible rfl)
        (try simp only [Act.put, List.setIfInBounds_toArray, List.set_cons_zero, List.set_cons_succ])
        refine any_take (i := 5) (v := ?_) rfl (by kernel_rfl) (by kernel_rfl) (by kernel_rfl) (by exact fun _ _ _ h => h) (by rfl) ?_ hS ?_
        rotate_left
        · ((intro W hSw; obtain ⟨hP, r3⟩ := hSw; obtain ⟨-, -, r0, r2, -⟩ := rn_exp hP.r; clear hP; go_simp) <;> with_reducible rfl)
        (try simp only [Act.put, List.setIfInBounds_toArray, List.set_cons_zero, List.set_cons_succ])
        refine any_one (i := 1) rfl (by kernel_rfl) (fun K hK => ?_)
        go_simp
        refine (Calls.mono (wdExp_any g p5 m5 _ hS.1.w)) ?_
        rintro e _ ⟨rfl, rfl⟩
        go_wp2_with fail
        refine hK.out _ _ hS ?_
        clear hK K
        refine any_take (i := 6) (v := ?_) rfl (by kernel_rfl) (by kernel_rfl) (by kernel_rfl) (by exact fun _ _ _ h => h) (by rfl) ?_ hS ?_
        rotate_left
        · ((intro W hSw; obtain ⟨hP, r3⟩ := hSw; obtain ⟨-, -, r0, r2, -⟩ := rn_exp hP.r; clear hP; go_simp) <;> with_reducible rfl)
        (try simp only [Act.put, List.setIfInBounds_toArray, List.set_cons_zero, List.set_cons_succ])
        refine any_take (i := 7) (v := ?_) rfl (by kernel_rfl) (by kernel_rfl) (by kernel_rfl) (by exact fun _ _ _ h => h) (by rfl) ?_ hS ?_
        rotate_left
        · ((intro W hSw; obtain ⟨hP, r3⟩ := hSw; obtain ⟨-, -, r0, r2, -⟩ := rn_exp hP.r; clear hP; go_simp) <;> with_reducible rfl)
        (try simp only [Act.put, List.setIfInBounds_toArray, List.set_cons_zero, List.set_cons_succ])
        refine any_take (i := 8) (v := ?_) rfl (by kernel_rfl) (by kernel_rfl) (by kernel_rfl) (by exact fun _ _ _ h => h) (by rfl) ?_ hS ?_
        rotate_left
        · ((intro W hSw; obtain ⟨hP, r3⟩ := hSw; obtain ⟨-, -, r0, r2, -⟩ := rn_exp hP.r; clear hP; go_simp) <;> with_reducible rfl)
        (try simp only [Act.put, List.setIfInBounds_toArray, List.set_cons_zero, List.set_cons_succ])
        refine any_take (i := 10) (v := ?_) rfl (by kernel_rfl) (by kernel_rfl) (by kernel_rfl) (by exact fun _ _ _ h => h) (by rfl) ?_ hS ?_
        rotate_left
        · ((intro W hSw; obtain ⟨hP, r3⟩ := hSw; obtain ⟨-, -, r0, r2, -⟩ := rn_exp hP.r; clear hP; go_simp) <;> with_reducible rfl)
        (try simp only [Act.put, List.setIfInBounds_toArray, List.set_cons_zero, List.set_cons_succ])
        refine any_one (i := 9) rfl (by kernel_rfl) (fun K hK => ?_)
        go_simp
        refine (Calls.mono (wdHighB g p5 m5 _ hS.1.w H5.out.2)) ?_
        rintro e x2 ⟨rfl, bb⟩
        have hS2 : (PlC w g r rc [.int .i64 z0, .int .u32 (z1.toNat : Int), .bool z2, .int .i64 z3] x2 (k + 1) p5 q5 m5 ∧ x2.cell? ⟨r, 3, none⟩ = some (.slice xa m5.held.length xc)) := ⟨hS.1.later bb, cell_later bb hS.2⟩
        clear bb
        go_wp2_with fail
        refine hK.out _ _ hS2 ?_
        clear hK K hS
        have hS := hS2
        refine any_one (i := 11) rfl (by kernel_rfl) (fun K hK => ?_)
        go_simp
        refine (Calls.mono (rnHighB r q5 m5 _ hS.1.r H5.out.2)) ?_
        rintro e x3 ⟨rfl, bb⟩
        have hS3 : (PlC w g r rc [.int .i64 z0, .int .u32 (z1.toNat : Int), .bool z2, .int .i64 z3] x3 (k + 1) p5 q5 m5 ∧ x3.cell? ⟨r, 3, none⟩ = some (.slice xa m5.held.length xc)) := ⟨hS.1.later bb, cell_later bb hS.2⟩
        clear bb
        go_wp2_with fail
        refine hK.out _ _ hS3 ?_
        clear hK K hS
        have hS := hS3
        refine any_take (i := 12) (v := ?_) rfl (by kernel_rfl) (by kernel_rfl) (by kernel_rfl) (by exact fun _ _ _ h => h) (by rfl) ?_ hS ?_
        rotate_left
        · ((intro W hSw; obtain ⟨hP, r3⟩ := hSw; obtain ⟨-, -, r0, r2, -⟩ := rn_exp hP.r; clear hP; go_simp) <;> with_reducible rfl)
        (try simp only [Act.put, List.setIfInBounds_toArray, List.set_cons_zero, List.set_cons_succ])
        refine any_take (i := 13) (v := ?_) rfl (by kernel_rfl) (by kernel_rfl) (by kernel_rfl) (by exact fun _ _ _ h => h) (by rfl) ?_ hS ?_
        rotate_left
        · ((intro W hSw; obtain ⟨hP, r3⟩ := hSw; obtain ⟨-, -, r0, r2, -⟩ := rn_exp hP.r; clear hP; go_simp) <;> with_reducible rfl)
        (try simp only [Act.put, List.setIfInBounds_toArray, List.set_cons_zero, List.set_cons_succ])
        refine any_take (i := 14) (v := ?_) rfl (by kernel_rfl) (by kernel_rfl) (by kernel_rfl) (by exact fun _ _ _ h => h) (by rfl) ?_ hS ?_
        rotate_left
        · ((intro W hSw; obtain ⟨hP, r3⟩ := hSw; obtain ⟨-, -, r0, r2, -⟩ := rn_exp hP.r; clear hP; go_simp) <;> with_reducible rfl)
        (try simp only [Act.put, List.setIfInBounds_toArray, List.set_cons_zero, List.set_cons_succ])
        refine any_take (i := 15) (v := ?_) rfl (by kernel_rfl) (by kernel_rfl) (by kernel_rfl) (by exact fun _ _ _ h => h) (by rfl) ?_ hS ?_
        rotate_left
        · ((intro W hSw; obtain ⟨hP, r3⟩ := hSw; obtain ⟨-, -, r0, r2, -⟩ := rn_exp hP.r; clear hP; go_simp) <;> with_reducible rfl)
        (try simp only [Act.put, List.setIfInBounds_toArray, List.set_cons_zero, List.set_cons_succ])
        refine any_take (i := 17) (v := ?_) rfl (by kernel_rfl) (by kernel_rfl) (by kernel_rfl) (by exact fun _ _ _ h => h) (by rfl) ?_ hS ?_
        rotate_left
        · ((intro W hSw; obtain ⟨hP, r3⟩ := hSw; obtain ⟨-, -, r0, r2, -⟩ := rn_exp hP.r; clear hP; go_simp) <;> with_reducible rfl)
        (try simp only [Act.put, List.setIfInBounds_toArray, List.set_cons_zero, List.set_cons_succ])
        refine any_take (i := 18) (v := ?_) rfl (by kernel_rfl) (by kernel_rfl) (by kernel_rfl) (by exact fun _ _ _ h => h) (by rfl) ?_ hS ?_
        rotate_left
        · ((intro W hSw; obtain ⟨hP, r3⟩ := hSw; obtain ⟨-, -, r0, r2, -⟩ := rn_exp hP.r; clear hP; go_simp) <;> with_reducible rfl)
        (try simp only [Act.put, List.setIfInBounds_toArray, List.set_cons_zero, List.set_cons_succ])
        refine any_take (i := 19) (v := ?_) rfl (by kernel_rfl) (by kernel_rfl) (by kernel_rfl) (by exact fun _ _ _ h => h) (by rfl) ?_ hS ?_
        rotate_left
        · ((intro W hSw; obtain ⟨hP, r3⟩ := hSw; obtain ⟨-, -, r0, r2, -⟩ := rn_exp hP.r; clear hP; go_simp) <;> with_reducible rfl)
        (try simp only [Act.put, List.setIfInBounds_toArray, List.set_cons_zero, List.set_cons_succ])
        refine any_take (i := 20) (v := ?_) rfl (by kernel_rfl) (by kernel_rfl) (by kernel_rfl) (by exact fun _ _ _ h => h) (by rfl) ?_ hS ?_
        rotate_left
        · ((intro W hSw; obtain ⟨hP, r3⟩ := hSw; obtain ⟨-, -, r0, r2, -⟩ := rn_exp hP.r; clear hP; go_simp) <;> with_reducible rfl)
        (try simp only [Act.put, List.setIfInBounds_toArray, List.set_cons_zero, List.set_cons_succ])
        refine any_take (i := 21) (v := ?_) rfl (by kernel_rfl) (by kernel_rfl) (by kernel_rfl) (by exact fun _ _ _ h => h) (by rfl) ?_ hS ?_
        rotate_left
        · ((intro W hSw; obtain ⟨hP, r3⟩ := hSw; obtain ⟨-, -, r0, r2, -⟩ := rn_exp hP.r; clear hP; go_simp) <;> with_reducible rfl)
        (try simp only [Act.put, List.setIfInBounds_toArray, List.set_cons_zero, List.set_cons_succ])
        refine any_one (i := 16) rfl (by kernel_rfl) (fun K hK => ?_)
        go_simp
        refine (Calls.mono (wdHeld_any g p5 m5 _ hS.1.w)) ?_
        rintro e _ ⟨rfl, rfl⟩
        go_wp2_with fail
        refine hK.out _ _ hS ?_
        clear hK K
        refine any_take (i := 22) (v := ?_) rfl (by kernel_rfl) (by kernel_rfl) (by kernel_rfl) (by exact fun _ _ _ h => h) (by rfl) ?_ hS ?_
        rotate_left
        · ((intro W hSw; obtain ⟨hP, r3⟩ := hSw; obtain ⟨-, -, r0, r2, -⟩ := rn_exp hP.r; clear hP; go_simp) <;> with_reducible rfl)
        (try simp only [Act.put, List.setIfInBounds_toArray, List.set_cons_zero, List.set_cons_succ])
        refine any_take (i := 23) (v := ?_) rfl (by kernel_rfl) (by kernel_rfl) (by kernel_rfl) (by exact fun _ _ _ h => h) (by rfl) ?_ hS ?_
        rotate_left
        · ((intro W hSw; obtain ⟨hP, r3⟩ := hSw; obtain ⟨-, -, r0, r2, -⟩ := rn_exp hP.r; clear hP; go_simp) <;> with_reducible rfl)
        (try simp only [Act.put, List.setIfInBounds_toArray, List.set_cons_zero, List.set_cons_succ])
        refine any_take (i := 24) (v := ?_) rfl (by kernel_rfl) (by kernel_rfl) (by kernel_rfl) (by exact fun _ _ _ h => h) (by rfl) ?_ hS ?_
        rotate_left
        · ((intro W hSw; obtain ⟨hP, r3⟩ := hSw; obtain ⟨-, -, r0, r2, -⟩ := rn_exp hP.r; clear hP; go_simp) <;> with_reducible rfl)
        (try simp only [Act.put, List.setIfInBounds_toArray, List.set_cons_zero, List.set_cons_succ])
        refine any_take (i := 25) (v := ?_) rfl (by kernel_rfl) (by kernel_rfl) (by kernel_rfl) (by exact fun _ _ _ h => h) (by rfl) ?_ hS ?_
        rotate_left
        · ((intro W hSw; obtain ⟨hP, r3⟩ := hSw; obtain ⟨-, -, r0, r2, -⟩ := rn_exp hP.r; clear hP; go_simp) <;> with_reducible rfl)
        (try simp only [Act.put, List.setIfInBounds_toArray, List.set_cons_zero, List.set_cons_succ])
        refine any_take (i := 27) (v := ?_) rfl (by kernel_rfl) (by kernel_rfl) (by kernel_rfl) (by exact fun _ _ _ h => h) (by rfl) ?_ hS ?_
        rotate_left
        · ((intro W hSw; obtain ⟨hP, r3⟩ := hSw; obtain ⟨-, -, r0, r2, -⟩ := rn_exp hP.r; clear hP; go_simp) <;> with_reducible rfl)
        (try simp only [Act.put, List.setIfInBounds_toArray, List.set_cons_zero, List.set_cons_succ])
        refine any_take (i := 28) (v := ?_) rfl (by kernel_rfl) (by kernel_rfl) (by kernel_rfl) (by exact fun _ _ _ h => h) (by rfl) ?_ hS ?_
        rotate_left
        · ((intro W hSw; obtain ⟨hP, r3⟩ := hSw; obtain ⟨-, -, r0, r2, -⟩ := rn_exp hP.r; clear hP; go_simp) <;> with_reducible rfl)
        (try simp only [Act.put, List.setIfInBounds_toArray, List.set_cons_zero, List.set_cons_succ])
        refine any_take (i := 29) (v := ?_) rfl (by kernel_rfl) (by kernel_rfl) (by kernel_rfl) (by exact fun _ _ _ h => h) (by rfl) ?_ hS ?_
        rotate_left
        · ((intro W hSw; obtain ⟨hP, r3⟩ := hSw; obtain ⟨-, -, r0, r2, -⟩ := rn_exp hP.r; clear hP; go_simp) <;> with_reducible rfl)
        (try simp only [Act.put, List.setIfInBounds_toArray, List.set_cons_zero, List.set_cons_succ])
        refine any_take (i := 30) (v := ?_) rfl (by kernel_rfl) (by kernel_rfl) (by kernel_rfl) (by exact fun _ _ _ h => h) (by rfl) ?_ hS ?_
        rotate_left
        · ((intro W hSw; obtain ⟨hP, r3⟩ := hSw; obtain ⟨-, -, r0, r2, -⟩ := rn_exp hP.r; clear hP; go_simp) <;> with_reducible rfl)
        (try simp only [Act.put, List.setIfInBounds_toArray, List.set_cons_zero, List.set_cons_succ])
        refine any_one (i := 26) rfl (by kernel_rfl) (fun K hK => ?_)
        go_simp
        refine (Calls.mono (wdBusy_any g p5 m5 _ hS.1.w)) ?_
        rintro e _ ⟨rfl, rfl⟩
        go_wp2_with fail
        refine hK.out _ _ hS ?_
        clear hK K
        refine any_take (i := 31) (v := ?_) rfl (by kernel_rfl) (by kernel_rfl) (by kernel_rfl) (by exact fun _ _ _ h => h) (by rfl) ?_ hS ?_
        rotate_left
        · ((intro W hSw; obtain ⟨hP, r3⟩ := hSw; obtain ⟨-, -, r0, r2, -⟩ := rn_exp hP.r; clear hP; go_simp) <;> with_reducible rfl)
        (try simp only [Act.put, List.setIfInBounds_toArray, List.set_cons_zero, List.set_cons_succ])
        refine any_take (i := 32) (v := ?_) rfl (by kernel_rfl) (by kernel_rfl) (by kernel_rfl) (by exact fun _ _ _ h => h) (by rfl) ?_ hS ?_
        rotate_left
        · ((intro W hSw; obtain ⟨hP, r3⟩ := hSw; obtain ⟨-, -, r0, r2, -⟩ := rn_exp hP.r; clear hP; go_simp) <;> with_reducible rfl)
        (try simp only [Act.put, List.setIfInBounds_toArray, List.set_cons_zero, List.set_cons_succ])
        refine wpAnyH_done (by kernel_rfl) ?_ _
        have F9 : Hid _ := hS.1
        clear hS H5 xr3
        go_wp2
        go_roundw
        case rel => exact ⟨k + 1, _, _, _, by go_num, by omega, ⟨F9.out.sep.third.tail, F9.out.below, F9.out.inv⟩⟩
        case measure => simp [intOf]; omega
    · rw [decide_eq_false hlt]
      have F : Hid _ := HI.out.below
      clear HI HA
      go_wp2_with fail
      refine (Calls.mono (HK.out _)) ?_
      rintro e w9 ⟨rfl, b9⟩
      have F9 : Hid _ := below_then F.out b9
      clear b9 F HK
      go_wp2
      go_ret
      exact ⟨rfl, F9.out⟩
end Go.Proofs.Ytmbnhagfihphiaa
