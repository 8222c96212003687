/- Put, in all cases. -/
import Derived.Test.YtkcbbaanlkpeiaaXDd23
namespace Go.Proofs.Ytkcbbaanlkpeiaa
open Go.RowKit
set_option linter.unusedVariables false
set_option linter.unusedSimpArgs false
set_option maxRecDepth 4000

theorem prB_most (a b c d : Int) (l : List (BitVec 8)) (h : prE a b c d l.length = 0) : (prB a b c d l).length ≤ 5000 := by
  have hl : l.length ≤ 4096 := by
    unfold prE at h
    by_cases k : fourOk a b c d
    · rw [if_pos k] at h
      by_cases k : l.length ≤ 4096
      · exact k
      · rw [if_neg k] at h; cases h
    · rw [if_neg k] at h; cases h
  unfold prB
  rw [if_pos h]
  have := fourB_len a b c d 4
  simp only [List.length_append, be_length _ _ (show 2 ≤ 8 by omega)]
  omega
theorem mput_mem {m : Int × List An} {x a : An} (h : a ∈ (mput m x).2) : a = x ∨ a ∈ m.2 := by
  unfold mput at h
  split at h
  · exact mem_insA.1 (List.mem_of_mem_tail h)
  · exact mem_insA.1 h
theorem mput_rise {m : Int × List An} {x : An} (hr : Rise m.2) (hn : ∀ a ∈ m.2, a.2.1 ≠ x.2.1) : Rise (mput m x).2 := by
  have := rise_insA hr hn
  unfold mput
  split
  · exact this.tail
  · exact this
theorem mput_len {m : Int × List An} {x : An} (h : m.2.length ≤ 64) : (mput m x).2.length ≤ 64 := by
  have := insA_len m.2 x
  unfold mput
  split
  · simp only [List.length_tail]; omega
  · simp only; omega
set_option maxHeartbeats 2000000 in
theorem dput_arg (g : Nat) (q n : Int) (ra rb rc rd : Int) (rx : Option Addr) (cp : Nat) (dl : List (BitVec 8)) (w : World) (hcan : canP q n = false) :
    Calls Try.prog 15 #[.pointer (some ⟨g, 0, none⟩), .int .i64 q, .int .i64 n, .agg #[.int .i64 ra, .int .i64 rb, .int .i64 rc, .int .i64 rd, .slice rx dl.length cp]] w fun e w' => e = .returned (.int .i64 1) ∧ Below w.heap.size w w' := by
  have b1 : Below w.heap.size w (w.alloc (.cells #[.int .i64 ra, .int .i64 rb, .int .i64 rc, .int .i64 rd, .slice rx dl.length cp] 38)) := (Below.refl _ _).alloc (Nat.le_refl _) _
  have A1 := Blk.new' w 38 [.int .i64 ra, .int .i64 rb, .int .i64 rc, .int .i64 rd, .slice rx dl.length cp]
  have b2 : Below (w.alloc (.cells #[.int .i64 ra, .int .i64 rb, .int .i64 rc, .int .i64 rd, .slice rx dl.length cp] 38)).heap.size (w.alloc (.cells #[.int .i64 ra, .int .i64 rb, .int .i64 rc, .int .i64 rd, .slice rx dl.length cp] 38)) ((w.alloc (.cells #[.int .i64 ra, .int .i64 rb, .int .i64 rc, .int .i64 rd, .slice rx dl.length cp] 38)).alloc (.cells #[.int .i64 q, .int .i64 n] 88)) := (Below.refl _ _).alloc (Nat.le_refl _) _
  have P2 := Blk.new' (w.alloc (.cells #[.int .i64 ra, .int .i64 rb, .int .i64 rc, .int .i64 rd, .slice rx dl.length cp] 38)) 88 [.int .i64 q, .int .i64 n]
  rw [show (w.alloc (.cells #[.int .i64 ra, .int .i64 rb, .int .i64 rc, .int .i64 rd, .slice rx dl.length cp] 38)).heap.size = w.heap.size + 1 by simp] at P2
  have A2 := A1.laterB b2
  have bb := below_then b1 b2
  have a0 := blk_at P2 0
  have a1 := blk_at P2 1
  simp only [List.getElem?_cons_zero, List.getElem?_cons_succ] at a0 a1
  have HN : Hid _ := canBe_any q n ((w.alloc (.cells #[.int .i64 ra, .int .i64 rb, .int .i64 rc, .int .i64 rd, .slice rx dl.length cp] 38)).alloc (.cells #[.int .i64 q, .int .i64 n] 88))
  rw [hcan] at HN
  have H2 : Hid _ := And.intro bb (And.intro A2 P2)
  clear b1 A1 b2 P2 A2 bb hcan
  go_enter Try.func15, Try.ntmps15
  go_wp2_with fail
  generalize ((w.alloc (.cells #[.int .i64 ra, .int .i64 rb, .int .i64 rc, .int .i64 rd, .slice rx dl.length cp] 38)).alloc (.cells #[.int .i64 q, .int .i64 n] 88)) = w2 at *
  clear a0 a1
  refine (Calls.mono HN.out) ?_
  rintro r w3 ⟨rfl, b3⟩
  have F : Hid _ := below_then H2.out.1 b3
  clear H2 HN b3
  go_wp2
  go_ret
  exact ⟨rfl, F.out⟩
set_option maxHeartbeats 2000000 in
theorem dput_bad (g : Nat) (q n : Int) (ra rb rc rd : Int) (rx : Option Addr) (cp : Nat) (dl : List (BitVec 8)) (w : World) (hcan : canP q n = true) (hE : prE ra rb rc rd dl.length ≠ 0) (hdl : dl.length ≤ 140737488351232) (hdc : dl.length ≤ cp) (hdn : rx = none → cp = 0) (hdr : Row w rx dl) :
    Calls Try.prog 15 #[.pointer (some ⟨g, 0, none⟩), .int .i64 q, .int .i64 n, .agg #[.int .i64 ra, .int .i64 rb, .int .i64 rc, .int .i64 rd, .slice rx dl.length cp]] w fun e w' => e = .returned (.int .i64 (prE ra rb rc rd dl.length)) ∧ Below w.heap.size w w' := by
  have b1 : Below w.heap.size w (w.alloc (.cells #[.int .i64 ra, .int .i64 rb, .int .i64 rc, .int .i64 rd, .slice rx dl.length cp] 38)) := (Below.refl _ _).alloc (Nat.le_refl _) _
  have A1 := Blk.new' w 38 [.int .i64 ra, .int .i64 rb, .int .i64 rc, .int .i64 rd, .slice rx dl.length cp]
  have b2 : Below (w.alloc (.cells #[.int .i64 ra, .int .i64 rb, .int .i64 rc, .int .i64 rd, .slice rx dl.length cp] 38)).heap.size (w.alloc (.cells #[.int .i64 ra, .int .i64 rb, .int .i64 rc, .int .i64 rd, .slice rx dl.length cp] 38)) ((w.alloc (.cells #[.int .i64 ra, .int .i64 rb, .int .i64 rc, .int .i64 rd, .slice rx dl.length cp] 38)).alloc (.cells #[.int .i64 q, .int .i64 n] 88)) := (Below.refl _ _).alloc (Nat.le_refl _) _
  have P2 := Blk.new' (w.alloc (.cells #[.int .i64 ra, .int .i64 rb, .int .i64 rc, .int .i64 rd, .slice rx dl.length cp] 38)) 88 [.int .i64 q, .int .i64 n]
  rw [show (w.alloc (.cells #[.int .i64 ra, .int .i64 rb, .int .i64 rc, .int .i64 rd, .slice rx dl.length cp] 38)).heap.size = w.heap.size + 1 by simp] at P2
  have A2 := A1.laterB b2
  have bb := below_then b1 b2
  have a0 := blk_at P2 0
  have a1 := blk_at P2 1
  simp only [List.getElem?_cons_zero, List.getElem?_cons_succ] at a0 a1
  have HN : Hid _ := canBe_any q n ((w.alloc (.cells #[.int .i64 ra, .int .i64 rb, .int .i64 rc, .int .i64 rd, .slice rx dl.length cp] 38)).alloc (.cells #[.int .i64 q, .int .i64 n] 88))
  rw [hcan] at HN
  have H2 : Hid _ := And.intro bb (And.intro A2 P2)
  have HPr : Hid (∀ W, Below w.heap.size w W → Calls Try.prog 43 #[.agg #[.int .i64 ra, .int .i64 rb, .int .i64 rc, .int .i64 rd, .slice rx dl.length cp]] W fun e w' => ∃ z, e = .returned (.tuple #[z, .int .i64 (prE ra rb rc rd dl.length)]) ∧ Own w' W.heap.size z (prB ra rb rc rd dl) ∧ Below W.heap.size W w') := fun W hW =>
    putReply_any ra rb rc rd rx cp dl W hdl hdc hdn (hdr.later hW)
  clear b1 A1 b2 P2 A2 bb hcan hdl hdc hdn hdr
  generalize prE ra rb rc rd dl.length = E at *
  go_enter Try.func15, Try.ntmps15
  go_wp2_with fail
  generalize ((w.alloc (.cells #[.int .i64 ra, .int .i64 rb, .int .i64 rc, .int .i64 rd, .slice rx dl.length cp] 38)).alloc (.cells #[.int .i64 q, .int .i64 n] 88)) = w2 at *
  clear a0 a1
  refine (Calls.mono HN.out) ?_
  rintro r w3 ⟨rfl, b3⟩
  have H3 : Hid (Below w.heap.size w w3 ∧ Blk w3 w.heap.size 38 [.int .i64 ra, .int .i64 rb, .int .i64 rc, .int .i64 rd, .slice rx dl.length cp] ∧ Blk w3 (w.heap.size + 1) 88 [.int .i64 q, .int .i64 n]) := ⟨below_then H2.out.1 b3, H2.out.2.1.laterB b3, H2.out.2.2.laterB b3⟩
  have y0 := blk_at H3.out.2.1 0
  have y1 := blk_at H3.out.2.1 1
  have y2 := blk_at H3.out.2.1 2
  have y3 := blk_at H3.out.2.1 3
  have y4 := blk_at H3.out.2.1 4
  simp only [List.getElem?_cons_zero, List.getElem?_cons_succ] at y0 y1 y2 y3 y4
  clear H2 HN b3
  go_wp2_with fail
  clear y0 y1 y2 y3 y4
  refine (Calls.mono (HPr.out _ H3.out.1)) ?_
  rintro r w4 ⟨z, rfl, o4, b4⟩
  obtain ⟨za, zn, zc, rfl, -⟩ := own12_strs o4
  have F : Hid _ := below_then H3.out.1 b4
  have hE' : (E == 0) = false := by rw [beq_eq_false_iff_ne]; exact hE
  clear H3 HPr b4 o4
  go_wp2
  go_ret
  exact ⟨rfl, F.out⟩
/-- what Check answers in a Put -/
def ChkC (g : Nat) (q n : Int) (w : World) (K : Int → Prop) : Prop := ∀ W, Below w.heap.size w W → Calls Try.prog 18 #[.pointer (some ⟨g, 0, none⟩), .int .i64 q, .int .i64 n] W fun e w' => ∃ k r1 r2 r3 r4 x m c, e = .returned (.tuple #[.int .i64 k, .agg #[.int .i64 r1, .int .i64 r2, .int .i64 r3, .int .i64 r4, .slice x m c]]) ∧ K k ∧ Below W.heap.size W w'
set_option maxHeartbeats 2000000 in
theorem dput_state (g : Nat) (q n : Int) (ra rb rc rd : Int) (rx : Option Addr) (cp : Nat) (dl : List (BitVec 8)) (w : World) (hcan : canP q n = true) (hE : prE ra rb rc rd dl.length = 0) (hdl : dl.length ≤ 140737488351232) (hdc : dl.length ≤ cp) (hdn : rx = none → cp = 0) (hdr : Row w rx dl) (hC : ChkC g q n w (fun k => k ≠ 0)) :
    Calls Try.prog 15 #[.pointer (some ⟨g, 0, none⟩), .int .i64 q, .int .i64 n, .agg #[.int .i64 ra, .int .i64 rb, .int .i64 rc, .int .i64 rd, .slice rx dl.length cp]] w fun e w' => e = .returned (.int .i64 5) ∧ Below w.heap.size w w' := by
  have b1 : Below w.heap.size w (w.alloc (.cells #[.int .i64 ra, .int .i64 rb, .int .i64 rc, .int .i64 rd, .slice rx dl.length cp] 38)) := (Below.refl _ _).alloc (Nat.le_refl _) _
  have A1 := Blk.new' w 38 [.int .i64 ra, .int .i64 rb, .int .i64 rc, .int .i64 rd, .slice rx dl.length cp]
  have b2 : Below (w.alloc (.cells #[.int .i64 ra, .int .i64 rb, .int .i64 rc, .int .i64 rd, .slice rx dl.length cp] 38)).heap.size (w.alloc (.cells #[.int .i64 ra, .int .i64 rb, .int .i64 rc, .int .i64 rd, .slice rx dl.length cp] 38)) ((w.alloc (.cells #[.int .i64 ra, .int .i64 rb, .int .i64 rc, .int .i64 rd, .slice rx dl.length cp] 38)).alloc (.cells #[.int .i64 q, .int .i64 n] 88)) := (Below.refl _ _).alloc (Nat.le_refl _) _
  have P2 := Blk.new' (w.alloc (.cells #[.int .i64 ra, .int .i64 rb, .int .i64 rc, .int .i64 rd, .slice rx dl.length cp] 38)) 88 [.int .i64 q, .int .i64 n]
  rw [show (w.alloc (.cells #[.int .i64 ra, .int .i64 rb, .int .i64 rc, .int .i64 rd, .slice rx dl.length cp] 38)).heap.size = w.heap.size + 1 by simp] at P2
  have A2 := A1.laterB b2
  have bb := below_then b1 b2
  have a0 := blk_at P2 0
  have a1 := blk_at P2 1
  simp only [List.getElem?_cons_zero, List.getElem?_cons_succ] at a0 a1
  have HN : Hid _ := canBe_any q n ((w.alloc (.cells #[.int .i64 ra, .int .i64 rb, .int .i64 rc, .int .i64 rd, .slice rx dl.length cp] 38)).alloc (.cells #[.int .i64 q, .int .i64 n] 88))
  rw [hcan] at HN
  have H2 : Hid _ := And.intro bb (And.intro A2 P2)
  have HPr : Hid (∀ W, Below w.heap.size w W → Calls Try.prog 43 #[.agg #[.int .i64 ra, .int .i64 rb, .int .i64 rc, .int .i64 rd, .slice rx dl.length cp]] W fun e w' => ∃ z, e = .returned (.tuple #[z, .int .i64 (prE ra rb rc rd dl.length)]) ∧ Own w' W.heap.size z (prB ra rb rc rd dl) ∧ Below W.heap.size W w') := fun W hW =>
    putReply_any ra rb rc rd rx cp dl W hdl hdc hdn (hdr.later hW)
  have HCh : Hid _ := hC
  rw [hE] at HPr
  clear b1 A1 b2 P2 A2 bb hcan hdl hdc hdn hdr hE hC
  go_enter Try.func15, Try.ntmps15
  go_wp2_with fail
  generalize ((w.alloc (.cells #[.int .i64 ra, .int .i64 rb, .int .i64 rc, .int .i64 rd, .slice rx dl.length cp] 38)).alloc (.cells #[.int .i64 q, .int .i64 n] 88)) = w2 at *
  clear a0 a1
  refine (Calls.mono HN.out) ?_
  rintro r w3 ⟨rfl, b3⟩
  have H3 : Hid (Below w.heap.size w w3 ∧ Blk w3 w.heap.size 38 [.int .i64 ra, .int .i64 rb, .int .i64 rc, .int .i64 rd, .slice rx dl.length cp] ∧ Blk w3 (w.heap.size + 1) 88 [.int .i64 q, .int .i64 n]) := ⟨below_then H2.out.1 b3, H2.out.2.1.laterB b3, H2.out.2.2.laterB b3⟩
  have y0 := blk_at H3.out.2.1 0
  have y1 := blk_at H3.out.2.1 1
  have y2 := blk_at H3.out.2.1 2
  have y3 := blk_at H3.out.2.1 3
  have y4 := blk_at H3.out.2.1 4
  simp only [List.getElem?_cons_zero, List.getElem?_cons_succ] at y0 y1 y2 y3 y4
  clear H2 HN b3
  go_wp2_with fail
  clear y0 y1 y2 y3 y4
  refine (Calls.mono (HPr.out _ H3.out.1)) ?_
  rintro r w4 ⟨z, rfl, o4, b4⟩
  obtain ⟨za, zn, zc, rfl, -⟩ := own12_strs o4
  have H4 : Hid _ := below_then H3.out.1 b4
  clear H3 HPr b4 o4
  go_wp2_with fail
  refine (Calls.mono (HCh.out _ H4.out)) ?_
  rintro r w5 ⟨k, r1, r2, r3, r4, x, m, c, rfl, hk, b5⟩
  have b6 : Below w5.heap.size w5 (w5.alloc (.cells #[.int .i64 r1, .int .i64 r2, .int .i64 r3, .int .i64 r4, .slice x m c] 38)) := (Below.refl _ _).alloc (Nat.le_refl _) _
  have F : Hid _ := below_then H4.out (below_then b5 b6)
  have hk' : (k == 0) = false := by rw [beq_eq_false_iff_ne]; exact hk
  clear H4 HCh b5 b6
  go_wp2
  go_ret
  exact ⟨rfl, F.out⟩
set_option maxHeartbeats 4000000 in
theorem dput_done (g q : Nat) (fs : List Nx) (fl : Int) (v : Value) (l : List An) (n : Int) (ra rb rc rd : Int) (rx : Option Addr) (cp : Nat) (dl : List (BitVec 8)) (w : World) (hT : TbP w g fs) (hf : fs[q]? = some (fl, v, l)) (hcan : canP q n = true) (hE : prE ra rb rc rd dl.length = 0) (hdl : dl.length ≤ 140737488351232) (hdc : dl.length ≤ cp) (hdn : rx = none → cp = 0) (hdr : Row w rx dl) (hC : ChkC g q n w (fun k => k = 0)) (hq : q < 16) :
    Calls Try.prog 15 #[.pointer (some ⟨g, 0, none⟩), .int .i64 q, .int .i64 n, .agg #[.int .i64 ra, .int .i64 rb, .int .i64 rc, .int .i64 rd, .slice rx dl.length cp]] w fun e w' => e = .returned (.int .i64 0) ∧ ∃ v', PG g 62 (((tcells fs).set (q * 2 + 1) v').set (q * 2) (.int .i64 (mput (fl, l) (q, n, str (prB ra rb rc rd dl))).1)) w v (mput (fl, l) (q, n, str (prB ra rb rc rd dl))).2 w' v' := by
  have b1 : Below w.heap.size w (w.alloc (.cells #[.int .i64 ra, .int .i64 rb, .int .i64 rc, .int .i64 rd, .slice rx dl.length cp] 38)) := (Below.refl _ _).alloc (Nat.le_refl _) _
  have A1 := Blk.new' w 38 [.int .i64 ra, .int .i64 rb, .int .i64 rc, .int .i64 rd, .slice rx dl.length cp]
  have b2 : Below (w.alloc (.cells #[.int .i64 ra, .int .i64 rb, .int .i64 rc, .int .i64 rd, .slice rx dl.length cp] 38)).heap.size (w.alloc (.cells #[.int .i64 ra, .int .i64 rb, .int .i64 rc, .int .i64 rd, .slice rx dl.length cp] 38)) ((w.alloc (.cells #[.int .i64 ra, .int .i64 rb, .int .i64 rc, .int .i64 rd, .slice rx dl.length cp] 38)).alloc (.cells #[.int .i64 q, .int .i64 n] 88)) := (Below.refl _ _).alloc (Nat.le_refl _) _
  have P2 := Blk.new' (w.alloc (.cells #[.int .i64 ra, .int .i64 rb, .int .i64 rc, .int .i64 rd, .slice rx dl.length cp] 38)) 88 [.int .i64 q, .int .i64 n]
  rw [show (w.alloc (.cells #[.int .i64 ra, .int .i64 rb, .int .i64 rc, .int .i64 rd, .slice rx dl.length cp] 38)).heap.size = w.heap.size + 1 by simp] at P2
  have A2 := A1.laterB b2
  have bb := below_then b1 b2
  have a0 := blk_at P2 0
  have a1 := blk_at P2 1
  simp only [List.getElem?_cons_zero, List.getElem?_cons_succ] at a0 a1
  have HN : Hid _ := canBe_any q n ((w.alloc (.cells #[.int .i64 ra, .int .i64 rb, .int .i64 rc, .int .i64 rd, .slice rx dl.length cp] 38)).alloc (.cells #[.int .i64 q, .int .i64 n] 88))
  rw [hcan] at HN
  have H2 : Hid _ := And.intro bb (And.intro A2 P2)
  have HPr : Hid (∀ W, Below w.heap.size w W → Calls Try.prog 43 #[.agg #[.int .i64 ra, .int .i64 rb, .int .i64 rc, .int .i64 rd, .slice rx dl.length cp]] W fun e w' => ∃ z, e = .returned (.tuple #[z, .int .i64 (prE ra rb rc rd dl.length)]) ∧ Own w' W.heap.size z (prB ra rb rc rd dl) ∧ Below W.heap.size W w') := fun W hW =>
    putReply_any ra rb rc rd rx cp dl W hdl hdc hdn (hdr.later hW)
  have HCh : Hid _ := hC
  rw [hE] at HPr
  have hmq := List.mem_of_getElem? hf
  have HKe : Hid (∀ W, Below w.heap.size w W → Calls Try.prog 44 #[.pointer (some ⟨g, q * 2, none⟩), .agg #[.int .i64 q, .int .i64 n, .string (str (prB ra rb rc rd dl))]] W fun e w' => e = .returned (.tuple #[]) ∧ ∃ v', PG g 62 (((tcells fs).set (q * 2 + 1) v').set (q * 2) (.int .i64 (mput (fl, l) (q, n, str (prB ra rb rc rd dl))).1)) w v (mput (fl, l) (q, n, str (prB ra rb rc rd dl))).2 w' v') := fun W hW => by
    have hT' : TbP W g fs := ((tb_ok hT).later hW).holds
    refine (ddkeep_any g (q * 2) 62 (tcells fs) v fl l q n _ W hT'.blk (by rw [(tcells_at fs q).1, hf]; rfl) (by rw [(tcells_at fs q).2, hf]; rfl) ty_ne (hT'.own _ hmq) (hT.rise _ hmq) (by have := hT.most _ hmq; simp only at this; omega)).mono ?_
    rintro e w' ⟨rfl, v', h⟩
    exact ⟨rfl, v', (tnd_of hW).trans (h.turned.mono (fun k e => .inl e)), h.blk, h.own, fun k e => (h.or k e).imp id (fun z => Nat.le_trans hW.size z)⟩
  have q1 : (q : Int) < 16 := by omega
  clear b1 A1 b2 P2 A2 bb hcan hdl hdc hdn hdr hE hC hT hf hmq
  generalize prB ra rb rc rd dl = PB at *
  go_enter Try.func15, Try.ntmps15
  go_wp2_with fail
  generalize ((w.alloc (.cells #[.int .i64 ra, .int .i64 rb, .int .i64 rc, .int .i64 rd, .slice rx dl.length cp] 38)).alloc (.cells #[.int .i64 q, .int .i64 n] 88)) = w2 at *
  clear a0 a1
  refine (Calls.mono HN.out) ?_
  rintro r w3 ⟨rfl, b3⟩
  have H3 : Hid (Below w.heap.size w w3 ∧ Blk w3 w.heap.size 38 [.int .i64 ra, .int .i64 rb, .int .i64 rc, .int .i64 rd, .slice rx dl.length cp] ∧ Blk w3 (w.heap.size + 1) 88 [.int .i64 q, .int .i64 n]) := ⟨below_then H2.out.1 b3, H2.out.2.1.laterB b3, H2.out.2.2.laterB b3⟩
  have y0 := blk_at H3.out.2.1 0
  have y1 := blk_at H3.out.2.1 1
  have y2 := blk_at H3.out.2.1 2
  have y3 := blk_at H3.out.2.1 3
  have y4 := blk_at H3.out.2.1 4
  simp only [List.getElem?_cons_zero, List.getElem?_cons_succ] at y0 y1 y2 y3 y4
  clear H2 HN b3
  go_wp2_with fail
  clear y0 y1 y2 y3 y4
  refine (Calls.mono (HPr.out _ H3.out.1)) ?_
  rintro r w4 ⟨z, rfl, o4, b4⟩
  obtain ⟨za, zn, zc, rfl, hz⟩ := own12_strs o4
  have H4 : Hid (Below w.heap.size w w4 ∧ Blk w4 (w.heap.size + 1) 88 [.int .i64 q, .int .i64 n]) := ⟨below_then H3.out.1 b4, H3.out.2.2.laterB b4⟩
  have HZ : Hid _ := hz
  clear H3 HPr b4 o4 hz
  go_wp2_with fail
  refine (Calls.mono (HCh.out _ H4.out.1)) ?_
  rintro r w5 ⟨k, r1, r2, r3, r4, x, m, c, rfl, rfl, b5⟩
  have b6 : Below w5.heap.size w5 (w5.alloc (.cells #[.int .i64 r1, .int .i64 r2, .int .i64 r3, .int .i64 r4, .slice x m c] 38)) := (Below.refl _ _).alloc (Nat.le_refl _) _
  have b46 := below_then b5 b6
  have H6 : Hid (Below w.heap.size w (w5.alloc (.cells #[.int .i64 r1, .int .i64 r2, .int .i64 r3, .int .i64 r4, .slice x m c] 38)) ∧ Blk (w5.alloc (.cells #[.int .i64 r1, .int .i64 r2, .int .i64 r3, .int .i64 r4, .slice x m c] 38)) (w.heap.size + 1) 88 [.int .i64 q, .int .i64 n]) := ⟨below_then H4.out.1 b46, H4.out.2.laterB b46⟩
  have hz : ∀ W, Below (w5.alloc (.cells #[.int .i64 r1, .int .i64 r2, .int .i64 r3, .int .i64 r4, .slice x m c] 38)).heap.size (w5.alloc (.cells #[.int .i64 r1, .int .i64 r2, .int .i64 r3, .int .i64 r4, .slice x m c] 38)) W → (convert 22 9 (.slice za zn zc)).run Try.prog W = .ok (.string (str PB)) W := fun W hW => HZ.out W (below_then b46 hW)
  have p0 : ∀ W, Below (w5.alloc (.cells #[.int .i64 r1, .int .i64 r2, .int .i64 r3, .int .i64 r4, .slice x m c] 38)).heap.size (w5.alloc (.cells #[.int .i64 r1, .int .i64 r2, .int .i64 r3, .int .i64 r4, .slice x m c] 38)) W → W.cell? ⟨w.heap.size + 1, 0, none⟩ = some (.int .i64 q) := fun W hW => by rw [blk_at (H6.out.2.laterB hW)]; rfl
  have p1 : ∀ W, Below (w5.alloc (.cells #[.int .i64 r1, .int .i64 r2, .int .i64 r3, .int .i64 r4, .slice x m c] 38)).heap.size (w5.alloc (.cells #[.int .i64 r1, .int .i64 r2, .int .i64 r3, .int .i64 r4, .slice x m c] 38)) W → W.cell? ⟨w.heap.size + 1, 1, none⟩ = some (.int .i64 n) := fun W hW => by rw [blk_at (H6.out.2.laterB hW)]; rfl
  have HKeep : Hid (∀ W, Below (w5.alloc (.cells #[.int .i64 r1, .int .i64 r2, .int .i64 r3, .int .i64 r4, .slice x m c] 38)).heap.size (w5.alloc (.cells #[.int .i64 r1, .int .i64 r2, .int .i64 r3, .int .i64 r4, .slice x m c] 38)) W → _) := fun W hW => HKe.out W (below_then H6.out.1 hW)
  clear H4 HCh b5 b6 b46 HZ HKe
  go_wp2_with fail
  generalize (w5.alloc (.cells #[.int .i64 r1, .int .i64 r2, .int .i64 r3, .int .i64 r4, .slice x m c] 38)) = w6 at *
  refine e_begin (S := fun W => Below w6.heap.size w6 W) 9 (by kernel_rfl) ((Below.refl _ _).drew) (fun hS => ?_)
  refine e_take (i := 0) (v := ?_) [2, 3, 4, 9] rfl (by kernel_rfl) (by kernel_rfl) (by kernel_rfl) (by kernel_rfl) (by exact fun _ _ _ h => h) (by rfl) ?_ hS ?_
  rotate_left
  · ((intro w hSw; (try dsimp only at hSw); go_simp) <;> with_reducible rfl)
  (try simp only [Act.put, List.setIfInBounds_toArray, List.set_cons_zero, List.set_cons_succ])
  refine e_take (i := 1) (v := ?_) [4, 9] rfl (by kernel_rfl) (by kernel_rfl) (by kernel_rfl) (by kernel_rfl) (by exact fun _ _ _ h => h) (by rfl) ?_ hS ?_
  rotate_left
  · ((intro w hSw; (try dsimp only at hSw); go_simp) <;> with_reducible rfl)
  (try simp only [Act.put, List.setIfInBounds_toArray, List.set_cons_zero, List.set_cons_succ])
  refine e_take (i := 2) (v := ?_) [3, 4, 9] rfl (by kernel_rfl) (by kernel_rfl) (by kernel_rfl) (by kernel_rfl) (by exact fun _ _ _ h => h) (by rfl) ?_ hS ?_
  rotate_left
  · ((intro w hSw; (try dsimp only at hSw); go_simp) <;> with_reducible rfl)
  (try simp only [Act.put, List.setIfInBounds_toArray, List.set_cons_zero, List.set_cons_succ])
  refine e_take (i := 3) (v := ?_) [4, 9] rfl (by kernel_rfl) (by kernel_rfl) (by kernel_rfl) (by kernel_rfl) (by exact fun _ _ _ h => h) (by rfl) ?_ hS ?_
  rotate_left
  · ((intro w hSw; (try dsimp only at hSw); go_simp) <;> with_reducible rfl)
  (try simp only [Act.put, List.setIfInBounds_toArray, List.set_cons_zero, List.set_cons_succ])
  refine e_take (i := 4) (v := ?_) [9] rfl (by kernel_rfl) (by kernel_rfl) (by kernel_rfl) (by kernel_rfl) (by exact fun _ _ _ h => h) (by rfl) ?_ hS ?_
  rotate_left
  · ((intro w hSw; (try dsimp only at hSw); go_simp) <;> with_reducible rfl)
  (try simp only [Act.put, List.setIfInBounds_toArray, List.set_cons_zero, List.set_cons_succ])
  refine e_take (i := 5) (v := ?_) [8, 9] rfl (by kernel_rfl) (by kernel_rfl) (by kernel_rfl) (by kernel_rfl) (by exact fun _ _ _ h => h) (by rfl) ?_ hS ?_
  rotate_left
  · ((intro w hSw; (try dsimp only at hSw); go_simp) <;> with_reducible rfl)
  (try simp only [Act.put, List.setIfInBounds_toArray, List.set_cons_zero, List.set_cons_succ])
  refine e_take (i := 6) (v := ?_) [7, 8, 9] rfl (by kernel_rfl) (by kernel_rfl) (by kernel_rfl) (by kernel_rfl) (by exact fun _ _ _ h => h) (by rfl) ?_ hS ?_
  rotate_left
  · ((intro w hSw; (try dsimp only at hSw); go_simp) <;> with_reducible rfl)
  (try simp only [Act.put, List.setIfInBounds_toArray, List.set_cons_zero, List.set_cons_succ])
  refine e_take (i := 7) (v := ?_) [8, 9] rfl (by kernel_rfl) (by kernel_rfl) (by kernel_rfl) (by kernel_rfl) (by exact fun _ _ _ h => h) (by rfl) ?_ hS ?_
  rotate_left
  · ((intro w hSw; (try dsimp only at hSw); go_simp) <;> with_reducible rfl)
  (try simp only [Act.put, List.setIfInBounds_toArray, List.set_cons_zero, List.set_cons_succ])
  refine e_take (i := 8) (v := ?_) [9] rfl (by kernel_rfl) (by kernel_rfl) (by kernel_rfl) (by kernel_rfl) (by exact fun _ _ _ h => h) (by rfl) ?_ hS ?_
  rotate_left
  · ((intro w hSw; (try dsimp only at hSw); go_simp) <;> with_reducible rfl)
  (try simp only [Act.put, List.setIfInBounds_toArray, List.set_cons_zero, List.set_cons_succ])
  clear hS
  refine e_last (z := 9) rfl (by kernel_rfl) (fun K hK => ?_)
  go_simp
  refine (Calls.mono (HKeep.out _ (Below.refl _ _).drew)) ?_
  rintro e w7 ⟨rfl, v', hP⟩
  have F : Hid _ := hP
  clear hP HKeep
  go_wp2_with fail
  refine hK.out _ _ ?_
  clear hK K
  refine e_done (by kernel_rfl) ?_ _
  clear hz p0 p1
  go_wp2
  go_ret
  exact ⟨rfl, v', F.out⟩
end Go.Proofs.Ytkcbbaanlkpeiaa

