/- pdu: what a head tells. -/
import Derived.Test.YtfcaaljehhibgaaXPd4
import Derived.Deep.Cut
namespace Go.Proofs.Ytfcaaljehhibgaa
open Go.RowKit
set_option linter.unusedVariables false
set_option linter.unusedSimpArgs false
set_option maxRecDepth 4000

/-- the number at a place of a head -/
def nb (h : List (BitVec 8)) (p s : Nat) : Int := ((numTo h p s).toNat : Int)
theorem nb_bd (h : List (BitVec 8)) (p s : Nat) (hs : s ≤ 8) : 0 ≤ nb h p s ∧ nb h p s < 2 ^ (8 * s) := by
  unfold nb
  have := numTo_lt h p s hs
  refine ⟨by omega, ?_⟩
  exact_mod_cast this
theorem rdN (h : List (BitVec 8)) (p s : Nat) (h1 : 1 ≤ s) (h2 : s ≤ 8) (h3 : p + s ≤ h.length) : rdNum (h.drop p) 0 s = (h.drop (p + s), 0, wrap64 (nb h p s)) := by
  have hl : (h.drop p).length = h.length - p := List.length_drop
  have hw : widthB s = true := by unfold widthB; rw [decide_eq_true_eq]; omega
  have hn : numE (h.drop p).length s = 0 := by unfold numE; rw [hw, if_neg (by decide), if_neg (by omega)]
  unfold rdNum
  rw [if_pos rfl, if_pos hn, Int.toNat_natCast, List.drop_drop]
  have e : numTo (h.drop p) 0 s = numTo h p s := by unfold numTo; rw [List.drop_zero]
  rw [e]
  rfl
theorem wrap_nb (h : List (BitVec 8)) (p s : Nat) (hs : s ≤ 4) : wrap64 (nb h p s) = nb h p s := by
  have := nb_bd h p s (by omega)
  have h2 : (2 : Int) ^ (8 * s) ≤ 4294967296 := by
    have : s = 0 ∨ s = 1 ∨ s = 2 ∨ s = 3 ∨ s = 4 := by omega
    rcases this with rfl | rfl | rfl | rfl | rfl <;> decide
  unfold wrap64
  omega
def pOp (h : List (BitVec 8)) : Int := bits .and .i64 (nb h 0 1) 63
def pNow (h : List (BitVec 8)) : Bool := !(bits .and .i64 (nb h 0 1) 64 == 0)
/-- what a head tells, as cells -/
def pdV (h : List (BitVec 8)) (d : Value) : List Value :=
  [.int .i64 (pOp h), .bool (pNow h), .int .i64 (nb h 1 1), .int .i64 (nb h 2 1), .int .i64 (nb h 3 1), .int .u64 (nb h 8 8), .int .u32 (nb h 16 4), .int .u32 (nb h 20 4), .int .u32 (nb h 24 4), .int .u32 (nb h 28 4), .int .u32 (nb h 32 4), .int .u32 (nb h 36 4), .int .u32 (nb h 40 4), .int .u32 (nb h 44 4), d]
theorem wrap_lun (h : List (BitVec 8)) : IntKind.u64.wrap (wrap64 (nb h 8 8)) = nb h 8 8 := by
  have := nb_bd h 8 8 (by omega)
  unfold wrap64
  simp [IntKind.wrap, IntKind.signed, IntKind.bits]
  omega
theorem wrap_u32 (h : List (BitVec 8)) (p : Nat) : IntKind.u32.wrap (nb h p 4) = nb h p 4 := by
  have := nb_bd h p 4 (by omega)
  simp [IntKind.wrap, IntKind.signed, IntKind.bits]
  omega
structure PdA (w W : World) (g : Nat) (L : List (BitVec 8)) : Prop where
  be : Below w.heap.size w W
  rd : Rd W [] g 106 L 0
  br : Blk W (w.heap.size + 1) 47 [.int .i64 0, .bool false, .int .i64 0, .int .i64 0, .int .i64 0, .int .u64 0, .int .u32 0, .int .u32 0, .int .u32 0, .int .u32 0, .int .u32 0, .int .u32 0, .int .u32 0, .int .u32 0, .slice none 0 0]
  gl : w.heap.size + 1 < g
theorem PdA.num {w W W' : World} {g : Nat} {L L' : List (BitVec 8)} (h : PdA w W g L) (hr : Rd W' [] g 106 L' 0) (hg : W.grownBy W' (some g)) : PdA w W' g L' := by
  have t := turned_grown (R := fun k => k = g) hg (fun k hk => by cases hk; rfl)
  have := h.gl
  exact ⟨h.be.trans (t.below _ h.be.size (fun k e => by omega)), hr, h.br.turned t (by omega), h.gl⟩
structure PdR (w W : World) (g pb : Nat) (L : List (BitVec 8)) (xs : List Value) : Prop where
  be : Below w.heap.size w W
  rd : Rd W [pb] g 106 L 0
  br : Blk W (w.heap.size + 1) 47 [.int .i64 0, .bool false, .int .i64 0, .int .i64 0, .int .i64 0, .int .u64 0, .int .u32 0, .int .u32 0, .int .u32 0, .int .u32 0, .int .u32 0, .int .u32 0, .int .u32 0, .int .u32 0, .slice none 0 0]
  bp : Blk W pb 47 xs
  gl : w.heap.size + 1 < g
  pl : w.heap.size + 1 < pb
  ne : pb ≠ g
theorem PdR.num {w W W' : World} {g pb : Nat} {L L' : List (BitVec 8)} {xs : List Value} (h : PdR w W g pb L xs) (hr : Rd W' [pb] g 106 L' 0) (hg : W.grownBy W' (some g)) : PdR w W' g pb L' xs := by
  have t := turned_grown (R := fun k => k = g) hg (fun k hk => by cases hk; rfl)
  have := h.gl
  have := h.ne
  exact ⟨h.be.trans (t.below _ h.be.size (fun k e => by omega)), hr, h.br.turned t (by omega), h.bp.turned t (by omega), h.gl, h.pl, h.ne⟩
theorem PdR.put {w W : World} {g pb : Nat} {L : List (BitVec 8)} {xs : List Value} (h : PdR w W g pb L xs) (k : Nat) (v : Value) : PdR w (W.setCell ⟨pb, k, none⟩ v) g pb L (xs.set k v) := by
  have t := turned_set W pb k v
  have := h.pl
  exact ⟨h.be.trans (t.below _ h.be.size (fun k e => by omega)), h.rd.keep (grown_set W pb k v) (fun k hk => by cases hk; exact ⟨h.ne, .inl (List.mem_singleton.2 rfl)⟩), h.br.turned t (by omega), h.bp.set k v, h.gl, h.pl, h.ne⟩
/-- the letter's own block -/
theorem PdA.new {w W : World} {g : Nat} {L : List (BitVec 8)} (h : PdA w W g L) (vs : List Value) (hv : vs.length = 15) : PdR w ((W.alloc (.cells #[.int .i64 0, .bool false, .int .i64 0, .int .i64 0, .int .i64 0, .int .u64 0, .int .u32 0, .int .u32 0, .int .u32 0, .int .u32 0, .int .u32 0, .int .u32 0, .int .u32 0, .int .u32 0, .slice none 0 0] 47)).setCells W.heap.size 0 vs) g W.heap.size L vs := by
  have b : Below W.heap.size W (W.alloc (.cells #[.int .i64 0, .bool false, .int .i64 0, .int .i64 0, .int .i64 0, .int .u64 0, .int .u32 0, .int .u32 0, .int .u32 0, .int .u32 0, .int .u32 0, .int .u32 0, .int .u32 0, .int .u32 0, .slice none 0 0] 47)) := (Below.refl _ _).alloc (Nat.le_refl _) _
  have B := Blk.new' W 47 [.int .i64 0, .bool false, .int .i64 0, .int .i64 0, .int .i64 0, .int .u64 0, .int .u32 0, .int .u32 0, .int .u32 0, .int .u32 0, .int .u32 0, .int .u32 0, .int .u32 0, .int .u32 0, .slice none 0 0]
  obtain ⟨B1, g1⟩ := B.whole (vs := vs) (by rw [hv]; rfl)
  have t := turned_grown (R := fun k => k = W.heap.size) g1 (fun k hk => by cases hk; rfl)
  have hl := h.br.lt
  have hg := h.rd.blt
  have hr := ((h.rd.more W.heap.size (Nat.le_refl _)).later b).keep g1 (fun k hk => by cases hk; exact ⟨by omega, .inl (List.mem_singleton.2 rfl)⟩)
  have bb := below_then h.be b
  exact ⟨bb.trans (t.below _ bb.size (fun k e => by rw [e]; exact h.be.size)), hr, (h.br.laterB b).turned t (by omega), B1, h.gl, by omega, by omega⟩
set_option maxHeartbeats 8000000 in
theorem ppdu_any (a0 a1 a2 a3 : Option Addr) (c0 n1 c1 n2 c2 n3 c3 : Nat) (h : List (BitVec 8)) (w : World) (hh : h.length = 48) (hc0 : 48 ≤ c0) (hn0 : a0 = none → c0 = 0) (hr : Row w a0 h) :
    Calls Try.prog 28 #[.agg #[.slice a0 48 c0, .slice a1 n1 c1, .slice a2 n2 c2, .slice a3 n3 c3]] w fun e w' => e = .returned (.agg (pdV h (.slice none 0 0)).toArray) ∧ Below w.heap.size w w' := by
  have b0 : Below w.heap.size w (w.alloc (.cells #[.slice a0 48 c0, .slice a1 n1 c1, .slice a2 n2 c2, .slice a3 n3 c3] 69)) := (Below.refl _ _).alloc (Nat.le_refl _) _
  have B0 := Blk.new' w 69 [.slice a0 48 c0, .slice a1 n1 c1, .slice a2 n2 c2, .slice a3 n3 c3]
  have z0 : (w.alloc (.cells #[.slice a0 48 c0, .slice a1 n1 c1, .slice a2 n2 c2, .slice a3 n3 c3] 69)).heap.size = w.heap.size + 1 := by simp
  have b1 : Below (w.alloc (.cells #[.slice a0 48 c0, .slice a1 n1 c1, .slice a2 n2 c2, .slice a3 n3 c3] 69)).heap.size (w.alloc (.cells #[.slice a0 48 c0, .slice a1 n1 c1, .slice a2 n2 c2, .slice a3 n3 c3] 69)) ((w.alloc (.cells #[.slice a0 48 c0, .slice a1 n1 c1, .slice a2 n2 c2, .slice a3 n3 c3] 69)).alloc (.cells #[.int .i64 0, .bool false, .int .i64 0, .int .i64 0, .int .i64 0, .int .u64 0, .int .u32 0, .int .u32 0, .int .u32 0, .int .u32 0, .int .u32 0, .int .u32 0, .int .u32 0, .int .u32 0, .slice none 0 0] 47)) := (Below.refl _ _).alloc (Nat.le_refl _) _
  have B1 := Blk.new' (w.alloc (.cells #[.slice a0 48 c0, .slice a1 n1 c1, .slice a2 n2 c2, .slice a3 n3 c3] 69)) 47 [.int .i64 0, .bool false, .int .i64 0, .int .i64 0, .int .i64 0, .int .u64 0, .int .u32 0, .int .u32 0, .int .u32 0, .int .u32 0, .int .u32 0, .int .u32 0, .int .u32 0, .int .u32 0, .slice none 0 0]
  rw [z0] at B1
  have z1 : ((w.alloc (.cells #[.slice a0 48 c0, .slice a1 n1 c1, .slice a2 n2 c2, .slice a3 n3 c3] 69)).alloc (.cells #[.int .i64 0, .bool false, .int .i64 0, .int .i64 0, .int .i64 0, .int .u64 0, .int .u32 0, .int .u32 0, .int .u32 0, .int .u32 0, .int .u32 0, .int .u32 0, .int .u32 0, .int .u32 0, .slice none 0 0] 47)).heap.size = w.heap.size + 2 := by simp
  have B0 := B0.laterB b1
  have bb := below_then b0 b1
  have l0 := blk_at B0 0
  simp only [List.getElem?_cons_zero] at l0
  have HR : Hid _ := NewReader_any a0 48 c0 h ((w.alloc (.cells #[.slice a0 48 c0, .slice a1 n1 c1, .slice a2 n2 c2, .slice a3 n3 c3] 69)).alloc (.cells #[.int .i64 0, .bool false, .int .i64 0, .int .i64 0, .int .i64 0, .int .u64 0, .int .u32 0, .int .u32 0, .int .u32 0, .int .u32 0, .int .u32 0, .int .u32 0, .int .u32 0, .int .u32 0, .slice none 0 0] 47)) hh hc0 (hr.later bb) hn0 (by omega)
  have HB : Hid _ := And.intro bb (And.intro B1 z1)
  clear b0 B0 z0 b1 B1 bb z1 hr
  go_enter Try.func28, Try.ntmps28
  go_wp2_with fail
  clear l0
  generalize ((w.alloc (.cells #[.slice a0 48 c0, .slice a1 n1 c1, .slice a2 n2 c2, .slice a3 n3 c3] 69)).alloc (.cells #[.int .i64 0, .bool false, .int .i64 0, .int .i64 0, .int .i64 0, .int .u64 0, .int .u32 0, .int .u32 0, .int .u32 0, .int .u32 0, .int .u32 0, .int .u32 0, .int .u32 0, .int .u32 0, .slice none 0 0] 47)) = u0 at *
  refine (Calls.mono HR.out) ?_
  rintro e u1 ⟨g, rfl, hg, hrd, b2⟩
  have A1 : Hid (PdA w u1 g (h.drop 0)) := ⟨below_then HB.out.1 b2, hrd [] (fun k hk => by cases hk), HB.out.2.1.laterB b2, by have := HB.out.2.2; omega⟩
  clear HR hg hrd b2 HB
  have N := Num_any [] g (h.drop 0) 0 1 u1 A1.out.rd
  have NE := rdN h 0 1 (by omega) (by omega) (by omega)
  simp only [Nat.reduceAdd] at NE
  rw [show (((1 : Nat)) : Int) = (1 : Int) from rfl] at NE
  rw [NE] at N
  dsimp only at N
  rw [wrap_nb h 0 1 (by omega)] at N
  have HN : Hid _ := N
  clear N NE
  go_wp2_with fail
  refine (Calls.mono HN.out) ?_
  rintro e u2 ⟨rfl, R', g'⟩
  have A2 : Hid _ := A1.out.num R' g'
  clear HN R' g' A1
  have N := Num_any [] g (h.drop 1) 0 1 u2 A2.out.rd
  have NE := rdN h 1 1 (by omega) (by omega) (by omega)
  simp only [Nat.reduceAdd] at NE
  rw [show (((1 : Nat)) : Int) = (1 : Int) from rfl] at NE
  rw [NE] at N
  dsimp only at N
  rw [wrap_nb h 1 1 (by omega)] at N
  have HN : Hid _ := N
  clear N NE
  go_wp2_with fail
  refine (Calls.mono HN.out) ?_
  rintro e u3 ⟨rfl, R', g'⟩
  have A3 : Hid _ := A2.out.num R' g'
  clear HN R' g' A2
  have N := Num_any [] g (h.drop 2) 0 1 u3 A3.out.rd
  have NE := rdN h 2 1 (by omega) (by omega) (by omega)
  simp only [Nat.reduceAdd] at NE
  rw [show (((1 : Nat)) : Int) = (1 : Int) from rfl] at NE
  rw [NE] at N
  dsimp only at N
  rw [wrap_nb h 2 1 (by omega)] at N
  have HN : Hid _ := N
  clear N NE
  go_wp2_with fail
  refine (Calls.mono HN.out) ?_
  rintro e u4 ⟨rfl, R', g'⟩
  have A4 : Hid _ := A3.out.num R' g'
  clear HN R' g' A3
  have N := Num_any [] g (h.drop 3) 0 1 u4 A4.out.rd
  have NE := rdN h 3 1 (by omega) (by omega) (by omega)
  simp only [Nat.reduceAdd] at NE
  rw [show (((1 : Nat)) : Int) = (1 : Int) from rfl] at NE
  rw [NE] at N
  dsimp only at N
  rw [wrap_nb h 3 1 (by omega)] at N
  have HN : Hid _ := N
  clear N NE
  go_wp2_with fail
  refine (Calls.mono HN.out) ?_
  rintro e u5 ⟨rfl, R', g'⟩
  have A5 : Hid _ := A4.out.num R' g'
  clear HN R' g' A4
  have st := store_all (T := 47) (vs := [.int .i64 (pOp h), .bool (pNow h), .int .i64 (nb h 1 1), .int .i64 (nb h 2 1), .int .i64 (nb h 3 1), .int .u64 0, .int .u32 0, .int .u32 0, .int .u32 0, .int .u32 0, .int .u32 0, .int .u32 0, .int .u32 0, .int .u32 0, .slice none 0 0]) size_pd (Blk.new' u5 47 [.int .i64 0, .bool false, .int .i64 0, .int .i64 0, .int .i64 0, .int .u64 0, .int .u32 0, .int .u32 0, .int .u32 0, .int .u32 0, .int .u32 0, .int .u32 0, .int .u32 0, .int .u32 0, .slice none 0 0]) rfl (fun u hu => by simp at hu; rcases hu with rfl | rfl | rfl | rfl | rfl | rfl | rfl | rfl <;> rfl)
  have R5 : Hid _ := A5.out.new [.int .i64 (pOp h), .bool (pNow h), .int .i64 (nb h 1 1), .int .i64 (nb h 2 1), .int .i64 (nb h 3 1), .int .u64 0, .int .u32 0, .int .u32 0, .int .u32 0, .int .u32 0, .int .u32 0, .int .u32 0, .int .u32 0, .int .u32 0, .slice none 0 0] rfl
  go_wp2_with (refine wpList_skip rfl (exec_store rfl rfl rfl st) ?_)
  clear st A5
  generalize (u5.alloc _).setCells _ _ _ = u6 at *
  generalize u5.heap.size = pb at *
  have R6 : Hid _ := R5.out
  clear R5
  have N := Num_any [pb] g (h.drop 4) 0 4 u6 R6.out.rd
  have NE := rdN h 4 4 (by omega) (by omega) (by omega)
  simp only [Nat.reduceAdd] at NE
  rw [show (((4 : Nat)) : Int) = (4 : Int) from rfl] at NE
  rw [NE] at N
  dsimp only at N
  rw [wrap_nb h 4 4 (by omega)] at N
  have HN : Hid _ := N
  clear N NE
  refine (Calls.mono HN.out) ?_
  rintro e u7 ⟨rfl, R', g'⟩
  have R7 : Hid _ := R6.out.num R' g'
  clear HN R' g' R6
  go_wp2_with fail
  have N := Num_any [pb] g (h.drop 8) 0 8 u7 R7.out.rd
  have NE := rdN h 8 8 (by omega) (by omega) (by omega)
  simp only [Nat.reduceAdd] at NE
  rw [show (((8 : Nat)) : Int) = (8 : Int) from rfl] at NE
  rw [NE] at N
  dsimp only at N
  have HN : Hid _ := N
  clear N NE
  refine (Calls.mono HN.out) ?_
  rintro e u8 ⟨rfl, R', g'⟩
  have R8 : Hid _ := R7.out.num R' g'
  clear HN R' g' R7
  have hv := wrap_lun h
  have cl := blk_at R8.out.bp 5
  simp only [List.getElem?_cons_zero, List.getElem?_cons_succ, List.set_cons_zero, List.set_cons_succ] at cl
  have fz := blk_frozen R8.out.bp 5
  go_wp2_with fail
  have Z := R8.out.put 5 (.int .u64 (nb h 8 8))
  simp only [List.set_cons_zero, List.set_cons_succ] at Z
  have R9 : Hid _ := Z
  clear Z cl fz R8 hv
  generalize u8.setCell _ _ = u9 at *
  have N := Num_any [pb] g (h.drop 16) 0 4 u9 R9.out.rd
  have NE := rdN h 16 4 (by omega) (by omega) (by omega)
  simp only [Nat.reduceAdd] at NE
  rw [show (((4 : Nat)) : Int) = (4 : Int) from rfl] at NE
  rw [NE] at N
  dsimp only at N
  rw [wrap_nb h 16 4 (by omega)] at N
  have HN : Hid _ := N
  clear N NE
  refine (Calls.mono HN.out) ?_
  rintro e u10 ⟨rfl, R', g'⟩
  have R10 : Hid _ := R9.out.num R' g'
  clear HN R' g' R9
  have hv := wrap_u32 h 16
  have cl := blk_at R10.out.bp 6
  simp only [List.getElem?_cons_zero, List.getElem?_cons_succ, List.set_cons_zero, List.set_cons_succ] at cl
  have fz := blk_frozen R10.out.bp 6
  go_wp2_with fail
  have Z := R10.out.put 6 (.int .u32 (nb h 16 4))
  simp only [List.set_cons_zero, List.set_cons_succ] at Z
  have R11 : Hid _ := Z
  clear Z cl fz R10 hv
  generalize u10.setCell _ _ = u11 at *
  refine wp_loop_rounds 8 ?_
  rw [rounds_succ]
  go_wp2_with fail
  have N := Num_any [pb] g (h.drop 20) 0 4 u11 R11.out.rd
  have NE := rdN h 20 4 (by omega) (by omega) (by omega)
  simp only [Nat.reduceAdd] at NE
  rw [show (((4 : Nat)) : Int) = (4 : Int) from rfl] at NE
  rw [NE] at N
  dsimp only at N
  rw [wrap_nb h 20 4 (by omega)] at N
  have HN : Hid _ := N
  clear N NE
  refine (Calls.mono HN.out) ?_
  rintro e u12 ⟨rfl, R', g'⟩
  have R12 : Hid _ := R11.out.num R' g'
  clear HN R' g' R11
  have hv := wrap_u32 h 20
  have cl := blk_at R12.out.bp 7
  simp only [List.getElem?_cons_zero, List.getElem?_cons_succ, List.set_cons_zero, List.set_cons_succ] at cl
  have fz := blk_frozen R12.out.bp 7
  go_wp2_with fail
  have Z := R12.out.put 7 (.int .u32 (nb h 20 4))
  simp only [List.set_cons_zero, List.set_cons_succ] at Z
  have R13 : Hid _ := Z
  clear Z cl fz R12 hv
  generalize u12.setCell _ _ = u13 at *
  rw [rounds_succ]
  go_wp2_with fail
  have N := Num_any [pb] g (h.drop 24) 0 4 u13 R13.out.rd
  have NE := rdN h 24 4 (by omega) (by omega) (by omega)
  simp only [Nat.reduceAdd] at NE
  rw [show (((4 : Nat)) : Int) = (4 : Int) from rfl] at NE
  rw [NE] at N
  dsimp only at N
  rw [wrap_nb h 24 4 (by omega)] at N
  have HN : Hid _ := N
  clear N NE
  refine (Calls.mono HN.out) ?_
  rintro e u14 ⟨rfl, R', g'⟩
  have R14 : Hid _ := R13.out.num R' g'
  clear HN R' g' R13
  have hv := wrap_u32 h 24
  have cl := blk_at R14.out.bp 8
  simp only [List.getElem?_cons_zero, List.getElem?_cons_succ, List.set_cons_zero, List.set_cons_succ] at cl
  have fz := blk_frozen R14.out.bp 8
  go_wp2_with fail
  have Z := R14.out.put 8 (.int .u32 (nb h 24 4))
  simp only [List.set_cons_zero, List.set_cons_succ] at Z
  have R15 : Hid _ := Z
  clear Z cl fz R14 hv
  generalize u14.setCell _ _ = u15 at *
  rw [rounds_succ]
  go_wp2_with fail
  have N := Num_any [pb] g (h.drop 28) 0 4 u15 R15.out.rd
  have NE := rdN h 28 4 (by omega) (by omega) (by omega)
  simp only [Nat.reduceAdd] at NE
  rw [show (((4 : Nat)) : Int) = (4 : Int) from rfl] at NE
  rw [NE] at N
  dsimp only at N
  rw [wrap_nb h 28 4 (by omega)] at N
  have HN : Hid _ := N
  clear N NE
  refine (Calls.mono HN.out) ?_
  rintro e u16 ⟨rfl, R', g'⟩
  have R16 : Hid _ := R15.out.num R' g'
  clear HN R' g' R15
  have hv := wrap_u32 h 28
  have cl := blk_at R16.out.bp 9
  simp only [List.getElem?_cons_zero, List.getElem?_cons_succ, List.set_cons_zero, List.set_cons_succ] at cl
  have fz := blk_frozen R16.out.bp 9
  go_wp2_with fail
  have Z := R16.out.put 9 (.int .u32 (nb h 28 4))
  simp only [List.set_cons_zero, List.set_cons_succ] at Z
  have R17 : Hid _ := Z
  clear Z cl fz R16 hv
  generalize u16.setCell _ _ = u17 at *
  rw [rounds_succ]
  go_wp2_with fail
  have N := Num_any [pb] g (h.drop 32) 0 4 u17 R17.out.rd
  have NE := rdN h 32 4 (by omega) (by omega) (by omega)
  simp only [Nat.reduceAdd] at NE
  rw [show (((4 : Nat)) : Int) = (4 : Int) from rfl] at NE
  rw [NE] at N
  dsimp only at N
  rw [wrap_nb h 32 4 (by omega)] at N
  have HN : Hid _ := N
  clear N NE
  refine (Calls.mono HN.out) ?_
  rintro e u18 ⟨rfl, R', g'⟩
  have R18 : Hid _ := R17.out.num R' g'
  clear HN R' g' R17
  have hv := wrap_u32 h 32
  have cl := blk_at R18.out.bp 10
  simp only [List.getElem?_cons_zero, List.getElem?_cons_succ, List.set_cons_zero, List.set_cons_succ] at cl
  have fz := blk_frozen R18.out.bp 10
  go_wp2_with fail
  have Z := R18.out.put 10 (.int .u32 (nb h 32 4))
  simp only [List.set_cons_zero, List.set_cons_succ] at Z
  have R19 : Hid _ := Z
  clear Z cl fz R18 hv
  generalize u18.setCell _ _ = u19 at *
  rw [rounds_succ]
  go_wp2_with fail
  have N := Num_any [pb] g (h.drop 36) 0 4 u19 R19.out.rd
  have NE := rdN h 36 4 (by omega) (by omega) (by omega)
  simp only [Nat.reduceAdd] at NE
  rw [show (((4 : Nat)) : Int) = (4 : Int) from rfl] at NE
  rw [NE] at N
  dsimp only at N
  rw [wrap_nb h 36 4 (by omega)] at N
  have HN : Hid _ := N
  clear N NE
  refine (Calls.mono HN.out) ?_
  rintro e u20 ⟨rfl, R', g'⟩
  have R20 : Hid _ := R19.out.num R' g'
  clear HN R' g' R19
  have hv := wrap_u32 h 36
  have cl := blk_at R20.out.bp 11
  simp only [List.getElem?_cons_zero, List.getElem?_cons_succ, List.set_cons_zero, List.set_cons_succ] at cl
  have fz := blk_frozen R20.out.bp 11
  go_wp2_with fail
  have Z := R20.out.put 11 (.int .u32 (nb h 36 4))
  simp only [List.set_cons_zero, List.set_cons_succ] at Z
  have R21 : Hid _ := Z
  clear Z cl fz R20 hv
  generalize u20.setCell _ _ = u21 at *
  rw [rounds_succ]
  go_wp2_with fail
  have N := Num_any [pb] g (h.drop 40) 0 4 u21 R21.out.rd
  have NE := rdN h 40 4 (by omega) (by omega) (by omega)
  simp only [Nat.reduceAdd] at NE
  rw [show (((4 : Nat)) : Int) = (4 : Int) from rfl] at NE
  rw [NE] at N
  dsimp only at N
  rw [wrap_nb h 40 4 (by omega)] at N
  have HN : Hid _ := N
  clear N NE
  refine (Calls.mono HN.out) ?_
  rintro e u22 ⟨rfl, R', g'⟩
  have R22 : Hid _ := R21.out.num R' g'
  clear HN R' g' R21
  have hv := wrap_u32 h 40
  have cl := blk_at R22.out.bp 12
  simp only [List.getElem?_cons_zero, List.getElem?_cons_succ, List.set_cons_zero, List.set_cons_succ] at cl
  have fz := blk_frozen R22.out.bp 12
  go_wp2_with fail
  have Z := R22.out.put 12 (.int .u32 (nb h 40 4))
  simp only [List.set_cons_zero, List.set_cons_succ] at Z
  have R23 : Hid _ := Z
  clear Z cl fz R22 hv
  generalize u22.setCell _ _ = u23 at *
  rw [rounds_succ]
  go_wp2_with fail
  have N := Num_any [pb] g (h.drop 44) 0 4 u23 R23.out.rd
  have NE := rdN h 44 4 (by omega) (by omega) (by omega)
  simp only [Nat.reduceAdd] at NE
  rw [show (((4 : Nat)) : Int) = (4 : Int) from rfl] at NE
  rw [NE] at N
  dsimp only at N
  rw [wrap_nb h 44 4 (by omega)] at N
  have HN : Hid _ := N
  clear N NE
  refine (Calls.mono HN.out) ?_
  rintro e u24 ⟨rfl, R', g'⟩
  have R24 : Hid _ := R23.out.num R' g'
  clear HN R' g' R23
  have hv := wrap_u32 h 44
  have cl := blk_at R24.out.bp 13
  simp only [List.getElem?_cons_zero, List.getElem?_cons_succ, List.set_cons_zero, List.set_cons_succ] at cl
  have fz := blk_frozen R24.out.bp 13
  go_wp2_with fail
  have Z := R24.out.put 13 (.int .u32 (nb h 44 4))
  simp only [List.set_cons_zero, List.set_cons_succ] at Z
  have R25 : Hid _ := Z
  clear Z cl fz R24 hv
  generalize u24.setCell _ _ = u25 at *
  rw [rounds_succ]
  have e15 : pdV h (.slice none 0 0) = [.int .i64 (pOp h), .bool (pNow h), .int .i64 (nb h 1 1), .int .i64 (nb h 2 1), .int .i64 (nb h 3 1), .int .u64 (nb h 8 8), .int .u32 (nb h 16 4), .int .u32 (nb h 20 4), .int .u32 (nb h 24 4), .int .u32 (nb h 28 4), .int .u32 (nb h 32 4), .int .u32 (nb h 36 4), .int .u32 (nb h 40 4), .int .u32 (nb h 44 4), .slice none 0 0] := rfl
  have E15 : Hid _ := e15
  clear e15
  have hb := R25.out
  clear R25
  obtain ⟨hbe, -, hbr, hbp, -, -, -⟩ := hb
  generalize pOp h = X0 at *
  generalize pNow h = X1 at *
  generalize nb h 1 1 = X2 at *
  generalize nb h 2 1 = X3 at *
  generalize nb h 3 1 = X4 at *
  generalize nb h 8 8 = X5 at *
  generalize nb h 16 4 = X6 at *
  generalize nb h 20 4 = X7 at *
  generalize nb h 24 4 = X8 at *
  generalize nb h 28 4 = X9 at *
  generalize nb h 32 4 = X10 at *
  generalize nb h 36 4 = X11 at *
  generalize nb h 40 4 = X12 at *
  generalize nb h 44 4 = X13 at *
  have ld := load_all size_pd agg_pd hbp
  have st := store_all (T := 47) (vs := [.int .i64 X0, .bool X1, .int .i64 X2, .int .i64 X3, .int .i64 X4, .int .u64 X5, .int .u32 X6, .int .u32 X7, .int .u32 X8, .int .u32 X9, .int .u32 X10, .int .u32 X11, .int .u32 X12, .int .u32 X13, .slice none 0 0]) size_pd hbr rfl (fun u hu => by simp at hu; rcases hu with rfl | rfl | rfl | rfl | rfl | rfl | rfl | rfl | rfl | rfl | rfl | rfl | rfl | rfl | rfl <;> rfl)
  obtain ⟨B9, g9⟩ := hbr.whole (vs := [.int .i64 X0, .bool X1, .int .i64 X2, .int .i64 X3, .int .i64 X4, .int .u64 X5, .int .u32 X6, .int .u32 X7, .int .u32 X8, .int .u32 X9, .int .u32 X10, .int .u32 X11, .int .u32 X12, .int .u32 X13, .slice none 0 0]) rfl
  have F9 : Hid _ := And.intro (hbe.trans ((turned_grown (R := fun k => k = w.heap.size + 1) g9 (fun k hk => by cases hk; rfl)).below _ hbe.size (fun k e => by omega))) B9
  clear B9 g9 hbp hbr hbe
  generalize u25.setCells _ _ _ = w9 at *
  go_wp2_with (first | (refine wpList_value rfl (exec_load rfl rfl ld) ?_) | (refine wpList_skip rfl (exec_store rfl rfl rfl st) ?_))
  clear ld st
  have y0 := blk_at F9.out.2 0
  have y1 := blk_at F9.out.2 1
  have y2 := blk_at F9.out.2 2
  have y3 := blk_at F9.out.2 3
  have y4 := blk_at F9.out.2 4
  have y5 := blk_at F9.out.2 5
  have y6 := blk_at F9.out.2 6
  have y7 := blk_at F9.out.2 7
  have y8 := blk_at F9.out.2 8
  have y9 := blk_at F9.out.2 9
  have y10 := blk_at F9.out.2 10
  have y11 := blk_at F9.out.2 11
  have y12 := blk_at F9.out.2 12
  have y13 := blk_at F9.out.2 13
  have y14 := blk_at F9.out.2 14
  simp only [List.getElem?_cons_zero, List.getElem?_cons_succ] at y0 y1 y2 y3 y4 y5 y6 y7 y8 y9 y10 y11 y12 y13 y14
  refine bodyPost_ret (v := .agg #[.int .i64 X0, .bool X1, .int .i64 X2, .int .i64 X3, .int .i64 X4, .int .u64 X5, .int .u32 X6, .int .u32 X7, .int .u32 X8, .int .u32 X9, .int .u32 X10, .int .u32 X11, .int .u32 X12, .int .u32 X13, .slice none 0 0]) (by simp [results, Try.results28, go_sem, y0, y1, y2, y3, y4, y5, y6, y7, y8, y9, y10, y11, y12, y13, y14]) rfl ?_
  exact ⟨by rw [E15.out], F9.out.1⟩
end Go.Proofs.Ytfcaaljehhibgaa

/- pdu: a reader. -/
namespace Go.Proofs.Ytfcaaljehhibgaa
open Go.RowKit
set_option linter.unusedVariables false
set_option linter.unusedSimpArgs false
set_option maxRecDepth 4000

theorem wpList_runApp {w w' : World} {v' : Value} {ops : Array Oper} {rest : List Oper} {o : Oper} {a : Act} {Q : Exit → Act → World → Prop} (hg : o.guard = none) (s x : Operand) (t1 t2 : TypeId)
    (ho : o.op = .call { callee := .builtin .append, args := #[s, x], argTypes := #[t1, t2] }) (vs vx : Value) (hs : a.eval s = vs) (hx : a.eval x = vx) (hr : (Builtin.append_ #[t1, t2] o.type #[vs, vx]).run Try.prog w = .ok v' w')
    (next : wpList Try.prog ops Q rest (a.put o.dst v') w') : wpList Try.prog ops Q (o :: rest) a w := by
  refine wpList_plain hg fun K hK => ?_
  unfold Oper.wp execOp
  simp only [ho, resolve, invoke, builtin, Sem.run_bind, Sem.run_pure, Result.andThen_ok, List.map_toArray, List.map_cons, List.map_nil, hs, hx, hr]
  exact hK _ _ next
/-- what was agreed on can be -/
def okO (mo : Int) : Bool := decide (48 ≤ mo ∧ mo ≤ 65536)
/-- a reader at block g; its bytes l lie in block q -/
def RdS (w : World) (g : Nat) (q : Option Nat) (hs ds : Bool) (mo : Int) (l : List (BitVec 8)) (dead : Bool) : Prop :=
  ∃ v, Blk w g 67 [.bool hs, .bool ds, .int .i64 mo, v, .bool dead] ∧ BSl w v q l ∧ q ≠ some g
/-- what a call of a reader may do to the world -/
structure RSt (w w' : World) (g : Nat) (q q' : Option Nat) : Prop where
  tn : Turned (fun k => k = g ∨ q = some k) w w'
  nw : ∀ b, q' = some b → q = some b ∨ w.heap.size ≤ b
theorem RdS.lt {w : World} {g : Nat} {q : Option Nat} {hs ds : Bool} {mo : Int} {l : List (BitVec 8)} {dead : Bool} (h : RdS w g q hs ds mo l dead) : g < w.heap.size ∧ ∀ k, q = some k → k < w.heap.size := by
  obtain ⟨v, h1, h2, -⟩ := h
  exact ⟨h1.lt, h2.lt⟩
theorem RdS.later {w w' : World} {g : Nat} {q : Option Nat} {hs ds : Bool} {mo : Int} {l : List (BitVec 8)} {dead : Bool} (h : RdS w g q hs ds mo l dead) (hb : Below w.heap.size w w') : RdS w' g q hs ds mo l dead := by
  obtain ⟨v, h1, h2, h3⟩ := h
  exact ⟨v, h1.laterB hb, h2.later hb, h3⟩
theorem RSt.same (w : World) (g : Nat) (q : Option Nat) : RSt w w g q q := ⟨⟨rfl, rfl, rfl, Nat.le_refl _, fun _ _ _ => rfl⟩, fun b h => .inl h⟩
theorem turned_later {w w' : World} {R : Nat → Prop} (hb : Below w.heap.size w w') : Turned R w w' := turned_grown (row := none) ⟨hb.os, hb.tape, hb.output, hb.size, fun k hk _ => hb.block k hk⟩ (fun k hk => by cases hk)
theorem RSt.trans {a b c : World} {g : Nat} {q q' q'' : Option Nat} (h : RSt a b g q q') (k : RSt b c g q' q'') : RSt a c g q q'' :=
  ⟨h.tn.trans (k.tn.mono (fun j hj => by
    rcases hj with e | e
    · exact .inl (.inl e)
    · rcases h.nw j e with e' | e'
      · exact .inl (.inr e')
      · exact .inr e')), fun b hb => by
    rcases k.nw b hb with e | e
    · exact h.nw b e
    · exact .inr (Nat.le_trans h.tn.size e)⟩
theorem RSt.then {a b c : World} {g : Nat} {q q' : Option Nat} (h : RSt a b g q q') (k : Below b.heap.size b c) : RSt a c g q q' := ⟨h.tn.trans ((turned_later k).mono (fun j hj => hj)), h.nw⟩
theorem RSt.first {a b c : World} {g : Nat} {q q' : Option Nat} (k : Below a.heap.size a b) (h : RSt b c g q q') : RSt a c g q q' := ⟨(turned_later k).trans (h.tn.mono (fun j hj => .inl hj)), fun b hb => by
    rcases h.nw b hb with e | e
    · exact .inl e
    · exact .inr (Nat.le_trans k.size e)⟩
theorem RSt.below {a b : World} {g : Nat} {q q' : Option Nat} (h : RSt a b g q q') (B : Nat) (hB : B ≤ a.heap.size) (hg : B ≤ g) (hq : ∀ k, q = some k → B ≤ k) : Below B a b ∧ ∀ k, q' = some k → B ≤ k :=
  ⟨h.tn.below B hB (fun k hk => by rcases hk with e | e; exact e ▸ hg; exact hq k e), fun k hk => by rcases h.nw k hk with e | e; exact hq k e; omega⟩
set_option maxHeartbeats 1000000 in
theorem pcanBe_any (hs ds : Bool) (mo : Int) (w : World) :
    Calls Try.prog 25 #[.agg #[.bool hs, .bool ds, .int .i64 mo]] w fun e w' => e = .returned (.bool (okO mo)) ∧ Below w.heap.size w w' := by
  have b0 : Below w.heap.size w (w.alloc (.cells #[.bool hs, .bool ds, .int .i64 mo] 29)) := (Below.refl _ _).alloc (Nat.le_refl _) _
  have o2 := blk_at (Blk.new' w 29 [.bool hs, .bool ds, .int .i64 mo]) 2
  simp only [List.getElem?_cons_zero, List.getElem?_cons_succ] at o2
  have F : Hid _ := b0
  clear b0
  by_cases h1 : 48 ≤ mo
  · by_cases h2 : mo ≤ 65536
    · have hE : Hid _ := show okO mo = true from decide_eq_true ⟨h1, h2⟩
      go_enter Try.func25, Try.ntmps25
      go_wp2
      go_ret
      exact ⟨by rw [hE.out]; rfl, F.out⟩
    · have hE : Hid _ := show okO mo = false from decide_eq_false (by omega)
      go_enter Try.func25, Try.ntmps25
      go_wp2
      go_ret
      exact ⟨by rw [hE.out]; rfl, F.out⟩
  · have hE : Hid _ := show okO mo = false from decide_eq_false (by omega)
    go_enter Try.func25, Try.ntmps25
    go_wp2
    go_ret
    exact ⟨by rw [hE.out]; rfl, F.out⟩
set_option maxHeartbeats 1000000 in
theorem pdie_any (g : Nat) (q : Option Nat) (hs ds : Bool) (mo : Int) (l : List (BitVec 8)) (dead : Bool) (w : World) (h : RdS w g q hs ds mo l dead) :
    Calls Try.prog 26 #[.pointer (some ⟨g, 0, none⟩)] w fun e w' => e = .returned (.tuple #[]) ∧ RdS w' g none hs ds mo [] true ∧ RSt w w' g q none := by
  obtain ⟨v, hB, -, hq⟩ := h
  have c3 := blk_at hB 3
  have c4 := blk_at hB 4
  simp only [List.getElem?_cons_zero, List.getElem?_cons_succ] at c3 c4
  have f3 := blk_frozen hB 3
  have f4 := blk_frozen hB 4
  have B2 := (hB.set 3 (.slice none 0 0)).set 4 (.bool true)
  simp only [List.set_cons_zero, List.set_cons_succ] at B2
  have T2 := (turned_set w g 3 (.slice none 0 0)).trans ((turned_set (w.setCell ⟨g, 3, none⟩ (.slice none 0 0)) g 4 (.bool true)).mono (fun k e => .inl e))
  have H : Hid _ := And.intro B2 T2
  clear B2 T2 hB
  go_enter Try.func26, Try.ntmps26
  go_wp2
  go_returns
  refine ⟨rfl, ⟨_, H.out.1, BSl.nil _, (by intro e; cases e)⟩, ⟨H.out.2.mono (fun k e => .inl e), fun b hb => by cases hb⟩⟩
set_option maxHeartbeats 1000000 in
theorem pNew_no (hs ds : Bool) (mo : Int) (w : World) (h : okO mo = false) :
    Calls Try.prog 5 #[.agg #[.bool hs, .bool ds, .int .i64 mo]] w fun e w' => e = .returned (.tuple #[.pointer none, .int .i64 1]) ∧ Below w.heap.size w w' := by
  have b0 : Below w.heap.size w (w.alloc (.cells #[.bool hs, .bool ds, .int .i64 mo] 29)) := (Below.refl _ _).alloc (Nat.le_refl _) _
  have lo := load_all size_op agg_op (Blk.new' w 29 [.bool hs, .bool ds, .int .i64 mo])
  have HC : Hid _ := pcanBe_any hs ds mo (w.alloc (.cells #[.bool hs, .bool ds, .int .i64 mo] 29))
  rw [h] at HC
  have F : Hid _ := b0
  clear b0
  go_enter Try.func5, Try.ntmps5
  go_wp2_with (refine wpList_value rfl (exec_load rfl rfl lo) ?_)
  refine (Calls.mono HC.out) ?_
  rintro e w1 ⟨rfl, b1⟩
  have F1 : Hid _ := below_then F.out b1
  clear b1 HC F lo
  go_wp2
  go_ret2
  exact ⟨rfl, F1.out⟩
set_option maxHeartbeats 1000000 in
theorem pNew_yes (hs ds : Bool) (mo : Int) (w : World) (h : okO mo = true) :
    Calls Try.prog 5 #[.agg #[.bool hs, .bool ds, .int .i64 mo]] w fun e w' => ∃ g, e = .returned (.tuple #[.pointer (some ⟨g, 0, none⟩), .int .i64 0]) ∧ w.heap.size ≤ g ∧ RdS w' g none hs ds mo [] false ∧ Below w.heap.size w w' := by
  have b0 : Below w.heap.size w (w.alloc (.cells #[.bool hs, .bool ds, .int .i64 mo] 29)) := (Below.refl _ _).alloc (Nat.le_refl _) _
  have B0 := Blk.new' w 29 [.bool hs, .bool ds, .int .i64 mo]
  have lo := load_all size_op agg_op B0
  have HC : Hid _ := pcanBe_any hs ds mo (w.alloc (.cells #[.bool hs, .bool ds, .int .i64 mo] 29))
  rw [h] at HC
  have F : Hid _ := And.intro b0 B0
  clear b0 B0
  go_enter Try.func5, Try.ntmps5
  go_wp2_with (refine wpList_value rfl (exec_load rfl rfl lo) ?_)
  refine (Calls.mono HC.out) ?_
  rintro e w1 ⟨rfl, b1⟩
  have B1 := F.out.2.laterB b1
  have lo := load_all size_op agg_op B1
  have F1 : Hid _ := below_then F.out.1 b1
  clear b1 HC F B1
  have HB : Hid (Blk (w1.alloc (.cells #[.bool hs, .bool ds, .int .i64 mo, .slice none 0 0, .bool false] 67)) w1.heap.size 67 [.bool hs, .bool ds, .int .i64 mo, .slice none 0 0, .bool false] ∧ Below w1.heap.size w1 (w1.alloc (.cells #[.bool hs, .bool ds, .int .i64 mo, .slice none 0 0, .bool false] 67))) := ⟨Blk.new' w1 _ _, (Below.refl _ _).alloc (Nat.le_refl _) _⟩
  go_wp2_with (refine wpList_value rfl (exec_load rfl rfl lo) ?_)
  go_ret2
  exact ⟨_, rfl, F1.out.size, ⟨_, HB.out.1, BSl.nil _, by intro e; cases e⟩, below_then F1.out HB.out.2⟩
set_option maxHeartbeats 1000000 in
theorem pLeft_any (g : Nat) (q : Option Nat) (hs ds : Bool) (mo : Int) (l : List (BitVec 8)) (dead : Bool) (w : World) (h : RdS w g q hs ds mo l dead) :
    Calls Try.prog 19 #[.pointer (some ⟨g, 0, none⟩)] w fun e w' => e = .returned (.int .i64 (l.length : Int)) ∧ w' = w := by
  obtain ⟨v, hB, hv, -⟩ := h
  obtain ⟨a, c, rfl, -⟩ := hv.open
  have c3 := blk_at hB 3
  have c4 := blk_at hB 4
  simp only [List.getElem?_cons_zero, List.getElem?_cons_succ] at c3 c4
  clear hB hv
  go_enter Try.func19, Try.ntmps19
  go_wp2
  go_ret
  exact ⟨by first | rfl | simp, rfl⟩
set_option maxHeartbeats 1000000 in
theorem pDead_any (g : Nat) (q : Option Nat) (hs ds : Bool) (mo : Int) (l : List (BitVec 8)) (dead : Bool) (w : World) (h : RdS w g q hs ds mo l dead) :
    Calls Try.prog 20 #[.pointer (some ⟨g, 0, none⟩)] w fun e w' => e = .returned (.bool dead) ∧ w' = w := by
  obtain ⟨v, hB, hv, -⟩ := h
  obtain ⟨a, c, rfl, -⟩ := hv.open
  have c3 := blk_at hB 3
  have c4 := blk_at hB 4
  simp only [List.getElem?_cons_zero, List.getElem?_cons_succ] at c3 c4
  clear hB hv
  go_enter Try.func20, Try.ntmps20
  go_wp2
  go_ret
  exact ⟨by first | rfl | simp, rfl⟩
set_option maxHeartbeats 1000000 in
theorem pLeft_nil (w : World) :
    Calls Try.prog 19 #[.pointer none] w fun e w' => e = .returned (.int .i64 0) ∧ w' = w := by
  go_enter Try.func19, Try.ntmps19
  go_wp2
  go_ret
  exact ⟨by first | rfl | simp, rfl⟩
set_option maxHeartbeats 1000000 in
theorem pDead_nil (w : World) :
    Calls Try.prog 20 #[.pointer none] w fun e w' => e = .returned (.bool false) ∧ w' = w := by
  go_enter Try.func20, Try.ntmps20
  go_wp2
  go_ret
  exact ⟨by first | rfl | simp, rfl⟩
set_option maxHeartbeats 1000000 in
theorem pFeed_nil (v : Value) (w : World) :
    Calls Try.prog 10 #[.pointer none, v] w fun e w' => e = .returned (.int .i64 2) ∧ w' = w := by
  go_enter Try.func10, Try.ntmps10
  go_wp2
  go_ret
  exact ⟨by first | rfl | simp, rfl⟩
set_option maxHeartbeats 1000000 in
theorem pFeed_dead (g : Nat) (q : Option Nat) (hs ds : Bool) (mo : Int) (l : List (BitVec 8)) (w : World) (v : Value) (h : RdS w g q hs ds mo l true) :
    Calls Try.prog 10 #[.pointer (some ⟨g, 0, none⟩), v] w fun e w' => e = .returned (.int .i64 21) ∧ w' = w := by
  obtain ⟨v', hB, hv, -⟩ := h
  have c4 := blk_at hB 4
  simp only [List.getElem?_cons_zero, List.getElem?_cons_succ] at c4
  clear hB hv
  go_enter Try.func10, Try.ntmps10
  go_wp2
  go_ret
  exact ⟨by first | rfl | simp, rfl⟩
set_option maxHeartbeats 1000000 in
theorem pFeed_full (g : Nat) (q : Option Nat) (hs ds : Bool) (mo : Int) (l : List (BitVec 8)) (w : World) (ab : Option Addr) (m c : Nat) (lb : List (BitVec 8)) (h : RdS w g q hs ds mo l false) (hl : l.length ≤ 131072) (hlb : lb.length = m) (hr : Row w ab lb) (hnil : ab = none → c = 0) (hmc : m ≤ c) (hmm : m ≤ 140737488355328) (ho : 131072 < l.length + m) :
    Calls Try.prog 10 #[.pointer (some ⟨g, 0, none⟩), .slice ab m c] w fun e w' => e = .returned (.int .i64 4) ∧ RdS w' g none hs ds mo [] true ∧ RSt w w' g q none := by
  have HH : Hid _ := And.intro h trivial
  obtain ⟨v, hB, hv, hq⟩ := h
  obtain ⟨va, vc, rfl, -⟩ := hv.open
  have c3 := blk_at hB 3
  have c4 := blk_at hB 4
  simp only [List.getElem?_cons_zero, List.getElem?_cons_succ] at c3 c4
  have f3 := blk_frozen hB 3
  have HD : Hid _ := pdie_any g q hs ds mo l false w HH.out.1
  have u1 : (131072 : Int) < (l.length : Int) + (m : Int) := by omega
  have u2 : IntKind.i64.wrap ((l.length : Int) + (m : Int)) = (l.length : Int) + (m : Int) := by rw [IntKind.wrap_i64]; omega
  clear hB hv hq HH hr
  go_enter Try.func10, Try.ntmps10
  go_wp2_with fail
  refine (Calls.mono HD.out) ?_
  rintro e w1 ⟨rfl, R1, S1⟩
  have G : Hid _ := And.intro R1 S1
  clear HD R1 S1
  go_wp2
  go_ret
  exact ⟨by first | rfl | simp, G.out.1, G.out.2⟩
set_option maxHeartbeats 1000000 in
theorem pFeed_yes (g : Nat) (q : Option Nat) (hs ds : Bool) (mo : Int) (l : List (BitVec 8)) (w : World) (ab : Option Addr) (m c : Nat) (lb : List (BitVec 8)) (h : RdS w g q hs ds mo l false) (hl : l.length ≤ 131072) (hlb : lb.length = m) (hr : Row w ab lb) (hnil : ab = none → c = 0) (hmc : m ≤ c) (hmm : m ≤ 140737488355328) (ho : l.length + m ≤ 131072) :
    Calls Try.prog 10 #[.pointer (some ⟨g, 0, none⟩), .slice ab m c] w fun e w' => e = .returned (.int .i64 0) ∧ ∃ q', RdS w' g q' hs ds mo (l ++ lb) false ∧ RSt w w' g q q' := by
  have HH : Hid _ := And.intro h trivial
  obtain ⟨v, hB, hv, hq⟩ := h
  obtain ⟨va, vc, rfl, -⟩ := hv.open
  have c3 := blk_at hB 3
  have c4 := blk_at hB 4
  simp only [List.getElem?_cons_zero, List.getElem?_cons_succ] at c3 c4
  have f3 := blk_frozen hB 3
  obtain ⟨v', w1, q', hrun, hv1, hg1, hn1⟩ := hv.append ab m c lb hlb hr hnil hmc (by omega) 34
  obtain ⟨a9, c9, hv9, -⟩ := hv1.open
  subst hv9
  generalize hn9 : (l ++ lb).length = n9 at *
  have u1 : ¬ (131072 : Int) < (l.length : Int) + (m : Int) := by omega
  have u2 : IntKind.i64.wrap ((l.length : Int) + (m : Int)) = (l.length : Int) + (m : Int) := by rw [IntKind.wrap_i64]; omega
  have B1 := hB.grown hg1 (fun e => hq e.symm)
  have hgl := hB.lt
  have c3' := blk_at B1 3
  simp only [List.getElem?_cons_zero, List.getElem?_cons_succ] at c3'
  have f3' := blk_frozen B1 3
  have B2 := B1.set 3 (.slice a9 n9 c9)
  simp only [List.set_cons_zero, List.set_cons_succ] at B2
  have hq' : q' ≠ some g := by
    intro e
    rcases hn1 g e with e' | e'
    · exact hq e'
    · omega
  have V2 : BSl (w1.setCell ⟨g, 3, none⟩ (.slice a9 n9 c9)) (.slice a9 n9 c9) q' (l ++ lb) := hv1.same (fun k hk => (turned_set w1 g 3 (.slice a9 n9 c9)).block k (hv1.lt k hk) (fun e => hq' (by rw [hk, e])))
  have T2 : Turned (fun k => k = g ∨ q = some k) w (w1.setCell ⟨g, 3, none⟩ (.slice a9 n9 c9)) := (turned_grown hg1 (fun k hk => .inr hk)).trans ((turned_set w1 g 3 (.slice a9 n9 c9)).mono (fun k e => .inl (.inl e)))
  have G : Hid _ := And.intro B2 (And.intro V2 (And.intro T2 (And.intro hq' hn1)))
  clear hB hv hq HH hr B1 B2 V2 T2 hq' hn1 hg1 hv1 hn9
  go_enter Try.func10, Try.ntmps10
  go_wp2_with (refine wpList_runApp rfl _ _ _ _ rfl _ _ rfl rfl hrun ?_)
  go_ret
  exact ⟨by first | rfl | simp, q', ⟨_, G.out.1, G.out.2.1, G.out.2.2.2.1⟩, ⟨G.out.2.2.1, G.out.2.2.2.2⟩⟩
end Go.Proofs.Ytfcaaljehhibgaa
