/- pdu: what must come of fixed calls. -/
import Derived.Test.YtfcaaljehhibgaaXPd7
import Derived.Test.YtfcaaljehhibgaaXPd9a
import Derived.ChangeKeysEq
namespace Go.Proofs.Ytfcaaljehhibgaa
open Go.RowKit
set_option linter.unusedVariables false
set_option linter.unusedSimpArgs false
set_option maxRecDepth 8000

/-- the fixed letter's bytes -/
def kB : List (BitVec 8) := putB false false (pdH 0 true 0 0 0 0 0 5 0 0 0 0 0 0 0) []
def kL : List (BitVec 8) := [0x40#8] ++ List.replicate 18 0#8 ++ [5#8] ++ List.replicate 28 0#8
theorem kB_eq : kB = kL := by decide +kernel
theorem kw_20 : wkM false false 100 (kL.take 20) = (0, false) := by decide +kernel
theorem kw_48 : wkM false false 100 kL = (0, true) := by decide +kernel
theorem kh_now : pNow (lH kL) = true := by decide +kernel
theorem kh_task : nb (lH kL) 16 4 = 5 := by decide +kernel
theorem kh_tot : hN false + bodyN (cnt (lH kL)) + dN false kL = 48 := by decide +kernel
theorem newP (x : World) (vs : List Value) (hv : vs.length = 15) (h1 : ∀ u ∈ vs, u.oneCell' = true) : ∃ x', (Instr.storeAt 47 (.pointer (some ⟨x.heap.size, 0, none⟩)) (.agg vs.toArray)).run Try.prog (x.alloc (.cells #[.int .i64 0, .bool false, .int .i64 0, .int .i64 0, .int .i64 0, .int .u64 0, .int .u32 0, .int .u32 0, .int .u32 0, .int .u32 0, .int .u32 0, .int .u32 0, .int .u32 0, .int .u32 0, .slice none 0 0] 47)) = .ok () x' ∧ Blk x' x.heap.size 47 vs ∧ Below x.heap.size x x' := by
  have N := Blk.new' x 47 [.int .i64 0, .bool false, .int .i64 0, .int .i64 0, .int .i64 0, .int .u64 0, .int .u32 0, .int .u32 0, .int .u32 0, .int .u32 0, .int .u32 0, .int .u32 0, .int .u32 0, .int .u32 0, .slice none 0 0]
  have b : Below x.heap.size x (x.alloc (.cells #[.int .i64 0, .bool false, .int .i64 0, .int .i64 0, .int .i64 0, .int .u64 0, .int .u32 0, .int .u32 0, .int .u32 0, .int .u32 0, .int .u32 0, .int .u32 0, .int .u32 0, .int .u32 0, .slice none 0 0] 47)) := (Below.refl _ _).alloc (Nat.le_refl _) _
  obtain ⟨B1, g1⟩ := N.whole (vs := vs) (by rw [hv]; rfl)
  refine ⟨_, store_all (by rw [hv]; exact size_pd) N (by rw [hv]; rfl) h1, B1, b.trans ((turned_grown (R := fun k => k = x.heap.size) g1 (fun k hk => by cases hk; rfl)).below _ b.size (fun k e => by omega))⟩
/-- the reader goes on, behind B -/
structure KnS (u1 u : World) (g : Nat) (q : Option Nat) (l : List (BitVec 8)) : Prop where
  be : Below u1.heap.size u1 u
  rs : RdS u g q false false 100 l false
  ge : u1.heap.size ≤ g
  qe : ∀ k, q = some k → u1.heap.size ≤ k
theorem KnS.later {u1 u u' : World} {g : Nat} {q : Option Nat} {l : List (BitVec 8)} (h : KnS u1 u g q l) (b : Below u.heap.size u u') : KnS u1 u' g q l := ⟨below_then h.be b, h.rs.later b, h.ge, h.qe⟩
theorem KnS.step {u1 u u' : World} {g : Nat} {q q' : Option Nat} {l l' : List (BitVec 8)} (h : KnS u1 u g q l) (r : RdS u' g q' false false 100 l' false) (s : RSt u u' g q q') : KnS u1 u' g q' l' := by
  obtain ⟨b, hq⟩ := s.below u1.heap.size h.be.size h.ge h.qe
  exact ⟨h.be.trans b, r, h.ge, hq⟩
theorem cell_on {w w' : World} {x : Addr} {v : Value} (hb : Below w.heap.size w w') (h : w.cell? x = some v) : w'.cell? x = some v := by
  have hx : x.block < w.heap.size := by
    rcases Nat.lt_or_ge x.block w.heap.size with h1 | h1
    · exact h1
    · unfold World.cell? at h
      rw [Array.getElem?_eq_none h1] at h
      simp at h
  rw [World.cell?_of_block (w := w) (hb.block _ hx)]
  exact h
set_option maxHeartbeats 8000000 in
theorem known17_any (w : World) : Calls Try.prog 8 #[] w fun e w' => e = .returned (.bool true) ∧ Below w.heap.size w w' := by
  have N := Blk.new' w 29 [.bool false, .bool false, .int .i64 0]
  have b : Below w.heap.size w (w.alloc (.cells #[.bool false, .bool false, .int .i64 0] 29)) := (Below.refl _ _).alloc (Nat.le_refl _) _
  have st := store_all (T := 29) (vs := [.bool false, .bool false, .int .i64 100]) size_op N rfl (fun u hu => by simp at hu; rcases hu with rfl | rfl <;> rfl)
  obtain ⟨B1, g1⟩ := N.whole (vs := [.bool false, .bool false, .int .i64 100]) rfl
  have bb := b.trans ((turned_grown (R := fun k => k = w.heap.size) g1 (fun k hk => by cases hk; rfl)).below _ b.size (fun k e => by omega))
  obtain ⟨u0, hu0⟩ : ∃ u0, u0 = (w.alloc (.cells #[.bool false, .bool false, .int .i64 0] 29)).setCells w.heap.size 0 [.bool false, .bool false, .int .i64 100] := ⟨_, rfl⟩
  rw [← hu0] at st B1 bb
  clear hu0 g1 b N
  have lo := load_all size_op agg_op B1
  have F0 : Hid _ := And.intro bb B1
  clear bb B1
  have HP : Hid _ := pPut_yes 0 0 0 0 0 5 0 0 0 0 0 0 0 true none 0 0 false false 100 [] u0 (by decide) (by decide) (by decide) (by decide) (by decide) (by decide) (by decide) (by intro t ht; simp at ht; rcases ht with rfl | rfl <;> decide) rfl (Nat.le_refl _) (fun _ => rfl) (by decide) (.inl rfl)
  go_enter Try.func8, Try.ntmps8
  go_wp2_with (first | (refine wpList_skip rfl (exec_store rfl rfl rfl st) ?_) | (refine wpList_value rfl (exec_load rfl rfl lo) ?_))
  clear st lo
  refine (Calls.mono HP.out) ?_
  rintro e u1 ⟨z, rfl, oz, b1⟩
  rw [show putB false false (pdH 0 true 0 0 0 0 0 5 0 0 0 0 0 0 0) [] = kL from kB_eq] at oz
  obtain ⟨za, zc, hz, hz1, hz2, hz3, hz4, hz5⟩ := oz.open
  subst hz
  rw [show kL.length = 48 from rfl] at hz1 ⊢
  have B1 := F0.out.2.laterB b1
  have lo := load_all size_op agg_op B1
  have HN : Hid _ := pNew_yes false false 100 u1 (by decide)
  have F1 : Hid _ := And.intro (below_then F0.out.1 b1) hz3
  clear B1 b1 HP F0 oz hz3
  go_wp2_with (refine wpList_value rfl (exec_load rfl rfl lo) ?_)
  clear lo
  refine (Calls.mono HN.out) ?_
  rintro e u2 ⟨g, rfl, hg, R2, b2⟩
  have K2 : Hid (KnS u1 u2 g none []) := ⟨b2, R2, hg, fun k hk => by cases hk⟩
  clear HN R2 b2 hg
  obtain ⟨bz, oz, rfl, hcz⟩ : ∃ b off, za = some ⟨b, off, none⟩ ∧ ∀ i, i < 48 → u1.cell? ⟨b, off + i, none⟩ = some (.int .u8 (bt kL i)) := by
    rcases F1.out.2 with q | ⟨b, off, q1, q2⟩
    · cases q
    · exact ⟨b, off, q1, q2⟩
  have y0 := cell_on K2.out.be (hcz 0 (by decide))
  have y19 := cell_on K2.out.be (hcz 19 (by decide))
  rw [show bt kL 0 = 64 from by decide] at y0
  rw [show bt kL 19 = 5 from by decide] at y19
  simp only [Nat.add_zero] at y0
  clear hcz
  obtain ⟨ya, hya, hyar, hyan, -⟩ := slice_upto (F1.out.2) rfl hz1 20 (by decide) hz4
  obtain ⟨yb, hyb, hybr, hybn, -⟩ := slice_from (F1.out.2) rfl hz1 hz4 20 (by decide)
  have HA : Hid _ := pFeed_yes g none false false 100 [] u2 ya 20 zc (kL.take 20) K2.out.rs (by decide) rfl (hyar.later K2.out.be) hyan (by omega) (by decide) (by decide)
  have PY : Hid _ := And.intro hya hyb
  have HY : Hid _ := And.intro hybr hybn
  clear hya hyb hyar hyan hybr hybn
  go_wp2_with (refine wpList_value rfl (exec_slice rfl rfl (PY.out.1 _)) ?_)
  clear y0 y19
  refine (Calls.mono HA.out) ?_
  rintro e u3 ⟨rfl, q3, R3, S3⟩
  have K3 : Hid _ := K2.out.step R3 S3
  clear HA R3 S3 K2
  rw [List.nil_append] at K3
  have HX : Hid _ := pNext_any g q3 false false 100 (kL.take 20) u3 K3.out.rs (by decide)
  go_wp2_with fail
  refine (Calls.mono HX.out) ?_
  rintro e u4 hW
  obtain ⟨rfl, R4, S4⟩ := hW.wait (by rw [kw_20]) (by rw [kw_20])
  have K4 : Hid _ := K3.out.step R4 S4
  clear HX hW R4 S4 K3
  obtain ⟨u5, st, -, b5⟩ := newP u4 [.int .i64 0, .bool false, .int .i64 0, .int .i64 0, .int .i64 0, .int .u64 0, .int .u32 0, .int .u32 0, .int .u32 0, .int .u32 0, .int .u32 0, .int .u32 0, .int .u32 0, .int .u32 0, .slice none 0 0] rfl zP_one
  have K5 : Hid _ := K4.out.later b5
  clear b5
  have HB : Hid _ := pFeed_yes g q3 false false 100 (kL.take 20) u5 yb 28 (zc - 20) (kL.drop 20) K5.out.rs (by decide) rfl (HY.out.1.later K5.out.be) HY.out.2 (by omega) (by decide) (by decide)
  go_wp2_with (first | (refine wpList_skip rfl (exec_store rfl rfl rfl st) ?_) | (refine wpList_value rfl (exec_slice rfl rfl (PY.out.2 _)) ?_))
  clear st K4
  refine (Calls.mono HB.out) ?_
  rintro e u6 ⟨rfl, q6, R6, S6⟩
  have K6 : Hid _ := K5.out.step R6 S6
  clear HB R6 S6 K5
  rw [List.take_append_drop] at K6
  have HX : Hid _ := pNext_any g q6 false false 100 kL u6 K6.out.rs (by decide)
  go_wp2_with fail
  refine (Calls.mono HX.out) ?_
  rintro e u7 hW
  obtain ⟨zd, q7, rfl, ozd, -, R7, S7⟩ := hW.tell (by rw [kw_48])
  rw [kw_48]
  dsimp only
  have K7 : Hid _ := K6.out.step R7 S7
  have hone : zd.oneCell' = true := by obtain ⟨da, dcc, hzd, -⟩ := ozd.open; rw [hzd]; rfl
  clear HX hW R7 S7 K6 ozd
  skip
  obtain ⟨u8, st, B8, b8⟩ := newP u7 (pdV (lH kL) zd) (pdV_len _ _) (pdV_one _ _ hone)
  have K8 : Hid _ := K7.out.later b8
  have c1 := blk_at B8 1
  have c6 := blk_at B8 6
  rw [show (pdV (lH kL) zd)[1]? = some (.bool (pNow (lH kL))) from rfl, kh_now] at c1
  rw [show (pdV (lH kL) zd)[6]? = some (.int .u32 (nb (lH kL) 16 4)) from rfl, kh_task] at c6
  have HL : Hid _ := pLeft_any g q7 false false 100 _ false u8 K8.out.rs
  rw [kh_tot] at HL
  rw [show (kL.drop 48).length = 0 from rfl] at HL
  have HF : Hid _ := below_then F1.out.1 K8.out.be
  clear b8 B8 K7 K8
  obtain ⟨PV, hPV⟩ : ∃ PV, PV = pdV (lH kL) zd := ⟨_, rfl⟩
  rw [← hPV] at st ⊢
  clear hPV
  go_wp2_with (refine wpList_skip rfl (exec_store rfl rfl rfl st) ?_)
  clear st
  refine (Calls.mono HL.out) ?_
  rintro e _ ⟨rfl, rfl⟩
  clear HL
  go_wp2
  go_ret
  exact ⟨by first | rfl | simp, HF.out⟩
end Go.Proofs.Ytfcaaljehhibgaa

/- pdu: taken; Same of nothing; Set of nil. -/
namespace Go.Proofs.Ytfcaaljehhibgaa
open Go.RowKit
set_option linter.unusedVariables false
set_option linter.unusedSimpArgs false
set_option maxRecDepth 8000

def iv32 (l : List Int) : List Value := l.map (Value.int .u32)
theorem iv32_at (l : List Int) (i : Nat) (h : i < l.length) : (iv32 l)[i]? = some (.int .u32 (l.getD i 0)) := by
  unfold iv32; rw [List.getElem?_map, List.getElem?_eq_getElem h, List.getD, List.getElem?_eq_getElem h]; rfl
theorem plain_u32 : Try.prog.plainKey 44 = true := by kernel_rfl
theorem cells_u32 : Try.prog.cellsOf 44 = 1 := by kernel_rfl
theorem eqItems_32 (a b : List Int) (w : World) : ∀ (L : List Nat), (∀ i ∈ L, i < a.length ∧ i < b.length) →
    (Op.eqItems 9999 44 1 (iv32 a).toArray (iv32 b).toArray L).run Try.prog w = .ok (L.all (fun i => decide (a.getD i 0 = b.getD i 0))) w
  | [], _ => rfl
  | i :: L, h => by
    obtain ⟨h1, h2⟩ := h i (by simp)
    have p1 : (part 44 (iv32 a).toArray (i * 1)).run Try.prog w = .ok (.int .u32 (a.getD i 0)) w := run_part_plain w plain_u32 (by rw [Nat.mul_one]; simpa using iv32_at a i h1)
    have p2 : (part 44 (iv32 b).toArray (i * 1)).run Try.prog w = .ok (.int .u32 (b.getD i 0)) w := run_part_plain w plain_u32 (by rw [Nat.mul_one]; simpa using iv32_at b i h2)
    have he := run_equalIn_int (P := Try.prog) w 9998 44 .u32 .u32 (a.getD i 0) (b.getD i 0) Try.underlying44
    have ih := eqItems_32 a b w L (fun j hj => h j (List.mem_cons_of_mem _ hj))
    simp only [Op.eqItems, Sem.run_bind, p1, p2, he, Result.andThen_ok, List.all_cons]
    generalize a.getD i 0 = x at *
    generalize b.getD i 0 = y at *
    by_cases e : x = y
    · simp [e, ih]
    · have : (x == y) = false := by simpa using e
      simp [this, e]
theorem equal_7 (a b : List Int) (ha : a.length = 7) (hb : b.length = 7) (w : World) :
    (Op.equalIn 10000 45 (.agg (iv32 a).toArray) (.agg (iv32 b).toArray)).run Try.prog w = .ok (decide (a = b)) w := by
  obtain ⟨i, hi, -⟩ := Option.map_eq_some_iff.1 sz_u32
  rw [run_equalIn_array w 9999 (e := 44) (n := 7) (i := i) _ _ und_a7 hi, cells_u32, eqItems_32 a b w (List.range 7) (fun i hi => by have := List.mem_range.1 hi; omega)]
  congr 1
  rw [Bool.eq_iff_iff, List.all_eq_true]
  simp only [decide_eq_true_eq, List.mem_range]
  refine ⟨fun h => List.ext_getElem (by omega) (fun i h1 h2 => ?_), fun h i _ => by rw [h]⟩
  have := h i (by omega)
  rw [List.getD, List.getD, List.getElem?_eq_getElem h1, List.getElem?_eq_getElem h2] at this
  simpa using this
theorem size_q : (Try.prog.info? 50).map (·.size) = some 15 := by kernel_rfl
set_option maxHeartbeats 4000000 in
theorem ptaken_any (op fl b2 b3 lun tk w0 w1 w2 w3 w4 w5 w6 : Int) (now : Bool) (dx : Option Addr) (dn dc : Nat) (w : World) :
    Calls Try.prog 17 #[.agg #[.int .i64 op, .bool now, .int .i64 fl, .int .i64 b2, .int .i64 b3, .int .u64 lun, .int .u32 tk, .int .u32 w0, .int .u32 w1, .int .u32 w2, .int .u32 w3, .int .u32 w4, .int .u32 w5, .int .u32 w6, .slice dx dn dc]] w fun e w' => e = .returned (.agg #[.int .i64 op, .bool now, .int .i64 fl, .int .i64 b2, .int .i64 b3, .int .u64 lun, .int .u32 tk, .int .u32 w0, .int .u32 w1, .int .u32 w2, .int .u32 w3, .int .u32 w4, .int .u32 w5, .int .u32 w6, .slice dx dn dc]) ∧ Below w.heap.size w w' := by
  have b0 : Below w.heap.size w (w.alloc (.cells #[.int .i64 op, .bool now, .int .i64 fl, .int .i64 b2, .int .i64 b3, .int .u64 lun, .int .u32 tk, .int .u32 w0, .int .u32 w1, .int .u32 w2, .int .u32 w3, .int .u32 w4, .int .u32 w5, .int .u32 w6, .slice dx dn dc] 47)) := (Below.refl _ _).alloc (Nat.le_refl _) _
  have N0 := Blk.new' w 47 [.int .i64 op, .bool now, .int .i64 fl, .int .i64 b2, .int .i64 b3, .int .u64 lun, .int .u32 tk, .int .u32 w0, .int .u32 w1, .int .u32 w2, .int .u32 w3, .int .u32 w4, .int .u32 w5, .int .u32 w6, .slice dx dn dc]
  have hz : (w.alloc (.cells #[.int .i64 op, .bool now, .int .i64 fl, .int .i64 b2, .int .i64 b3, .int .u64 lun, .int .u32 tk, .int .u32 w0, .int .u32 w1, .int .u32 w2, .int .u32 w3, .int .u32 w4, .int .u32 w5, .int .u32 w6, .slice dx dn dc] 47)).heap.size = w.heap.size + 1 := by simp
  have b1 : Below (w.alloc (.cells #[.int .i64 op, .bool now, .int .i64 fl, .int .i64 b2, .int .i64 b3, .int .u64 lun, .int .u32 tk, .int .u32 w0, .int .u32 w1, .int .u32 w2, .int .u32 w3, .int .u32 w4, .int .u32 w5, .int .u32 w6, .slice dx dn dc] 47)).heap.size (w.alloc (.cells #[.int .i64 op, .bool now, .int .i64 fl, .int .i64 b2, .int .i64 b3, .int .u64 lun, .int .u32 tk, .int .u32 w0, .int .u32 w1, .int .u32 w2, .int .u32 w3, .int .u32 w4, .int .u32 w5, .int .u32 w6, .slice dx dn dc] 47)) ((w.alloc (.cells #[.int .i64 op, .bool now, .int .i64 fl, .int .i64 b2, .int .i64 b3, .int .u64 lun, .int .u32 tk, .int .u32 w0, .int .u32 w1, .int .u32 w2, .int .u32 w3, .int .u32 w4, .int .u32 w5, .int .u32 w6, .slice dx dn dc] 47)).alloc (.cells #[.int .i64 0, .bool false, .int .i64 0, .int .i64 0, .int .i64 0, .int .u64 0, .int .u32 0, .int .u32 0, .int .u32 0, .int .u32 0, .int .u32 0, .int .u32 0, .int .u32 0, .int .u32 0, .slice none 0 0] 50)) := (Below.refl _ _).alloc (Nat.le_refl _) _
  have N1 := Blk.new' (w.alloc (.cells #[.int .i64 op, .bool now, .int .i64 fl, .int .i64 b2, .int .i64 b3, .int .u64 lun, .int .u32 tk, .int .u32 w0, .int .u32 w1, .int .u32 w2, .int .u32 w3, .int .u32 w4, .int .u32 w5, .int .u32 w6, .slice dx dn dc] 47)) 50 [.int .i64 0, .bool false, .int .i64 0, .int .i64 0, .int .i64 0, .int .u64 0, .int .u32 0, .int .u32 0, .int .u32 0, .int .u32 0, .int .u32 0, .int .u32 0, .int .u32 0, .int .u32 0, .slice none 0 0]
  rw [hz] at N1
  have N0 := N0.laterB b1
  have bb := below_then b0 b1
  have lm : (Instr.loadAt 45 (.pointer (some ⟨w.heap.size, 7, none⟩))).run Try.prog ((w.alloc (.cells #[.int .i64 op, .bool now, .int .i64 fl, .int .i64 b2, .int .i64 b3, .int .u64 lun, .int .u32 tk, .int .u32 w0, .int .u32 w1, .int .u32 w2, .int .u32 w3, .int .u32 w4, .int .u32 w5, .int .u32 w6, .slice dx dn dc] 47)).alloc (.cells #[.int .i64 0, .bool false, .int .i64 0, .int .i64 0, .int .i64 0, .int .u64 0, .int .u32 0, .int .u32 0, .int .u32 0, .int .u32 0, .int .u32 0, .int .u32 0, .int .u32 0, .int .u32 0, .slice none 0 0] 50)) = .ok (.agg #[.int .u32 w0, .int .u32 w1, .int .u32 w2, .int .u32 w3, .int .u32 w4, .int .u32 w5, .int .u32 w6]) ((w.alloc (.cells #[.int .i64 op, .bool now, .int .i64 fl, .int .i64 b2, .int .i64 b3, .int .u64 lun, .int .u32 tk, .int .u32 w0, .int .u32 w1, .int .u32 w2, .int .u32 w3, .int .u32 w4, .int .u32 w5, .int .u32 w6, .slice dx dn dc] 47)).alloc (.cells #[.int .i64 0, .bool false, .int .i64 0, .int .i64 0, .int .i64 0, .int .u64 0, .int .u32 0, .int .u32 0, .int .u32 0, .int .u32 0, .int .u32 0, .int .u32 0, .int .u32 0, .int .u32 0, .slice none 0 0] 50)) := load_mid (T := 45) (xs := [.int .u32 w0, .int .u32 w1, .int .u32 w2, .int .u32 w3, .int .u32 w4, .int .u32 w5, .int .u32 w6]) sz_a7 agg_a7 [.int .i64 op, .bool now, .int .i64 fl, .int .i64 b2, .int .i64 b3, .int .u64 lun, .int .u32 tk] (ys := [.slice dx dn dc]) N0
  have y0 := blk_at N0 0
  have y1 := blk_at N0 1
  have y2 := blk_at N0 2
  have y3 := blk_at N0 3
  have y4 := blk_at N0 4
  have y5 := blk_at N0 5
  have y6 := blk_at N0 6
  have y14 := blk_at N0 14
  simp only [List.getElem?_cons_zero, List.getElem?_cons_succ] at y0 y1 y2 y3 y4 y5 y6 y14
  have st := store_all (T := 50) (vs := [.int .i64 op, .bool now, .int .i64 fl, .int .i64 b2, .int .i64 b3, .int .u64 lun, .int .u32 tk, .int .u32 w0, .int .u32 w1, .int .u32 w2, .int .u32 w3, .int .u32 w4, .int .u32 w5, .int .u32 w6, .slice dx dn dc]) size_q N1 rfl (fun u hu => by simp at hu; rcases hu with rfl | rfl | rfl | rfl | rfl | rfl | rfl | rfl | rfl | rfl | rfl | rfl | rfl | rfl | rfl <;> rfl)
  obtain ⟨B9, g9⟩ := N1.whole (vs := [.int .i64 op, .bool now, .int .i64 fl, .int .i64 b2, .int .i64 b3, .int .u64 lun, .int .u32 tk, .int .u32 w0, .int .u32 w1, .int .u32 w2, .int .u32 w3, .int .u32 w4, .int .u32 w5, .int .u32 w6, .slice dx dn dc]) rfl
  have bw := bb.trans ((turned_grown (R := fun k => k = w.heap.size + 1) g9 (fun k hk => by cases hk; rfl)).below _ bb.size (fun k e => by omega))
  obtain ⟨w9, hw9⟩ : ∃ w9, w9 = ((w.alloc (.cells #[.int .i64 op, .bool now, .int .i64 fl, .int .i64 b2, .int .i64 b3, .int .u64 lun, .int .u32 tk, .int .u32 w0, .int .u32 w1, .int .u32 w2, .int .u32 w3, .int .u32 w4, .int .u32 w5, .int .u32 w6, .slice dx dn dc] 47)).alloc (.cells #[.int .i64 0, .bool false, .int .i64 0, .int .i64 0, .int .i64 0, .int .u64 0, .int .u32 0, .int .u32 0, .int .u32 0, .int .u32 0, .int .u32 0, .int .u32 0, .int .u32 0, .int .u32 0, .slice none 0 0] 50)).setCells (w.heap.size + 1) 0 [.int .i64 op, .bool now, .int .i64 fl, .int .i64 b2, .int .i64 b3, .int .u64 lun, .int .u32 tk, .int .u32 w0, .int .u32 w1, .int .u32 w2, .int .u32 w3, .int .u32 w4, .int .u32 w5, .int .u32 w6, .slice dx dn dc] := ⟨_, rfl⟩
  rw [← hw9] at st B9 bw
  have G : Hid _ := And.intro B9 bw
  clear hw9 g9 B9 bw bb N0 N1 b0 b1 hz
  go_enter Try.func17, Try.ntmps17
  go_wp2_with (first | (refine wpList_value rfl (exec_load rfl rfl lm) ?_) | (refine wpList_skip rfl (exec_store rfl rfl rfl st) ?_))
  clear lm st y0 y1 y2 y3 y4 y5 y6 y14
  have y0 := blk_at G.out.1 0
  have y1 := blk_at G.out.1 1
  have y2 := blk_at G.out.1 2
  have y3 := blk_at G.out.1 3
  have y4 := blk_at G.out.1 4
  have y5 := blk_at G.out.1 5
  have y6 := blk_at G.out.1 6
  have y7 := blk_at G.out.1 7
  have y8 := blk_at G.out.1 8
  have y9 := blk_at G.out.1 9
  have y10 := blk_at G.out.1 10
  have y11 := blk_at G.out.1 11
  have y12 := blk_at G.out.1 12
  have y13 := blk_at G.out.1 13
  have y14 := blk_at G.out.1 14
  simp only [List.getElem?_cons_zero, List.getElem?_cons_succ] at y0 y1 y2 y3 y4 y5 y6 y7 y8 y9 y10 y11 y12 y13 y14
  refine bodyPost_ret (v := .agg #[.int .i64 op, .bool now, .int .i64 fl, .int .i64 b2, .int .i64 b3, .int .u64 lun, .int .u32 tk, .int .u32 w0, .int .u32 w1, .int .u32 w2, .int .u32 w3, .int .u32 w4, .int .u32 w5, .int .u32 w6, .slice dx dn dc]) (by simp [results, Try.results17, go_sem, y0, y1, y2, y3, y4, y5, y6, y7, y8, y9, y10, y11, y12, y13, y14]) rfl ?_
  exact ⟨rfl, G.out.2⟩
set_option maxHeartbeats 4000000 in
theorem pSame_zero (w : World) :
    Calls Try.prog 16 #[.agg #[.int .i64 0, .bool false, .int .i64 0, .int .i64 0, .int .i64 0, .int .u64 0, .int .u32 0, .int .u32 0, .int .u32 0, .int .u32 0, .int .u32 0, .int .u32 0, .int .u32 0, .int .u32 0, .slice none 0 0], .agg #[.int .i64 0, .bool false, .int .i64 0, .int .i64 0, .int .i64 0, .int .u64 0, .int .u32 0, .int .u32 0, .int .u32 0, .int .u32 0, .int .u32 0, .int .u32 0, .int .u32 0, .int .u32 0, .slice none 0 0]] w fun e w' => e = .returned (.bool true) ∧ Below w.heap.size w w' := by
  have b0 : Below w.heap.size w (w.alloc (.cells #[.int .i64 0, .bool false, .int .i64 0, .int .i64 0, .int .i64 0, .int .u64 0, .int .u32 0, .int .u32 0, .int .u32 0, .int .u32 0, .int .u32 0, .int .u32 0, .int .u32 0, .int .u32 0, .slice none 0 0] 50)) := (Below.refl _ _).alloc (Nat.le_refl _) _
  have N0 := Blk.new' w 50 [.int .i64 0, .bool false, .int .i64 0, .int .i64 0, .int .i64 0, .int .u64 0, .int .u32 0, .int .u32 0, .int .u32 0, .int .u32 0, .int .u32 0, .int .u32 0, .int .u32 0, .int .u32 0, .slice none 0 0]
  have hz : (w.alloc (.cells #[.int .i64 0, .bool false, .int .i64 0, .int .i64 0, .int .i64 0, .int .u64 0, .int .u32 0, .int .u32 0, .int .u32 0, .int .u32 0, .int .u32 0, .int .u32 0, .int .u32 0, .int .u32 0, .slice none 0 0] 50)).heap.size = w.heap.size + 1 := by simp
  have b1 : Below (w.alloc (.cells #[.int .i64 0, .bool false, .int .i64 0, .int .i64 0, .int .i64 0, .int .u64 0, .int .u32 0, .int .u32 0, .int .u32 0, .int .u32 0, .int .u32 0, .int .u32 0, .int .u32 0, .int .u32 0, .slice none 0 0] 50)).heap.size (w.alloc (.cells #[.int .i64 0, .bool false, .int .i64 0, .int .i64 0, .int .i64 0, .int .u64 0, .int .u32 0, .int .u32 0, .int .u32 0, .int .u32 0, .int .u32 0, .int .u32 0, .int .u32 0, .int .u32 0, .slice none 0 0] 50)) ((w.alloc (.cells #[.int .i64 0, .bool false, .int .i64 0, .int .i64 0, .int .i64 0, .int .u64 0, .int .u32 0, .int .u32 0, .int .u32 0, .int .u32 0, .int .u32 0, .int .u32 0, .int .u32 0, .int .u32 0, .slice none 0 0] 50)).alloc (.cells #[.int .i64 0, .bool false, .int .i64 0, .int .i64 0, .int .i64 0, .int .u64 0, .int .u32 0, .int .u32 0, .int .u32 0, .int .u32 0, .int .u32 0, .int .u32 0, .int .u32 0, .int .u32 0, .slice none 0 0] 50)) := (Below.refl _ _).alloc (Nat.le_refl _) _
  have N1 := Blk.new' (w.alloc (.cells #[.int .i64 0, .bool false, .int .i64 0, .int .i64 0, .int .i64 0, .int .u64 0, .int .u32 0, .int .u32 0, .int .u32 0, .int .u32 0, .int .u32 0, .int .u32 0, .int .u32 0, .int .u32 0, .slice none 0 0] 50)) 50 [.int .i64 0, .bool false, .int .i64 0, .int .i64 0, .int .i64 0, .int .u64 0, .int .u32 0, .int .u32 0, .int .u32 0, .int .u32 0, .int .u32 0, .int .u32 0, .int .u32 0, .int .u32 0, .slice none 0 0]
  rw [hz] at N1
  have N0 := N0.laterB b1
  have bb := below_then b0 b1
  have y0 := blk_at N0 0
  have y1 := blk_at N0 1
  have y2 := blk_at N0 2
  have y3 := blk_at N0 3
  have y4 := blk_at N0 4
  have y5 := blk_at N0 5
  have y6 := blk_at N0 6
  have y7 := blk_at N0 7
  have y8 := blk_at N0 8
  have y9 := blk_at N0 9
  have y10 := blk_at N0 10
  have y11 := blk_at N0 11
  have y12 := blk_at N0 12
  have y13 := blk_at N0 13
  have y14 := blk_at N0 14
  have z0 := blk_at N1 0
  have z1 := blk_at N1 1
  have z2 := blk_at N1 2
  have z3 := blk_at N1 3
  have z4 := blk_at N1 4
  have z5 := blk_at N1 5
  have z6 := blk_at N1 6
  have z7 := blk_at N1 7
  have z8 := blk_at N1 8
  have z9 := blk_at N1 9
  have z10 := blk_at N1 10
  have z11 := blk_at N1 11
  have z12 := blk_at N1 12
  have z13 := blk_at N1 13
  have z14 := blk_at N1 14
  simp only [List.getElem?_cons_zero, List.getElem?_cons_succ] at y0 z0 y1 z1 y2 z2 y3 z3 y4 z4 y5 z5 y6 z6 y7 z7 y8 z8 y9 z9 y10 z10 y11 z11 y12 z12 y13 z13 y14 z14
  have cs := Row.str (w := ((w.alloc (.cells #[.int .i64 0, .bool false, .int .i64 0, .int .i64 0, .int .i64 0, .int .u64 0, .int .u32 0, .int .u32 0, .int .u32 0, .int .u32 0, .int .u32 0, .int .u32 0, .int .u32 0, .int .u32 0, .slice none 0 0] 50)).alloc (.cells #[.int .i64 0, .bool false, .int .i64 0, .int .i64 0, .int .i64 0, .int .u64 0, .int .u32 0, .int .u32 0, .int .u32 0, .int .u32 0, .int .u32 0, .int .u32 0, .int .u32 0, .int .u32 0, .slice none 0 0] 50))) (a := none) (l := []) (.inl rfl) 0 0 rfl
  have F : Hid _ := bb
  clear bb N0 N1 b0 b1 hz
  have eq7 := equal_7 [0, 0, 0, 0, 0, 0, 0] [0, 0, 0, 0, 0, 0, 0] rfl rfl ((w.alloc (.cells #[.int .i64 0, .bool false, .int .i64 0, .int .i64 0, .int .i64 0, .int .u64 0, .int .u32 0, .int .u32 0, .int .u32 0, .int .u32 0, .int .u32 0, .int .u32 0, .int .u32 0, .int .u32 0, .slice none 0 0] 50)).alloc (.cells #[.int .i64 0, .bool false, .int .i64 0, .int .i64 0, .int .i64 0, .int .u64 0, .int .u32 0, .int .u32 0, .int .u32 0, .int .u32 0, .int .u32 0, .int .u32 0, .int .u32 0, .int .u32 0, .slice none 0 0] 50))
  rw [decide_eq_true rfl] at eq7
  simp only [iv32, List.map] at eq7
  go_enter Try.func16, Try.ntmps16
  go_wp2
  go_ret
  exact ⟨by first | rfl | simp, F.out⟩
set_option maxHeartbeats 4000000 in
theorem pSet_nil (hs ds : Bool) (mo : Int) (w : World) :
    Calls Try.prog 18 #[.pointer none, .agg #[.bool hs, .bool ds, .int .i64 mo]] w fun e w' => e = .returned (.int .i64 2) ∧ Below w.heap.size w w' := by
  have F : Hid (Below w.heap.size w (w.alloc (.cells #[.bool hs, .bool ds, .int .i64 mo] 29))) := (Below.refl _ _).alloc (Nat.le_refl _) _
  go_enter Try.func18, Try.ntmps18
  go_wp2
  go_ret
  exact ⟨by first | rfl | simp, F.out⟩

end Go.Proofs.Ytfcaaljehhibgaa

/- caissonlaw17: given, opts. -/
namespace Go.Proofs.Ytfcaaljehhibgaa
open Go.RowKit
set_option linter.unusedVariables false
set_option linter.unusedSimpArgs false
set_option maxRecDepth 8000

set_option maxHeartbeats 4000000 in
theorem popts_any (hs ds : Bool) (mo : Int) (w : World) :
    Calls Try.prog 6 #[.agg #[.bool hs, .bool ds, .int .i64 mo]] w fun e w' => e = .returned (.agg #[.bool hs, .bool ds, .int .i64 mo]) ∧ Below w.heap.size w w' := by
  have b0 : Below w.heap.size w (w.alloc (.cells #[.bool hs, .bool ds, .int .i64 mo] 23)) := (Below.refl _ _).alloc (Nat.le_refl _) _
  have N0 := Blk.new' w 23 [.bool hs, .bool ds, .int .i64 mo]
  have hz : (w.alloc (.cells #[.bool hs, .bool ds, .int .i64 mo] 23)).heap.size = w.heap.size + 1 := by simp
  have b1 : Below (w.alloc (.cells #[.bool hs, .bool ds, .int .i64 mo] 23)).heap.size (w.alloc (.cells #[.bool hs, .bool ds, .int .i64 mo] 23)) ((w.alloc (.cells #[.bool hs, .bool ds, .int .i64 mo] 23)).alloc (.cells #[.bool false, .bool false, .int .i64 0] 29)) := (Below.refl _ _).alloc (Nat.le_refl _) _
  have N1 := Blk.new' (w.alloc (.cells #[.bool hs, .bool ds, .int .i64 mo] 23)) 29 [.bool false, .bool false, .int .i64 0]
  rw [hz] at N1
  have N0 := N0.laterB b1
  have bb := below_then b0 b1
  have y0 := blk_at N0 0
  have y1 := blk_at N0 1
  have y2 := blk_at N0 2
  simp only [List.getElem?_cons_zero, List.getElem?_cons_succ] at y0 y1 y2
  have st := store_all (T := 29) (vs := [.bool hs, .bool ds, .int .i64 mo]) size_op N1 rfl (fun u hu => by simp at hu; rcases hu with rfl | rfl | rfl <;> rfl)
  obtain ⟨B9, g9⟩ := N1.whole (vs := [.bool hs, .bool ds, .int .i64 mo]) rfl
  have bw := bb.trans ((turned_grown (R := fun k => k = w.heap.size + 1) g9 (fun k hk => by cases hk; rfl)).below _ bb.size (fun k e => by omega))
  obtain ⟨w9, hw9⟩ : ∃ w9, w9 = ((w.alloc (.cells #[.bool hs, .bool ds, .int .i64 mo] 23)).alloc (.cells #[.bool false, .bool false, .int .i64 0] 29)).setCells (w.heap.size + 1) 0 [.bool hs, .bool ds, .int .i64 mo] := ⟨_, rfl⟩
  rw [← hw9] at st B9 bw
  have G : Hid _ := And.intro B9 bw
  clear hw9 g9 B9 bw bb N0 N1 b0 b1 hz
  go_enter Try.func6, Try.ntmps6
  go_wp2_with (refine wpList_skip rfl (exec_store rfl rfl rfl st) ?_)
  clear st y0 y1 y2
  have y0 := blk_at G.out.1 0
  have y1 := blk_at G.out.1 1
  have y2 := blk_at G.out.1 2
  simp only [List.getElem?_cons_zero, List.getElem?_cons_succ] at y0 y1 y2
  refine bodyPost_ret (v := .agg #[.bool hs, .bool ds, .int .i64 mo]) (by simp [results, Try.results6, go_sem, y0, y1, y2]) rfl ?_
  exact ⟨rfl, G.out.2⟩
set_option maxHeartbeats 4000000 in
theorem pgiven_any (op fl b2 b3 lun tk w0 w1 w2 w3 w4 w5 w6 : Int) (now : Bool) (dx : Option Addr) (dn dc : Nat) (d : List (BitVec 8)) (w : World) (hdl : d.length = dn) (hdc : dn ≤ dc) (hdn : dx = none → dc = 0) (hdm : dn ≤ 140737488351232) (hdr : Row w dx d) :
    Calls Try.prog 22 #[.agg #[.int .i64 op, .bool now, .int .i64 fl, .int .i64 b2, .int .i64 b3, .int .u64 lun, .int .u32 tk, .int .u32 w0, .int .u32 w1, .int .u32 w2, .int .u32 w3, .int .u32 w4, .int .u32 w5, .int .u32 w6, .slice dx dn dc]] w fun e w' => ∃ zx zc, e = .returned (.agg #[.int .i64 op, .bool now, .int .i64 fl, .int .i64 b2, .int .i64 b3, .int .u64 lun, .int .u32 tk, .int .u32 w0, .int .u32 w1, .int .u32 w2, .int .u32 w3, .int .u32 w4, .int .u32 w5, .int .u32 w6, .slice zx dn zc]) ∧ Own w' w.heap.size (.slice zx dn zc) d ∧ Below w.heap.size w w' := by
  have b0 : Below w.heap.size w (w.alloc (.cells #[.int .i64 op, .bool now, .int .i64 fl, .int .i64 b2, .int .i64 b3, .int .u64 lun, .int .u32 tk, .int .u32 w0, .int .u32 w1, .int .u32 w2, .int .u32 w3, .int .u32 w4, .int .u32 w5, .int .u32 w6, .slice dx dn dc] 50)) := (Below.refl _ _).alloc (Nat.le_refl _) _
  have N0 := Blk.new' w 50 [.int .i64 op, .bool now, .int .i64 fl, .int .i64 b2, .int .i64 b3, .int .u64 lun, .int .u32 tk, .int .u32 w0, .int .u32 w1, .int .u32 w2, .int .u32 w3, .int .u32 w4, .int .u32 w5, .int .u32 w6, .slice dx dn dc]
  have hz : (w.alloc (.cells #[.int .i64 op, .bool now, .int .i64 fl, .int .i64 b2, .int .i64 b3, .int .u64 lun, .int .u32 tk, .int .u32 w0, .int .u32 w1, .int .u32 w2, .int .u32 w3, .int .u32 w4, .int .u32 w5, .int .u32 w6, .slice dx dn dc] 50)).heap.size = w.heap.size + 1 := by simp
  have b1 : Below (w.alloc (.cells #[.int .i64 op, .bool now, .int .i64 fl, .int .i64 b2, .int .i64 b3, .int .u64 lun, .int .u32 tk, .int .u32 w0, .int .u32 w1, .int .u32 w2, .int .u32 w3, .int .u32 w4, .int .u32 w5, .int .u32 w6, .slice dx dn dc] 50)).heap.size (w.alloc (.cells #[.int .i64 op, .bool now, .int .i64 fl, .int .i64 b2, .int .i64 b3, .int .u64 lun, .int .u32 tk, .int .u32 w0, .int .u32 w1, .int .u32 w2, .int .u32 w3, .int .u32 w4, .int .u32 w5, .int .u32 w6, .slice dx dn dc] 50)) ((w.alloc (.cells #[.int .i64 op, .bool now, .int .i64 fl, .int .i64 b2, .int .i64 b3, .int .u64 lun, .int .u32 tk, .int .u32 w0, .int .u32 w1, .int .u32 w2, .int .u32 w3, .int .u32 w4, .int .u32 w5, .int .u32 w6, .slice dx dn dc] 50)).alloc (.cells #[.int .i64 0, .bool false, .int .i64 0, .int .i64 0, .int .i64 0, .int .u64 0, .int .u32 0, .int .u32 0, .int .u32 0, .int .u32 0, .int .u32 0, .int .u32 0, .int .u32 0, .int .u32 0, .slice none 0 0] 47)) := (Below.refl _ _).alloc (Nat.le_refl _) _
  have N1 := Blk.new' (w.alloc (.cells #[.int .i64 op, .bool now, .int .i64 fl, .int .i64 b2, .int .i64 b3, .int .u64 lun, .int .u32 tk, .int .u32 w0, .int .u32 w1, .int .u32 w2, .int .u32 w3, .int .u32 w4, .int .u32 w5, .int .u32 w6, .slice dx dn dc] 50)) 47 [.int .i64 0, .bool false, .int .i64 0, .int .i64 0, .int .i64 0, .int .u64 0, .int .u32 0, .int .u32 0, .int .u32 0, .int .u32 0, .int .u32 0, .int .u32 0, .int .u32 0, .int .u32 0, .slice none 0 0]
  rw [hz] at N1
  have N0 := N0.laterB b1
  have bb := below_then b0 b1
  have hz2 : ((w.alloc (.cells #[.int .i64 op, .bool now, .int .i64 fl, .int .i64 b2, .int .i64 b3, .int .u64 lun, .int .u32 tk, .int .u32 w0, .int .u32 w1, .int .u32 w2, .int .u32 w3, .int .u32 w4, .int .u32 w5, .int .u32 w6, .slice dx dn dc] 50)).alloc (.cells #[.int .i64 0, .bool false, .int .i64 0, .int .i64 0, .int .i64 0, .int .u64 0, .int .u32 0, .int .u32 0, .int .u32 0, .int .u32 0, .int .u32 0, .int .u32 0, .int .u32 0, .int .u32 0, .slice none 0 0] 47)).heap.size = w.heap.size + 2 := by simp
  have lm : (Instr.loadAt 45 (.pointer (some ⟨w.heap.size, 7, none⟩))).run Try.prog ((w.alloc (.cells #[.int .i64 op, .bool now, .int .i64 fl, .int .i64 b2, .int .i64 b3, .int .u64 lun, .int .u32 tk, .int .u32 w0, .int .u32 w1, .int .u32 w2, .int .u32 w3, .int .u32 w4, .int .u32 w5, .int .u32 w6, .slice dx dn dc] 50)).alloc (.cells #[.int .i64 0, .bool false, .int .i64 0, .int .i64 0, .int .i64 0, .int .u64 0, .int .u32 0, .int .u32 0, .int .u32 0, .int .u32 0, .int .u32 0, .int .u32 0, .int .u32 0, .int .u32 0, .slice none 0 0] 47)) = .ok (.agg #[.int .u32 w0, .int .u32 w1, .int .u32 w2, .int .u32 w3, .int .u32 w4, .int .u32 w5, .int .u32 w6]) ((w.alloc (.cells #[.int .i64 op, .bool now, .int .i64 fl, .int .i64 b2, .int .i64 b3, .int .u64 lun, .int .u32 tk, .int .u32 w0, .int .u32 w1, .int .u32 w2, .int .u32 w3, .int .u32 w4, .int .u32 w5, .int .u32 w6, .slice dx dn dc] 50)).alloc (.cells #[.int .i64 0, .bool false, .int .i64 0, .int .i64 0, .int .i64 0, .int .u64 0, .int .u32 0, .int .u32 0, .int .u32 0, .int .u32 0, .int .u32 0, .int .u32 0, .int .u32 0, .int .u32 0, .slice none 0 0] 47)) := load_mid (T := 45) (xs := [.int .u32 w0, .int .u32 w1, .int .u32 w2, .int .u32 w3, .int .u32 w4, .int .u32 w5, .int .u32 w6]) sz_a7 agg_a7 [.int .i64 op, .bool now, .int .i64 fl, .int .i64 b2, .int .i64 b3, .int .u64 lun, .int .u32 tk] (ys := [.slice dx dn dc]) N0
  have y0 := blk_at N0 0
  have y1 := blk_at N0 1
  have y2 := blk_at N0 2
  have y3 := blk_at N0 3
  have y4 := blk_at N0 4
  have y5 := blk_at N0 5
  have y6 := blk_at N0 6
  simp only [List.getElem?_cons_zero, List.getElem?_cons_succ] at y0 y1 y2 y3 y4 y5 y6
  obtain ⟨u2, st, B2, b2'⟩ := newP ((w.alloc (.cells #[.int .i64 op, .bool now, .int .i64 fl, .int .i64 b2, .int .i64 b3, .int .u64 lun, .int .u32 tk, .int .u32 w0, .int .u32 w1, .int .u32 w2, .int .u32 w3, .int .u32 w4, .int .u32 w5, .int .u32 w6, .slice dx dn dc] 50)).alloc (.cells #[.int .i64 0, .bool false, .int .i64 0, .int .i64 0, .int .i64 0, .int .u64 0, .int .u32 0, .int .u32 0, .int .u32 0, .int .u32 0, .int .u32 0, .int .u32 0, .int .u32 0, .int .u32 0, .slice none 0 0] 47)) [.int .i64 op, .bool now, .int .i64 fl, .int .i64 b2, .int .i64 b3, .int .u64 lun, .int .u32 tk, .int .u32 w0, .int .u32 w1, .int .u32 w2, .int .u32 w3, .int .u32 w4, .int .u32 w5, .int .u32 w6, .slice none 0 0] rfl (fun u hu => by simp at hu; rcases hu with rfl | rfl | rfl | rfl | rfl | rfl | rfl | rfl | rfl | rfl | rfl | rfl | rfl | rfl | rfl <;> rfl)
  rw [hz2] at st B2
  have N0 := N0.laterB b2'
  have N1 := N1.laterB b2'
  have bb := below_then bb b2'
  have z8 := blk_at B2 14
  have f8 := blk_frozen B2 14
  have q8 := blk_at N0 14
  simp only [List.getElem?_cons_zero, List.getElem?_cons_succ] at z8 q8
  have X : Hid _ := And.intro bb (And.intro N0 (And.intro N1 B2))
  have HR : Hid _ := And.intro (hdr.later bb) trivial
  clear bb N0 N1 B2 b2' b0 b1 hz hdr
  go_enter Try.func22, Try.ntmps22
  go_wp2_with (first | (refine wpList_value rfl (exec_load rfl rfl lm) ?_) | (refine wpList_skip rfl (exec_store rfl rfl rfl st) ?_) | (at_builtin; refine wpList_append_bytes u2 rfl _ _ rfl (w.heap.size + 3) (.slice none 0 0) [] rfl (Own.nil _ _) dx dn dc d rfl hdl HR.out.1 hdn hdc (by simp; omega) (by have := X.out.2.2.2.lt; omega) ?_))
  clear lm st y0 y1 y2 y3 y4 y5 y6 z8 f8 q8
  intro v' u3 ov hg
  have bk : Below u2.heap.size u2 u3 := ⟨hg.os, hg.tape, hg.output, hg.size, fun k hk => hg.block k hk (by intro e; cases e)⟩
  obtain ⟨zx, zc, hv, -⟩ := ov.open
  subst hv
  rw [hdl]
  have B3 := X.out.2.2.2.laterB bk
  have c14 := blk_at B3 14
  have f14 := blk_frozen B3 14
  simp only [List.getElem?_cons_zero, List.getElem?_cons_succ] at c14
  have B4 := B3.set 14 (.slice zx dn zc)
  simp only [List.set_cons_zero, List.set_cons_succ] at B4
  have t4 := turned_set u3 (w.heap.size + 2) 14 (.slice zx dn zc)
  have N4 := (X.out.2.2.1.laterB bk).turned t4 (by omega)
  have bz := below_then X.out.1 bk
  have bb4 := bz.trans (t4.below _ bz.size (fun k e => by omega))
  rw [hdl] at ov
  have O4 := ov.same (fun k hk => t4.block k (World.ownsRow.lt ov k hk).2 (by have := (World.ownsRow.lt ov k hk).1; omega))
  have ld := load_all size_pd agg_pd B4
  have st := store_all (T := 47) (vs := [.int .i64 op, .bool now, .int .i64 fl, .int .i64 b2, .int .i64 b3, .int .u64 lun, .int .u32 tk, .int .u32 w0, .int .u32 w1, .int .u32 w2, .int .u32 w3, .int .u32 w4, .int .u32 w5, .int .u32 w6, .slice zx dn zc]) size_pd N4 rfl (fun u hu => by simp at hu; rcases hu with rfl | rfl | rfl | rfl | rfl | rfl | rfl | rfl | rfl | rfl | rfl | rfl | rfl | rfl | rfl <;> rfl)
  obtain ⟨B9, g9⟩ := N4.whole (vs := [.int .i64 op, .bool now, .int .i64 fl, .int .i64 b2, .int .i64 b3, .int .u64 lun, .int .u32 tk, .int .u32 w0, .int .u32 w1, .int .u32 w2, .int .u32 w3, .int .u32 w4, .int .u32 w5, .int .u32 w6, .slice zx dn zc]) rfl
  have t9 := turned_grown (R := fun k => k = w.heap.size + 1) g9 (fun k hk => by cases hk; rfl)
  have bb9 := bb4.trans (t9.below _ bb4.size (fun k e => by omega))
  have O9 := O4.same (fun k hk => t9.block k (World.ownsRow.lt O4 k hk).2 (by have := (World.ownsRow.lt O4 k hk).1; omega))
  obtain ⟨w9, hw9⟩ : ∃ w9, w9 = (u3.setCell ⟨w.heap.size + 2, 14, none⟩ (.slice zx dn zc)).setCells (w.heap.size + 1) 0 [.int .i64 op, .bool now, .int .i64 fl, .int .i64 b2, .int .i64 b3, .int .u64 lun, .int .u32 tk, .int .u32 w0, .int .u32 w1, .int .u32 w2, .int .u32 w3, .int .u32 w4, .int .u32 w5, .int .u32 w6, .slice zx dn zc] := ⟨_, rfl⟩
  rw [← hw9] at st B9 bb9 O9
  have G : Hid _ := And.intro B9 (And.intro bb9 O9)
  clear hw9 g9 t9 B9 bb9 O9 O4 bb4 bz N4 t4 B4 B3 ov bk hg X HR
  go_wp2_with (first | (refine wpList_value rfl (exec_load rfl rfl ld) ?_) | (refine wpList_skip rfl (exec_store rfl rfl rfl st) ?_))
  clear ld st c14 f14
  have y0 := blk_at G.out.1 0
  have y1 := blk_at G.out.1 1
  have y2 := blk_at G.out.1 2
  have y3 := blk_at G.out.1 3
  have y4 := blk_at G.out.1 4
  have y5 := blk_at G.out.1 5
  have y6 := blk_at G.out.1 6
  have y7 := blk_at G.out.1 7
  have y8 := blk_at G.out.1 8
  have y9 := blk_at G.out.1 9
  have y10 := blk_at G.out.1 10
  have y11 := blk_at G.out.1 11
  have y12 := blk_at G.out.1 12
  have y13 := blk_at G.out.1 13
  have y14 := blk_at G.out.1 14
  simp only [List.getElem?_cons_zero, List.getElem?_cons_succ] at y0 y1 y2 y3 y4 y5 y6 y7 y8 y9 y10 y11 y12 y13 y14
  refine bodyPost_ret (v := .agg #[.int .i64 op, .bool now, .int .i64 fl, .int .i64 b2, .int .i64 b3, .int .u64 lun, .int .u32 tk, .int .u32 w0, .int .u32 w1, .int .u32 w2, .int .u32 w3, .int .u32 w4, .int .u32 w5, .int .u32 w6, .slice zx dn zc]) (by simp [results, Try.results22, go_sem, y0, y1, y2, y3, y4, y5, y6, y7, y8, y9, y10, y11, y12, y13, y14]) rfl ?_
  exact ⟨zx, zc, rfl, G.out.2.2.lower (by omega), G.out.2.1⟩
end Go.Proofs.Ytfcaaljehhibgaa
