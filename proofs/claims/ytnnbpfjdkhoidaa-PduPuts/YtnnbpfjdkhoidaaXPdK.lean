/- pdu: what must come of fixed calls. -/
import Derived.Test.YtnnbpfjdkhoidaaXPd7
import Derived.Test.YtnnbpfjdkhoidaaXPd9a
namespace Go.Proofs.Ytnnbpfjdkhoidaa
open Go.RowKit
set_option linter.unusedVariables false
set_option linter.unusedSimpArgs false
set_option maxRecDepth 8000

/-- the fixed letter's bytes -/
def kB : List (BitVec 8) := putB false false (pdH 0 true 0 0 0 0 0 5 0 0 0 0 0 0 0) []
def kL : List (BitVec 8) := [0x40#8] ++ List.replicate 18 0#8 ++ [5#8] ++ List.replicate 28 0#8
theorem kB_eq : kB = kL := by decide +kernel
theorem kw_20 : wkM false false 100 (kL.take 20) = (0, false) := by decide +kernel
theorem kw_48 : wkM false false 100 kL = (0, true) := by decide +kernel
theorem kh_now : pNow (lH kL) = true := by decide +kernel
theorem kh_task : nb (lH kL) 16 4 = 5 := by decide +kernel
theorem kh_tot : hN false + bodyN (cnt (lH kL)) + dN false kL = 48 := by decide +kernel
theorem newP (x : World) (vs : List Value) (hv : vs.length = 15) (h1 : ∀ u ∈ vs, u.oneCell' = true) : ∃ x', (Instr.storeAt 33 (.pointer (some ⟨x.heap.size, 0, none⟩)) (.agg vs.toArray)).run Try.prog (x.alloc (.cells #[.int .i64 0, .bool false, .int .i64 0, .int .i64 0, .int .i64 0, .int .u64 0, .int .u32 0, .int .u32 0, .int .u32 0, .int .u32 0, .int .u32 0, .int .u32 0, .int .u32 0, .int .u32 0, .slice none 0 0] 33)) = .ok () x' ∧ Blk x' x.heap.size 33 vs ∧ Below x.heap.size x x' := by
  have N := Blk.new' x 33 [.int .i64 0, .bool false, .int .i64 0, .int .i64 0, .int .i64 0, .int .u64 0, .int .u32 0, .int .u32 0, .int .u32 0, .int .u32 0, .int .u32 0, .int .u32 0, .int .u32 0, .int .u32 0, .slice none 0 0]
  have b : Below x.heap.size x (x.alloc (.cells #[.int .i64 0, .bool false, .int .i64 0, .int .i64 0, .int .i64 0, .int .u64 0, .int .u32 0, .int .u32 0, .int .u32 0, .int .u32 0, .int .u32 0, .int .u32 0, .int .u32 0, .int .u32 0, .slice none 0 0] 33)) := (Below.refl _ _).alloc (Nat.le_refl _) _
  obtain ⟨B1, g1⟩ := N.whole (vs := vs) (by rw [hv]; rfl)
  refine ⟨_, store_all (by rw [hv]; exact size_pd) N (by rw [hv]; rfl) h1, B1, b.trans ((turned_grown (R := fun k => k = x.heap.size) g1 (fun k hk => by cases hk; rfl)).below _ b.size (fun k e => by omega))⟩
/-- the reader goes on, behind B -/
structure KnS (u1 u : World) (g : Nat) (q : Option Nat) (l : List (BitVec 8)) : Prop where
  be : Below u1.heap.size u1 u
  rs : RdS u g q false false 100 l false
  ge : u1.heap.size ≤ g
  qe : ∀ k, q = some k → u1.heap.size ≤ k
theorem KnS.later {u1 u u' : World} {g : Nat} {q : Option Nat} {l : List (BitVec 8)} (h : KnS u1 u g q l) (b : Below u.heap.size u u') : KnS u1 u' g q l := ⟨below_then h.be b, h.rs.later b, h.ge, h.qe⟩
theorem KnS.step {u1 u u' : World} {g : Nat} {q q' : Option Nat} {l l' : List (BitVec 8)} (h : KnS u1 u g q l) (r : RdS u' g q' false false 100 l' false) (s : RSt u u' g q q') : KnS u1 u' g q' l' := by
  obtain ⟨b, hq⟩ := s.below u1.heap.size h.be.size h.ge h.qe
  exact ⟨h.be.trans b, r, h.ge, hq⟩
theorem cell_on {w w' : World} {x : Addr} {v : Value} (hb : Below w.heap.size w w') (h : w.cell? x = some v) : w'.cell? x = some v := by
  have hx : x.block < w.heap.size := by
    rcases Nat.lt_or_ge x.block w.heap.size with h1 | h1
    · exact h1
    · unfold World.cell? at h
      rw [Array.getElem?_eq_none h1] at h
      simp at h
  rw [World.cell?_of_block (w := w) (hb.block _ hx)]
  exact h
set_option maxHeartbeats 8000000 in
theorem known17_any (w : World) : Calls Try.prog 9 #[] w fun e w' => e = .returned (.bool true) ∧ Below w.heap.size w w' := by
  have N := Blk.new' w 29 [.bool false, .bool false, .int .i64 0]
  have b : Below w.heap.size w (w.alloc (.cells #[.bool false, .bool false, .int .i64 0] 29)) := (Below.refl _ _).alloc (Nat.le_refl _) _
  have st := store_all (T := 29) (vs := [.bool false, .bool false, .int .i64 100]) size_op N rfl (fun u hu => by simp at hu; rcases hu with rfl | rfl <;> rfl)
  obtain ⟨B1, g1⟩ := N.whole (vs := [.bool false, .bool false, .int .i64 100]) rfl
  have bb := b.trans ((turned_grown (R := fun k => k = w.heap.size) g1 (fun k hk => by cases hk; rfl)).below _ b.size (fun k e => by omega))
  obtain ⟨u0, hu0⟩ : ∃ u0, u0 = (w.alloc (.cells #[.bool false, .bool false, .int .i64 0] 29)).setCells w.heap.size 0 [.bool false, .bool false, .int .i64 100] := ⟨_, rfl⟩
  rw [← hu0] at st B1 bb
  clear hu0 g1 b N
  have lo := load_all size_op agg_op B1
  have F0 : Hid _ := And.intro bb B1
  clear bb B1
  have HP : Hid _ := pPut_yes 0 0 0 0 0 5 0 0 0 0 0 0 0 true none 0 0 false false 100 [] u0 (by decide) (by decide) (by decide) (by decide) (by decide) (by decide) (by decide) (by intro t ht; simp at ht; rcases ht with rfl | rfl <;> decide) rfl (Nat.le_refl _) (fun _ => rfl) (by decide) (.inl rfl)
  go_enter Try.func9, Try.ntmps9
  go_wp2_with (first | (refine wpList_skip rfl (exec_store rfl rfl rfl st) ?_) | (refine wpList_value rfl (exec_load rfl rfl lo) ?_))
  clear st lo
  refine (Calls.mono HP.out) ?_
  rintro e u1 ⟨z, rfl, oz, b1⟩
  rw [show putB false false (pdH 0 true 0 0 0 0 0 5 0 0 0 0 0 0 0) [] = kL from kB_eq] at oz
  obtain ⟨za, zc, hz, hz1, hz2, hz3, hz4, hz5⟩ := oz.open
  subst hz
  rw [show kL.length = 48 from rfl] at hz1 ⊢
  have B1 := F0.out.2.laterB b1
  have lo := load_all size_op agg_op B1
  have HN : Hid _ := pNew_yes false false 100 u1 (by decide)
  have F1 : Hid _ := And.intro (below_then F0.out.1 b1) hz3
  clear B1 b1 HP F0 oz hz3
  go_wp2_with (refine wpList_value rfl (exec_load rfl rfl lo) ?_)
  clear lo
  refine (Calls.mono HN.out) ?_
  rintro e u2 ⟨g, rfl, hg, R2, b2⟩
  have K2 : Hid (KnS u1 u2 g none []) := ⟨b2, R2, hg, fun k hk => by cases hk⟩
  clear HN R2 b2 hg
  obtain ⟨bz, oz, rfl, hcz⟩ : ∃ b off, za = some ⟨b, off, none⟩ ∧ ∀ i, i < 48 → u1.cell? ⟨b, off + i, none⟩ = some (.int .u8 (bt kL i)) := by
    rcases F1.out.2 with q | ⟨b, off, q1, q2⟩
    · cases q
    · exact ⟨b, off, q1, q2⟩
  have y0 := cell_on K2.out.be (hcz 0 (by decide))
  have y19 := cell_on K2.out.be (hcz 19 (by decide))
  rw [show bt kL 0 = 64 from by decide] at y0
  rw [show bt kL 19 = 5 from by decide] at y19
  simp only [Nat.add_zero] at y0
  clear hcz
  obtain ⟨ya, hya, hyar, hyan, -⟩ := slice_upto (F1.out.2) rfl hz1 20 (by decide) hz4
  obtain ⟨yb, hyb, hybr, hybn, -⟩ := slice_from (F1.out.2) rfl hz1 hz4 20 (by decide)
  have HA : Hid _ := pFeed_yes g none false false 100 [] u2 ya 20 zc (kL.take 20) K2.out.rs (by decide) rfl (hyar.later K2.out.be) hyan (by omega) (by decide) (by decide)
  have PY : Hid _ := And.intro hya hyb
  have HY : Hid _ := And.intro hybr hybn
  clear hya hyb hyar hyan hybr hybn
  go_wp2_with (refine wpList_value rfl (exec_slice rfl rfl (PY.out.1 _)) ?_)
  clear y0 y19
  refine (Calls.mono HA.out) ?_
  rintro e u3 ⟨rfl, q3, R3, S3⟩
  have K3 : Hid _ := K2.out.step R3 S3
  clear HA R3 S3 K2
  rw [List.nil_append] at K3
  have HX : Hid _ := pNext_any g q3 false false 100 (kL.take 20) u3 K3.out.rs (by decide)
  go_wp2_with fail
  refine (Calls.mono HX.out) ?_
  rintro e u4 hW
  obtain ⟨rfl, R4, S4⟩ := hW.wait (by rw [kw_20]) (by rw [kw_20])
  have K4 : Hid _ := K3.out.step R4 S4
  clear HX hW R4 S4 K3
  obtain ⟨u5, st, -, b5⟩ := newP u4 [.int .i64 0, .bool false, .int .i64 0, .int .i64 0, .int .i64 0, .int .u64 0, .int .u32 0, .int .u32 0, .int .u32 0, .int .u32 0, .int .u32 0, .int .u32 0, .int .u32 0, .int .u32 0, .slice none 0 0] rfl zP_one
  have K5 : Hid _ := K4.out.later b5
  clear b5
  have HB : Hid _ := pFeed_yes g q3 false false 100 (kL.take 20) u5 yb 28 (zc - 20) (kL.drop 20) K5.out.rs (by decide) rfl (HY.out.1.later K5.out.be) HY.out.2 (by omega) (by decide) (by decide)
  go_wp2_with (first | (refine wpList_skip rfl (exec_store rfl rfl rfl st) ?_) | (refine wpList_value rfl (exec_slice rfl rfl (PY.out.2 _)) ?_))
  clear st K4
  refine (Calls.mono HB.out) ?_
  rintro e u6 ⟨rfl, q6, R6, S6⟩
  have K6 : Hid _ := K5.out.step R6 S6
  clear HB R6 S6 K5
  rw [List.take_append_drop] at K6
  have HX : Hid _ := pNext_any g q6 false false 100 kL u6 K6.out.rs (by decide)
  go_wp2_with fail
  refine (Calls.mono HX.out) ?_
  rintro e u7 hW
  obtain ⟨zd, q7, rfl, ozd, -, R7, S7⟩ := hW.tell (by rw [kw_48])
  rw [kw_48]
  dsimp only
  have K7 : Hid _ := K6.out.step R7 S7
  have hone : zd.oneCell' = true := by obtain ⟨da, dcc, hzd, -⟩ := ozd.open; rw [hzd]; rfl
  clear HX hW R7 S7 K6 ozd
  skip
  obtain ⟨u8, st, B8, b8⟩ := newP u7 (pdV (lH kL) zd) (pdV_len _ _) (pdV_one _ _ hone)
  have K8 : Hid _ := K7.out.later b8
  have c1 := blk_at B8 1
  have c6 := blk_at B8 6
  rw [show (pdV (lH kL) zd)[1]? = some (.bool (pNow (lH kL))) from rfl, kh_now] at c1
  rw [show (pdV (lH kL) zd)[6]? = some (.int .u32 (nb (lH kL) 16 4)) from rfl, kh_task] at c6
  have HL : Hid _ := pLeft_any g q7 false false 100 _ false u8 K8.out.rs
  rw [kh_tot] at HL
  rw [show (kL.drop 48).length = 0 from rfl] at HL
  have HF : Hid _ := below_then F1.out.1 K8.out.be
  clear b8 B8 K7 K8
  obtain ⟨PV, hPV⟩ : ∃ PV, PV = pdV (lH kL) zd := ⟨_, rfl⟩
  rw [← hPV] at st ⊢
  clear hPV
  go_wp2_with (refine wpList_skip rfl (exec_store rfl rfl rfl st) ?_)
  clear st
  refine (Calls.mono HL.out) ?_
  rintro e _ ⟨rfl, rfl⟩
  clear HL
  go_wp2
  go_ret
  exact ⟨by first | rfl | simp, HF.out⟩
end Go.Proofs.Ytnnbpfjdkhoidaa

