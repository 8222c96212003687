/- pdu: a head as bytes. -/
import Derived.Test.YtfcaaljehhibgaaXPd4
import Derived.Test.YtfcaaljehhibgaaXKw
namespace Go.Proofs.Ytfcaaljehhibgaa
open Go.RowKit
set_option linter.unusedVariables false
set_option linter.unusedSimpArgs false
set_option maxRecDepth 4000

theorem wrNum_go {L : List (BitVec 8)} (s n : Int) (h : wnE s n = 0) : wrNum L 0 s n = (L ++ be s.toNat (BitVec.ofInt 64 n), 0) := by
  unfold wrNum
  rw [if_pos rfl, if_pos h]
theorem pwn_1 {n : Int} (h : 0 ≤ n ∧ n < 256) : wnE 1 n = 0 := by
  unfold wnE
  rw [if_neg (by decide), if_neg (by decide), if_neg]
  simp
  omega
theorem pwn_3 {n : Int} (h : 0 ≤ n ∧ n < 16777216) : wnE 3 n = 0 := by
  unfold wnE
  rw [if_neg (by decide), if_neg (by decide), if_neg]
  simp
  omega
theorem pwn_4 {n : Int} (h : 0 ≤ n ∧ n < 4294967296) : wnE 4 n = 0 := by
  unfold wnE
  rw [if_neg (by decide), if_neg (by decide), if_neg]
  simp
  omega
theorem pwn_8 (n : Int) : wnE 8 n = 0 := by
  unfold wnE
  rw [if_neg (by decide), if_pos rfl]
theorem load_mid {T T' : TypeId} {xs : List Value} (hs : (Try.prog.info? T).map (·.size) = some xs.length) (ha : ∀ w, (isAgg T).run Try.prog w = .ok true w) {w : World} {g : Nat} (pre : List Value) {ys : List Value} (hB : Blk w g T' (pre ++ (xs ++ ys))) :
    (Instr.loadAt T (.pointer (some ⟨g, pre.length, none⟩))).run Try.prog w = .ok (.agg xs.toArray) w := by
  have h2 : (loadCells ⟨g, pre.length, none⟩ xs.length).run Try.prog w = .ok xs.toArray w := run_loadCells_list (P := Try.prog) w ⟨g, pre.length, none⟩ xs (fun j v hj => by
    have hadd : (⟨g, pre.length, none⟩ : Addr).add j = ⟨g, pre.length + j, none⟩ := by unfold Addr.add; split <;> simp_all
    have hjl : j < xs.length := by
      rcases Nat.lt_or_ge j xs.length with h | h
      · exact h
      · rw [List.getElem?_eq_none h] at hj; cases hj
    rw [hadd, blk_at hB, List.getElem?_append_right (by omega), Nat.add_sub_cancel_left, List.getElem?_append_left hjl, hj])
  obtain ⟨i, hi, hz⟩ := Option.map_eq_some_iff.1 hs
  simp [Instr.loadAt, Instr.sureAddr, loadVar, Sem.run_bind, ha w, sizeOf, typeInfo, hi, hz, h2]
theorem und_a5 : Try.prog.underlying 98 = some (.array 5 2) := by kernel_rfl
theorem und_a7 : Try.prog.underlying 45 = some (.array 7 44) := by kernel_rfl
theorem sz_i64 : (Try.prog.info? 2).map (·.size) = some 1 := by kernel_rfl
theorem sz_u32 : (Try.prog.info? 44).map (·.size) = some 1 := by kernel_rfl
theorem sz_a7 : (Try.prog.info? 45).map (·.size) = some 7 := by kernel_rfl
theorem agg_i64 (w : World) : (isAgg 2).run Try.prog w = .ok false w := by
  unfold isAgg
  rw [Sem.run_bind, run_underlying Try.underlying2 w]
  rfl
theorem agg_u32 (w : World) : (isAgg 44).run Try.prog w = .ok false w := by
  unfold isAgg
  rw [Sem.run_bind, run_underlying Try.underlying44 w]
  rfl
theorem agg_a7 (w : World) : (isAgg 45).run Try.prog w = .ok true w := agg_of Try.underlying45 rfl w
def fst7 (op : Int) (now : Bool) : Int := if now = true then op + 64 else op
theorem fst7_or (op : Int) (h : 0 ≤ op ∧ op ≤ 63) : bits .or .i64 op 64 = fst7 op true := by
  obtain ⟨k, rfl⟩ := Int.eq_ofNat_of_zero_le h.1
  have hk : k < 64 := by omega
  have : ∀ k : Nat, k < 64 → bits .or .i64 (k : Int) 64 = fst7 (k : Int) true := by decide +kernel
  exact this k hk
/-- a head -/
def pdH (op : Int) (now : Bool) (fl b2 b3 : Int) (n : Nat) (lun tk w0 w1 w2 w3 w4 w5 w6 : Int) : List (BitVec 8) :=
  ((((((((((((([] ++ be 1 (BitVec.ofInt 64 (fst7 op now))) ++ be 1 (BitVec.ofInt 64 fl)) ++ be 1 (BitVec.ofInt 64 b2)) ++ be 1 (BitVec.ofInt 64 b3)) ++ be 1 (BitVec.ofInt 64 0)) ++ be 3 (BitVec.ofInt 64 (n : Int))) ++ be 8 (BitVec.ofInt 64 lun)) ++ be 4 (BitVec.ofInt 64 tk)) ++ be 4 (BitVec.ofInt 64 w0)) ++ be 4 (BitVec.ofInt 64 w1)) ++ be 4 (BitVec.ofInt 64 w2)) ++ be 4 (BitVec.ofInt 64 w3)) ++ be 4 (BitVec.ofInt 64 w4)) ++ be 4 (BitVec.ofInt 64 w5) ++ be 4 (BitVec.ofInt 64 w6)
theorem ofInt_wrap (n : Int) : BitVec.ofInt 64 (wrap64 n) = BitVec.ofInt 64 n := by
  apply BitVec.eq_of_toNat_eq
  rw [BitVec.toNat_ofInt, BitVec.toNat_ofInt]
  unfold wrap64
  simp
set_option maxHeartbeats 8000000 in
theorem phd_any (op fl b2 b3 lun tk w0 w1 w2 w3 w4 w5 w6 : Int) (now : Bool) (dx : Option Addr) (dn dc : Nat) (w : World) (hop : 0 ≤ op ∧ op ≤ 63) (hfl : 0 ≤ fl ∧ fl ≤ 255) (hb2 : 0 ≤ b2 ∧ b2 ≤ 255) (hb3 : 0 ≤ b3 ∧ b3 ≤ 255) (hdn : dn < 16777216) (htw : ∀ t ∈ [tk, w0, w1, w2, w3, w4, w5, w6], 0 ≤ t ∧ t < 4294967296) :
    Calls Try.prog 38 #[.agg #[.int .i64 op, .bool now, .int .i64 fl, .int .i64 b2, .int .i64 b3, .int .u64 lun, .int .u32 tk, .int .u32 w0, .int .u32 w1, .int .u32 w2, .int .u32 w3, .int .u32 w4, .int .u32 w5, .int .u32 w6, .slice dx dn dc]] w fun e w' => ∃ z, e = .returned z ∧ Own w' w.heap.size z (pdH op now fl b2 b3 dn lun tk w0 w1 w2 w3 w4 w5 w6) ∧ Below w.heap.size w w' := by
  have b1 : Below w.heap.size w (w.alloc (.cells #[.int .i64 op, .bool now, .int .i64 fl, .int .i64 b2, .int .i64 b3, .int .u64 lun, .int .u32 tk, .int .u32 w0, .int .u32 w1, .int .u32 w2, .int .u32 w3, .int .u32 w4, .int .u32 w5, .int .u32 w6, .slice dx dn dc] 47)) := (Below.refl _ _).alloc (Nat.le_refl _) _
  have B1 := Blk.new' w 47 [.int .i64 op, .bool now, .int .i64 fl, .int .i64 b2, .int .i64 b3, .int .u64 lun, .int .u32 tk, .int .u32 w0, .int .u32 w1, .int .u32 w2, .int .u32 w3, .int .u32 w4, .int .u32 w5, .int .u32 w6, .slice dx dn dc]
  have hz1 : (w.alloc (.cells #[.int .i64 op, .bool now, .int .i64 fl, .int .i64 b2, .int .i64 b3, .int .u64 lun, .int .u32 tk, .int .u32 w0, .int .u32 w1, .int .u32 w2, .int .u32 w3, .int .u32 w4, .int .u32 w5, .int .u32 w6, .slice dx dn dc] 47)).heap.size = w.heap.size + 1 := by simp
  have HN : Hid _ := NewWriter_any w.heap.size (w.alloc (.cells #[.int .i64 op, .bool now, .int .i64 fl, .int .i64 b2, .int .i64 b3, .int .u64 lun, .int .u32 tk, .int .u32 w0, .int .u32 w1, .int .u32 w2, .int .u32 w3, .int .u32 w4, .int .u32 w5, .int .u32 w6, .slice dx dn dc] 47)) b1.size
  have H1 : Hid _ := And.intro b1 (And.intro B1 hz1)
  have e0 := blk_at B1 0
  have e1 := blk_at B1 1
  simp only [List.getElem?_cons_zero, List.getElem?_cons_succ] at e0 e1
  clear b1 B1 hz1
  have HF : Hid ((0 ≤ fst7 op now ∧ fst7 op now < 256) ∧ (0 ≤ fl ∧ fl < 256) ∧ (0 ≤ b2 ∧ b2 < 256) ∧ (0 ≤ b3 ∧ b3 < 256) ∧ dn < 16777216 ∧ ∀ t ∈ [tk, w0, w1, w2, w3, w4, w5, w6], 0 ≤ t ∧ t < 4294967296) := ⟨by unfold fst7; split <;> omega, by omega, by omega, by omega, hdn, htw⟩
  have wrapTk : Hid (∀ t ∈ [tk, w0, w1, w2, w3, w4, w5, w6], IntKind.i64.wrap t = t) := fun t ht => by have := htw t ht; rw [IntKind.wrap_i64]; omega
  have hor := fst7_or op hop
  clear htw hdn hfl hb2 hb3 hop
  cases now
  · have hof : fst7 op false = op := rfl
    clear hor
    go_enter Try.func38, Try.ntmps38
    go_wp2_with fail
    clear e0 e1
    generalize (w.alloc (.cells #[.int .i64 op, .bool false, .int .i64 fl, .int .i64 b2, .int .i64 b3, .int .u64 lun, .int .u32 tk, .int .u32 w0, .int .u32 w1, .int .u32 w2, .int .u32 w3, .int .u32 w4, .int .u32 w5, .int .u32 w6, .slice dx dn dc] 47)) = u0 at *
    refine (Calls.mono HN.out) ?_
    rintro e u1 ⟨g, rfl, hg, W2, b2'⟩
    have K0 : KW w u1 g (.slice none 0 0) [] [(w.heap.size, 47, [.int .i64 op, .bool false, .int .i64 fl, .int .i64 b2, .int .i64 b3, .int .u64 lun, .int .u32 tk, .int .u32 w0, .int .u32 w1, .int .u32 w2, .int .u32 w3, .int .u32 w4, .int .u32 w5, .int .u32 w6, .slice dx dn dc])] := ⟨W2, below_then H1.out.1 b2', (fun b hb => by rw [List.mem_singleton.1 hb]; exact H1.out.2.1.laterB b2'), (fun b hb => by rw [List.mem_singleton.1 hb]; exact ⟨by have := H1.out.2.2; simp only; omega, fun j hj => by cases hj⟩)⟩
    obtain ⟨M1, hM1⟩ : ∃ M : List (BitVec 8), M = [] := ⟨_, rfl⟩
    rw [← hM1] at K0
    have J1 : Hid _ := And.intro K0 (show M1.length = 0 from by rw [hM1]; rfl)
    have E1 : Hid _ := hM1
    clear K0 W2 b2' HN hM1 hg
    have c2 := blk_at (J1.out.1.bx _ (List.mem_cons_self ..)) 2
    have c3 := blk_at (J1.out.1.bx _ (List.mem_cons_self ..)) 3
    have c4 := blk_at (J1.out.1.bx _ (List.mem_cons_self ..)) 4
    simp only [List.getElem?_cons_zero, List.getElem?_cons_succ] at c2 c3 c4
    have HI : Hid (∀ (j : Nat) v w', [Value.int .i64 (fst7 op false), .int .i64 fl, .int .i64 b2, .int .i64 b3, .int .i64 0][j]? = some v → (Instr.index 98 (.agg #[.int .i64 (fst7 op false), .int .i64 fl, .int .i64 b2, .int .i64 b3, .int .i64 0]) (.int .i64 (j : Int))).run Try.prog w' = .ok v w') := fun j v w' h => index_agg und_a5 sz_i64 agg_i64 rfl j h w'
    go_wp2_with fail
    clear c2 c3 c4
    skip
    refine wp_loop_rounds 6 ?_
    rw [rounds_succ]
    have NN := wNum_any w.heap.size g _ M1 0 1 (fst7 op false) u1 J1.out.1.wr (by have := J1.out.2; omega)
    rw [wrNum_go 1 (fst7 op false) (pwn_1 HF.out.1)] at NN
    rw [show Int.toNat 1 = 1 from rfl] at NN
    have HN : Hid _ := NN
    clear NN
    go_wp2_with (refine wpList_value rfl (exec_idx rfl rfl rfl (HI.out 0 _ _ rfl)) ?_)
    refine (Calls.mono HN.out) ?_
    rintro r u2 ⟨rfl, x2, W1, nw1, t1⟩
    have KK := J1.out.1.step W1 nw1 t1
    obtain ⟨M2, hM2⟩ : ∃ M, M = M1 ++ be 1 (BitVec.ofInt 64 (fst7 op false)) := ⟨_, rfl⟩
    rw [← hM2] at KK
    have J2 : Hid _ := And.intro KK (show M2.length = 1 from by rw [hM2, List.length_append, J1.out.2, be_length _ _ (by omega)])
    have E2 : Hid _ := hM2
    clear KK W1 nw1 t1 HN J1 hM2
    go_wp2_with fail
    rw [rounds_succ]
    have NN := wNum_any w.heap.size g _ M2 0 1 (fl) u2 J2.out.1.wr (by have := J2.out.2; omega)
    rw [wrNum_go 1 (fl) (pwn_1 HF.out.2.1)] at NN
    rw [show Int.toNat 1 = 1 from rfl] at NN
    have HN : Hid _ := NN
    clear NN
    go_wp2_with (refine wpList_value rfl (exec_idx rfl rfl rfl (HI.out 1 _ _ rfl)) ?_)
    refine (Calls.mono HN.out) ?_
    rintro r u3 ⟨rfl, x3, W1, nw1, t1⟩
    have KK := J2.out.1.step W1 nw1 t1
    obtain ⟨M3, hM3⟩ : ∃ M, M = M2 ++ be 1 (BitVec.ofInt 64 (fl)) := ⟨_, rfl⟩
    rw [← hM3] at KK
    have J3 : Hid _ := And.intro KK (show M3.length = 2 from by rw [hM3, List.length_append, J2.out.2, be_length _ _ (by omega)])
    have E3 : Hid _ := hM3
    clear KK W1 nw1 t1 HN J2 hM3
    go_wp2_with fail
    rw [rounds_succ]
    have NN := wNum_any w.heap.size g _ M3 0 1 (b2) u3 J3.out.1.wr (by have := J3.out.2; omega)
    rw [wrNum_go 1 (b2) (pwn_1 HF.out.2.2.1)] at NN
    rw [show Int.toNat 1 = 1 from rfl] at NN
    have HN : Hid _ := NN
    clear NN
    go_wp2_with (refine wpList_value rfl (exec_idx rfl rfl rfl (HI.out 2 _ _ rfl)) ?_)
    refine (Calls.mono HN.out) ?_
    rintro r u4 ⟨rfl, x4, W1, nw1, t1⟩
    have KK := J3.out.1.step W1 nw1 t1
    obtain ⟨M4, hM4⟩ : ∃ M, M = M3 ++ be 1 (BitVec.ofInt 64 (b2)) := ⟨_, rfl⟩
    rw [← hM4] at KK
    have J4 : Hid _ := And.intro KK (show M4.length = 3 from by rw [hM4, List.length_append, J3.out.2, be_length _ _ (by omega)])
    have E4 : Hid _ := hM4
    clear KK W1 nw1 t1 HN J3 hM4
    go_wp2_with fail
    rw [rounds_succ]
    have NN := wNum_any w.heap.size g _ M4 0 1 (b3) u4 J4.out.1.wr (by have := J4.out.2; omega)
    rw [wrNum_go 1 (b3) (pwn_1 HF.out.2.2.2.1)] at NN
    rw [show Int.toNat 1 = 1 from rfl] at NN
    have HN : Hid _ := NN
    clear NN
    go_wp2_with (refine wpList_value rfl (exec_idx rfl rfl rfl (HI.out 3 _ _ rfl)) ?_)
    refine (Calls.mono HN.out) ?_
    rintro r u5 ⟨rfl, x5, W1, nw1, t1⟩
    have KK := J4.out.1.step W1 nw1 t1
    obtain ⟨M5, hM5⟩ : ∃ M, M = M4 ++ be 1 (BitVec.ofInt 64 (b3)) := ⟨_, rfl⟩
    rw [← hM5] at KK
    have J5 : Hid _ := And.intro KK (show M5.length = 4 from by rw [hM5, List.length_append, J4.out.2, be_length _ _ (by omega)])
    have E5 : Hid _ := hM5
    clear KK W1 nw1 t1 HN J4 hM5
    go_wp2_with fail
    rw [rounds_succ]
    have NN := wNum_any w.heap.size g _ M5 0 1 (0) u5 J5.out.1.wr (by have := J5.out.2; omega)
    rw [wrNum_go 1 (0) (pwn_1 (by omega))] at NN
    rw [show Int.toNat 1 = 1 from rfl] at NN
    have HN : Hid _ := NN
    clear NN
    go_wp2_with (refine wpList_value rfl (exec_idx rfl rfl rfl (HI.out 4 _ _ rfl)) ?_)
    refine (Calls.mono HN.out) ?_
    rintro r u6 ⟨rfl, x6, W1, nw1, t1⟩
    have KK := J5.out.1.step W1 nw1 t1
    obtain ⟨M6, hM6⟩ : ∃ M, M = M5 ++ be 1 (BitVec.ofInt 64 (0)) := ⟨_, rfl⟩
    rw [← hM6] at KK
    have J6 : Hid _ := And.intro KK (show M6.length = 5 from by rw [hM6, List.length_append, J5.out.2, be_length _ _ (by omega)])
    have E6 : Hid _ := hM6
    clear KK W1 nw1 t1 HN J5 hM6
    go_wp2_with fail
    rw [rounds_succ]
    clear HI
    have y := blk_at (J6.out.1.bx _ (List.mem_cons_self ..)) 14
    simp only [List.getElem?_cons_zero, List.getElem?_cons_succ] at y
    have NN := wNum_any w.heap.size g _ M6 0 3 ((dn : Int)) u6 J6.out.1.wr (by have := J6.out.2; omega)
    rw [wrNum_go 3 ((dn : Int)) (pwn_3 (by have := HF.out.2.2.2.2.1; omega))] at NN
    rw [show Int.toNat 3 = 3 from rfl] at NN
    have HN : Hid _ := NN
    clear NN
    go_wp2_with fail
    refine (Calls.mono HN.out) ?_
    rintro r u7 ⟨rfl, x7, W1, nw1, t1⟩
    have KK := J6.out.1.step W1 nw1 t1
    obtain ⟨M7, hM7⟩ : ∃ M, M = M6 ++ be 3 (BitVec.ofInt 64 ((dn : Int))) := ⟨_, rfl⟩
    rw [← hM7] at KK
    have J7 : Hid _ := And.intro KK (show M7.length = 8 from by rw [hM7, List.length_append, J6.out.2, be_length _ _ (by omega)])
    have E7 : Hid _ := hM7
    clear KK W1 nw1 t1 HN J6 hM7
    clear y
    have y := blk_at (J7.out.1.bx _ (List.mem_cons_self ..)) 5
    simp only [List.getElem?_cons_zero, List.getElem?_cons_succ] at y
    have NN := wNum_any w.heap.size g _ M7 0 8 (wrap64 lun) u7 J7.out.1.wr (by have := J7.out.2; omega)
    rw [wrNum_go 8 (wrap64 lun) (pwn_8 _)] at NN
    rw [show Int.toNat 8 = 8 from rfl] at NN
    have HN : Hid _ := NN
    clear NN
    go_wp2_with fail
    refine (Calls.mono HN.out) ?_
    rintro r u8 ⟨rfl, x8, W1, nw1, t1⟩
    have KK := J7.out.1.step W1 nw1 t1
    obtain ⟨M8, hM8⟩ : ∃ M, M = M7 ++ be 8 (BitVec.ofInt 64 (wrap64 lun)) := ⟨_, rfl⟩
    rw [← hM8] at KK
    have J8 : Hid _ := And.intro KK (show M8.length = 16 from by rw [hM8, List.length_append, J7.out.2, be_length _ _ (by omega)])
    have E8 : Hid _ := hM8
    clear KK W1 nw1 t1 HN J7 hM8
    clear y
    have y := blk_at (J8.out.1.bx _ (List.mem_cons_self ..)) 6
    simp only [List.getElem?_cons_zero, List.getElem?_cons_succ] at y
    have v := wrapTk.out tk (by simp)
    have NN := wNum_any w.heap.size g _ M8 0 4 (tk) u8 J8.out.1.wr (by have := J8.out.2; omega)
    rw [wrNum_go 4 (tk) (pwn_4 (HF.out.2.2.2.2.2 tk (by simp)))] at NN
    rw [show Int.toNat 4 = 4 from rfl] at NN
    have HN : Hid _ := NN
    clear NN
    go_wp2_with fail
    refine (Calls.mono HN.out) ?_
    rintro r u9 ⟨rfl, x9, W1, nw1, t1⟩
    have KK := J8.out.1.step W1 nw1 t1
    obtain ⟨M9, hM9⟩ : ∃ M, M = M8 ++ be 4 (BitVec.ofInt 64 (tk)) := ⟨_, rfl⟩
    rw [← hM9] at KK
    have J9 : Hid _ := And.intro KK (show M9.length = 20 from by rw [hM9, List.length_append, J8.out.2, be_length _ _ (by omega)])
    have E9 : Hid _ := hM9
    clear KK W1 nw1 t1 HN J8 hM9
    clear y v
    have lm : (Instr.loadAt 45 (.pointer (some ⟨w.heap.size, 7, none⟩))).run Try.prog u9 = .ok (.agg #[.int .u32 w0, .int .u32 w1, .int .u32 w2, .int .u32 w3, .int .u32 w4, .int .u32 w5, .int .u32 w6]) u9 := load_mid (T := 45) (xs := [.int .u32 w0, .int .u32 w1, .int .u32 w2, .int .u32 w3, .int .u32 w4, .int .u32 w5, .int .u32 w6]) sz_a7 agg_a7 [.int .i64 op, .bool false, .int .i64 fl, .int .i64 b2, .int .i64 b3, .int .u64 lun, .int .u32 tk] (ys := [.slice dx dn dc]) (J9.out.1.bx _ (List.mem_cons_self ..))
    have HI : Hid (∀ (j : Nat) v w', [Value.int .u32 w0, .int .u32 w1, .int .u32 w2, .int .u32 w3, .int .u32 w4, .int .u32 w5, .int .u32 w6][j]? = some v → (Instr.index 45 (.agg #[.int .u32 w0, .int .u32 w1, .int .u32 w2, .int .u32 w3, .int .u32 w4, .int .u32 w5, .int .u32 w6]) (.int .i64 (j : Int))).run Try.prog w' = .ok v w') := fun j v w' h => index_agg und_a7 sz_u32 agg_u32 rfl j h w'
    go_wp2_with (refine wpList_value rfl (exec_load rfl rfl lm) ?_)
    clear lm
    refine wp_loop_rounds 8 ?_
    rw [rounds_succ]
    have v := wrapTk.out w0 (by simp)
    have NN := wNum_any w.heap.size g _ M9 0 4 (w0) u9 J9.out.1.wr (by have := J9.out.2; omega)
    rw [wrNum_go 4 (w0) (pwn_4 (HF.out.2.2.2.2.2 w0 (by simp)))] at NN
    rw [show Int.toNat 4 = 4 from rfl] at NN
    have HN : Hid _ := NN
    clear NN
    go_wp2_with (refine wpList_value rfl (exec_idx rfl rfl rfl (HI.out 0 _ _ rfl)) ?_)
    refine (Calls.mono HN.out) ?_
    rintro r u10 ⟨rfl, x10, W1, nw1, t1⟩
    have KK := J9.out.1.step W1 nw1 t1
    obtain ⟨M10, hM10⟩ : ∃ M, M = M9 ++ be 4 (BitVec.ofInt 64 (w0)) := ⟨_, rfl⟩
    rw [← hM10] at KK
    have J10 : Hid _ := And.intro KK (show M10.length = 24 from by rw [hM10, List.length_append, J9.out.2, be_length _ _ (by omega)])
    have E10 : Hid _ := hM10
    clear KK W1 nw1 t1 HN J9 hM10
    clear v
    go_wp2_with fail
    rw [rounds_succ]
    have v := wrapTk.out w1 (by simp)
    have NN := wNum_any w.heap.size g _ M10 0 4 (w1) u10 J10.out.1.wr (by have := J10.out.2; omega)
    rw [wrNum_go 4 (w1) (pwn_4 (HF.out.2.2.2.2.2 w1 (by simp)))] at NN
    rw [show Int.toNat 4 = 4 from rfl] at NN
    have HN : Hid _ := NN
    clear NN
    go_wp2_with (refine wpList_value rfl (exec_idx rfl rfl rfl (HI.out 1 _ _ rfl)) ?_)
    refine (Calls.mono HN.out) ?_
    rintro r u11 ⟨rfl, x11, W1, nw1, t1⟩
    have KK := J10.out.1.step W1 nw1 t1
    obtain ⟨M11, hM11⟩ : ∃ M, M = M10 ++ be 4 (BitVec.ofInt 64 (w1)) := ⟨_, rfl⟩
    rw [← hM11] at KK
    have J11 : Hid _ := And.intro KK (show M11.length = 28 from by rw [hM11, List.length_append, J10.out.2, be_length _ _ (by omega)])
    have E11 : Hid _ := hM11
    clear KK W1 nw1 t1 HN J10 hM11
    clear v
    go_wp2_with fail
    rw [rounds_succ]
    have v := wrapTk.out w2 (by simp)
    have NN := wNum_any w.heap.size g _ M11 0 4 (w2) u11 J11.out.1.wr (by have := J11.out.2; omega)
    rw [wrNum_go 4 (w2) (pwn_4 (HF.out.2.2.2.2.2 w2 (by simp)))] at NN
    rw [show Int.toNat 4 = 4 from rfl] at NN
    have HN : Hid _ := NN
    clear NN
    go_wp2_with (refine wpList_value rfl (exec_idx rfl rfl rfl (HI.out 2 _ _ rfl)) ?_)
    refine (Calls.mono HN.out) ?_
    rintro r u12 ⟨rfl, x12, W1, nw1, t1⟩
    have KK := J11.out.1.step W1 nw1 t1
    obtain ⟨M12, hM12⟩ : ∃ M, M = M11 ++ be 4 (BitVec.ofInt 64 (w2)) := ⟨_, rfl⟩
    rw [← hM12] at KK
    have J12 : Hid _ := And.intro KK (show M12.length = 32 from by rw [hM12, List.length_append, J11.out.2, be_length _ _ (by omega)])
    have E12 : Hid _ := hM12
    clear KK W1 nw1 t1 HN J11 hM12
    clear v
    go_wp2_with fail
    rw [rounds_succ]
    have v := wrapTk.out w3 (by simp)
    have NN := wNum_any w.heap.size g _ M12 0 4 (w3) u12 J12.out.1.wr (by have := J12.out.2; omega)
    rw [wrNum_go 4 (w3) (pwn_4 (HF.out.2.2.2.2.2 w3 (by simp)))] at NN
    rw [show Int.toNat 4 = 4 from rfl] at NN
    have HN : Hid _ := NN
    clear NN
    go_wp2_with (refine wpList_value rfl (exec_idx rfl rfl rfl (HI.out 3 _ _ rfl)) ?_)
    refine (Calls.mono HN.out) ?_
    rintro r u13 ⟨rfl, x13, W1, nw1, t1⟩
    have KK := J12.out.1.step W1 nw1 t1
    obtain ⟨M13, hM13⟩ : ∃ M, M = M12 ++ be 4 (BitVec.ofInt 64 (w3)) := ⟨_, rfl⟩
    rw [← hM13] at KK
    have J13 : Hid _ := And.intro KK (show M13.length = 36 from by rw [hM13, List.length_append, J12.out.2, be_length _ _ (by omega)])
    have E13 : Hid _ := hM13
    clear KK W1 nw1 t1 HN J12 hM13
    clear v
    go_wp2_with fail
    rw [rounds_succ]
    have v := wrapTk.out w4 (by simp)
    have NN := wNum_any w.heap.size g _ M13 0 4 (w4) u13 J13.out.1.wr (by have := J13.out.2; omega)
    rw [wrNum_go 4 (w4) (pwn_4 (HF.out.2.2.2.2.2 w4 (by simp)))] at NN
    rw [show Int.toNat 4 = 4 from rfl] at NN
    have HN : Hid _ := NN
    clear NN
    go_wp2_with (refine wpList_value rfl (exec_idx rfl rfl rfl (HI.out 4 _ _ rfl)) ?_)
    refine (Calls.mono HN.out) ?_
    rintro r u14 ⟨rfl, x14, W1, nw1, t1⟩
    have KK := J13.out.1.step W1 nw1 t1
    obtain ⟨M14, hM14⟩ : ∃ M, M = M13 ++ be 4 (BitVec.ofInt 64 (w4)) := ⟨_, rfl⟩
    rw [← hM14] at KK
    have J14 : Hid _ := And.intro KK (show M14.length = 40 from by rw [hM14, List.length_append, J13.out.2, be_length _ _ (by omega)])
    have E14 : Hid _ := hM14
    clear KK W1 nw1 t1 HN J13 hM14
    clear v
    go_wp2_with fail
    rw [rounds_succ]
    have v := wrapTk.out w5 (by simp)
    have NN := wNum_any w.heap.size g _ M14 0 4 (w5) u14 J14.out.1.wr (by have := J14.out.2; omega)
    rw [wrNum_go 4 (w5) (pwn_4 (HF.out.2.2.2.2.2 w5 (by simp)))] at NN
    rw [show Int.toNat 4 = 4 from rfl] at NN
    have HN : Hid _ := NN
    clear NN
    go_wp2_with (refine wpList_value rfl (exec_idx rfl rfl rfl (HI.out 5 _ _ rfl)) ?_)
    refine (Calls.mono HN.out) ?_
    rintro r u15 ⟨rfl, x15, W1, nw1, t1⟩
    have KK := J14.out.1.step W1 nw1 t1
    obtain ⟨M15, hM15⟩ : ∃ M, M = M14 ++ be 4 (BitVec.ofInt 64 (w5)) := ⟨_, rfl⟩
    rw [← hM15] at KK
    have J15 : Hid _ := And.intro KK (show M15.length = 44 from by rw [hM15, List.length_append, J14.out.2, be_length _ _ (by omega)])
    have E15 : Hid _ := hM15
    clear KK W1 nw1 t1 HN J14 hM15
    clear v
    go_wp2_with fail
    rw [rounds_succ]
    have v := wrapTk.out w6 (by simp)
    have NN := wNum_any w.heap.size g _ M15 0 4 (w6) u15 J15.out.1.wr (by have := J15.out.2; omega)
    rw [wrNum_go 4 (w6) (pwn_4 (HF.out.2.2.2.2.2 w6 (by simp)))] at NN
    rw [show Int.toNat 4 = 4 from rfl] at NN
    have HN : Hid _ := NN
    clear NN
    go_wp2_with (refine wpList_value rfl (exec_idx rfl rfl rfl (HI.out 6 _ _ rfl)) ?_)
    refine (Calls.mono HN.out) ?_
    rintro r u16 ⟨rfl, x16, W1, nw1, t1⟩
    have KK := J15.out.1.step W1 nw1 t1
    obtain ⟨M16, hM16⟩ : ∃ M, M = M15 ++ be 4 (BitVec.ofInt 64 (w6)) := ⟨_, rfl⟩
    rw [← hM16] at KK
    have J16 : Hid _ := And.intro KK (show M16.length = 48 from by rw [hM16, List.length_append, J15.out.2, be_length _ _ (by omega)])
    have E16 : Hid _ := hM16
    clear KK W1 nw1 t1 HN J15 hM16
    clear v
    go_wp2_with fail
    rw [rounds_succ]
    clear HI
    have HM : Hid _ := wEnd_any w.heap.size g _ M16 0 u16 J16.out.1.wr (by have := J16.out.2; omega)
    go_wp2_with fail
    refine (Calls.mono HM.out) ?_
    rintro r we ⟨z, rfl, o5, b5⟩
    rw [show ∀ L, wrEnd L 0 = L from fun L => if_pos rfl] at o5
    have G : Hid _ := And.intro (o5.lower J16.out.1.bl.size) (below_then J16.out.1.bl b5)
    clear o5 b5 HM
    go_wp2_with fail
    go_ret
    refine ⟨z, rfl, ?_, G.out.2⟩
    have hall : M16 = pdH op false fl b2 b3 dn lun tk w0 w1 w2 w3 w4 w5 w6 := by
      rw [E16.out, E15.out, E14.out, E13.out, E12.out, E11.out, E10.out, E9.out, E8.out, E7.out, E6.out, E5.out, E4.out, E3.out, E2.out, E1.out]
      rw [ofInt_wrap]
      rfl
    rw [← hall]
    exact G.out.1
  · go_enter Try.func38, Try.ntmps38
    go_wp2_with fail
    clear e0 e1
    generalize (w.alloc (.cells #[.int .i64 op, .bool true, .int .i64 fl, .int .i64 b2, .int .i64 b3, .int .u64 lun, .int .u32 tk, .int .u32 w0, .int .u32 w1, .int .u32 w2, .int .u32 w3, .int .u32 w4, .int .u32 w5, .int .u32 w6, .slice dx dn dc] 47)) = u0 at *
    refine (Calls.mono HN.out) ?_
    rintro e u1 ⟨g, rfl, hg, W2, b2'⟩
    have K0 : KW w u1 g (.slice none 0 0) [] [(w.heap.size, 47, [.int .i64 op, .bool true, .int .i64 fl, .int .i64 b2, .int .i64 b3, .int .u64 lun, .int .u32 tk, .int .u32 w0, .int .u32 w1, .int .u32 w2, .int .u32 w3, .int .u32 w4, .int .u32 w5, .int .u32 w6, .slice dx dn dc])] := ⟨W2, below_then H1.out.1 b2', (fun b hb => by rw [List.mem_singleton.1 hb]; exact H1.out.2.1.laterB b2'), (fun b hb => by rw [List.mem_singleton.1 hb]; exact ⟨by have := H1.out.2.2; simp only; omega, fun j hj => by cases hj⟩)⟩
    obtain ⟨M1, hM1⟩ : ∃ M : List (BitVec 8), M = [] := ⟨_, rfl⟩
    rw [← hM1] at K0
    have J1 : Hid _ := And.intro K0 (show M1.length = 0 from by rw [hM1]; rfl)
    have E1 : Hid _ := hM1
    clear K0 W2 b2' HN hM1 hg
    have c2 := blk_at (J1.out.1.bx _ (List.mem_cons_self ..)) 2
    have c3 := blk_at (J1.out.1.bx _ (List.mem_cons_self ..)) 3
    have c4 := blk_at (J1.out.1.bx _ (List.mem_cons_self ..)) 4
    simp only [List.getElem?_cons_zero, List.getElem?_cons_succ] at c2 c3 c4
    have HI : Hid (∀ (j : Nat) v w', [Value.int .i64 (fst7 op true), .int .i64 fl, .int .i64 b2, .int .i64 b3, .int .i64 0][j]? = some v → (Instr.index 98 (.agg #[.int .i64 (fst7 op true), .int .i64 fl, .int .i64 b2, .int .i64 b3, .int .i64 0]) (.int .i64 (j : Int))).run Try.prog w' = .ok v w') := fun j v w' h => index_agg und_a5 sz_i64 agg_i64 rfl j h w'
    go_wp2_with fail
    clear c2 c3 c4
    skip
    refine wp_loop_rounds 6 ?_
    rw [rounds_succ]
    have NN := wNum_any w.heap.size g _ M1 0 1 (fst7 op true) u1 J1.out.1.wr (by have := J1.out.2; omega)
    rw [wrNum_go 1 (fst7 op true) (pwn_1 HF.out.1)] at NN
    rw [show Int.toNat 1 = 1 from rfl] at NN
    have HN : Hid _ := NN
    clear NN
    go_wp2_with (refine wpList_value rfl (exec_idx rfl rfl rfl (HI.out 0 _ _ rfl)) ?_)
    refine (Calls.mono HN.out) ?_
    rintro r u2 ⟨rfl, x2, W1, nw1, t1⟩
    have KK := J1.out.1.step W1 nw1 t1
    obtain ⟨M2, hM2⟩ : ∃ M, M = M1 ++ be 1 (BitVec.ofInt 64 (fst7 op true)) := ⟨_, rfl⟩
    rw [← hM2] at KK
    have J2 : Hid _ := And.intro KK (show M2.length = 1 from by rw [hM2, List.length_append, J1.out.2, be_length _ _ (by omega)])
    have E2 : Hid _ := hM2
    clear KK W1 nw1 t1 HN J1 hM2
    go_wp2_with fail
    rw [rounds_succ]
    have NN := wNum_any w.heap.size g _ M2 0 1 (fl) u2 J2.out.1.wr (by have := J2.out.2; omega)
    rw [wrNum_go 1 (fl) (pwn_1 HF.out.2.1)] at NN
    rw [show Int.toNat 1 = 1 from rfl] at NN
    have HN : Hid _ := NN
    clear NN
    go_wp2_with (refine wpList_value rfl (exec_idx rfl rfl rfl (HI.out 1 _ _ rfl)) ?_)
    refine (Calls.mono HN.out) ?_
    rintro r u3 ⟨rfl, x3, W1, nw1, t1⟩
    have KK := J2.out.1.step W1 nw1 t1
    obtain ⟨M3, hM3⟩ : ∃ M, M = M2 ++ be 1 (BitVec.ofInt 64 (fl)) := ⟨_, rfl⟩
    rw [← hM3] at KK
    have J3 : Hid _ := And.intro KK (show M3.length = 2 from by rw [hM3, List.length_append, J2.out.2, be_length _ _ (by omega)])
    have E3 : Hid _ := hM3
    clear KK W1 nw1 t1 HN J2 hM3
    go_wp2_with fail
    rw [rounds_succ]
    have NN := wNum_any w.heap.size g _ M3 0 1 (b2) u3 J3.out.1.wr (by have := J3.out.2; omega)
    rw [wrNum_go 1 (b2) (pwn_1 HF.out.2.2.1)] at NN
    rw [show Int.toNat 1 = 1 from rfl] at NN
    have HN : Hid _ := NN
    clear NN
    go_wp2_with (refine wpList_value rfl (exec_idx rfl rfl rfl (HI.out 2 _ _ rfl)) ?_)
    refine (Calls.mono HN.out) ?_
    rintro r u4 ⟨rfl, x4, W1, nw1, t1⟩
    have KK := J3.out.1.step W1 nw1 t1
    obtain ⟨M4, hM4⟩ : ∃ M, M = M3 ++ be 1 (BitVec.ofInt 64 (b2)) := ⟨_, rfl⟩
    rw [← hM4] at KK
    have J4 : Hid _ := And.intro KK (show M4.length = 3 from by rw [hM4, List.length_append, J3.out.2, be_length _ _ (by omega)])
    have E4 : Hid _ := hM4
    clear KK W1 nw1 t1 HN J3 hM4
    go_wp2_with fail
    rw [rounds_succ]
    have NN := wNum_any w.heap.size g _ M4 0 1 (b3) u4 J4.out.1.wr (by have := J4.out.2; omega)
    rw [wrNum_go 1 (b3) (pwn_1 HF.out.2.2.2.1)] at NN
    rw [show Int.toNat 1 = 1 from rfl] at NN
    have HN : Hid _ := NN
    clear NN
    go_wp2_with (refine wpList_value rfl (exec_idx rfl rfl rfl (HI.out 3 _ _ rfl)) ?_)
    refine (Calls.mono HN.out) ?_
    rintro r u5 ⟨rfl, x5, W1, nw1, t1⟩
    have KK := J4.out.1.step W1 nw1 t1
    obtain ⟨M5, hM5⟩ : ∃ M, M = M4 ++ be 1 (BitVec.ofInt 64 (b3)) := ⟨_, rfl⟩
    rw [← hM5] at KK
    have J5 : Hid _ := And.intro KK (show M5.length = 4 from by rw [hM5, List.length_append, J4.out.2, be_length _ _ (by omega)])
    have E5 : Hid _ := hM5
    clear KK W1 nw1 t1 HN J4 hM5
    go_wp2_with fail
    rw [rounds_succ]
    have NN := wNum_any w.heap.size g _ M5 0 1 (0) u5 J5.out.1.wr (by have := J5.out.2; omega)
    rw [wrNum_go 1 (0) (pwn_1 (by omega))] at NN
    rw [show Int.toNat 1 = 1 from rfl] at NN
    have HN : Hid _ := NN
    clear NN
    go_wp2_with (refine wpList_value rfl (exec_idx rfl rfl rfl (HI.out 4 _ _ rfl)) ?_)
    refine (Calls.mono HN.out) ?_
    rintro r u6 ⟨rfl, x6, W1, nw1, t1⟩
    have KK := J5.out.1.step W1 nw1 t1
    obtain ⟨M6, hM6⟩ : ∃ M, M = M5 ++ be 1 (BitVec.ofInt 64 (0)) := ⟨_, rfl⟩
    rw [← hM6] at KK
    have J6 : Hid _ := And.intro KK (show M6.length = 5 from by rw [hM6, List.length_append, J5.out.2, be_length _ _ (by omega)])
    have E6 : Hid _ := hM6
    clear KK W1 nw1 t1 HN J5 hM6
    go_wp2_with fail
    rw [rounds_succ]
    clear HI
    have y := blk_at (J6.out.1.bx _ (List.mem_cons_self ..)) 14
    simp only [List.getElem?_cons_zero, List.getElem?_cons_succ] at y
    have NN := wNum_any w.heap.size g _ M6 0 3 ((dn : Int)) u6 J6.out.1.wr (by have := J6.out.2; omega)
    rw [wrNum_go 3 ((dn : Int)) (pwn_3 (by have := HF.out.2.2.2.2.1; omega))] at NN
    rw [show Int.toNat 3 = 3 from rfl] at NN
    have HN : Hid _ := NN
    clear NN
    go_wp2_with fail
    refine (Calls.mono HN.out) ?_
    rintro r u7 ⟨rfl, x7, W1, nw1, t1⟩
    have KK := J6.out.1.step W1 nw1 t1
    obtain ⟨M7, hM7⟩ : ∃ M, M = M6 ++ be 3 (BitVec.ofInt 64 ((dn : Int))) := ⟨_, rfl⟩
    rw [← hM7] at KK
    have J7 : Hid _ := And.intro KK (show M7.length = 8 from by rw [hM7, List.length_append, J6.out.2, be_length _ _ (by omega)])
    have E7 : Hid _ := hM7
    clear KK W1 nw1 t1 HN J6 hM7
    clear y
    have y := blk_at (J7.out.1.bx _ (List.mem_cons_self ..)) 5
    simp only [List.getElem?_cons_zero, List.getElem?_cons_succ] at y
    have NN := wNum_any w.heap.size g _ M7 0 8 (wrap64 lun) u7 J7.out.1.wr (by have := J7.out.2; omega)
    rw [wrNum_go 8 (wrap64 lun) (pwn_8 _)] at NN
    rw [show Int.toNat 8 = 8 from rfl] at NN
    have HN : Hid _ := NN
    clear NN
    go_wp2_with fail
    refine (Calls.mono HN.out) ?_
    rintro r u8 ⟨rfl, x8, W1, nw1, t1⟩
    have KK := J7.out.1.step W1 nw1 t1
    obtain ⟨M8, hM8⟩ : ∃ M, M = M7 ++ be 8 (BitVec.ofInt 64 (wrap64 lun)) := ⟨_, rfl⟩
    rw [← hM8] at KK
    have J8 : Hid _ := And.intro KK (show M8.length = 16 from by rw [hM8, List.length_append, J7.out.2, be_length _ _ (by omega)])
    have E8 : Hid _ := hM8
    clear KK W1 nw1 t1 HN J7 hM8
    clear y
    have y := blk_at (J8.out.1.bx _ (List.mem_cons_self ..)) 6
    simp only [List.getElem?_cons_zero, List.getElem?_cons_succ] at y
    have v := wrapTk.out tk (by simp)
    have NN := wNum_any w.heap.size g _ M8 0 4 (tk) u8 J8.out.1.wr (by have := J8.out.2; omega)
    rw [wrNum_go 4 (tk) (pwn_4 (HF.out.2.2.2.2.2 tk (by simp)))] at NN
    rw [show Int.toNat 4 = 4 from rfl] at NN
    have HN : Hid _ := NN
    clear NN
    go_wp2_with fail
    refine (Calls.mono HN.out) ?_
    rintro r u9 ⟨rfl, x9, W1, nw1, t1⟩
    have KK := J8.out.1.step W1 nw1 t1
    obtain ⟨M9, hM9⟩ : ∃ M, M = M8 ++ be 4 (BitVec.ofInt 64 (tk)) := ⟨_, rfl⟩
    rw [← hM9] at KK
    have J9 : Hid _ := And.intro KK (show M9.length = 20 from by rw [hM9, List.length_append, J8.out.2, be_length _ _ (by omega)])
    have E9 : Hid _ := hM9
    clear KK W1 nw1 t1 HN J8 hM9
    clear y v
    have lm : (Instr.loadAt 45 (.pointer (some ⟨w.heap.size, 7, none⟩))).run Try.prog u9 = .ok (.agg #[.int .u32 w0, .int .u32 w1, .int .u32 w2, .int .u32 w3, .int .u32 w4, .int .u32 w5, .int .u32 w6]) u9 := load_mid (T := 45) (xs := [.int .u32 w0, .int .u32 w1, .int .u32 w2, .int .u32 w3, .int .u32 w4, .int .u32 w5, .int .u32 w6]) sz_a7 agg_a7 [.int .i64 op, .bool true, .int .i64 fl, .int .i64 b2, .int .i64 b3, .int .u64 lun, .int .u32 tk] (ys := [.slice dx dn dc]) (J9.out.1.bx _ (List.mem_cons_self ..))
    have HI : Hid (∀ (j : Nat) v w', [Value.int .u32 w0, .int .u32 w1, .int .u32 w2, .int .u32 w3, .int .u32 w4, .int .u32 w5, .int .u32 w6][j]? = some v → (Instr.index 45 (.agg #[.int .u32 w0, .int .u32 w1, .int .u32 w2, .int .u32 w3, .int .u32 w4, .int .u32 w5, .int .u32 w6]) (.int .i64 (j : Int))).run Try.prog w' = .ok v w') := fun j v w' h => index_agg und_a7 sz_u32 agg_u32 rfl j h w'
    go_wp2_with (refine wpList_value rfl (exec_load rfl rfl lm) ?_)
    clear lm
    refine wp_loop_rounds 8 ?_
    rw [rounds_succ]
    have v := wrapTk.out w0 (by simp)
    have NN := wNum_any w.heap.size g _ M9 0 4 (w0) u9 J9.out.1.wr (by have := J9.out.2; omega)
    rw [wrNum_go 4 (w0) (pwn_4 (HF.out.2.2.2.2.2 w0 (by simp)))] at NN
    rw [show Int.toNat 4 = 4 from rfl] at NN
    have HN : Hid _ := NN
    clear NN
    go_wp2_with (refine wpList_value rfl (exec_idx rfl rfl rfl (HI.out 0 _ _ rfl)) ?_)
    refine (Calls.mono HN.out) ?_
    rintro r u10 ⟨rfl, x10, W1, nw1, t1⟩
    have KK := J9.out.1.step W1 nw1 t1
    obtain ⟨M10, hM10⟩ : ∃ M, M = M9 ++ be 4 (BitVec.ofInt 64 (w0)) := ⟨_, rfl⟩
    rw [← hM10] at KK
    have J10 : Hid _ := And.intro KK (show M10.length = 24 from by rw [hM10, List.length_append, J9.out.2, be_length _ _ (by omega)])
    have E10 : Hid _ := hM10
    clear KK W1 nw1 t1 HN J9 hM10
    clear v
    go_wp2_with fail
    rw [rounds_succ]
    have v := wrapTk.out w1 (by simp)
    have NN := wNum_any w.heap.size g _ M10 0 4 (w1) u10 J10.out.1.wr (by have := J10.out.2; omega)
    rw [wrNum_go 4 (w1) (pwn_4 (HF.out.2.2.2.2.2 w1 (by simp)))] at NN
    rw [show Int.toNat 4 = 4 from rfl] at NN
    have HN : Hid _ := NN
    clear NN
    go_wp2_with (refine wpList_value rfl (exec_idx rfl rfl rfl (HI.out 1 _ _ rfl)) ?_)
    refine (Calls.mono HN.out) ?_
    rintro r u11 ⟨rfl, x11, W1, nw1, t1⟩
    have KK := J10.out.1.step W1 nw1 t1
    obtain ⟨M11, hM11⟩ : ∃ M, M = M10 ++ be 4 (BitVec.ofInt 64 (w1)) := ⟨_, rfl⟩
    rw [← hM11] at KK
    have J11 : Hid _ := And.intro KK (show M11.length = 28 from by rw [hM11, List.length_append, J10.out.2, be_length _ _ (by omega)])
    have E11 : Hid _ := hM11
    clear KK W1 nw1 t1 HN J10 hM11
    clear v
    go_wp2_with fail
    rw [rounds_succ]
    have v := wrapTk.out w2 (by simp)
    have NN := wNum_any w.heap.size g _ M11 0 4 (w2) u11 J11.out.1.wr (by have := J11.out.2; omega)
    rw [wrNum_go 4 (w2) (pwn_4 (HF.out.2.2.2.2.2 w2 (by simp)))] at NN
    rw [show Int.toNat 4 = 4 from rfl] at NN
    have HN : Hid _ := NN
    clear NN
    go_wp2_with (refine wpList_value rfl (exec_idx rfl rfl rfl (HI.out 2 _ _ rfl)) ?_)
    refine (Calls.mono HN.out) ?_
    rintro r u12 ⟨rfl, x12, W1, nw1, t1⟩
    have KK := J11.out.1.step W1 nw1 t1
    obtain ⟨M12, hM12⟩ : ∃ M, M = M11 ++ be 4 (BitVec.ofInt 64 (w2)) := ⟨_, rfl⟩
    rw [← hM12] at KK
    have J12 : Hid _ := And.intro KK (show M12.length = 32 from by rw [hM12, List.length_append, J11.out.2, be_length _ _ (by omega)])
    have E12 : Hid _ := hM12
    clear KK W1 nw1 t1 HN J11 hM12
    clear v
    go_wp2_with fail
    rw [rounds_succ]
    have v := wrapTk.out w3 (by simp)
    have NN := wNum_any w.heap.size g _ M12 0 4 (w3) u12 J12.out.1.wr (by have := J12.out.2; omega)
    rw [wrNum_go 4 (w3) (pwn_4 (HF.out.2.2.2.2.2 w3 (by simp)))] at NN
    rw [show Int.toNat 4 = 4 from rfl] at NN
    have HN : Hid _ := NN
    clear NN
    go_wp2_with (refine wpList_value rfl (exec_idx rfl rfl rfl (HI.out 3 _ _ rfl)) ?_)
    refine (Calls.mono HN.out) ?_
    rintro r u13 ⟨rfl, x13, W1, nw1, t1⟩
    have KK := J12.out.1.step W1 nw1 t1
    obtain ⟨M13, hM13⟩ : ∃ M, M = M12 ++ be 4 (BitVec.ofInt 64 (w3)) := ⟨_, rfl⟩
    rw [← hM13] at KK
    have J13 : Hid _ := And.intro KK (show M13.length = 36 from by rw [hM13, List.length_append, J12.out.2, be_length _ _ (by omega)])
    have E13 : Hid _ := hM13
    clear KK W1 nw1 t1 HN J12 hM13
    clear v
    go_wp2_with fail
    rw [rounds_succ]
    have v := wrapTk.out w4 (by simp)
    have NN := wNum_any w.heap.size g _ M13 0 4 (w4) u13 J13.out.1.wr (by have := J13.out.2; omega)
    rw [wrNum_go 4 (w4) (pwn_4 (HF.out.2.2.2.2.2 w4 (by simp)))] at NN
    rw [show Int.toNat 4 = 4 from rfl] at NN
    have HN : Hid _ := NN
    clear NN
    go_wp2_with (refine wpList_value rfl (exec_idx rfl rfl rfl (HI.out 4 _ _ rfl)) ?_)
    refine (Calls.mono HN.out) ?_
    rintro r u14 ⟨rfl, x14, W1, nw1, t1⟩
    have KK := J13.out.1.step W1 nw1 t1
    obtain ⟨M14, hM14⟩ : ∃ M, M = M13 ++ be 4 (BitVec.ofInt 64 (w4)) := ⟨_, rfl⟩
    rw [← hM14] at KK
    have J14 : Hid _ := And.intro KK (show M14.length = 40 from by rw [hM14, List.length_append, J13.out.2, be_length _ _ (by omega)])
    have E14 : Hid _ := hM14
    clear KK W1 nw1 t1 HN J13 hM14
    clear v
    go_wp2_with fail
    rw [rounds_succ]
    have v := wrapTk.out w5 (by simp)
    have NN := wNum_any w.heap.size g _ M14 0 4 (w5) u14 J14.out.1.wr (by have := J14.out.2; omega)
    rw [wrNum_go 4 (w5) (pwn_4 (HF.out.2.2.2.2.2 w5 (by simp)))] at NN
    rw [show Int.toNat 4 = 4 from rfl] at NN
    have HN : Hid _ := NN
    clear NN
    go_wp2_with (refine wpList_value rfl (exec_idx rfl rfl rfl (HI.out 5 _ _ rfl)) ?_)
    refine (Calls.mono HN.out) ?_
    rintro r u15 ⟨rfl, x15, W1, nw1, t1⟩
    have KK := J14.out.1.step W1 nw1 t1
    obtain ⟨M15, hM15⟩ : ∃ M, M = M14 ++ be 4 (BitVec.ofInt 64 (w5)) := ⟨_, rfl⟩
    rw [← hM15] at KK
    have J15 : Hid _ := And.intro KK (show M15.length = 44 from by rw [hM15, List.length_append, J14.out.2, be_length _ _ (by omega)])
    have E15 : Hid _ := hM15
    clear KK W1 nw1 t1 HN J14 hM15
    clear v
    go_wp2_with fail
    rw [rounds_succ]
    have v := wrapTk.out w6 (by simp)
    have NN := wNum_any w.heap.size g _ M15 0 4 (w6) u15 J15.out.1.wr (by have := J15.out.2; omega)
    rw [wrNum_go 4 (w6) (pwn_4 (HF.out.2.2.2.2.2 w6 (by simp)))] at NN
    rw [show Int.toNat 4 = 4 from rfl] at NN
    have HN : Hid _ := NN
    clear NN
    go_wp2_with (refine wpList_value rfl (exec_idx rfl rfl rfl (HI.out 6 _ _ rfl)) ?_)
    refine (Calls.mono HN.out) ?_
    rintro r u16 ⟨rfl, x16, W1, nw1, t1⟩
    have KK := J15.out.1.step W1 nw1 t1
    obtain ⟨M16, hM16⟩ : ∃ M, M = M15 ++ be 4 (BitVec.ofInt 64 (w6)) := ⟨_, rfl⟩
    rw [← hM16] at KK
    have J16 : Hid _ := And.intro KK (show M16.length = 48 from by rw [hM16, List.length_append, J15.out.2, be_length _ _ (by omega)])
    have E16 : Hid _ := hM16
    clear KK W1 nw1 t1 HN J15 hM16
    clear v
    go_wp2_with fail
    rw [rounds_succ]
    clear HI
    have HM : Hid _ := wEnd_any w.heap.size g _ M16 0 u16 J16.out.1.wr (by have := J16.out.2; omega)
    go_wp2_with fail
    refine (Calls.mono HM.out) ?_
    rintro r we ⟨z, rfl, o5, b5⟩
    rw [show ∀ L, wrEnd L 0 = L from fun L => if_pos rfl] at o5
    have G : Hid _ := And.intro (o5.lower J16.out.1.bl.size) (below_then J16.out.1.bl b5)
    clear o5 b5 HM
    go_wp2_with fail
    go_ret
    refine ⟨z, rfl, ?_, G.out.2⟩
    have hall : M16 = pdH op true fl b2 b3 dn lun tk w0 w1 w2 w3 w4 w5 w6 := by
      rw [E16.out, E15.out, E14.out, E13.out, E12.out, E11.out, E10.out, E9.out, E8.out, E7.out, E6.out, E5.out, E4.out, E3.out, E2.out, E1.out]
      rw [ofInt_wrap]
      rfl
    rw [← hall]
    exact G.out.1
end Go.Proofs.Ytfcaaljehhibgaa

