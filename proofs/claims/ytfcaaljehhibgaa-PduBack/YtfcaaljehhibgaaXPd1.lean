/- pdu: a letter's parts: how many data there are, how many bytes a part has, what is wrong with it. -/
import Derived.Test.YtfcaaljehhibgaaXBs1
import Derived.Test.YtfcaaljehhibgaaXMem
import Derived.Test.YtfcaaljehhibgaaXDraw
import Derived.Test.YtfcaaljehhibgaaXEx1
namespace Go.Proofs.Ytfcaaljehhibgaa
open Go.RowKit
set_option linter.unusedVariables false
set_option linter.unusedSimpArgs false
set_option maxRecDepth 4000

/-- a whole block as a value -/
theorem load_all {T T' : TypeId} {xs : List Value} (hs : (Try.prog.info? T).map (·.size) = some xs.length) (ha : ∀ w, (isAgg T).run Try.prog w = .ok true w) {w : World} {g : Nat} (hB : Blk w g T' xs) :
    (Instr.loadAt T (.pointer (some ⟨g, 0, none⟩))).run Try.prog w = .ok (.agg xs.toArray) w := by
  have h2 : (loadCells ⟨g, 0, none⟩ xs.length).run Try.prog w = .ok xs.toArray w := run_loadCells_list (P := Try.prog) w ⟨g, 0, none⟩ xs (fun j v hj => by
    have hadd : (⟨g, 0, none⟩ : Addr).add j = ⟨g, 0 + j, none⟩ := by unfold Addr.add; split <;> simp_all
    rw [hadd, Nat.zero_add, blk_at hB j, hj])
  obtain ⟨i, hi, hz⟩ := Option.map_eq_some_iff.1 hs
  simp [Instr.loadAt, Instr.sureAddr, loadVar, Sem.run_bind, ha w, sizeOf, typeInfo, hi, hz, h2]
theorem agg_of {T : TypeId} {D : TypeDesc} (hu : Try.prog.underlying T = some D) (hD : (match D with | .struct _ => true | .array _ _ => true | _ => false) = true) (w : World) : (isAgg T).run Try.prog w = .ok true w := by
  unfold isAgg
  rw [Sem.run_bind, run_underlying hu w]
  cases D <;> first | rfl | cases hD
theorem size_lt : (Try.prog.info? 69).map (·.size) = some 4 := by kernel_rfl
theorem size_op : (Try.prog.info? 29).map (·.size) = some 3 := by kernel_rfl
theorem size_pd : (Try.prog.info? 47).map (·.size) = some 15 := by kernel_rfl
theorem agg_lt (w : World) : (isAgg 69).run Try.prog w = .ok true w := agg_of Try.underlying69 rfl w
theorem agg_op (w : World) : (isAgg 29).run Try.prog w = .ok true w := agg_of Try.underlying29 rfl w
theorem agg_pd (w : World) : (isAgg 47).run Try.prog w = .ok true w := agg_of Try.underlying47 rfl w
/-- how many data a head tells -/
def cnt (h : List (BitVec 8)) : Nat := (numTo h 5 3).toNat
theorem pnum_lt (x : List (BitVec 8)) : ∀ (acc : BitVec 64) (k : Nat), acc.toNat < 2 ^ (8 * k) → k + x.length ≤ 8 → (x.foldl (fun (n : BitVec 64) (c : BitVec 8) => (n <<< 8) ||| c.setWidth 64) acc).toNat < 2 ^ (8 * (k + x.length)) := by
  induction x with
  | nil => intro acc k h _; simpa using h
  | cons c x ih =>
    intro acc k h hk
    rw [List.foldl_cons, List.length_cons, show k + (x.length + 1) = (k + 1) + x.length by omega]
    rw [List.length_cons] at hk
    refine ih _ (k + 1) ?_ (by omega)
    rw [BitVec.toNat_or]
    have e : (2 : Nat) ^ (8 * (k + 1)) = 2 ^ (8 * k) * 256 := by rw [show 8 * (k + 1) = 8 * k + 8 by omega, Nat.pow_add]
    refine Nat.or_lt_two_pow ?_ ?_
    · rw [BitVec.toNat_shiftLeft, Nat.shiftLeft_eq]
      refine Nat.lt_of_le_of_lt (Nat.mod_le _ _) ?_
      rw [e]; omega
    · rw [BitVec.toNat_setWidth]
      refine Nat.lt_of_le_of_lt (Nat.mod_le _ _) ?_
      have := c.isLt
      have h1 : 1 ≤ (2 : Nat) ^ (8 * k) := Nat.one_le_two_pow
      rw [e]; omega
theorem numTo_lt (l : List (BitVec 8)) (p n : Nat) (hn : n ≤ 8) : (numTo l p n).toNat < 2 ^ (8 * n) := by
  unfold numTo num
  have hl : ((l.drop p).take n).length ≤ n := by rw [List.length_take]; omega
  have h := pnum_lt ((l.drop p).take n) 0#64 0 (by simp) (by omega)
  refine Nat.lt_of_lt_of_le h ?_
  exact Nat.pow_le_pow_right (by omega) (by omega)
theorem cnt_lt (h : List (BitVec 8)) : cnt h < 16777216 := numTo_lt h 5 3 (by omega)
set_option maxHeartbeats 1000000 in
theorem pcount_any (a0 a1 a2 a3 : Option Addr) (c0 n1 c1 n2 c2 n3 c3 : Nat) (h : List (BitVec 8)) (w : World) (hh : h.length = 48) (hr : Row w a0 h) :
    Calls Try.prog 30 #[.agg #[.slice a0 48 c0, .slice a1 n1 c1, .slice a2 n2 c2, .slice a3 n3 c3]] w fun e w' => e = .returned (.int .i64 (cnt h : Int)) ∧ Below w.heap.size w w' := by
  have b1 : Below w.heap.size w (w.alloc (.cells #[.slice a0 48 c0, .slice a1 n1 c1, .slice a2 n2 c2, .slice a3 n3 c3] 69)) := (Below.refl _ _).alloc (Nat.le_refl _) _
  have y := blk_at (Blk.new' w 69 [.slice a0 48 c0, .slice a1 n1 c1, .slice a2 n2 c2, .slice a3 n3 c3]) 0
  simp only [List.getElem?_cons_zero] at y
  have HG : Hid _ := Get_yes a0 48 c0 h 5 3 _ hh (by omega) (hr.later b1) (by omega) (by omega) (by omega)
  have F : Hid _ := b1
  have hc := cnt_lt h
  have hv : IntKind.i64.wrap ((numTo h 5 3).toNat : Int) = ((numTo h 5 3).toNat : Int) := by rw [IntKind.wrap_i64]; unfold cnt at hc; omega
  clear b1 hr
  go_enter Try.func30, Try.ntmps30
  go_wp2_with fail
  refine (Calls.mono HG.out) ?_
  rintro e _ ⟨rfl, rfl⟩
  clear HG
  go_wp2
  go_ret
  exact ⟨rfl, F.out⟩
set_option maxHeartbeats 1000000 in
theorem hasSum_any (hs ds : Bool) (mo : Int) (a0 a1 a2 a3 : Option Addr) (c0 n1 c1 n2 c2 n3 c3 : Nat) (h : List (BitVec 8)) (w : World) (hh : h.length = 48) (hr : Row w a0 h) :
    Calls Try.prog 58 #[.agg #[.bool hs, .bool ds, .int .i64 mo], .agg #[.slice a0 48 c0, .slice a1 n1 c1, .slice a2 n2 c2, .slice a3 n3 c3]] w fun e w' => e = .returned (.bool (ds && decide (0 < cnt h))) ∧ Below w.heap.size w w' := by
  have b0 : Below w.heap.size w (w.alloc (.cells #[.bool hs, .bool ds, .int .i64 mo] 29)) := (Below.refl _ _).alloc (Nat.le_refl _) _
  have BO := Blk.new' w 29 [.bool hs, .bool ds, .int .i64 mo]
  have hz : (w.alloc (.cells #[.bool hs, .bool ds, .int .i64 mo] 29)).heap.size = w.heap.size + 1 := by simp
  have b1 : Below (w.alloc (.cells #[.bool hs, .bool ds, .int .i64 mo] 29)).heap.size (w.alloc (.cells #[.bool hs, .bool ds, .int .i64 mo] 29)) ((w.alloc (.cells #[.bool hs, .bool ds, .int .i64 mo] 29)).alloc (.cells #[.slice a0 48 c0, .slice a1 n1 c1, .slice a2 n2 c2, .slice a3 n3 c3] 69)) := (Below.refl _ _).alloc (Nat.le_refl _) _
  have BL := Blk.new' (w.alloc (.cells #[.bool hs, .bool ds, .int .i64 mo] 29)) 69 [.slice a0 48 c0, .slice a1 n1 c1, .slice a2 n2 c2, .slice a3 n3 c3]
  have BO := BO.laterB b1
  have b1 := below_then b0 b1
  rw [hz] at BL
  have BL : Blk ((w.alloc (.cells #[.bool hs, .bool ds, .int .i64 mo] 29)).alloc (.cells #[.slice a0 48 c0, .slice a1 n1 c1, .slice a2 n2 c2, .slice a3 n3 c3] 69)) (w.heap.size + 1) 69 [.slice a0 48 c0, .slice a1 n1 c1, .slice a2 n2 c2, .slice a3 n3 c3] := BL
  have HR : Hid _ := And.intro (hr.later b1) b1
  have o0 := blk_at BO 0
  have o1 := blk_at BO 1
  have o2 := blk_at BO 2
  have l0 := blk_at BL 0
  have l1 := blk_at BL 1
  have l2 := blk_at BL 2
  have l3 := blk_at BL 3
  simp only [List.getElem?_cons_zero, List.getElem?_cons_succ] at o0 o1 o2 l0 l1 l2 l3
  have ldL := load_all size_lt agg_lt BL
  have ldO := load_all size_op agg_op BO
  have HB : Hid _ := And.intro BO BL
  clear b0 b1 BO BL hr hz
  cases ds
  · go_enter Try.func58, Try.ntmps58
    go_wp2
    go_ret
    exact ⟨rfl, HR.out.2⟩
  · have HC : Hid _ := pcount_any a0 a1 a2 a3 c0 n1 c1 n2 c2 n3 c3 h _ hh HR.out.1
    have HN : Hid _ := cnt_lt h
    go_enter Try.func58, Try.ntmps58
    go_wp2_with (first | (refine wpList_value rfl (exec_load rfl rfl ldL) ?_) | (refine wpList_value rfl (exec_load rfl rfl ldO) ?_))
    refine (Calls.mono HC.out) ?_
    rintro e w3 ⟨rfl, b3⟩
    have F : Hid _ := below_then HR.out.2 b3
    clear b3 HC HR ldL ldO HB
    by_cases h0 : 0 < cnt h
    · have h1 : (0 : Int) < (cnt h : Int) := by omega
      go_wp2
      go_ret
      exact ⟨by rw [decide_eq_true h0]; rfl, F.out⟩
    · have h1 : ¬ (0 : Int) < (cnt h : Int) := by omega
      go_wp2
      go_ret
      exact ⟨by rw [decide_eq_false h0]; rfl, F.out⟩
set_option maxHeartbeats 1000000 in
theorem psize_0 (hs ds : Bool) (mo : Int) (x0 x1 x2 x3 : Option Addr) (m0 d0 m1 d1 m2 d2 m3 d3 : Nat) (w : World) :
    Calls Try.prog 44 #[.agg #[.bool hs, .bool ds, .int .i64 mo], .agg #[.slice x0 m0 d0, .slice x1 m1 d1, .slice x2 m2 d2, .slice x3 m3 d3], .int .i64 0] w fun e w' => e = .returned (.int .i64 48) ∧ Below w.heap.size w w' := by
  have HR : Hid (Below w.heap.size w ((w.alloc (.cells #[.bool hs, .bool ds, .int .i64 mo] 29)).alloc (.cells #[.slice x0 m0 d0, .slice x1 m1 d1, .slice x2 m2 d2, .slice x3 m3 d3] 69))) := below_then ((Below.refl _ _).alloc (Nat.le_refl _) _) ((Below.refl _ _).alloc (Nat.le_refl _) _)
  go_enter Try.func44, Try.ntmps44
  go_wp2
  go_ret
  exact ⟨rfl, HR.out⟩
set_option maxHeartbeats 1000000 in
theorem psize_1 (hs ds : Bool) (mo : Int) (x0 x1 x2 x3 : Option Addr) (m0 d0 m1 d1 m2 d2 m3 d3 : Nat) (w : World) :
    Calls Try.prog 44 #[.agg #[.bool hs, .bool ds, .int .i64 mo], .agg #[.slice x0 m0 d0, .slice x1 m1 d1, .slice x2 m2 d2, .slice x3 m3 d3], .int .i64 1] w fun e w' => e = .returned (.int .i64 (if hs = true then 4 else 0)) ∧ Below w.heap.size w w' := by
  have HR : Hid (Below w.heap.size w ((w.alloc (.cells #[.bool hs, .bool ds, .int .i64 mo] 29)).alloc (.cells #[.slice x0 m0 d0, .slice x1 m1 d1, .slice x2 m2 d2, .slice x3 m3 d3] 69))) := below_then ((Below.refl _ _).alloc (Nat.le_refl _) _) ((Below.refl _ _).alloc (Nat.le_refl _) _)
  have b0 : Below w.heap.size w (w.alloc (.cells #[.bool hs, .bool ds, .int .i64 mo] 29)) := (Below.refl _ _).alloc (Nat.le_refl _) _
  have o0 := blk_at ((Blk.new' w 29 [.bool hs, .bool ds, .int .i64 mo]).laterB ((Below.refl _ _).alloc (Nat.le_refl _) (.cells #[.slice x0 m0 d0, .slice x1 m1 d1, .slice x2 m2 d2, .slice x3 m3 d3] 69))) 0
  simp only [List.getElem?_cons_zero] at o0
  cases hs
  · go_enter Try.func44, Try.ntmps44
    go_wp2
    go_ret
    exact ⟨rfl, HR.out⟩
  · go_enter Try.func44, Try.ntmps44
    go_wp2
    go_ret
    exact ⟨rfl, HR.out⟩
/-- how many bytes the data have with the 0 behind them -/
def bodyN (n : Nat) : Nat := n + (4 - n % 4) % 4
theorem pad_body (n : Nat) (h : n < 16777216) : padOf (n : Int) = ((bodyN n - n : Nat) : Int) ∧ n ≤ bodyN n ∧ bodyN n ≤ n + 3 := by
  unfold padOf bodyN
  refine ⟨?_, by omega, by omega⟩
  omega
set_option maxHeartbeats 1000000 in
theorem psize_2 (hs ds : Bool) (mo : Int) (a0 a1 a2 a3 : Option Addr) (c0 n1 c1 n2 c2 n3 c3 : Nat) (h : List (BitVec 8)) (w : World) (hh : h.length = 48) (hr : Row w a0 h) :
    Calls Try.prog 44 #[.agg #[.bool hs, .bool ds, .int .i64 mo], .agg #[.slice a0 48 c0, .slice a1 n1 c1, .slice a2 n2 c2, .slice a3 n3 c3], .int .i64 2] w fun e w' => e = .returned (.int .i64 (bodyN (cnt h) : Nat)) ∧ Below w.heap.size w w' := by
  have b0 : Below w.heap.size w (w.alloc (.cells #[.bool hs, .bool ds, .int .i64 mo] 29)) := (Below.refl _ _).alloc (Nat.le_refl _) _
  have BO := Blk.new' w 29 [.bool hs, .bool ds, .int .i64 mo]
  have hz : (w.alloc (.cells #[.bool hs, .bool ds, .int .i64 mo] 29)).heap.size = w.heap.size + 1 := by simp
  have b1 : Below (w.alloc (.cells #[.bool hs, .bool ds, .int .i64 mo] 29)).heap.size (w.alloc (.cells #[.bool hs, .bool ds, .int .i64 mo] 29)) ((w.alloc (.cells #[.bool hs, .bool ds, .int .i64 mo] 29)).alloc (.cells #[.slice a0 48 c0, .slice a1 n1 c1, .slice a2 n2 c2, .slice a3 n3 c3] 69)) := (Below.refl _ _).alloc (Nat.le_refl _) _
  have BL := Blk.new' (w.alloc (.cells #[.bool hs, .bool ds, .int .i64 mo] 29)) 69 [.slice a0 48 c0, .slice a1 n1 c1, .slice a2 n2 c2, .slice a3 n3 c3]
  have BO := BO.laterB b1
  have b1 := below_then b0 b1
  rw [hz] at BL
  have BL : Blk ((w.alloc (.cells #[.bool hs, .bool ds, .int .i64 mo] 29)).alloc (.cells #[.slice a0 48 c0, .slice a1 n1 c1, .slice a2 n2 c2, .slice a3 n3 c3] 69)) (w.heap.size + 1) 69 [.slice a0 48 c0, .slice a1 n1 c1, .slice a2 n2 c2, .slice a3 n3 c3] := BL
  have HR : Hid _ := And.intro (hr.later b1) b1
  have o0 := blk_at BO 0
  have o1 := blk_at BO 1
  have o2 := blk_at BO 2
  have l0 := blk_at BL 0
  have l1 := blk_at BL 1
  have l2 := blk_at BL 2
  have l3 := blk_at BL 3
  simp only [List.getElem?_cons_zero, List.getElem?_cons_succ] at o0 o1 o2 l0 l1 l2 l3
  have ldL := load_all size_lt agg_lt BL
  have ldO := load_all size_op agg_op BO
  have HB : Hid _ := And.intro BO BL
  clear b0 b1 BO BL hr hz
  have HN : Hid _ := cnt_lt h
  obtain ⟨hp, hp1, hp2⟩ := pad_body (cnt h) HN.out
  have hq : (cnt h : Int) + padOf (cnt h : Int) = ((bodyN (cnt h) : Nat) : Int) := by rw [hp]; omega
  have hk : IntKind.i64.wrap ((cnt h : Int) + padOf (cnt h : Int)) = ((bodyN (cnt h) : Nat) : Int) := by rw [hq, IntKind.wrap_i64]; have := HN.out; omega
  clear o0 o1 o2 l0 l1 l2 l3 ldL ldO
  go_enter Try.func44, Try.ntmps44
  go_wp2_with fail
  generalize ((w.alloc (.cells #[.bool hs, .bool ds, .int .i64 mo] 29)).alloc (.cells #[.slice a0 48 c0, .slice a1 n1 c1, .slice a2 n2 c2, .slice a3 n3 c3] 69)) = wb at *
  refine wp_region_held_drew (S := fun W => Below wb.heap.size wb W) (by kernel_rfl) (Below.refl _ _).drew (fun hS => ?_)
  have B0 : Below wb.heap.size wb wb.drew := (Below.refl _ _).drew
  refine any_take (i := 0) (v := .agg #[.slice a0 48 c0, .slice a1 n1 c1, .slice a2 n2 c2, .slice a3 n3 c3]) rfl (by kernel_rfl) (by kernel_rfl) (by kernel_rfl) (by exact fun _ _ _ h => h) (by rfl) ?_ hS ?_
  · intro W hSW; exact exec_load rfl rfl (load_all size_lt agg_lt (HB.out.2.laterB hSW))
  (try simp only [Act.put, List.setIfInBounds_toArray, List.set_cons_zero, List.set_cons_succ])
  refine any_take (i := 2) (v := .agg #[.slice a0 48 c0, .slice a1 n1 c1, .slice a2 n2 c2, .slice a3 n3 c3]) rfl (by kernel_rfl) (by kernel_rfl) (by kernel_rfl) (by exact fun _ _ _ h => h) (by rfl) ?_ hS ?_
  · intro W hSW; exact exec_load rfl rfl (load_all size_lt agg_lt (HB.out.2.laterB hSW))
  (try simp only [Act.put, List.setIfInBounds_toArray, List.set_cons_zero, List.set_cons_succ])
  refine any_one (i := 1) rfl (by kernel_rfl) (fun K hK => ?_)
  go_simp
  refine (Calls.mono (pcount_any a0 a1 a2 a3 c0 n1 c1 n2 c2 n3 c3 h _ hh (HR.out.1.later hS))) ?_
  rintro e x1 ⟨rfl, hbR⟩
  have B1 : Below wb.heap.size wb x1 := below_then B0 hbR
  go_wp2_with fail
  refine hK.out _ _ (by first | exact B1 | exact hbR | exact below_then hS hbR) (any_weaken (S' := fun W => Below x1.heap.size x1 W) (fun W hW => by first | exact below_then B1 hW | exact below_then hbR hW | exact below_then (below_then hS hbR) hW) _ _ _ _ ?_)
  clear hK K hS hbR
  have hS : Below x1.heap.size x1 x1 := Below.refl _ _
  refine any_one (i := 3) rfl (by kernel_rfl) (fun K hK => ?_)
  go_simp
  refine (Calls.mono (pcount_any a0 a1 a2 a3 c0 n1 c1 n2 c2 n3 c3 h _ hh (HR.out.1.later (below_then B1 hS)))) ?_
  rintro e x2 ⟨rfl, hbR⟩
  have B2 : Below wb.heap.size wb x2 := below_then B1 hbR
  go_wp2_with fail
  refine hK.out _ _ (by first | exact B2 | exact hbR | exact below_then hS hbR) (any_weaken (S' := fun W => Below x2.heap.size x2 W) (fun W hW => by first | exact below_then B2 hW | exact below_then hbR hW | exact below_then (below_then hS hbR) hW) _ _ _ _ ?_)
  clear hK K hS hbR
  have hS : Below x2.heap.size x2 x2 := Below.refl _ _
  refine any_one (i := 4) rfl (by kernel_rfl) (fun K hK => ?_)
  go_simp
  refine (Calls.mono (pad_any _ _)) ?_
  rintro e _ ⟨rfl, rfl⟩
  go_wp2_with fail
  refine hK.out _ _ hS ?_
  clear hK K
  refine any_take (i := 5) (v := ?_) rfl (by kernel_rfl) (by kernel_rfl) (by kernel_rfl) (by exact fun _ _ _ h => h) (by rfl) ?_ hS ?_
  rotate_left
  · ((intro w hSw; (try dsimp only at hSw); go_simp) <;> with_reducible rfl)
  (try simp only [Act.put, List.setIfInBounds_toArray, List.set_cons_zero, List.set_cons_succ])
  refine any_take (i := 6) (v := ?_) rfl (by kernel_rfl) (by kernel_rfl) (by kernel_rfl) (by exact fun _ _ _ h => h) (by rfl) ?_ hS ?_
  rotate_left
  · ((intro w hSw; (try dsimp only at hSw); go_simp) <;> with_reducible rfl)
  (try simp only [Act.put, List.setIfInBounds_toArray, List.set_cons_zero, List.set_cons_succ])
  refine wpAnyH_done (by kernel_rfl) ?_ _
  go_wp2
  go_ret
  exact ⟨by first | rfl | simp_all, by first | exact below_then HR.out.2 B2 | exact below_then HR.out.2 (below_then B2 hS)⟩
set_option maxHeartbeats 1000000 in
theorem psize_3 (hs ds : Bool) (mo : Int) (a0 a1 a2 a3 : Option Addr) (c0 n1 c1 n2 c2 n3 c3 : Nat) (h : List (BitVec 8)) (w : World) (hh : h.length = 48) (hr : Row w a0 h) :
    Calls Try.prog 44 #[.agg #[.bool hs, .bool ds, .int .i64 mo], .agg #[.slice a0 48 c0, .slice a1 n1 c1, .slice a2 n2 c2, .slice a3 n3 c3], .int .i64 3] w fun e w' => e = .returned (.int .i64 (if (ds && decide (0 < cnt h)) = true then 4 else 0)) ∧ Below w.heap.size w w' := by
  have b0 : Below w.heap.size w (w.alloc (.cells #[.bool hs, .bool ds, .int .i64 mo] 29)) := (Below.refl _ _).alloc (Nat.le_refl _) _
  have BO := Blk.new' w 29 [.bool hs, .bool ds, .int .i64 mo]
  have hz : (w.alloc (.cells #[.bool hs, .bool ds, .int .i64 mo] 29)).heap.size = w.heap.size + 1 := by simp
  have b1 : Below (w.alloc (.cells #[.bool hs, .bool ds, .int .i64 mo] 29)).heap.size (w.alloc (.cells #[.bool hs, .bool ds, .int .i64 mo] 29)) ((w.alloc (.cells #[.bool hs, .bool ds, .int .i64 mo] 29)).alloc (.cells #[.slice a0 48 c0, .slice a1 n1 c1, .slice a2 n2 c2, .slice a3 n3 c3] 69)) := (Below.refl _ _).alloc (Nat.le_refl _) _
  have BL := Blk.new' (w.alloc (.cells #[.bool hs, .bool ds, .int .i64 mo] 29)) 69 [.slice a0 48 c0, .slice a1 n1 c1, .slice a2 n2 c2, .slice a3 n3 c3]
  have BO := BO.laterB b1
  have b1 := below_then b0 b1
  rw [hz] at BL
  have BL : Blk ((w.alloc (.cells #[.bool hs, .bool ds, .int .i64 mo] 29)).alloc (.cells #[.slice a0 48 c0, .slice a1 n1 c1, .slice a2 n2 c2, .slice a3 n3 c3] 69)) (w.heap.size + 1) 69 [.slice a0 48 c0, .slice a1 n1 c1, .slice a2 n2 c2, .slice a3 n3 c3] := BL
  have HR : Hid _ := And.intro (hr.later b1) b1
  have o0 := blk_at BO 0
  have o1 := blk_at BO 1
  have o2 := blk_at BO 2
  have l0 := blk_at BL 0
  have l1 := blk_at BL 1
  have l2 := blk_at BL 2
  have l3 := blk_at BL 3
  simp only [List.getElem?_cons_zero, List.getElem?_cons_succ] at o0 o1 o2 l0 l1 l2 l3
  have ldL := load_all size_lt agg_lt BL
  have ldO := load_all size_op agg_op BO
  have HB : Hid _ := And.intro BO BL
  clear b0 b1 BO BL hr hz
  have HC : Hid _ := hasSum_any hs ds mo a0 a1 a2 a3 c0 n1 c1 n2 c2 n3 c3 h _ hh HR.out.1
  generalize (ds && decide (0 < cnt h)) = B at *
  go_enter Try.func44, Try.ntmps44
  go_wp2_with (first | (refine wpList_value rfl (exec_load rfl rfl ldL) ?_) | (refine wpList_value rfl (exec_load rfl rfl ldO) ?_))
  refine (Calls.mono HC.out) ?_
  rintro e w3 ⟨rfl, b3⟩
  have F : Hid _ := below_then HR.out.2 b3
  clear b3 HC HR ldL ldO HB
  cases B
  · go_wp2
    go_ret
    exact ⟨rfl, F.out⟩
  · go_wp2
    go_ret
    exact ⟨rfl, F.out⟩
/-- what is wrong with a head; d: its digest's bytes -/
def hfE (hs : Bool) (mo : Int) (h d : List (BitVec 8)) : Int :=
  if (hs && !decide (d = Crc.bytes4 (Crc.sum h))) = true then 12 else if bt h 4 ≠ 0 ∨ 128 ≤ bt h 0 then 11 else if mo < (cnt h : Int) then 3 else 0
theorem and128 (n : Int) (h0 : 0 ≤ n) (h1 : n < 256) : (bits .and .u8 n 128 = 0) ↔ ¬ 128 ≤ n := by
  obtain ⟨k, rfl⟩ := Int.eq_ofNat_of_zero_le h0
  have hk : k < 256 := by omega
  have : ∀ k : Nat, k < 256 → ((bits .and .u8 (k : Int) 128 = 0) ↔ ¬ 128 ≤ (k : Int)) := by decide +kernel
  exact this k hk
theorem bt_lt (l : List (BitVec 8)) (i : Nat) : 0 ≤ bt l i ∧ bt l i < 256 := by unfold bt; have := (l.getD i 0#8).isLt; omega
theorem load_1 {T : TypeId} {w : World} {x : Addr} {v : Value} (ha : ∀ w, (isAgg T).run Try.prog w = .ok false w) (h : w.cell? x = some v) : (Instr.loadAt T (.pointer (some x))).run Try.prog w = .ok v w := by
  obtain ⟨b, o, s⟩ := x
  obtain rfl := World.cell?_spot h
  simp [Instr.loadAt, Instr.sureAddr, loadVar, Sem.run_bind, ha w, h]
theorem agg_int (w : World) : (isAgg 3).run Try.prog w = .ok false w := by
  unfold isAgg
  rw [Sem.run_bind, run_underlying Try.underlying3 w]
  rfl
set_option maxHeartbeats 4000000 in
theorem phead_any (hs ds : Bool) (mo : Int) (a0 a1 a2 a3 : Option Addr) (c0 n1 c1 n2 c2 n3 c3 : Nat) (h d1 : List (BitVec 8)) (w : World) (hh : h.length = 48) (hr : Row w a0 h) (hd : d1.length = n1) (hdr : Row w a1 d1) :
    Calls Try.prog 45 #[.agg #[.bool hs, .bool ds, .int .i64 mo], .agg #[.slice a0 48 c0, .slice a1 n1 c1, .slice a2 n2 c2, .slice a3 n3 c3]] w fun e w' => e = .returned (.int .i64 (hfE hs mo h d1)) ∧ Below w.heap.size w w' := by
  have b0 : Below w.heap.size w (w.alloc (.cells #[.bool hs, .bool ds, .int .i64 mo] 29)) := (Below.refl _ _).alloc (Nat.le_refl _) _
  have BO := Blk.new' w 29 [.bool hs, .bool ds, .int .i64 mo]
  have hz : (w.alloc (.cells #[.bool hs, .bool ds, .int .i64 mo] 29)).heap.size = w.heap.size + 1 := by simp
  have b1 : Below (w.alloc (.cells #[.bool hs, .bool ds, .int .i64 mo] 29)).heap.size (w.alloc (.cells #[.bool hs, .bool ds, .int .i64 mo] 29)) ((w.alloc (.cells #[.bool hs, .bool ds, .int .i64 mo] 29)).alloc (.cells #[.slice a0 48 c0, .slice a1 n1 c1, .slice a2 n2 c2, .slice a3 n3 c3] 69)) := (Below.refl _ _).alloc (Nat.le_refl _) _
  have BL := Blk.new' (w.alloc (.cells #[.bool hs, .bool ds, .int .i64 mo] 29)) 69 [.slice a0 48 c0, .slice a1 n1 c1, .slice a2 n2 c2, .slice a3 n3 c3]
  have BO := BO.laterB b1
  have b1 := below_then b0 b1
  rw [hz] at BL
  have BL : Blk ((w.alloc (.cells #[.bool hs, .bool ds, .int .i64 mo] 29)).alloc (.cells #[.slice a0 48 c0, .slice a1 n1 c1, .slice a2 n2 c2, .slice a3 n3 c3] 69)) (w.heap.size + 1) 69 [.slice a0 48 c0, .slice a1 n1 c1, .slice a2 n2 c2, .slice a3 n3 c3] := BL
  have HD : Hid _ := hdr.later b1
  clear hdr
  have HR : Hid _ := And.intro (hr.later b1) b1
  have o0 := blk_at BO 0
  have o1 := blk_at BO 1
  have o2 := blk_at BO 2
  have l0 := blk_at BL 0
  have l1 := blk_at BL 1
  have l2 := blk_at BL 2
  have l3 := blk_at BL 3
  simp only [List.getElem?_cons_zero, List.getElem?_cons_succ] at o0 o1 o2 l0 l1 l2 l3
  have ldL := load_all size_lt agg_lt BL
  have ldO := load_all size_op agg_op BO
  have HB : Hid _ := And.intro BO BL
  clear b0 b1 BO BL hr hz
  clear ldL ldO
  cases hs
  · have HD0 : Hid ((false && !decide (d1 = Crc.bytes4 (Crc.sum h))) = false) := rfl
    clear HD hd
    go_enter Try.func45, Try.ntmps45
    have HX : Hid _ := And.intro HR.out.1 (And.intro HR.out.2 (And.intro HB.out.2 HB.out.1))
    clear HR HB
    obtain ⟨bb, oo, rfl, hcc⟩ : ∃ b off, a0 = some ⟨b, off, none⟩ ∧ ∀ i, i < 48 → ((w.alloc (.cells #[.bool false, .bool ds, .int .i64 mo] 29)).alloc (.cells #[.slice a0 48 c0, .slice a1 n1 c1, .slice a2 n2 c2, .slice a3 n3 c3] 69)).cell? ⟨b, off + i, none⟩ = some (.int .u8 (bt h i)) := by
      rcases HX.out.1 with q | ⟨b, off, q1, q2⟩
      · rw [q] at hh; cases hh
      · exact ⟨b, off, q1, fun i hi => q2 i (by omega)⟩
    have k4 := hcc 4 (by omega)
    have k0 := hcc 0 (by omega)
    simp only [Nat.add_zero] at k0
    clear hcc
    have l0 := blk_at HX.out.2.2.1 0
    simp only [List.getElem?_cons_zero] at l0
    have z0 := bt_lt h 0
    have z1 := and128 _ z0.1 z0.2
    have z4 := bt_lt h 4
    by_cases q4 : bt h 4 = 0
    · by_cases q0 : 128 ≤ bt h 0
      · have z2 : ¬ bits .and .u8 (bt h 0) 128 = 0 := fun e => z1.1 e q0
        have hE0 : hfE false mo h d1 = 11 := by unfold hfE; rw [if_neg (by rw [HD0.out]; decide), if_pos (.inr q0)]
        clear z0 z1
        have hE : Hid _ := hE0
        clear hE0
        go_wp2
        go_ret
        exact ⟨by rw [hE.out]; rfl, HX.out.2.1⟩
      · have z2 : bits .and .u8 (bt h 0) 128 = 0 := z1.2 q0
        clear z0 z1
        by_cases qm : mo < (cnt h : Int)
        · have hE0 : hfE false mo h d1 = 3 := by unfold hfE; rw [if_neg (by rw [HD0.out]; decide), if_neg (by omega), if_pos qm]
          have hE : Hid _ := hE0
          clear hE0
          go_wp2_with fail
          generalize ((w.alloc (.cells #[.bool false, .bool ds, .int .i64 mo] 29)).alloc (.cells #[.slice (some ⟨bb, oo, none⟩) 48 c0, .slice a1 n1 c1, .slice a2 n2 c2, .slice a3 n3 c3] 69)) = wc at *
          refine wp_region_held_drew (S := fun W => Below wc.heap.size wc W) (by kernel_rfl) (Below.refl _ _).drew (fun hS => ?_)
          have B0 : Below wc.heap.size wc wc.drew := (Below.refl _ _).drew
          refine any_take (i := 0) (v := .agg #[.slice (some ⟨bb, oo, none⟩) 48 c0, .slice a1 n1 c1, .slice a2 n2 c2, .slice a3 n3 c3]) rfl (by kernel_rfl) (by kernel_rfl) (by kernel_rfl) (by exact fun _ _ _ h => h) (by rfl) ?_ hS ?_
          · intro W hSW; exact exec_load rfl rfl (load_all size_lt agg_lt (HX.out.2.2.1.laterB hSW))
          (try simp only [Act.put, List.setIfInBounds_toArray, List.set_cons_zero, List.set_cons_succ])
          refine any_take (i := 2) (v := ?_) rfl (by kernel_rfl) (by kernel_rfl) (by kernel_rfl) (by exact fun _ _ _ h => h) (by rfl) ?_ hS ?_
          rotate_left
          · ((intro w hSw; (try dsimp only at hSw); go_simp) <;> with_reducible rfl)
          (try simp only [Act.put, List.setIfInBounds_toArray, List.set_cons_zero, List.set_cons_succ])
          refine any_take (i := 3) (v := .int .i64 mo) rfl (by kernel_rfl) (by kernel_rfl) (by kernel_rfl) (by exact fun _ _ _ h => h) (by rfl) ?_ hS ?_
          · intro W hSW; exact exec_load rfl rfl (load_1 agg_int (by rw [blk_at (HX.out.2.2.2.laterB hSW) 2]; rfl))
          (try simp only [Act.put, List.setIfInBounds_toArray, List.set_cons_zero, List.set_cons_succ])
          refine any_one (i := 1) rfl (by kernel_rfl) (fun K hK => ?_)
          go_simp
          refine (Calls.mono (pcount_any _ a1 a2 a3 c0 n1 c1 n2 c2 n3 c3 h _ hh (HX.out.1.later hS))) ?_
          rintro e x1 ⟨rfl, hbR⟩
          have B1 : Below wc.heap.size wc x1 := below_then B0 hbR
          go_wp2_with fail
          refine hK.out _ _ (by first | exact B1 | exact hbR | exact below_then hS hbR) (any_weaken (S' := fun W => Below x1.heap.size x1 W) (fun W hW => by first | exact below_then B1 hW | exact below_then hbR hW | exact below_then (below_then hS hbR) hW) _ _ _ _ ?_)
          clear hK K hS hbR
          have hS : Below x1.heap.size x1 x1 := Below.refl _ _
          refine any_take (i := 4) (v := ?_) rfl (by kernel_rfl) (by kernel_rfl) (by kernel_rfl) (by exact fun _ _ _ h => h) (by rfl) ?_ hS ?_
          rotate_left
          · ((intro w hSw; (try dsimp only at hSw); go_simp) <;> with_reducible rfl)
          (try simp only [Act.put, List.setIfInBounds_toArray, List.set_cons_zero, List.set_cons_succ])
          refine any_take (i := 5) (v := ?_) rfl (by kernel_rfl) (by kernel_rfl) (by kernel_rfl) (by exact fun _ _ _ h => h) (by rfl) ?_ hS ?_
          rotate_left
          · ((intro w hSw; (try dsimp only at hSw); go_simp) <;> with_reducible rfl)
          (try simp only [Act.put, List.setIfInBounds_toArray, List.set_cons_zero, List.set_cons_succ])
          refine wpAnyH_done (by kernel_rfl) ?_ _
          go_wp2
          go_ret
          exact ⟨by rw [hE.out]; rfl, below_then HX.out.2.1 B1⟩
        · have hE0 : hfE false mo h d1 = 0 := by unfold hfE; rw [if_neg (by rw [HD0.out]; decide), if_neg (by omega), if_neg qm]
          have hE : Hid _ := hE0
          clear hE0
          go_wp2_with fail
          generalize ((w.alloc (.cells #[.bool false, .bool ds, .int .i64 mo] 29)).alloc (.cells #[.slice (some ⟨bb, oo, none⟩) 48 c0, .slice a1 n1 c1, .slice a2 n2 c2, .slice a3 n3 c3] 69)) = wc at *
          refine wp_region_held_drew (S := fun W => Below wc.heap.size wc W) (by kernel_rfl) (Below.refl _ _).drew (fun hS => ?_)
          have B0 : Below wc.heap.size wc wc.drew := (Below.refl _ _).drew
          refine any_take (i := 0) (v := .agg #[.slice (some ⟨bb, oo, none⟩) 48 c0, .slice a1 n1 c1, .slice a2 n2 c2, .slice a3 n3 c3]) rfl (by kernel_rfl) (by kernel_rfl) (by kernel_rfl) (by exact fun _ _ _ h => h) (by rfl) ?_ hS ?_
          · intro W hSW; exact exec_load rfl rfl (load_all size_lt agg_lt (HX.out.2.2.1.laterB hSW))
          (try simp only [Act.put, List.setIfInBounds_toArray, List.set_cons_zero, List.set_cons_succ])
          refine any_take (i := 2) (v := ?_) rfl (by kernel_rfl) (by kernel_rfl) (by kernel_rfl) (by exact fun _ _ _ h => h) (by rfl) ?_ hS ?_
          rotate_left
          · ((intro w hSw; (try dsimp only at hSw); go_simp) <;> with_reducible rfl)
          (try simp only [Act.put, List.setIfInBounds_toArray, List.set_cons_zero, List.set_cons_succ])
          refine any_take (i := 3) (v := .int .i64 mo) rfl (by kernel_rfl) (by kernel_rfl) (by kernel_rfl) (by exact fun _ _ _ h => h) (by rfl) ?_ hS ?_
          · intro W hSW; exact exec_load rfl rfl (load_1 agg_int (by rw [blk_at (HX.out.2.2.2.laterB hSW) 2]; rfl))
          (try simp only [Act.put, List.setIfInBounds_toArray, List.set_cons_zero, List.set_cons_succ])
          refine any_one (i := 1) rfl (by kernel_rfl) (fun K hK => ?_)
          go_simp
          refine (Calls.mono (pcount_any _ a1 a2 a3 c0 n1 c1 n2 c2 n3 c3 h _ hh (HX.out.1.later hS))) ?_
          rintro e x1 ⟨rfl, hbR⟩
          have B1 : Below wc.heap.size wc x1 := below_then B0 hbR
          go_wp2_with fail
          refine hK.out _ _ (by first | exact B1 | exact hbR | exact below_then hS hbR) (any_weaken (S' := fun W => Below x1.heap.size x1 W) (fun W hW => by first | exact below_then B1 hW | exact below_then hbR hW | exact below_then (below_then hS hbR) hW) _ _ _ _ ?_)
          clear hK K hS hbR
          have hS : Below x1.heap.size x1 x1 := Below.refl _ _
          refine any_take (i := 4) (v := ?_) rfl (by kernel_rfl) (by kernel_rfl) (by kernel_rfl) (by exact fun _ _ _ h => h) (by rfl) ?_ hS ?_
          rotate_left
          · ((intro w hSw; (try dsimp only at hSw); go_simp) <;> with_reducible rfl)
          (try simp only [Act.put, List.setIfInBounds_toArray, List.set_cons_zero, List.set_cons_succ])
          refine any_take (i := 5) (v := ?_) rfl (by kernel_rfl) (by kernel_rfl) (by kernel_rfl) (by exact fun _ _ _ h => h) (by rfl) ?_ hS ?_
          rotate_left
          · ((intro w hSw; (try dsimp only at hSw); go_simp) <;> with_reducible rfl)
          (try simp only [Act.put, List.setIfInBounds_toArray, List.set_cons_zero, List.set_cons_succ])
          refine wpAnyH_done (by kernel_rfl) ?_ _
          go_wp2
          go_ret
          exact ⟨by rw [hE.out]; rfl, below_then HX.out.2.1 B1⟩
    · have hE0 : hfE false mo h d1 = 11 := by unfold hfE; rw [if_neg (by rw [HD0.out]; decide), if_pos (.inl q4)]
      clear z0 z1
      have hE : Hid _ := hE0
      clear hE0
      go_wp2
      go_ret
      exact ⟨by rw [hE.out]; rfl, HX.out.2.1⟩
  · have HC : Hid _ := Right_row a0 48 c0 h a1 n1 c1 d1 _ hh (by unfold maxLen; omega) HR.out.1 hd HD.out
    have HDX : Hid (∀ B, B = decide (d1 = Crc.bytes4 (Crc.sum h)) → (true && !decide (d1 = Crc.bytes4 (Crc.sum h))) = !B) := fun B e => by rw [e]; rfl
    generalize hBB : decide (d1 = Crc.bytes4 (Crc.sum h)) = BB at *
    clear hd HD
    go_enter Try.func45, Try.ntmps45
    go_wp2_with fail
    refine (Calls.mono HC.out) ?_
    rintro e wc ⟨rfl, b3⟩
    have HR : Hid _ := And.intro (HR.out.1.later b3) (below_then HR.out.2 b3)
    have HB : Hid _ := And.intro (HB.out.1.laterB b3) (HB.out.2.laterB b3)
    clear b3 HC o0 o1 o2 l0 l1 l2 l3
    cases BB
    · have hE0 : hfE true mo h d1 = 12 := by unfold hfE; rw [hBB]; rfl
      have hE : Hid _ := hE0
      have F : Hid _ := HR.out.2
      clear HR HB hE0
      go_wp2
      go_ret
      exact ⟨by rw [hE.out]; rfl, F.out⟩
    · have HD0 : Hid ((true && !decide (d1 = Crc.bytes4 (Crc.sum h))) = false) := by rw [hBB]; rfl
      clear hBB
      have HX : Hid _ := And.intro HR.out.1 (And.intro HR.out.2 (And.intro HB.out.2 HB.out.1))
      clear HR HB
      obtain ⟨bb, oo, rfl, hcc⟩ : ∃ b off, a0 = some ⟨b, off, none⟩ ∧ ∀ i, i < 48 → wc.cell? ⟨b, off + i, none⟩ = some (.int .u8 (bt h i)) := by
        rcases HX.out.1 with q | ⟨b, off, q1, q2⟩
        · rw [q] at hh; cases hh
        · exact ⟨b, off, q1, fun i hi => q2 i (by omega)⟩
      have k4 := hcc 4 (by omega)
      have k0 := hcc 0 (by omega)
      simp only [Nat.add_zero] at k0
      clear hcc
      have l0 := blk_at HX.out.2.2.1 0
      simp only [List.getElem?_cons_zero] at l0
      have z0 := bt_lt h 0
      have z1 := and128 _ z0.1 z0.2
      have z4 := bt_lt h 4
      by_cases q4 : bt h 4 = 0
      · by_cases q0 : 128 ≤ bt h 0
        · have z2 : ¬ bits .and .u8 (bt h 0) 128 = 0 := fun e => z1.1 e q0
          have hE0 : hfE true mo h d1 = 11 := by unfold hfE; rw [if_neg (by rw [HD0.out]; decide), if_pos (.inr q0)]
          clear z0 z1
          have hE : Hid _ := hE0
          clear hE0
          go_wp2
          go_ret
          exact ⟨by rw [hE.out]; rfl, HX.out.2.1⟩
        · have z2 : bits .and .u8 (bt h 0) 128 = 0 := z1.2 q0
          clear z0 z1
          by_cases qm : mo < (cnt h : Int)
          · have hE0 : hfE true mo h d1 = 3 := by unfold hfE; rw [if_neg (by rw [HD0.out]; decide), if_neg (by omega), if_pos qm]
            have hE : Hid _ := hE0
            clear hE0
            go_wp2_with fail
            refine wp_region_held_drew (S := fun W => Below wc.heap.size wc W) (by kernel_rfl) (Below.refl _ _).drew (fun hS => ?_)
            have B0 : Below wc.heap.size wc wc.drew := (Below.refl _ _).drew
            refine any_take (i := 0) (v := .agg #[.slice (some ⟨bb, oo, none⟩) 48 c0, .slice a1 n1 c1, .slice a2 n2 c2, .slice a3 n3 c3]) rfl (by kernel_rfl) (by kernel_rfl) (by kernel_rfl) (by exact fun _ _ _ h => h) (by rfl) ?_ hS ?_
            · intro W hSW; exact exec_load rfl rfl (load_all size_lt agg_lt (HX.out.2.2.1.laterB hSW))
            (try simp only [Act.put, List.setIfInBounds_toArray, List.set_cons_zero, List.set_cons_succ])
            refine any_take (i := 2) (v := ?_) rfl (by kernel_rfl) (by kernel_rfl) (by kernel_rfl) (by exact fun _ _ _ h => h) (by rfl) ?_ hS ?_
            rotate_left
            · ((intro w hSw; (try dsimp only at hSw); go_simp) <;> with_reducible rfl)
            (try simp only [Act.put, List.setIfInBounds_toArray, List.set_cons_zero, List.set_cons_succ])
            refine any_take (i := 3) (v := .int .i64 mo) rfl (by kernel_rfl) (by kernel_rfl) (by kernel_rfl) (by exact fun _ _ _ h => h) (by rfl) ?_ hS ?_
            · intro W hSW; exact exec_load rfl rfl (load_1 agg_int (by rw [blk_at (HX.out.2.2.2.laterB hSW) 2]; rfl))
            (try simp only [Act.put, List.setIfInBounds_toArray, List.set_cons_zero, List.set_cons_succ])
            refine any_one (i := 1) rfl (by kernel_rfl) (fun K hK => ?_)
            go_simp
            refine (Calls.mono (pcount_any _ a1 a2 a3 c0 n1 c1 n2 c2 n3 c3 h _ hh (HX.out.1.later hS))) ?_
            rintro e x1 ⟨rfl, hbR⟩
            have B1 : Below wc.heap.size wc x1 := below_then B0 hbR
            go_wp2_with fail
            refine hK.out _ _ (by first | exact B1 | exact hbR | exact below_then hS hbR) (any_weaken (S' := fun W => Below x1.heap.size x1 W) (fun W hW => by first | exact below_then B1 hW | exact below_then hbR hW | exact below_then (below_then hS hbR) hW) _ _ _ _ ?_)
            clear hK K hS hbR
            have hS : Below x1.heap.size x1 x1 := Below.refl _ _
            refine any_take (i := 4) (v := ?_) rfl (by kernel_rfl) (by kernel_rfl) (by kernel_rfl) (by exact fun _ _ _ h => h) (by rfl) ?_ hS ?_
            rotate_left
            · ((intro w hSw; (try dsimp only at hSw); go_simp) <;> with_reducible rfl)
            (try simp only [Act.put, List.setIfInBounds_toArray, List.set_cons_zero, List.set_cons_succ])
            refine any_take (i := 5) (v := ?_) rfl (by kernel_rfl) (by kernel_rfl) (by kernel_rfl) (by exact fun _ _ _ h => h) (by rfl) ?_ hS ?_
            rotate_left
            · ((intro w hSw; (try dsimp only at hSw); go_simp) <;> with_reducible rfl)
            (try simp only [Act.put, List.setIfInBounds_toArray, List.set_cons_zero, List.set_cons_succ])
            refine wpAnyH_done (by kernel_rfl) ?_ _
            go_wp2
            go_ret
            exact ⟨by rw [hE.out]; rfl, below_then HX.out.2.1 B1⟩
          · have hE0 : hfE true mo h d1 = 0 := by unfold hfE; rw [if_neg (by rw [HD0.out]; decide), if_neg (by omega), if_neg qm]
            have hE : Hid _ := hE0
            clear hE0
            go_wp2_with fail
            refine wp_region_held_drew (S := fun W => Below wc.heap.size wc W) (by kernel_rfl) (Below.refl _ _).drew (fun hS => ?_)
            have B0 : Below wc.heap.size wc wc.drew := (Below.refl _ _).drew
            refine any_take (i := 0) (v := .agg #[.slice (some ⟨bb, oo, none⟩) 48 c0, .slice a1 n1 c1, .slice a2 n2 c2, .slice a3 n3 c3]) rfl (by kernel_rfl) (by kernel_rfl) (by kernel_rfl) (by exact fun _ _ _ h => h) (by rfl) ?_ hS ?_
            · intro W hSW; exact exec_load rfl rfl (load_all size_lt agg_lt (HX.out.2.2.1.laterB hSW))
            (try simp only [Act.put, List.setIfInBounds_toArray, List.set_cons_zero, List.set_cons_succ])
            refine any_take (i := 2) (v := ?_) rfl (by kernel_rfl) (by kernel_rfl) (by kernel_rfl) (by exact fun _ _ _ h => h) (by rfl) ?_ hS ?_
            rotate_left
            · ((intro w hSw; (try dsimp only at hSw); go_simp) <;> with_reducible rfl)
            (try simp only [Act.put, List.setIfInBounds_toArray, List.set_cons_zero, List.set_cons_succ])
            refine any_take (i := 3) (v := .int .i64 mo) rfl (by kernel_rfl) (by kernel_rfl) (by kernel_rfl) (by exact fun _ _ _ h => h) (by rfl) ?_ hS ?_
            · intro W hSW; exact exec_load rfl rfl (load_1 agg_int (by rw [blk_at (HX.out.2.2.2.laterB hSW) 2]; rfl))
            (try simp only [Act.put, List.setIfInBounds_toArray, List.set_cons_zero, List.set_cons_succ])
            refine any_one (i := 1) rfl (by kernel_rfl) (fun K hK => ?_)
            go_simp
            refine (Calls.mono (pcount_any _ a1 a2 a3 c0 n1 c1 n2 c2 n3 c3 h _ hh (HX.out.1.later hS))) ?_
            rintro e x1 ⟨rfl, hbR⟩
            have B1 : Below wc.heap.size wc x1 := below_then B0 hbR
            go_wp2_with fail
            refine hK.out _ _ (by first | exact B1 | exact hbR | exact below_then hS hbR) (any_weaken (S' := fun W => Below x1.heap.size x1 W) (fun W hW => by first | exact below_then B1 hW | exact below_then hbR hW | exact below_then (below_then hS hbR) hW) _ _ _ _ ?_)
            clear hK K hS hbR
            have hS : Below x1.heap.size x1 x1 := Below.refl _ _
            refine any_take (i := 4) (v := ?_) rfl (by kernel_rfl) (by kernel_rfl) (by kernel_rfl) (by exact fun _ _ _ h => h) (by rfl) ?_ hS ?_
            rotate_left
            · ((intro w hSw; (try dsimp only at hSw); go_simp) <;> with_reducible rfl)
            (try simp only [Act.put, List.setIfInBounds_toArray, List.set_cons_zero, List.set_cons_succ])
            refine any_take (i := 5) (v := ?_) rfl (by kernel_rfl) (by kernel_rfl) (by kernel_rfl) (by exact fun _ _ _ h => h) (by rfl) ?_ hS ?_
            rotate_left
            · ((intro w hSw; (try dsimp only at hSw); go_simp) <;> with_reducible rfl)
            (try simp only [Act.put, List.setIfInBounds_toArray, List.set_cons_zero, List.set_cons_succ])
            refine wpAnyH_done (by kernel_rfl) ?_ _
            go_wp2
            go_ret
            exact ⟨by rw [hE.out]; rfl, below_then HX.out.2.1 B1⟩
      · have hE0 : hfE true mo h d1 = 11 := by unfold hfE; rw [if_neg (by rw [HD0.out]; decide), if_pos (.inl q4)]
        clear z0 z1
        have hE : Hid _ := hE0
        clear hE0
        go_wp2
        go_ret
        exact ⟨by rw [hE.out]; rfl, HX.out.2.1⟩
end Go.Proofs.Ytfcaaljehhibgaa

/- pdu: what is wrong with a body. -/
namespace Go.Proofs.Ytfcaaljehhibgaa
open Go.RowKit
set_option linter.unusedVariables false
set_option linter.unusedSimpArgs false
set_option maxRecDepth 4000

theorem agg_u8s (w : World) : (isAgg 34).run Try.prog w = .ok false w := by
  unfold isAgg
  rw [Sem.run_bind, run_underlying Try.underlying34 w]
  rfl
theorem notZero_any (c : Int) (w : World) : Calls Try.prog 61 #[.int .u8 c] w fun e w' => e = .returned (.bool (decide (¬ c = 0))) ∧ w' = w := by
  by_cases h : c = 0
  · subst h
    go_enter Try.func61, Try.ntmps61
    go_wp2
    go_ret
    exact ⟨by simp, rfl⟩
  · go_enter Try.func61, Try.ntmps61
    go_wp2
    go_ret
    exact ⟨by simp [h], rfl⟩
theorem exec_slice {P : Program} {w : World} {a : Act} {o : Oper} {t : TypeId} {x : Operand} {lo hi : Option Operand} (ho : o.op = .slice t x lo hi none) {p u : Value} (hx : a.eval x = p) (h : (Instr.sliceAt t p (lo.map a.eval) (hi.map a.eval) none).run P w = .ok u w) : (execOp a.eval o).run P w = .ok (.value u) w := by
  simp [execOp, ho, hx, h, Result.andThen]
theorem sz_u8 (w : World) : (sizeOf (Try.prog.elem 34)).run Try.prog w = .ok 1 w := by
  have e : Try.prog.elem 34 = 5 := by kernel_rfl
  obtain ⟨i0, hi, -, hz1, -⟩ := info_parts info_u8
  rw [e]
  simp [sizeOf, typeInfo, hi, hz1]
theorem elem_u8s : Try.prog.underlying 34 = some (.slice (Try.prog.elem 34)) := by kernel_rfl
/-- x[k:] of bytes -/
theorem slice_from {w : World} {a : Option Addr} {n c : Nat} {l : List (BitVec 8)} (hr : Row w a l) (hl : l.length = n) (hc : n ≤ c) (hn : a = none → c = 0) (k : Nat) (hk : k ≤ n) :
    ∃ y, (∀ W : World, (Instr.sliceAt 34 (.slice a n c) (some (.int .i64 (k : Int))) none none).run Try.prog W = .ok (.slice y (n - k) (c - k)) W) ∧ Row w y (l.drop k) ∧ (y = none → c - k = 0) ∧ (∀ x, y = some x → ∃ x0, a = some x0 ∧ x.block = x0.block) := by
  have hrun : ∀ W : World, (Instr.sliceAt 34 (.slice a n c) (some (.int .i64 (k : Int))) none none).run Try.prog W = .ok (sliced a k n c 1) W := fun W => by
    rw [run_sliceAt_slice W _ _ _ _ _ elem_u8s, run_slice_l W _ _ _ _ elem_u8s .i64 (k : Int) (by omega) (by omega), sz_u8]
    rfl
  unfold sliced at hrun
  refine ⟨_, hrun, ?_, ?_, ?_⟩
  · split
    · exact .inl (List.drop_eq_nil_of_le (by omega))
    · rcases hr with rfl | ⟨b, off, rfl, hcl⟩
      · exact .inl (by simp)
      · have e : (⟨b, off, none⟩ : Addr).add k = ⟨b, off + k, none⟩ := by unfold Addr.add; split <;> simp_all
        refine .inr ⟨b, off + k, by simp [e], fun i hi => ?_⟩
        rw [List.length_drop] at hi
        rw [Nat.add_assoc, hcl (k + i) (by omega)]
        unfold bt
        simp [List.getD]
  · split
    · intro h; omega
    · intro h
      have : a = none := by cases a <;> simp_all
      have := hn this
      omega
  · split
    · intro x hx; exact ⟨x, hx, rfl⟩
    · intro x hx
      cases a with
      | none => cases hx
      | some x0 =>
        simp at hx
        subst hx
        exact ⟨x0, rfl, by unfold Addr.add; split <;> rfl⟩
/-- x[:k] of bytes -/
theorem slice_upto {w : World} {a : Option Addr} {n c : Nat} {l : List (BitVec 8)} (hr : Row w a l) (hl : l.length = n) (hc : n ≤ c) (k : Nat) (hk : k ≤ n) (hn : a = none → c = 0) :
    ∃ y, (∀ W : World, (Instr.sliceAt 34 (.slice a n c) none (some (.int .i64 (k : Int))) none).run Try.prog W = .ok (.slice y k c) W) ∧ Row w y (l.take k) ∧ (y = none → c = 0) ∧ (∀ x, y = some x → ∃ x0, a = some x0 ∧ x.block = x0.block) := by
  have hrun : ∀ W : World, (Instr.sliceAt 34 (.slice a n c) none (some (.int .i64 (k : Int))) none).run Try.prog W = .ok (sliced a 0 k c 1) W := fun W => by
    rw [run_sliceAt_slice W _ _ _ _ _ elem_u8s, run_slice_h W _ _ _ _ elem_u8s .i64 (k : Int) (by omega) (by omega), sz_u8]
    rfl
  have e : sliced a 0 k c 1 = .slice a k c := by
    unfold sliced
    rcases hr with rfl | ⟨b, off, rfl, hcl⟩
    · simp at hl
      split
      · simp
      · cases a with
        | none => simp
        | some x => obtain ⟨b, o, s⟩ := x; cases s <;> simp [Addr.add]
    · simp [Addr.add]
  rw [e] at hrun
  refine ⟨a, hrun, ?_, hn, fun x hx => ⟨x, hx, rfl⟩⟩
  rcases hr with rfl | ⟨b, off, rfl, hcl⟩
  · exact .inl (by simp)
  · refine .inr ⟨b, off, rfl, fun i hi => ?_⟩
    rw [List.length_take] at hi
    rw [hcl i (by omega)]
    unfold bt
    simp [List.getD, List.getElem?_take, show i < k by omega]
def nz (l : List (BitVec 8)) : Bool := l.any (fun c => decide (¬ c = 0#8))
theorem bt_zero (l : List (BitVec 8)) (k : Nat) (h : k < l.length) : bt l k = 0 ↔ l[k] = 0#8 := by
  unfold bt
  rw [List.getD, List.getElem?_eq_getElem h, Option.getD_some]
  constructor
  · intro e; apply BitVec.eq_of_toNat_eq; simp; omega
  · intro e; rw [e]; rfl
set_option maxHeartbeats 1000000 in
theorem pIdx_any (a : Option Addr) (n c : Nat) (l : List (BitVec 8)) (w : World) (hl : l.length = n) (hm : n ≤ 1000000) (hr : Row w a l) :
    Calls Try.prog 71 #[.slice a n c, .func (.func 61) #[] #[]] w fun e w' => (∃ i : Int, e = .returned (.int .i64 i) ∧ decide (0 ≤ i) = nz l) ∧ w' = w := by
  have HR : Hid _ := hr
  clear hr
  go_enter Try.func71, Try.ntmps71
  go_wp2_with fail
  go_loopw [8] (fun iv wr => ∃ (k : Nat), iv = .int .i64 k ∧ k ≤ n ∧ (∀ j, j < k → bt l j = 0) ∧ wr = w) (fun iv _ => n - (intOf iv).toNat)
  case atStart => exact ⟨0, rfl, by omega, (fun j hj => by omega), rfl⟩
  case round =>
    obtain ⟨k, rfl, hk, hno, hwr⟩ := hrel
    obtain rfl := hwr.symm
    by_cases hlt : k < n
    · obtain ⟨b, off, rfl, k1⟩ : ∃ b off, a = some ⟨b, off, none⟩ ∧ w.cell? ⟨b, off + k, none⟩ = some (.int .u8 (bt l k)) := by
        rcases HR.out with q | ⟨b, off, q1, q2⟩
        · rw [q] at hl; simp at hl; omega
        · exact ⟨b, off, q1, q2 k (by omega)⟩
      have q1 : (k : Int) < n := by omega
      have H1 : Hid _ := notZero_any (bt l k) w
      have HZ : Hid _ := bt_zero l k (by omega)
      have HM : Hid _ := List.getElem_mem (l := l) (n := k) (by omega)
      have G : Hid _ := hno
      clear hno
      by_cases hx : bt l k = 0
      · rw [decide_eq_false (by simpa using hx)] at H1
        have HX : Hid _ := hx
        clear hx
        go_wp2_with fail
        refine (Calls.mono H1.out) ?_
        rintro e _ ⟨rfl, rfl⟩
        clear H1
        have F2 : Hid (∀ j, j < k + 1 → bt l j = 0) := fun j hj => by
          rcases Nat.lt_or_ge j k with h | h
          · exact G.out j h
          · obtain rfl : j = k := by omega
            exact HX.out
        clear G
        go_wp2
        go_roundw
        case rel => exact ⟨k + 1, by go_num, by omega, F2.out, by first | rfl | trivial⟩
        case measure => simp [intOf]; omega
      · rw [decide_eq_true hx] at H1
        have HX : Hid _ := hx
        clear hx
        go_wp2_with fail
        refine (Calls.mono H1.out) ?_
        rintro e _ ⟨rfl, rfl⟩
        clear H1
        go_wp2
        go_ret
        refine ⟨⟨_, rfl, ?_⟩, rfl⟩
        rw [decide_eq_true (by omega)]
        exact (List.any_eq_true.2 ⟨_, HM.out, by simpa using fun e => HX.out (HZ.out.2 e)⟩).symm
    · obtain rfl : k = n := by omega
      have G : Hid _ := hno
      clear hno
      go_wp2
      go_ret
      refine ⟨⟨_, rfl, ?_⟩, rfl⟩
      have : nz l = false := List.any_eq_false.2 (fun x hx => by
        obtain ⟨j, hj, e⟩ := List.getElem_of_mem hx
        have := (bt_zero l j hj).1 (G.out j (by omega))
        rw [← e, this]; simp)
      rw [this]; rfl
set_option maxHeartbeats 1000000 in
theorem pHas_any (a : Option Addr) (n c : Nat) (l : List (BitVec 8)) (w : World) (hl : l.length = n) (hm : n ≤ 1000000) (hr : Row w a l) :
    Calls Try.prog 60 #[.slice a n c, .func (.func 61) #[] #[]] w fun e w' => e = .returned (.bool (nz l)) ∧ w' = w := by
  have HI : Hid _ := pIdx_any a n c l w hl hm hr
  clear hr
  go_enter Try.func60, Try.ntmps60
  go_wp2_with fail
  refine (Calls.mono HI.out) ?_
  rintro e _ ⟨⟨i, rfl, hi⟩, rfl⟩
  have G : Hid _ := hi
  clear hi HI
  by_cases h0 : 0 ≤ i
  · go_wp2
    go_ret
    exact ⟨by rw [← G.out, decide_eq_true h0]; rfl, rfl⟩
  · go_wp2
    go_ret
    exact ⟨by rw [← G.out, decide_eq_false (by omega)]; rfl, rfl⟩
/-- what is wrong with a body; d: its digest's bytes -/
def bfE (ds : Bool) (h b d : List (BitVec 8)) : Int :=
  if ((ds && decide (0 < cnt h)) && !decide (d = Crc.bytes4 (Crc.sum b))) = true then 12 else if nz (b.drop (cnt h)) = true then 11 else 0
set_option maxHeartbeats 4000000 in
theorem pbody_any (hs ds : Bool) (mo : Int) (a0 a1 a2 a3 : Option Addr) (c0 n1 c1 n2 c2 n3 c3 : Nat) (h bd d3 : List (BitVec 8)) (w : World) (hh : h.length = 48) (hr : Row w a0 h) (hb : bd.length = n2) (hcb : n2 ≤ c2) (hnb : a2 = none → c2 = 0) (hk : cnt h ≤ n2) (hm : n2 ≤ 1000000) (hbr : Row w a2 bd) (hd : d3.length = n3) (hdr : Row w a3 d3) :
    Calls Try.prog 46 #[.agg #[.bool hs, .bool ds, .int .i64 mo], .agg #[.slice a0 48 c0, .slice a1 n1 c1, .slice a2 n2 c2, .slice a3 n3 c3]] w fun e w' => e = .returned (.int .i64 (bfE ds h bd d3)) ∧ Below w.heap.size w w' := by
  have b0 : Below w.heap.size w (w.alloc (.cells #[.bool hs, .bool ds, .int .i64 mo] 29)) := (Below.refl _ _).alloc (Nat.le_refl _) _
  have BO := Blk.new' w 29 [.bool hs, .bool ds, .int .i64 mo]
  have hz : (w.alloc (.cells #[.bool hs, .bool ds, .int .i64 mo] 29)).heap.size = w.heap.size + 1 := by simp
  have b1 : Below (w.alloc (.cells #[.bool hs, .bool ds, .int .i64 mo] 29)).heap.size (w.alloc (.cells #[.bool hs, .bool ds, .int .i64 mo] 29)) ((w.alloc (.cells #[.bool hs, .bool ds, .int .i64 mo] 29)).alloc (.cells #[.slice a0 48 c0, .slice a1 n1 c1, .slice a2 n2 c2, .slice a3 n3 c3] 69)) := (Below.refl _ _).alloc (Nat.le_refl _) _
  have BL := Blk.new' (w.alloc (.cells #[.bool hs, .bool ds, .int .i64 mo] 29)) 69 [.slice a0 48 c0, .slice a1 n1 c1, .slice a2 n2 c2, .slice a3 n3 c3]
  have BO := BO.laterB b1
  have b1 := below_then b0 b1
  rw [hz] at BL
  have BL : Blk ((w.alloc (.cells #[.bool hs, .bool ds, .int .i64 mo] 29)).alloc (.cells #[.slice a0 48 c0, .slice a1 n1 c1, .slice a2 n2 c2, .slice a3 n3 c3] 69)) (w.heap.size + 1) 69 [.slice a0 48 c0, .slice a1 n1 c1, .slice a2 n2 c2, .slice a3 n3 c3] := BL
  have HD : Hid _ := And.intro (hdr.later b1) trivial
  have HBD : Hid _ := And.intro (hbr.later b1) trivial
  have HN : Hid _ := hm
  clear hdr hbr hm
  have HR : Hid _ := And.intro (hr.later b1) b1
  have o0 := blk_at BO 0
  have o1 := blk_at BO 1
  have o2 := blk_at BO 2
  have l0 := blk_at BL 0
  have l1 := blk_at BL 1
  have l2 := blk_at BL 2
  have l3 := blk_at BL 3
  simp only [List.getElem?_cons_zero, List.getElem?_cons_succ] at o0 o1 o2 l0 l1 l2 l3
  have ldL := load_all size_lt agg_lt BL
  have ldO := load_all size_op agg_op BO
  have HB : Hid _ := And.intro BO BL
  clear b0 b1 BO BL hr hz
  have HC : Hid _ := hasSum_any hs ds mo a0 a1 a2 a3 c0 n1 c1 n2 c2 n3 c3 h _ hh HR.out.1
  have HX0 : Hid (∀ B, B = (ds && decide (0 < cnt h)) → bfE ds h bd d3 = if (B && !decide (d3 = Crc.bytes4 (Crc.sum bd))) = true then 12 else if nz (bd.drop (cnt h)) = true then 11 else 0) := fun B e => by rw [e]; rfl
  have HX1 : Hid (∀ B, B = (ds && decide (0 < cnt h)) → ((ds && decide (0 < cnt h)) && !decide (d3 = Crc.bytes4 (Crc.sum bd))) = (B && !decide (d3 = Crc.bytes4 (Crc.sum bd)))) := fun B e => by rw [e]
  generalize hBB : (ds && decide (0 < cnt h)) = BB at HC
  go_enter Try.func46, Try.ntmps46
  go_wp2_with (first | (refine wpList_value rfl (exec_load rfl rfl ldL) ?_) | (refine wpList_value rfl (exec_load rfl rfl ldO) ?_))
  refine (Calls.mono HC.out) ?_
  rintro e wc ⟨rfl, b3⟩
  have HR : Hid _ := And.intro (HR.out.1.later b3) (below_then HR.out.2 b3)
  have HB : Hid _ := And.intro (HB.out.1.laterB b3) (HB.out.2.laterB b3)
  have HD : Hid _ := And.intro (HD.out.1.later b3) trivial
  have HBD : Hid _ := And.intro (HBD.out.1.later b3) trivial
  clear b3 HC o0 o1 o2 l0 l1 l2 l3 ldL ldO
  have l2 := blk_at HB.out.2 2
  have l3 := blk_at HB.out.2 3
  simp only [List.getElem?_cons_zero, List.getElem?_cons_succ] at l2 l3
  cases BB
  · have HD0 : Hid (((ds && decide (0 < cnt h)) && !decide (d3 = Crc.bytes4 (Crc.sum bd))) = false) := (HX1.out _ hBB.symm).trans rfl
    clear hBB HX0 HX1 HD hd
    go_wp2_with fail
    have HX : Hid _ := And.intro HR.out.1 (And.intro HR.out.2 (And.intro HB.out.2 (And.intro HBD.out.1 HN.out)))
    clear HR HB HBD
    have hE1 : bfE ds h bd d3 = if nz (bd.drop (cnt h)) = true then 11 else 0 := by unfold bfE; rw [if_neg (by rw [HD0.out]; decide)]
    generalize hnz : nz (bd.drop (cnt h)) = NZ at *
    have hE : Hid _ := hE1
    have HZ : Hid _ := hnz
    clear hE1 hnz
    refine wp_region_held_drew (S := fun W => Below wc.heap.size wc W) (by kernel_rfl) (Below.refl _ _).drew (fun hS => ?_)
    have B0 : Below wc.heap.size wc wc.drew := (Below.refl _ _).drew
    refine any_take (i := 0) (v := ?_) rfl (by kernel_rfl) (by kernel_rfl) (by kernel_rfl) (by exact fun _ _ _ h => h) (by rfl) ?_ hS ?_
    rotate_left
    · ((intro w hSw; (try dsimp only at hSw); go_simp) <;> with_reducible rfl)
    (try simp only [Act.put, List.setIfInBounds_toArray, List.set_cons_zero, List.set_cons_succ])
    refine any_take (i := 1) (v := .slice a2 n2 c2) rfl (by kernel_rfl) (by kernel_rfl) (by kernel_rfl) (by exact fun _ _ _ h => h) (by rfl) ?_ hS ?_
    · intro W hSW; exact exec_load rfl rfl (load_1 agg_u8s (by rw [blk_at (HX.out.2.2.1.laterB hSW) 2]; rfl))
    (try simp only [Act.put, List.setIfInBounds_toArray, List.set_cons_zero, List.set_cons_succ])
    refine any_take (i := 2) (v := .agg #[.slice a0 48 c0, .slice a1 n1 c1, .slice a2 n2 c2, .slice a3 n3 c3]) rfl (by kernel_rfl) (by kernel_rfl) (by kernel_rfl) (by exact fun _ _ _ h => h) (by rfl) ?_ hS ?_
    · intro W hSW; exact exec_load rfl rfl (load_all size_lt agg_lt (HX.out.2.2.1.laterB hSW))
    (try simp only [Act.put, List.setIfInBounds_toArray, List.set_cons_zero, List.set_cons_succ])
    refine any_one (i := 3) rfl (by kernel_rfl) (fun K hK => ?_)
    go_simp
    refine (Calls.mono (pcount_any a0 a1 a2 a3 c0 n1 c1 n2 c2 n3 c3 h _ hh (HX.out.1.later hS))) ?_
    rintro e x1 ⟨rfl, hbR⟩
    have B1 : Below wc.heap.size wc x1 := below_then B0 hbR
    go_wp2_with fail
    refine hK.out _ _ (by first | exact B1 | exact hbR | exact below_then hS hbR) (any_weaken (S' := fun W => Below x1.heap.size x1 W) (fun W hW => by first | exact below_then B1 hW | exact below_then hbR hW | exact below_then (below_then hS hbR) hW) _ _ _ _ ?_)
    clear hK K hS hbR
    have hS : Below x1.heap.size x1 x1 := Below.refl _ _
    obtain ⟨y, hy, hyr, -, -⟩ := slice_from HX.out.2.2.2.1 hb hcb hnb (cnt h) (by omega)
    refine any_take (i := 4) (v := .slice y (n2 - cnt h) (c2 - cnt h)) rfl (by kernel_rfl) (by kernel_rfl) (by kernel_rfl) (by exact fun _ _ _ h => h) (by rfl) ?_ hS ?_
    · intro W hSW; exact exec_slice rfl rfl (hy W)
    (try simp only [Act.put, List.setIfInBounds_toArray, List.set_cons_zero, List.set_cons_succ])
    refine any_one (i := 5) rfl (by kernel_rfl) (fun K hK => ?_)
    go_simp
    refine (Calls.mono (pHas_any y (n2 - cnt h) (c2 - cnt h) (bd.drop (cnt h)) _ (by rw [List.length_drop]; omega) (by have := HX.out.2.2.2.2; omega) (hyr.later (below_then B1 hS)))) ?_
    rintro e _ ⟨rfl, rfl⟩
    go_wp2_with fail
    refine hK.out _ _ hS ?_
    clear hK K
    refine any_take (i := 6) (v := ?_) rfl (by kernel_rfl) (by kernel_rfl) (by kernel_rfl) (by exact fun _ _ _ h => h) (by rfl) ?_ hS ?_
    rotate_left
    · ((intro w hSw; (try dsimp only at hSw); go_simp) <;> with_reducible rfl)
    (try simp only [Act.put, List.setIfInBounds_toArray, List.set_cons_zero, List.set_cons_succ])
    refine wpAnyH_done (by kernel_rfl) ?_ _
    rw [HZ.out]
    have F : Hid _ := below_then HX.out.2.1 B1
    clear HX B0 B1 hS HZ
    cases NZ
    · go_wp2
      go_ret
      exact ⟨by rw [hE.out]; rfl, F.out⟩
    · go_wp2
      go_ret
      exact ⟨by rw [hE.out]; rfl, F.out⟩
  · have HC : Hid _ := Right_row a2 n2 c2 bd a3 n3 c3 d3 _ hb (by have := HN.out; unfold maxLen; omega) HBD.out.1 hd HD.out.1
    generalize hDD : decide (d3 = Crc.bytes4 (Crc.sum bd)) = DD at HC
    go_wp2_with fail
    refine (Calls.mono HC.out) ?_
    rintro e wd ⟨rfl, b3⟩
    have HR : Hid _ := And.intro (HR.out.1.later b3) (below_then HR.out.2 b3)
    have HB : Hid _ := And.intro (HB.out.1.laterB b3) (HB.out.2.laterB b3)
    have HBD : Hid _ := And.intro (HBD.out.1.later b3) trivial
    clear b3 HC l2 l3 HD hd
    have l2 := blk_at HB.out.2 2
    simp only [List.getElem?_cons_zero, List.getElem?_cons_succ] at l2
    cases DD
    · have hE0 : bfE ds h bd d3 = 12 := by rw [HX0.out _ hBB.symm, hDD]; rfl
      have hE : Hid _ := hE0
      have F : Hid _ := HR.out.2
      clear HR HB HBD hE0 hBB hDD HX0 HX1
      go_wp2
      go_ret
      exact ⟨by rw [hE.out]; rfl, F.out⟩
    · have HD0 : Hid (((ds && decide (0 < cnt h)) && !decide (d3 = Crc.bytes4 (Crc.sum bd))) = false) := (HX1.out _ hBB.symm).trans (by rw [hDD]; rfl)
      clear hBB hDD HX0 HX1
      go_wp2_with fail
      have HX : Hid _ := And.intro HR.out.1 (And.intro HR.out.2 (And.intro HB.out.2 (And.intro HBD.out.1 HN.out)))
      clear HR HB HBD
      have hE1 : bfE ds h bd d3 = if nz (bd.drop (cnt h)) = true then 11 else 0 := by unfold bfE; rw [if_neg (by rw [HD0.out]; decide)]
      generalize hnz : nz (bd.drop (cnt h)) = NZ at *
      have hE : Hid _ := hE1
      have HZ : Hid _ := hnz
      clear hE1 hnz
      refine wp_region_held_drew (S := fun W => Below wd.heap.size wd W) (by kernel_rfl) (Below.refl _ _).drew (fun hS => ?_)
      have B0 : Below wd.heap.size wd wd.drew := (Below.refl _ _).drew
      refine any_take (i := 0) (v := ?_) rfl (by kernel_rfl) (by kernel_rfl) (by kernel_rfl) (by exact fun _ _ _ h => h) (by rfl) ?_ hS ?_
      rotate_left
      · ((intro w hSw; (try dsimp only at hSw); go_simp) <;> with_reducible rfl)
      (try simp only [Act.put, List.setIfInBounds_toArray, List.set_cons_zero, List.set_cons_succ])
      refine any_take (i := 1) (v := .slice a2 n2 c2) rfl (by kernel_rfl) (by kernel_rfl) (by kernel_rfl) (by exact fun _ _ _ h => h) (by rfl) ?_ hS ?_
      · intro W hSW; exact exec_load rfl rfl (load_1 agg_u8s (by rw [blk_at (HX.out.2.2.1.laterB hSW) 2]; rfl))
      (try simp only [Act.put, List.setIfInBounds_toArray, List.set_cons_zero, List.set_cons_succ])
      refine any_take (i := 2) (v := .agg #[.slice a0 48 c0, .slice a1 n1 c1, .slice a2 n2 c2, .slice a3 n3 c3]) rfl (by kernel_rfl) (by kernel_rfl) (by kernel_rfl) (by exact fun _ _ _ h => h) (by rfl) ?_ hS ?_
      · intro W hSW; exact exec_load rfl rfl (load_all size_lt agg_lt (HX.out.2.2.1.laterB hSW))
      (try simp only [Act.put, List.setIfInBounds_toArray, List.set_cons_zero, List.set_cons_succ])
      refine any_one (i := 3) rfl (by kernel_rfl) (fun K hK => ?_)
      go_simp
      refine (Calls.mono (pcount_any a0 a1 a2 a3 c0 n1 c1 n2 c2 n3 c3 h _ hh (HX.out.1.later hS))) ?_
      rintro e x1 ⟨rfl, hbR⟩
      have B1 : Below wd.heap.size wd x1 := below_then B0 hbR
      go_wp2_with fail
      refine hK.out _ _ (by first | exact B1 | exact hbR | exact below_then hS hbR) (any_weaken (S' := fun W => Below x1.heap.size x1 W) (fun W hW => by first | exact below_then B1 hW | exact below_then hbR hW | exact below_then (below_then hS hbR) hW) _ _ _ _ ?_)
      clear hK K hS hbR
      have hS : Below x1.heap.size x1 x1 := Below.refl _ _
      obtain ⟨y, hy, hyr, -, -⟩ := slice_from HX.out.2.2.2.1 hb hcb hnb (cnt h) (by omega)
      refine any_take (i := 4) (v := .slice y (n2 - cnt h) (c2 - cnt h)) rfl (by kernel_rfl) (by kernel_rfl) (by kernel_rfl) (by exact fun _ _ _ h => h) (by rfl) ?_ hS ?_
      · intro W hSW; exact exec_slice rfl rfl (hy W)
      (try simp only [Act.put, List.setIfInBounds_toArray, List.set_cons_zero, List.set_cons_succ])
      refine any_one (i := 5) rfl (by kernel_rfl) (fun K hK => ?_)
      go_simp
      refine (Calls.mono (pHas_any y (n2 - cnt h) (c2 - cnt h) (bd.drop (cnt h)) _ (by rw [List.length_drop]; omega) (by have := HX.out.2.2.2.2; omega) (hyr.later (below_then B1 hS)))) ?_
      rintro e _ ⟨rfl, rfl⟩
      go_wp2_with fail
      refine hK.out _ _ hS ?_
      clear hK K
      refine any_take (i := 6) (v := ?_) rfl (by kernel_rfl) (by kernel_rfl) (by kernel_rfl) (by exact fun _ _ _ h => h) (by rfl) ?_ hS ?_
      rotate_left
      · ((intro w hSw; (try dsimp only at hSw); go_simp) <;> with_reducible rfl)
      (try simp only [Act.put, List.setIfInBounds_toArray, List.set_cons_zero, List.set_cons_succ])
      refine wpAnyH_done (by kernel_rfl) ?_ _
      rw [HZ.out]
      have F : Hid _ := below_then HX.out.2.1 B1
      clear HX B0 B1 hS HZ
      cases NZ
      · go_wp2
        go_ret
        exact ⟨by rw [hE.out]; rfl, F.out⟩
      · go_wp2
        go_ret
        exact ⟨by rw [hE.out]; rfl, F.out⟩
end Go.Proofs.Ytfcaaljehhibgaa
