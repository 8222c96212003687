/- sense: the bytes of a page of the table. -/
import Derived.Test.YtncplnejoppekaaDoorSi1
namespace Go.Proofs.YtncplnejoppekaaDoor
open Go.RowKit
set_option linter.unusedVariables false
set_option linter.unusedSimpArgs false
set_option maxRecDepth 8000

theorem own_blw16b {w w' b0 : World} {base : Nat} {v : Value} {l : List (BitVec 8)} (h : Own w base v l) (hB : Below b0.heap.size b0 w) (hb : b0.heap.size ≤ base) (hg : w.grownBy w' v.ownBlock) : Below b0.heap.size b0 w' := by
  obtain ⟨a, cap, rfl, -, -, -, -, hx⟩ := h.open
  refine hB.grown hg hB.size (fun k hk => ?_)
  cases a with
  | none => simp [Value.ownBlock] at hk
  | some x =>
    obtain ⟨g, rfl, hge⟩ := hx x rfl
    have : g = k := by simpa [Value.ownBlock] using hk
    omega
theorem own_block16 {w w' : World} {base g : Nat} {t : TypeId} {xs : List Value} {v : Value} {l : List (BitVec 8)} (h : Own w base v l) (hB : Blk w g t xs) (hg : w.grownBy w' v.ownBlock) (hb : g < base) : Blk w' g t xs := by
  obtain ⟨a, cap, rfl, -, -, -, -, hx⟩ := h.open
  refine hB.grown hg (fun e => ?_)
  cases a with
  | none => simp [Value.ownBlock] at e
  | some x =>
    obtain ⟨g2, rfl, hge⟩ := hx x rfl
    have : g = g2 := by simpa [Value.ownBlock] using e
    omega
/-- what a page has, its head not with it -/
def hasB (l : List (BitVec 8)) (t : List UInt8) (s : Bool) (n : Nat) : List (BitVec 8) := (l ++ bvs16 t) ++ (if s then bvs16 (serL n) else [])
/-- a page's bytes -/
def rowB (vit : Bool) (pg : Nat) (l : List (BitVec 8)) (t : List UInt8) (s : Bool) (n : Nat) : List (BitVec 8) :=
  if vit then over [0#8, BitVec.ofNat 8 pg, 0#8, 0#8] 2 (be 2 (BitVec.ofNat 64 (hasB l t s n).length)) ++ hasB l t s n else hasB l t s n
theorem ser_len (n : Nat) : (serL n).length = 11 := rfl
theorem over_len16 (pg k : Nat) : (over [0#8, BitVec.ofNat 8 pg, 0#8, 0#8] 2 (be 2 (BitVec.ofNat 64 k))).length = 4 := by
  unfold over
  have := be_length 2 (BitVec.ofNat 64 k) (by omega)
  simp [this]
theorem fits_2 (k : Nat) (h : k < 65536) : fitsB 2 (BitVec.ofNat 64 k) = true := by
  unfold fitsB
  simp
  omega
set_option maxHeartbeats 8000000 in
theorem tRow_ff (pg n : Nat) (x : Option Addr) (c nl : Nat) (l : List (BitVec 8)) (t : ByteArray) (w : World) (hP : PowS w) (hH : HdT w x c l) (hnl : nl = l.length) (hl : l.length ≤ 100) (ht : t.size ≤ 100) (hpg : pg ≤ 255) (hn : n ≤ 255) :
    Calls Tryd.prog 9 #[.agg #[.bool false, .int .i64 (pg : Int), .slice x nl c, .string t, .bool false], .int .i64 (n : Int)] w fun e w' => ∃ v, e = .returned v ∧ Own w' w.heap.size v (hasB l t.data.toList false n) ∧ Below w.heap.size w w' := by
  have hbl := bvs16_len t.data.toList
  rw [show t.data.toList.length = t.size by simp] at hbl
  have hkl : (hasB l t.data.toList false n).length ≤ 300 := by unfold hasB; simp only [List.length_append, hbl, if_true, Bool.false_eq_true, if_false, bvs16_len, ser_len, List.length_nil]; omega
  obtain ⟨B, hB⟩ : ∃ B, B = hasB l t.data.toList false n := ⟨_, rfl⟩
  rw [← hB] at hkl ⊢
  obtain ⟨k, hk⟩ : ∃ k, k = B.length := ⟨_, rfl⟩
  rw [← hk] at hkl
  have HB : Hid _ := And.intro hB (And.intro hk hkl)
  clear hB hk hkl
  have N1 := Blk.new' w 31 [.bool false, .int .i64 (pg : Int), .slice x nl c, .string t, .bool false]
  have bn1 : Below w.heap.size w (w.alloc (.cells #[.bool false, .int .i64 (pg : Int), .slice x nl c, .string t, .bool false] 31)) := (Below.refl _ _).alloc (Nat.le_refl _) _
  obtain ⟨w1, hw1⟩ : ∃ w1, w1 = w.alloc (.cells #[.bool false, .int .i64 (pg : Int), .slice x nl c, .string t, .bool false] 31) := ⟨_, rfl⟩
  rw [← hw1] at N1 bn1
  have z1 : w1.heap.size = w.heap.size + 1 := by rw [hw1]; simp
  obtain ⟨g, hg⟩ : ∃ g, g = w.heap.size := ⟨_, rfl⟩
  rw [← hg] at N1
  have H1 : Hid _ := And.intro bn1 (And.intro N1 (And.intro (hH.later bn1) (And.intro (hP.later bn1) (show g < w1.heap.size by omega))))
  have HN : Hid _ := And.intro hnl (And.intro hl (And.intro ht (And.intro hpg (And.intro hn hbl))))
  clear bn1 N1 hH hP hnl hl ht hpg hn z1 hbl
  go_enter Tryd.func9, Tryd.ntmps9
  go_upto_region 1 with fail
  rw [← hw1, ← hg]
  clear hw1 hg
  refine wp_region_held_drew (S := fun W => Below w1.heap.size w1 W) (by kernel_rfl) (by exact (Below.refl _ _).drew) (fun hS => ?_)
  obtain ⟨x0, hx0⟩ : ∃ y, y = w1.drew := ⟨_, rfl⟩
  rw [← hx0] at hS ⊢
  clear hx0
  refine any_take (i := 0) (v := ?_) rfl (by kernel_rfl) (by kernel_rfl) (by kernel_rfl) (by exact fun _ _ _ h => h) (by rfl) ?_ hS ?_
  rotate_left
  · ((intro w hSw; skip; go_simp) <;> with_reducible rfl)
  (try simp only [Act.put, List.setIfInBounds_toArray, List.set_cons_zero, List.set_cons_succ])
  refine any_take (i := 1) (v := ?_) rfl (by kernel_rfl) (by kernel_rfl) (by kernel_rfl) (by exact fun _ _ _ h => h) (by rfl) ?_ hS ?_
  rotate_left
  · ((intro w hSw; have B9 := H1.out.2.1.laterB hSw; have q0 := bk_at B9 0; have q1 := bk_at B9 1; have q2 := bk_at B9 2; have q3 := bk_at B9 3; have q4 := bk_at B9 4; simp only [List.getElem?_cons_zero, List.getElem?_cons_succ] at q0 q1 q2 q3 q4; go_simp) <;> with_reducible rfl)
  (try simp only [Act.put, List.setIfInBounds_toArray, List.set_cons_zero, List.set_cons_succ])
  refine any_take (i := 3) (v := ?_) rfl (by kernel_rfl) (by kernel_rfl) (by kernel_rfl) (by exact fun _ _ _ h => h) (by rfl) ?_ hS ?_
  rotate_left
  · ((intro w hSw; skip; go_simp) <;> with_reducible rfl)
  (try simp only [Act.put, List.setIfInBounds_toArray, List.set_cons_zero, List.set_cons_succ])
  refine any_take (i := 4) (v := ?_) rfl (by kernel_rfl) (by kernel_rfl) (by kernel_rfl) (by exact fun _ _ _ h => h) (by rfl) ?_ hS ?_
  rotate_left
  · ((intro w hSw; have B9 := H1.out.2.1.laterB hSw; have q0 := bk_at B9 0; have q1 := bk_at B9 1; have q2 := bk_at B9 2; have q3 := bk_at B9 3; have q4 := bk_at B9 4; simp only [List.getElem?_cons_zero, List.getElem?_cons_succ] at q0 q1 q2 q3 q4; go_simp) <;> with_reducible rfl)
  (try simp only [Act.put, List.setIfInBounds_toArray, List.set_cons_zero, List.set_cons_succ])
  have hS0 := hS
  refine any_one (i := 2) rfl (by kernel_rfl) (fun K hK => ?_)
  go_simp
  refine (Calls.mono (clone_any x nl c l x0 HN.out.1.symm (by rw [HN.out.1]; exact H1.out.2.2.1.le) (H1.out.2.2.1.row.later hS) H1.out.2.2.1.nil (by have := HN.out.1; have := HN.out.2.1; omega))) ?_
  rintro e x1 ⟨v1, rfl, O1, b1⟩
  have hS' : Below w1.heap.size w1 x1 := below_then hS b1
  go_wp2_with fail
  refine hK.out _ _ hS' ?_
  clear hK K hS
  have hS := hS'
  clear hS'
  obtain ⟨v2, x2, hap, O2, g2⟩ := run_app_str16 x1 x0.heap.size v1 l O1 t (by have := HN.out.2.1; have := HN.out.2.2.1; omega) b1.size 22
  have hS' : Below w1.heap.size w1 x2 := own_blw16b O1 hS hS0.size g2
  refine any_one (i := 5) rfl (by kernel_rfl) (fun K hK => ?_)
  refine step_value16 (by rfl) (exec_app16 _ _ _ _ rfl _ _ rfl rfl hap) ?_
  refine hK.out _ _ hS' ?_
  clear hK K hS hap
  have hS := hS'
  clear hS'
  refine any_take (i := 6) (v := ?_) rfl (by kernel_rfl) (by kernel_rfl) (by kernel_rfl) (by exact fun _ _ _ h => h) (by rfl) ?_ hS ?_
  rotate_left
  · ((intro w hSw; skip; go_simp) <;> with_reducible rfl)
  (try simp only [Act.put, List.setIfInBounds_toArray, List.set_cons_zero, List.set_cons_succ])
  refine wpAnyH_done (by kernel_rfl) ?_ _
  have H2 : Hid _ := And.intro hS (And.intro (O2.lower hS0.size) (H1.out.2.1.laterB hS))
  clear hS hS0 O1 O2 g2 b1
  have y0 := bk_at H2.out.2.2 0
  have y1 := bk_at H2.out.2.2 1
  have y2 := bk_at H2.out.2.2 2
  have y3 := bk_at H2.out.2.2 3
  have y4 := bk_at H2.out.2.2 4
  simp only [List.getElem?_cons_zero, List.getElem?_cons_succ] at y0 y1 y2 y3 y4
  have H2b : Hid (Below w1.heap.size w1 x2 ∧ Own x2 w1.heap.size v2 B ∧ Blk x2 g 31 [.bool false, .int .i64 (pg : Int), .slice x nl c, .string t, .bool false]) := ⟨H2.out.1, by rw [HB.out.1]; unfold hasB; rw [if_neg (by decide), List.append_nil]; exact H2.out.2.1, H2.out.2.2⟩
  clear H2
  go_upto_region 4 with fail
  clear y0 y1 y2 y3 y4
  have y0 := bk_at H2b.out.2.2 0
  have y1 := bk_at H2b.out.2.2 1
  have y2 := bk_at H2b.out.2.2 2
  have y3 := bk_at H2b.out.2.2 3
  have y4 := bk_at H2b.out.2.2 4
  simp only [List.getElem?_cons_zero, List.getElem?_cons_succ] at y0 y1 y2 y3 y4
  go_wp2
  go_ret
  exact ⟨_, rfl, (H2b.out.2.1).lower H1.out.1.size, below_then H1.out.1 H2b.out.1⟩
set_option maxHeartbeats 8000000 in
theorem tRow_tf (pg n : Nat) (x : Option Addr) (c nl : Nat) (l : List (BitVec 8)) (t : ByteArray) (w : World) (hP : PowS w) (hH : HdT w x c l) (hnl : nl = l.length) (hl : l.length ≤ 100) (ht : t.size ≤ 100) (hpg : pg ≤ 255) (hn : n ≤ 255) :
    Calls Tryd.prog 9 #[.agg #[.bool true, .int .i64 (pg : Int), .slice x nl c, .string t, .bool false], .int .i64 (n : Int)] w fun e w' => ∃ v, e = .returned v ∧ Own w' w.heap.size v (over [0#8, BitVec.ofNat 8 pg, 0#8, 0#8] 2 (be 2 (BitVec.ofNat 64 (hasB l t.data.toList false n).length)) ++ hasB l t.data.toList false n) ∧ Below w.heap.size w w' := by
  have hbl := bvs16_len t.data.toList
  rw [show t.data.toList.length = t.size by simp] at hbl
  have hkl : (hasB l t.data.toList false n).length ≤ 300 := by unfold hasB; simp only [List.length_append, hbl, if_true, Bool.false_eq_true, if_false, bvs16_len, ser_len, List.length_nil]; omega
  obtain ⟨B, hB⟩ : ∃ B, B = hasB l t.data.toList false n := ⟨_, rfl⟩
  rw [← hB] at hkl ⊢
  obtain ⟨k, hk⟩ : ∃ k, k = B.length := ⟨_, rfl⟩
  rw [← hk] at hkl ⊢
  have HB : Hid _ := And.intro hB (And.intro hk hkl)
  clear hB hk hkl
  have N1 := Blk.new' w 31 [.bool true, .int .i64 (pg : Int), .slice x nl c, .string t, .bool false]
  have bn1 : Below w.heap.size w (w.alloc (.cells #[.bool true, .int .i64 (pg : Int), .slice x nl c, .string t, .bool false] 31)) := (Below.refl _ _).alloc (Nat.le_refl _) _
  obtain ⟨w1, hw1⟩ : ∃ w1, w1 = w.alloc (.cells #[.bool true, .int .i64 (pg : Int), .slice x nl c, .string t, .bool false] 31) := ⟨_, rfl⟩
  rw [← hw1] at N1 bn1
  have z1 : w1.heap.size = w.heap.size + 1 := by rw [hw1]; simp
  obtain ⟨g, hg⟩ : ∃ g, g = w.heap.size := ⟨_, rfl⟩
  rw [← hg] at N1
  have H1 : Hid _ := And.intro bn1 (And.intro N1 (And.intro (hH.later bn1) (And.intro (hP.later bn1) (show g < w1.heap.size by omega))))
  have HN : Hid _ := And.intro hnl (And.intro hl (And.intro ht (And.intro hpg (And.intro hn hbl))))
  clear bn1 N1 hH hP hnl hl ht hpg hn z1 hbl
  go_enter Tryd.func9, Tryd.ntmps9
  go_upto_region 1 with fail
  rw [← hw1, ← hg]
  clear hw1 hg
  refine wp_region_held_drew (S := fun W => Below w1.heap.size w1 W) (by kernel_rfl) (by exact (Below.refl _ _).drew) (fun hS => ?_)
  obtain ⟨x0, hx0⟩ : ∃ y, y = w1.drew := ⟨_, rfl⟩
  rw [← hx0] at hS ⊢
  clear hx0
  refine any_take (i := 0) (v := ?_) rfl (by kernel_rfl) (by kernel_rfl) (by kernel_rfl) (by exact fun _ _ _ h => h) (by rfl) ?_ hS ?_
  rotate_left
  · ((intro w hSw; skip; go_simp) <;> with_reducible rfl)
  (try simp only [Act.put, List.setIfInBounds_toArray, List.set_cons_zero, List.set_cons_succ])
  refine any_take (i := 1) (v := ?_) rfl (by kernel_rfl) (by kernel_rfl) (by kernel_rfl) (by exact fun _ _ _ h => h) (by rfl) ?_ hS ?_
  rotate_left
  · ((intro w hSw; have B9 := H1.out.2.1.laterB hSw; have q0 := bk_at B9 0; have q1 := bk_at B9 1; have q2 := bk_at B9 2; have q3 := bk_at B9 3; have q4 := bk_at B9 4; simp only [List.getElem?_cons_zero, List.getElem?_cons_succ] at q0 q1 q2 q3 q4; go_simp) <;> with_reducible rfl)
  (try simp only [Act.put, List.setIfInBounds_toArray, List.set_cons_zero, List.set_cons_succ])
  refine any_take (i := 3) (v := ?_) rfl (by kernel_rfl) (by kernel_rfl) (by kernel_rfl) (by exact fun _ _ _ h => h) (by rfl) ?_ hS ?_
  rotate_left
  · ((intro w hSw; skip; go_simp) <;> with_reducible rfl)
  (try simp only [Act.put, List.setIfInBounds_toArray, List.set_cons_zero, List.set_cons_succ])
  refine any_take (i := 4) (v := ?_) rfl (by kernel_rfl) (by kernel_rfl) (by kernel_rfl) (by exact fun _ _ _ h => h) (by rfl) ?_ hS ?_
  rotate_left
  · ((intro w hSw; have B9 := H1.out.2.1.laterB hSw; have q0 := bk_at B9 0; have q1 := bk_at B9 1; have q2 := bk_at B9 2; have q3 := bk_at B9 3; have q4 := bk_at B9 4; simp only [List.getElem?_cons_zero, List.getElem?_cons_succ] at q0 q1 q2 q3 q4; go_simp) <;> with_reducible rfl)
  (try simp only [Act.put, List.setIfInBounds_toArray, List.set_cons_zero, List.set_cons_succ])
  have hS0 := hS
  refine any_one (i := 2) rfl (by kernel_rfl) (fun K hK => ?_)
  go_simp
  refine (Calls.mono (clone_any x nl c l x0 HN.out.1.symm (by rw [HN.out.1]; exact H1.out.2.2.1.le) (H1.out.2.2.1.row.later hS) H1.out.2.2.1.nil (by have := HN.out.1; have := HN.out.2.1; omega))) ?_
  rintro e x1 ⟨v1, rfl, O1, b1⟩
  have hS' : Below w1.heap.size w1 x1 := below_then hS b1
  go_wp2_with fail
  refine hK.out _ _ hS' ?_
  clear hK K hS
  have hS := hS'
  clear hS'
  obtain ⟨v2, x2, hap, O2, g2⟩ := run_app_str16 x1 x0.heap.size v1 l O1 t (by have := HN.out.2.1; have := HN.out.2.2.1; omega) b1.size 22
  have hS' : Below w1.heap.size w1 x2 := own_blw16b O1 hS hS0.size g2
  refine any_one (i := 5) rfl (by kernel_rfl) (fun K hK => ?_)
  refine step_value16 (by rfl) (exec_app16 _ _ _ _ rfl _ _ rfl rfl hap) ?_
  refine hK.out _ _ hS' ?_
  clear hK K hS hap
  have hS := hS'
  clear hS'
  refine any_take (i := 6) (v := ?_) rfl (by kernel_rfl) (by kernel_rfl) (by kernel_rfl) (by exact fun _ _ _ h => h) (by rfl) ?_ hS ?_
  rotate_left
  · ((intro w hSw; skip; go_simp) <;> with_reducible rfl)
  (try simp only [Act.put, List.setIfInBounds_toArray, List.set_cons_zero, List.set_cons_succ])
  refine wpAnyH_done (by kernel_rfl) ?_ _
  have H2 : Hid _ := And.intro hS (And.intro (O2.lower hS0.size) (H1.out.2.1.laterB hS))
  clear hS hS0 O1 O2 g2 b1
  have y0 := bk_at H2.out.2.2 0
  have y1 := bk_at H2.out.2.2 1
  have y2 := bk_at H2.out.2.2 2
  have y3 := bk_at H2.out.2.2 3
  have y4 := bk_at H2.out.2.2 4
  simp only [List.getElem?_cons_zero, List.getElem?_cons_succ] at y0 y1 y2 y3 y4
  have H2b : Hid (Below w1.heap.size w1 x2 ∧ Own x2 w1.heap.size v2 B ∧ Blk x2 g 31 [.bool true, .int .i64 (pg : Int), .slice x nl c, .string t, .bool false]) := ⟨H2.out.1, by rw [HB.out.1]; unfold hasB; rw [if_neg (by decide), List.append_nil]; exact H2.out.2.1, H2.out.2.2⟩
  clear H2
  go_upto_region 4 with fail
  clear y0 y1 y2 y3 y4
  have y0 := bk_at H2b.out.2.2 0
  have y1 := bk_at H2b.out.2.2 1
  have y2 := bk_at H2b.out.2.2 2
  have y3 := bk_at H2b.out.2.2 3
  have y4 := bk_at H2b.out.2.2 4
  simp only [List.getElem?_cons_zero, List.getElem?_cons_succ] at y0 y1 y2 y3 y4
  have hO := H2b.out.2.1
  obtain ⟨a, cap, rfl, hle, -, hrow, hnil, -⟩ := hO.open
  rw [← HB.out.2.1] at hle hO ⊢
  have H3 : Hid _ := And.intro H2b.out.1 (And.intro hO (And.intro H2b.out.2.2 (And.intro hrow (And.intro hnil hle))))
  clear hO hrow hnil hle H2b
  have hmk : (Instr.makeSlice 22 (.int .i64 4) (.int .i64 4)).run Tryd.prog x2 = .ok (.slice (some ⟨x2.heap.size, 0, none⟩) 4 4) (x2.alloc (.cells (vals [0#8, 0#8, 0#8, 0#8]).toArray 5)) := seMake 4 (by omega) x2
  have B2 := Blk.new' x2 5 (vals [0#8, 0#8, 0#8, 0#8])
  have b2 : Below x2.heap.size x2 (x2.alloc (.cells (vals [0#8, 0#8, 0#8, 0#8]).toArray 5)) := (Below.refl _ _).alloc (Nat.le_refl _) _
  obtain ⟨u5, hu5⟩ : ∃ y, y = x2.alloc (.cells (vals [0#8, 0#8, 0#8, 0#8]).toArray 5) := ⟨_, rfl⟩
  obtain ⟨gb, hgb⟩ : ∃ y, y = x2.heap.size := ⟨_, rfl⟩
  rw [← hu5] at B2 b2
  rw [← hgb] at B2
  have w7 : IntKind.u8.wrap (pg : Int) = (pg : Int) := by rw [IntKind.wrap_u8]; have := HN.out.2.2.2.1; omega
  have w8 : IntKind.u64.wrap (k : Int) = (k : Int) := by rw [IntKind.wrap_u64]; have := HB.out.2.2; omega
  have S1 := B2.set 1 (.int .u8 (pg : Int))
  have y' := bk_at B2 1
  have f' := bk_fz B2 1
  simp only [vals, List.replicate, List.map_cons, List.map_nil, List.getElem?_cons_zero, List.getElem?_cons_succ] at y'
  have hb6 : Below x2.heap.size x2 (u5.setCell ⟨gb, 1, none⟩ (.int .u8 (pg : Int))) := b2.grown (grown_set u5 gb 1 _) b2.size (fun k hk => by cases hk; rw [hgb]; exact Nat.le_refl _)
  obtain ⟨u6, hu6⟩ : ∃ y, y = u5.setCell ⟨gb, 1, none⟩ (.int .u8 (pg : Int)) := ⟨_, rfl⟩
  rw [← hu6] at S1 hb6
  have z0 := bk_at (H3.out.2.2.1.laterB b2) 0
  have z1 := bk_at (H3.out.2.2.1.laterB b2) 1
  have z2 := bk_at (H3.out.2.2.1.laterB b2) 2
  have z3 := bk_at (H3.out.2.2.1.laterB b2) 3
  have z4 := bk_at (H3.out.2.2.1.laterB b2) 4
  simp only [List.getElem?_cons_zero, List.getElem?_cons_succ] at z0 z1 z2 z3 z4
  have hgw : w1.heap.size ≤ gb := by rw [hgb]; exact H3.out.1.size
  have e8 : ((BitVec.ofNat 8 pg).toNat : Int) = (pg : Int) := by have := HN.out.2.2.2.1; simp; omega
  have hO6 : Own u6 w1.heap.size (.slice (some ⟨gb, 0, none⟩) 4 4) [0#8, BitVec.ofNat 8 pg, 0#8, 0#8] := Own.ofBlock (l := [0#8, BitVec.ofNat 8 pg, 0#8, 0#8]) hgw S1 (by simp) (by simp [maxLen]) (by simp [vals]) (by simp only [vals, List.replicate, List.map_cons, List.map_nil, List.set_cons_zero, List.set_cons_succ, e8]; rfl)
  obtain ⟨a6, c6, e6, hle6, -, hr6, hn6, -⟩ := hO6.open
  simp only [Value.slice.injEq] at e6
  obtain ⟨rfl, -, rfl⟩ := e6
  have HPt0 := Put_yes (some ⟨gb, 0, none⟩) 4 4 [0#8, BitVec.ofNat 8 pg, 0#8, 0#8] 2 2 (BitVec.ofNat 64 k) u6 rfl (Nat.le_refl _) hr6 (fun h => by cases h) (by omega) (by omega) (by omega) (by omega) (fits_2 k (by have := HB.out.2.2; omega))
  rw [show (((BitVec.ofNat 64 k).toNat : Nat) : Int) = (k : Int) by have := HB.out.2.2; simp; omega] at HPt0
  have HPt : Hid _ := HPt0
  have H6 : Hid _ := And.intro (below_then H3.out.1 hb6) (And.intro (H3.out.2.2.2.1.later hb6) hgw)
  clear HPt0 hO6 hr6 hn6 hle6 S1 hb6 B2 b2 hgw e8
  go_upto_region 7 with fail
  rw [← hu5, ← hgb]
  clear hu5 hgb hmk
  go_upto_region 8 with fail
  rw [← hu6]
  clear hu6 y' f' y0 z0 y1 z1 y2 z2 y3 z3 y4 z4
  go_wp2_with fail
  refine (Calls.mono HPt.out) ?_
  rintro e u7 ⟨v7, rfl, O7, b7⟩
  clear HPt
  have H7 : Hid _ := And.intro O7 (And.intro b7 (And.intro (below_then H6.out.1 b7) (H6.out.2.1.later b7)))
  clear O7 b7
  go_wp2_with (at_builtin; refine wpList_append_bytes _ rfl _ _ rfl u6.heap.size _ (over [0#8, BitVec.ofNat 8 pg, 0#8, 0#8] 2 (be 2 (BitVec.ofNat 64 k))) rfl H7.out.1 a k cap B rfl HB.out.2.1.symm H7.out.2.2.2 H3.out.2.2.2.2.1 H3.out.2.2.2.2.2 (by rw [over_len16]; have := HB.out.2.2; omega) H7.out.2.1.size ?_)
  intro v8 u8 O8 g8
  have F : Hid _ := And.intro (O8.lower (Nat.le_trans H1.out.1.size H6.out.1.size)) (own_blw16b H7.out.1 (below_then H1.out.1 H7.out.2.2.1) (Nat.le_trans H1.out.1.size H6.out.1.size) g8)
  clear O8 g8 H7
  go_wp2
  go_ret
  exact ⟨_, rfl, F.out.1, F.out.2⟩
set_option maxHeartbeats 8000000 in
theorem tRow_tt (pg n : Nat) (x : Option Addr) (c nl : Nat) (l : List (BitVec 8)) (t : ByteArray) (w : World) (hP : PowS w) (hH : HdT w x c l) (hnl : nl = l.length) (hl : l.length ≤ 100) (ht : t.size ≤ 100) (hpg : pg ≤ 255) (hn : n ≤ 255) :
    Calls Tryd.prog 9 #[.agg #[.bool true, .int .i64 (pg : Int), .slice x nl c, .string t, .bool true], .int .i64 (n : Int)] w fun e w' => ∃ v, e = .returned v ∧ Own w' w.heap.size v (over [0#8, BitVec.ofNat 8 pg, 0#8, 0#8] 2 (be 2 (BitVec.ofNat 64 (hasB l t.data.toList true n).length)) ++ hasB l t.data.toList true n) ∧ Below w.heap.size w w' := by
  have hbl := bvs16_len t.data.toList
  rw [show t.data.toList.length = t.size by simp] at hbl
  have hkl : (hasB l t.data.toList true n).length ≤ 300 := by unfold hasB; simp only [List.length_append, hbl, if_true, Bool.false_eq_true, if_false, bvs16_len, ser_len, List.length_nil]; omega
  obtain ⟨B, hB⟩ : ∃ B, B = hasB l t.data.toList true n := ⟨_, rfl⟩
  rw [← hB] at hkl ⊢
  obtain ⟨k, hk⟩ : ∃ k, k = B.length := ⟨_, rfl⟩
  rw [← hk] at hkl ⊢
  have HB : Hid _ := And.intro hB (And.intro hk hkl)
  clear hB hk hkl
  have N1 := Blk.new' w 31 [.bool true, .int .i64 (pg : Int), .slice x nl c, .string t, .bool true]
  have bn1 : Below w.heap.size w (w.alloc (.cells #[.bool true, .int .i64 (pg : Int), .slice x nl c, .string t, .bool true] 31)) := (Below.refl _ _).alloc (Nat.le_refl _) _
  obtain ⟨w1, hw1⟩ : ∃ w1, w1 = w.alloc (.cells #[.bool true, .int .i64 (pg : Int), .slice x nl c, .string t, .bool true] 31) := ⟨_, rfl⟩
  rw [← hw1] at N1 bn1
  have z1 : w1.heap.size = w.heap.size + 1 := by rw [hw1]; simp
  obtain ⟨g, hg⟩ : ∃ g, g = w.heap.size := ⟨_, rfl⟩
  rw [← hg] at N1
  have H1 : Hid _ := And.intro bn1 (And.intro N1 (And.intro (hH.later bn1) (And.intro (hP.later bn1) (show g < w1.heap.size by omega))))
  have HN : Hid _ := And.intro hnl (And.intro hl (And.intro ht (And.intro hpg (And.intro hn hbl))))
  clear bn1 N1 hH hP hnl hl ht hpg hn z1 hbl
  go_enter Tryd.func9, Tryd.ntmps9
  go_upto_region 1 with fail
  rw [← hw1, ← hg]
  clear hw1 hg
  refine wp_region_held_drew (S := fun W => Below w1.heap.size w1 W) (by kernel_rfl) (by exact (Below.refl _ _).drew) (fun hS => ?_)
  obtain ⟨x0, hx0⟩ : ∃ y, y = w1.drew := ⟨_, rfl⟩
  rw [← hx0] at hS ⊢
  clear hx0
  refine any_take (i := 0) (v := ?_) rfl (by kernel_rfl) (by kernel_rfl) (by kernel_rfl) (by exact fun _ _ _ h => h) (by rfl) ?_ hS ?_
  rotate_left
  · ((intro w hSw; skip; go_simp) <;> with_reducible rfl)
  (try simp only [Act.put, List.setIfInBounds_toArray, List.set_cons_zero, List.set_cons_succ])
  refine any_take (i := 1) (v := ?_) rfl (by kernel_rfl) (by kernel_rfl) (by kernel_rfl) (by exact fun _ _ _ h => h) (by rfl) ?_ hS ?_
  rotate_left
  · ((intro w hSw; have B9 := H1.out.2.1.laterB hSw; have q0 := bk_at B9 0; have q1 := bk_at B9 1; have q2 := bk_at B9 2; have q3 := bk_at B9 3; have q4 := bk_at B9 4; simp only [List.getElem?_cons_zero, List.getElem?_cons_succ] at q0 q1 q2 q3 q4; go_simp) <;> with_reducible rfl)
  (try simp only [Act.put, List.setIfInBounds_toArray, List.set_cons_zero, List.set_cons_succ])
  refine any_take (i := 3) (v := ?_) rfl (by kernel_rfl) (by kernel_rfl) (by kernel_rfl) (by exact fun _ _ _ h => h) (by rfl) ?_ hS ?_
  rotate_left
  · ((intro w hSw; skip; go_simp) <;> with_reducible rfl)
  (try simp only [Act.put, List.setIfInBounds_toArray, List.set_cons_zero, List.set_cons_succ])
  refine any_take (i := 4) (v := ?_) rfl (by kernel_rfl) (by kernel_rfl) (by kernel_rfl) (by exact fun _ _ _ h => h) (by rfl) ?_ hS ?_
  rotate_left
  · ((intro w hSw; have B9 := H1.out.2.1.laterB hSw; have q0 := bk_at B9 0; have q1 := bk_at B9 1; have q2 := bk_at B9 2; have q3 := bk_at B9 3; have q4 := bk_at B9 4; simp only [List.getElem?_cons_zero, List.getElem?_cons_succ] at q0 q1 q2 q3 q4; go_simp) <;> with_reducible rfl)
  (try simp only [Act.put, List.setIfInBounds_toArray, List.set_cons_zero, List.set_cons_succ])
  have hS0 := hS
  refine any_one (i := 2) rfl (by kernel_rfl) (fun K hK => ?_)
  go_simp
  refine (Calls.mono (clone_any x nl c l x0 HN.out.1.symm (by rw [HN.out.1]; exact H1.out.2.2.1.le) (H1.out.2.2.1.row.later hS) H1.out.2.2.1.nil (by have := HN.out.1; have := HN.out.2.1; omega))) ?_
  rintro e x1 ⟨v1, rfl, O1, b1⟩
  have hS' : Below w1.heap.size w1 x1 := below_then hS b1
  go_wp2_with fail
  refine hK.out _ _ hS' ?_
  clear hK K hS
  have hS := hS'
  clear hS'
  obtain ⟨v2, x2, hap, O2, g2⟩ := run_app_str16 x1 x0.heap.size v1 l O1 t (by have := HN.out.2.1; have := HN.out.2.2.1; omega) b1.size 22
  have hS' : Below w1.heap.size w1 x2 := own_blw16b O1 hS hS0.size g2
  refine any_one (i := 5) rfl (by kernel_rfl) (fun K hK => ?_)
  refine step_value16 (by rfl) (exec_app16 _ _ _ _ rfl _ _ rfl rfl hap) ?_
  refine hK.out _ _ hS' ?_
  clear hK K hS hap
  have hS := hS'
  clear hS'
  refine any_take (i := 6) (v := ?_) rfl (by kernel_rfl) (by kernel_rfl) (by kernel_rfl) (by exact fun _ _ _ h => h) (by rfl) ?_ hS ?_
  rotate_left
  · ((intro w hSw; skip; go_simp) <;> with_reducible rfl)
  (try simp only [Act.put, List.setIfInBounds_toArray, List.set_cons_zero, List.set_cons_succ])
  refine wpAnyH_done (by kernel_rfl) ?_ _
  have H2 : Hid _ := And.intro hS (And.intro (O2.lower hS0.size) (H1.out.2.1.laterB hS))
  clear hS hS0 O1 O2 g2 b1
  have y0 := bk_at H2.out.2.2 0
  have y1 := bk_at H2.out.2.2 1
  have y2 := bk_at H2.out.2.2 2
  have y3 := bk_at H2.out.2.2 3
  have y4 := bk_at H2.out.2.2 4
  simp only [List.getElem?_cons_zero, List.getElem?_cons_succ] at y0 y1 y2 y3 y4
  go_wp2_with fail
  clear y0 y1 y2 y3 y4
  refine (Calls.mono (tSerial_any n HN.out.2.2.2.2.1 x2 (H1.out.2.2.2.1.later H2.out.1))) ?_
  rintro e x3 ⟨rfl, b3⟩
  have hss : (serS n).size = 11 := rfl
  have hO3 := H2.out.2.1.later b3
  obtain ⟨v4, x4, hap, O4, g4⟩ := run_app_str16 x3 w1.heap.size v2 _ hO3 (serS n) (by rw [hss]; have h1 := HN.out.2.1; have h2 := HN.out.2.2.1; have h3 := HN.out.2.2.2.2.2; simp only [List.length_append, h3]; omega) (below_then H2.out.1 b3).size 22
  have hbl4 := own_blw16b hO3 (below_then H2.out.1 b3) (Nat.le_refl _) g4
  have hg4 := own_block16 hO3 (H2.out.2.2.laterB b3) g4 H1.out.2.2.2.2
  have H2b : Hid (Below w1.heap.size w1 x4 ∧ Own x4 w1.heap.size v4 B ∧ Blk x4 g 31 [.bool true, .int .i64 (pg : Int), .slice x nl c, .string t, .bool true]) := ⟨hbl4, by rw [HB.out.1]; exact O4, hg4⟩
  clear H2 hO3 O4 g4 hbl4 hg4 hss b3
  go_upto_region 4 with (refine wpList_value16 rfl (exec_app16 _ _ _ _ rfl _ _ rfl rfl hap) ?_)
  clear hap
  have y0 := bk_at H2b.out.2.2 0
  have y1 := bk_at H2b.out.2.2 1
  have y2 := bk_at H2b.out.2.2 2
  have y3 := bk_at H2b.out.2.2 3
  have y4 := bk_at H2b.out.2.2 4
  simp only [List.getElem?_cons_zero, List.getElem?_cons_succ] at y0 y1 y2 y3 y4
  have hO := H2b.out.2.1
  obtain ⟨a, cap, rfl, hle, -, hrow, hnil, -⟩ := hO.open
  rw [← HB.out.2.1] at hle hO ⊢
  have H3 : Hid _ := And.intro H2b.out.1 (And.intro hO (And.intro H2b.out.2.2 (And.intro hrow (And.intro hnil hle))))
  clear hO hrow hnil hle H2b
  have hmk : (Instr.makeSlice 22 (.int .i64 4) (.int .i64 4)).run Tryd.prog x4 = .ok (.slice (some ⟨x4.heap.size, 0, none⟩) 4 4) (x4.alloc (.cells (vals [0#8, 0#8, 0#8, 0#8]).toArray 5)) := seMake 4 (by omega) x4
  have B2 := Blk.new' x4 5 (vals [0#8, 0#8, 0#8, 0#8])
  have b2 : Below x4.heap.size x4 (x4.alloc (.cells (vals [0#8, 0#8, 0#8, 0#8]).toArray 5)) := (Below.refl _ _).alloc (Nat.le_refl _) _
  obtain ⟨u5, hu5⟩ : ∃ y, y = x4.alloc (.cells (vals [0#8, 0#8, 0#8, 0#8]).toArray 5) := ⟨_, rfl⟩
  obtain ⟨gb, hgb⟩ : ∃ y, y = x4.heap.size := ⟨_, rfl⟩
  rw [← hu5] at B2 b2
  rw [← hgb] at B2
  have w7 : IntKind.u8.wrap (pg : Int) = (pg : Int) := by rw [IntKind.wrap_u8]; have := HN.out.2.2.2.1; omega
  have w8 : IntKind.u64.wrap (k : Int) = (k : Int) := by rw [IntKind.wrap_u64]; have := HB.out.2.2; omega
  have S1 := B2.set 1 (.int .u8 (pg : Int))
  have y' := bk_at B2 1
  have f' := bk_fz B2 1
  simp only [vals, List.replicate, List.map_cons, List.map_nil, List.getElem?_cons_zero, List.getElem?_cons_succ] at y'
  have hb6 : Below x4.heap.size x4 (u5.setCell ⟨gb, 1, none⟩ (.int .u8 (pg : Int))) := b2.grown (grown_set u5 gb 1 _) b2.size (fun k hk => by cases hk; rw [hgb]; exact Nat.le_refl _)
  obtain ⟨u6, hu6⟩ : ∃ y, y = u5.setCell ⟨gb, 1, none⟩ (.int .u8 (pg : Int)) := ⟨_, rfl⟩
  rw [← hu6] at S1 hb6
  have z0 := bk_at (H3.out.2.2.1.laterB b2) 0
  have z1 := bk_at (H3.out.2.2.1.laterB b2) 1
  have z2 := bk_at (H3.out.2.2.1.laterB b2) 2
  have z3 := bk_at (H3.out.2.2.1.laterB b2) 3
  have z4 := bk_at (H3.out.2.2.1.laterB b2) 4
  simp only [List.getElem?_cons_zero, List.getElem?_cons_succ] at z0 z1 z2 z3 z4
  have hgw : w1.heap.size ≤ gb := by rw [hgb]; exact H3.out.1.size
  have e8 : ((BitVec.ofNat 8 pg).toNat : Int) = (pg : Int) := by have := HN.out.2.2.2.1; simp; omega
  have hO6 : Own u6 w1.heap.size (.slice (some ⟨gb, 0, none⟩) 4 4) [0#8, BitVec.ofNat 8 pg, 0#8, 0#8] := Own.ofBlock (l := [0#8, BitVec.ofNat 8 pg, 0#8, 0#8]) hgw S1 (by simp) (by simp [maxLen]) (by simp [vals]) (by simp only [vals, List.replicate, List.map_cons, List.map_nil, List.set_cons_zero, List.set_cons_succ, e8]; rfl)
  obtain ⟨a6, c6, e6, hle6, -, hr6, hn6, -⟩ := hO6.open
  simp only [Value.slice.injEq] at e6
  obtain ⟨rfl, -, rfl⟩ := e6
  have HPt0 := Put_yes (some ⟨gb, 0, none⟩) 4 4 [0#8, BitVec.ofNat 8 pg, 0#8, 0#8] 2 2 (BitVec.ofNat 64 k) u6 rfl (Nat.le_refl _) hr6 (fun h => by cases h) (by omega) (by omega) (by omega) (by omega) (fits_2 k (by have := HB.out.2.2; omega))
  rw [show (((BitVec.ofNat 64 k).toNat : Nat) : Int) = (k : Int) by have := HB.out.2.2; simp; omega] at HPt0
  have HPt : Hid _ := HPt0
  have H6 : Hid _ := And.intro (below_then H3.out.1 hb6) (And.intro (H3.out.2.2.2.1.later hb6) hgw)
  clear HPt0 hO6 hr6 hn6 hle6 S1 hb6 B2 b2 hgw e8
  go_upto_region 7 with fail
  rw [← hu5, ← hgb]
  clear hu5 hgb hmk
  go_upto_region 8 with fail
  rw [← hu6]
  clear hu6 y' f' y0 z0 y1 z1 y2 z2 y3 z3 y4 z4
  go_wp2_with fail
  refine (Calls.mono HPt.out) ?_
  rintro e u7 ⟨v7, rfl, O7, b7⟩
  clear HPt
  have H7 : Hid _ := And.intro O7 (And.intro b7 (And.intro (below_then H6.out.1 b7) (H6.out.2.1.later b7)))
  clear O7 b7
  go_wp2_with (at_builtin; refine wpList_append_bytes _ rfl _ _ rfl u6.heap.size _ (over [0#8, BitVec.ofNat 8 pg, 0#8, 0#8] 2 (be 2 (BitVec.ofNat 64 k))) rfl H7.out.1 a k cap B rfl HB.out.2.1.symm H7.out.2.2.2 H3.out.2.2.2.2.1 H3.out.2.2.2.2.2 (by rw [over_len16]; have := HB.out.2.2; omega) H7.out.2.1.size ?_)
  intro v8 u8 O8 g8
  have F : Hid _ := And.intro (O8.lower (Nat.le_trans H1.out.1.size H6.out.1.size)) (own_blw16b H7.out.1 (below_then H1.out.1 H7.out.2.2.1) (Nat.le_trans H1.out.1.size H6.out.1.size) g8)
  clear O8 g8 H7
  go_wp2
  go_ret
  exact ⟨_, rfl, F.out.1, F.out.2⟩
end Go.Proofs.YtncplnejoppekaaDoor
