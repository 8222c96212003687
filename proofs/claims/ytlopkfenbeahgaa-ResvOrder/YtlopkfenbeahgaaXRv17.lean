/- Do. -/
import Derived.Test.YtlopkfenbeahgaaXRv16
namespace Go.Proofs.Ytlopkfenbeahgaa
open Go.RowKit Go.Shelf
set_option linter.unusedVariables false
set_option linter.unusedSimpArgs false
set_option maxRecDepth 4000

theorem index_ac0 (g : Nat) (w : World) : (Instr.index 71 (.agg #[.int .i64 0, .bool false, .func (.func 34) #[.pointer (some ⟨g, 0, none⟩)] #[], .int .i64 1, .bool true, .func (.func 35) #[.pointer (some ⟨g, 0, none⟩)] #[], .int .i64 2, .bool true, .func (.func 36) #[.pointer (some ⟨g, 0, none⟩)] #[], .int .i64 3, .bool true, .func (.func 37) #[.pointer (some ⟨g, 0, none⟩)] #[], .int .i64 4, .bool true, .func (.func 38) #[.pointer (some ⟨g, 0, none⟩)] #[], .int .i64 6, .bool false, .func (.func 39) #[.pointer (some ⟨g, 0, none⟩)] #[]]) (.int .i64 0)).run Try.prog w = .ok (.agg #[.int .i64 0, .bool false, .func (.func 34) #[.pointer (some ⟨g, 0, none⟩)] #[]]) w := by kernel_rfl
theorem index_ac1 (g : Nat) (w : World) : (Instr.index 71 (.agg #[.int .i64 0, .bool false, .func (.func 34) #[.pointer (some ⟨g, 0, none⟩)] #[], .int .i64 1, .bool true, .func (.func 35) #[.pointer (some ⟨g, 0, none⟩)] #[], .int .i64 2, .bool true, .func (.func 36) #[.pointer (some ⟨g, 0, none⟩)] #[], .int .i64 3, .bool true, .func (.func 37) #[.pointer (some ⟨g, 0, none⟩)] #[], .int .i64 4, .bool true, .func (.func 38) #[.pointer (some ⟨g, 0, none⟩)] #[], .int .i64 6, .bool false, .func (.func 39) #[.pointer (some ⟨g, 0, none⟩)] #[]]) (.int .i64 1)).run Try.prog w = .ok (.agg #[.int .i64 1, .bool true, .func (.func 35) #[.pointer (some ⟨g, 0, none⟩)] #[]]) w := by kernel_rfl
theorem index_ac2 (g : Nat) (w : World) : (Instr.index 71 (.agg #[.int .i64 0, .bool false, .func (.func 34) #[.pointer (some ⟨g, 0, none⟩)] #[], .int .i64 1, .bool true, .func (.func 35) #[.pointer (some ⟨g, 0, none⟩)] #[], .int .i64 2, .bool true, .func (.func 36) #[.pointer (some ⟨g, 0, none⟩)] #[], .int .i64 3, .bool true, .func (.func 37) #[.pointer (some ⟨g, 0, none⟩)] #[], .int .i64 4, .bool true, .func (.func 38) #[.pointer (some ⟨g, 0, none⟩)] #[], .int .i64 6, .bool false, .func (.func 39) #[.pointer (some ⟨g, 0, none⟩)] #[]]) (.int .i64 2)).run Try.prog w = .ok (.agg #[.int .i64 2, .bool true, .func (.func 36) #[.pointer (some ⟨g, 0, none⟩)] #[]]) w := by kernel_rfl
theorem index_ac3 (g : Nat) (w : World) : (Instr.index 71 (.agg #[.int .i64 0, .bool false, .func (.func 34) #[.pointer (some ⟨g, 0, none⟩)] #[], .int .i64 1, .bool true, .func (.func 35) #[.pointer (some ⟨g, 0, none⟩)] #[], .int .i64 2, .bool true, .func (.func 36) #[.pointer (some ⟨g, 0, none⟩)] #[], .int .i64 3, .bool true, .func (.func 37) #[.pointer (some ⟨g, 0, none⟩)] #[], .int .i64 4, .bool true, .func (.func 38) #[.pointer (some ⟨g, 0, none⟩)] #[], .int .i64 6, .bool false, .func (.func 39) #[.pointer (some ⟨g, 0, none⟩)] #[]]) (.int .i64 3)).run Try.prog w = .ok (.agg #[.int .i64 3, .bool true, .func (.func 37) #[.pointer (some ⟨g, 0, none⟩)] #[]]) w := by kernel_rfl
theorem index_ac4 (g : Nat) (w : World) : (Instr.index 71 (.agg #[.int .i64 0, .bool false, .func (.func 34) #[.pointer (some ⟨g, 0, none⟩)] #[], .int .i64 1, .bool true, .func (.func 35) #[.pointer (some ⟨g, 0, none⟩)] #[], .int .i64 2, .bool true, .func (.func 36) #[.pointer (some ⟨g, 0, none⟩)] #[], .int .i64 3, .bool true, .func (.func 37) #[.pointer (some ⟨g, 0, none⟩)] #[], .int .i64 4, .bool true, .func (.func 38) #[.pointer (some ⟨g, 0, none⟩)] #[], .int .i64 6, .bool false, .func (.func 39) #[.pointer (some ⟨g, 0, none⟩)] #[]]) (.int .i64 4)).run Try.prog w = .ok (.agg #[.int .i64 4, .bool true, .func (.func 38) #[.pointer (some ⟨g, 0, none⟩)] #[]]) w := by kernel_rfl
theorem index_ac5 (g : Nat) (w : World) : (Instr.index 71 (.agg #[.int .i64 0, .bool false, .func (.func 34) #[.pointer (some ⟨g, 0, none⟩)] #[], .int .i64 1, .bool true, .func (.func 35) #[.pointer (some ⟨g, 0, none⟩)] #[], .int .i64 2, .bool true, .func (.func 36) #[.pointer (some ⟨g, 0, none⟩)] #[], .int .i64 3, .bool true, .func (.func 37) #[.pointer (some ⟨g, 0, none⟩)] #[], .int .i64 4, .bool true, .func (.func 38) #[.pointer (some ⟨g, 0, none⟩)] #[], .int .i64 6, .bool false, .func (.func 39) #[.pointer (some ⟨g, 0, none⟩)] #[]]) (.int .i64 5)).run Try.prog w = .ok (.agg #[.int .i64 6, .bool false, .func (.func 39) #[.pointer (some ⟨g, 0, none⟩)] #[]]) w := by kernel_rfl
theorem store_ac (w : World) (n : Int) (b : Bool) (f : Nat) (v : Array Value) : (Instr.storeAt 70 (.pointer (some ⟨w.heap.size, 0, none⟩)) (.agg #[.int .i64 n, .bool b, .func (.func f) v #[]])).run Try.prog (w.alloc (.cells #[.int .i64 0, .bool false, .nilFunc] 70)) = .ok () (w.alloc (.cells #[.int .i64 n, .bool b, .func (.func f) v #[]] 70)) := by
  have hs : (Try.prog.info? 70).map (·.size) = some 3 := by kernel_rfl
  have h := run_storeVar_row (P := Try.prog) (w.alloc (.cells #[.int .i64 0, .bool false, .nilFunc] 70)) w.heap.size 70 70 #[.int .i64 0, .bool false, .nilFunc] #[.int .i64 n, .bool b, .func (.func f) v #[]] (MapKept.heap_alloc w _).1 (by rw [hs]; rfl) rfl (by simp [Value.oneCell'])
  simp only [Instr.storeAt, Instr.sureAddr, Sem.run_bind, Sem.run_pure, Result.andThen_ok, h, setRow_new16]
def acN : Nat → Int
  | 0 => 0 | 1 => 1 | 2 => 2 | 3 => 3 | 4 => 4 | _ => 6
theorem prev_step {c : Cm} {k : Nat} (h : ∀ j, j < k → c.a ≠ acN j) (hk : c.a ≠ acN k) (j : Nat) (hj : j < k + 1) : c.a ≠ acN j := by
  rcases Nat.lt_or_ge j k with h1 | h1
  · exact h j h1
  · obtain rfl : j = k := by omega
    exact hk
theorem nxB_nat {i : Nat} (h : i < 16) : nxB (i : Int) = true := decide_eq_true (p := 0 ≤ (i : Int) ∧ (i : Int) < 16) (by omega)
def ignA (m : Rs) (i : Nat) (c : Cm) : Ans := ((0, 0, 0, 0), ignM m i c.nw)
theorem ignA_any (g : Nat) (m : Rs) (i : Nat) (c : Cm) (w : World) (h : (rv g m).Ok w) (hi : i < 16) (hnw : 0 ≤ c.nw ∧ c.nw < 18446744073709551616) : Calls Try.prog 39 #[.pointer (some ⟨g, 0, none⟩), .int .i64 i, .agg #[.int .i64 c.a, .int .u64 c.key, .int .u64 c.nw, .int .i64 c.t]] w (Does w g (ignA m i c)) := ignore_any g m i c w h hi hnw
/-- what a command does -/
def doM (m : Rs) (n : Int) (c : Cm) : Ans :=
  if nxB n = false then ((2, 5, 36, 0), m, [])
  else if c.a = 0 then regM m n.toNat c
  else if c.a = 6 then ignA m n.toNat c
  else if 1 ≤ c.a ∧ c.a ≤ 4 then (if rg m n.toNat = false ∨ c.key ≠ m.ks.getD n.toNat 0 then ((24, 0, 0, 0), m, []) else if c.a = 1 then rsvM m n.toNat c else if c.a = 2 then relM m n.toNat c else if c.a = 3 then clrM m n.toNat else preM m n.toNat c)
  else ((2, 5, 36, 0), m, [])
set_option maxHeartbeats 16000000 in
theorem do_any (g : Nat) (m : Rs) (i : Nat) (c : Cm) (w : World) (h : (rv g m).Ok w) (hi : i < 16) (hnw : 0 ≤ c.nw ∧ c.nw < 18446744073709551616) : Calls Try.prog 7 #[.pointer (some ⟨g, 0, none⟩), .int .i64 i, .agg #[.int .i64 c.a, .int .u64 c.key, .int .u64 c.nw, .int .i64 c.t]] w (Does w g (doM m i c)) := by
  have hgl := h.holds.1.lt
  have b1 : Below w.heap.size w (w.alloc (.cells #[.int .i64 c.a, .int .u64 c.key, .int .u64 c.nw, .int .i64 c.t] 37)) := (Below.refl _ _).alloc (Nat.le_refl _) _
  have B1 := Blk.new' w 37 [.int .i64 c.a, .int .u64 c.key, .int .u64 c.nw, .int .i64 c.t]
  obtain ⟨w0, hw0⟩ : ∃ w0, w0 = w.alloc (.cells #[.int .i64 c.a, .int .u64 c.key, .int .u64 c.nw, .int .i64 c.t] 37) := ⟨_, rfl⟩
  have z0 : w0.heap.size = w.heap.size + 1 := by rw [hw0]; simp
  rw [← hw0] at b1 B1
  have b2 : Below w0.heap.size w0 (w0.alloc (.cells #[.int .i64 0, .int .i64 0, .int .i64 0, .int .i64 0, .slice none 0 0] 28)) := (Below.refl _ _).alloc (Nat.le_refl _) _
  have B2 := Blk.new' w0 28 [.int .i64 0, .int .i64 0, .int .i64 0, .int .i64 0, .slice none 0 0]
  obtain ⟨w1, hw1⟩ : ∃ w1, w1 = w0.alloc (.cells #[.int .i64 0, .int .i64 0, .int .i64 0, .int .i64 0, .slice none 0 0] 28) := ⟨_, rfl⟩
  have z1 : w1.heap.size = w.heap.size + 2 := by rw [hw1]; simp [z0]
  rw [← hw1] at b2 B2
  rw [z0] at B2
  have H1 : Hid (RT w w1 g m ∧ Blk w1 w.heap.size 37 [.int .i64 c.a, .int .u64 c.key, .int .u64 c.nw, .int .i64 c.t] ∧ Blk w1 (w.heap.size + 1) 28 [.int .i64 0, .int .i64 0, .int .i64 0, .int .i64 0, .slice none 0 0] ∧ w1.heap.size = w.heap.size + 2 ∧ g < w.heap.size) := ⟨(RT.start h).later (below_then b1 b2), B1.laterB b2, B2, z1, hgl⟩
  clear b1 B1 b2 B2 z0 z1 hgl h
  go_enter Try.func7, Try.ntmps7
  go_upto_region 1 with fail
  rw [← hw0, ← hw1]
  clear hw0 hw1
  have HNx : Hid _ := isNx_any (i : Int) w1
  rw [nxB_nat hi] at HNx
  have HAc : Hid _ := actions_any g w1
  obtain ⟨x, hx0⟩ : ∃ x, m.ks.getD i 0 = x := ⟨_, rfl⟩
  have HXK : Hid _ := hx0
  clear hx0
  have q : (i : Int) < 16 := by omega
  go_wp2_with fail
  refine (Calls.mono HNx.out) ?_
  rintro e _ ⟨rfl, rfl⟩
  clear HNx
  go_wp2_with fail
  refine (Calls.mono HAc.out) ?_
  rintro e w2 ⟨rfl, b2⟩
  have J : Hid (RT w w2 g m ∧ Blk w2 w.heap.size 37 [.int .i64 c.a, .int .u64 c.key, .int .u64 c.nw, .int .i64 c.t] ∧ Blk w2 (w.heap.size + 1) 28 [.int .i64 0, .int .i64 0, .int .i64 0, .int .i64 0, .slice none 0 0] ∧ w.heap.size + 2 ≤ w2.heap.size) := ⟨H1.out.1.later b2, H1.out.2.1.laterB b2, H1.out.2.2.1.laterB b2, by have := b2.size; have := H1.out.2.2.2.1; omega⟩
  clear HAc b2
  go_wp2_with fail
  go_loopw [20] (fun iv wr => ∃ k : Nat, k ≤ 6 ∧ iv = .int .i64 k ∧ (∀ j, j < k → c.a ≠ acN j) ∧ RT w wr g m ∧ Blk wr w.heap.size 37 [.int .i64 c.a, .int .u64 c.key, .int .u64 c.nw, .int .i64 c.t] ∧ Blk wr (w.heap.size + 1) 28 [.int .i64 0, .int .i64 0, .int .i64 0, .int .i64 0, .slice none 0 0] ∧ w.heap.size + 2 ≤ wr.heap.size) (fun iv _ => 6 - (intOf iv).toNat)
  case atStart => exact ⟨0, by omega, rfl, (fun j hj => by omega), J.out.1, J.out.2.1, J.out.2.2.1, J.out.2.2.2⟩
  case round =>
    clear J
    obtain ⟨k, hk, rfl, hpr, K1, K2, K3, K4⟩ := hrel
    match k, hk, hpr with
    | 0, _, hpr =>
        have hprev := hpr
        have hkc : (((0 : Nat)) : Int) = 0 := rfl
        rw [hkc]
        have hix : (Instr.index 71 (.agg #[.int .i64 0, .bool false, .func (.func 34) #[.pointer (some ⟨g, 0, none⟩)] #[], .int .i64 1, .bool true, .func (.func 35) #[.pointer (some ⟨g, 0, none⟩)] #[], .int .i64 2, .bool true, .func (.func 36) #[.pointer (some ⟨g, 0, none⟩)] #[], .int .i64 3, .bool true, .func (.func 37) #[.pointer (some ⟨g, 0, none⟩)] #[], .int .i64 4, .bool true, .func (.func 38) #[.pointer (some ⟨g, 0, none⟩)] #[], .int .i64 6, .bool false, .func (.func 39) #[.pointer (some ⟨g, 0, none⟩)] #[]]) (.int .i64 0)).run Try.prog wr = .ok (.agg #[.int .i64 0, .bool false, .func (.func 34) #[.pointer (some ⟨g, 0, none⟩)] #[]]) wr := index_ac0 g wr
        have ba : Below wr.heap.size wr (wr.alloc (.cells #[.int .i64 0, .bool false, .func (.func 34) #[.pointer (some ⟨g, 0, none⟩)] #[]] 70)) := (Below.refl _ _).alloc (Nat.le_refl _) _
        have Ba := Blk.new' wr 70 [.int .i64 0, .bool false, .func (.func 34) #[.pointer (some ⟨g, 0, none⟩)] #[]]
        have HA : Hid (RT w (wr.alloc (.cells #[.int .i64 0, .bool false, .func (.func 34) #[.pointer (some ⟨g, 0, none⟩)] #[]] 70)) g m ∧ Blk (wr.alloc (.cells #[.int .i64 0, .bool false, .func (.func 34) #[.pointer (some ⟨g, 0, none⟩)] #[]] 70)) w.heap.size 37 [.int .i64 c.a, .int .u64 c.key, .int .u64 c.nw, .int .i64 c.t] ∧ Blk (wr.alloc (.cells #[.int .i64 0, .bool false, .func (.func 34) #[.pointer (some ⟨g, 0, none⟩)] #[]] 70)) (w.heap.size + 1) 28 [.int .i64 0, .int .i64 0, .int .i64 0, .int .i64 0, .slice none 0 0] ∧ Blk (wr.alloc (.cells #[.int .i64 0, .bool false, .func (.func 34) #[.pointer (some ⟨g, 0, none⟩)] #[]] 70)) wr.heap.size 70 [.int .i64 0, .bool false, .func (.func 34) #[.pointer (some ⟨g, 0, none⟩)] #[]] ∧ w.heap.size + 2 ≤ (wr.alloc (.cells #[.int .i64 0, .bool false, .func (.func 34) #[.pointer (some ⟨g, 0, none⟩)] #[]] 70)).heap.size) := ⟨K1.later ba, K2.laterB ba, K3.laterB ba, Ba, Nat.le_trans K4 ba.size⟩
        have yn := blk_at Ba 0
        have k0 := blk_at (K2.laterB ba) 0
        simp only [List.getElem?_cons_zero, List.getElem?_cons_succ] at yn k0
        clear ba Ba K1 K2 K3 K4
        by_cases hca : c.a = 0
        · have hne : ((0 : Int) != c.a) = false := by rw [bne_eq_false_iff_eq]; exact hca.symm
          have HCA : Hid _ := hca
          clear hca
          go_upto_region 7 with (first | (refine wpList_value rfl (exec_index rfl rfl rfl hix) ?_) | (refine wpList_skip rfl (exec_store rfl rfl rfl (store_ac _ _ _ _ _)) ?_))
          clear hix yn k0 hne
          generalize (Value.agg #[.int .i64 0, .bool false, .func (.func 34) #[.pointer (some ⟨g, 0, none⟩)] #[], .int .i64 1, .bool true, .func (.func 35) #[.pointer (some ⟨g, 0, none⟩)] #[], .int .i64 2, .bool true, .func (.func 36) #[.pointer (some ⟨g, 0, none⟩)] #[], .int .i64 3, .bool true, .func (.func 37) #[.pointer (some ⟨g, 0, none⟩)] #[], .int .i64 4, .bool true, .func (.func 38) #[.pointer (some ⟨g, 0, none⟩)] #[], .int .i64 6, .bool false, .func (.func 39) #[.pointer (some ⟨g, 0, none⟩)] #[]]) = AG
          obtain ⟨gb, hgb⟩ : ∃ gb, wr.heap.size = gb := ⟨_, rfl⟩
          rw [hgb] at HA ⊢
          clear hgb
          generalize wr.alloc (.cells #[.int .i64 0, .bool false, .func (.func 34) #[.pointer (some ⟨g, 0, none⟩)] #[]] 70) = wa at *
          have HS7 : Hid (∀ W, Below wa.heap.size wa W → W.cell? ⟨gb, 1, none⟩ = some (.bool false) ∧ W.cell? ⟨w.heap.size, 1, none⟩ = some (.int .u64 c.key) ∧ W.cell? ⟨g, 19 + i, none⟩ = some (.int .u64 x)) := fun W b => ⟨by have := blk_at (HA.out.2.2.2.1.laterB b) 1; simpa using this, by have := blk_at (HA.out.2.1.laterB b) 1; simpa using this, by rw [← HXK.out]; exact (HA.out.1.ok.later b).holds.2.key (HA.out.1.ok.later b).holds.1 i hi⟩
          have HMD0 : doM m (i : Int) c = regM m i c := by have hca := HCA.out; unfold doM; rw [if_neg (by rw [nxB_nat hi]; decide), Int.toNat_natCast, if_pos hca]
          refine wp_region_held_drew (S := fun W => Below wa.heap.size wa W) (by kernel_rfl) ((Below.refl _ _).drew) (fun hS => ?_)
          refine any_take (i := 0) (v := ?_) rfl (by kernel_rfl) (by kernel_rfl) (by kernel_rfl) (by exact fun _ _ _ h => h) (by rfl) ?_ hS ?_
          rotate_left
          · ((intro w hSw; obtain ⟨ya, k1, ky⟩ := HS7.out _ hSw; go_simp) <;> with_reducible rfl)
          (try simp only [Act.put, List.setIfInBounds_toArray, List.set_cons_zero, List.set_cons_succ])
          refine any_take (i := 1) (v := ?_) rfl (by kernel_rfl) (by kernel_rfl) (by kernel_rfl) (by exact fun _ _ _ h => h) (by rfl) ?_ hS ?_
          rotate_left
          · ((intro w hSw; obtain ⟨ya, k1, ky⟩ := HS7.out _ hSw; go_simp) <;> with_reducible rfl)
          (try simp only [Act.put, List.setIfInBounds_toArray, List.set_cons_zero, List.set_cons_succ])
          refine any_take (i := 2) (v := ?_) rfl (by kernel_rfl) (by kernel_rfl) (by kernel_rfl) (by exact fun _ _ _ h => h) (by rfl) ?_ hS ?_
          rotate_left
          · ((intro w hSw; obtain ⟨ya, k1, ky⟩ := HS7.out _ hSw; go_simp) <;> with_reducible rfl)
          (try simp only [Act.put, List.setIfInBounds_toArray, List.set_cons_zero, List.set_cons_succ])
          refine any_skip (i := 3) rfl (by kernel_rfl) (by kernel_rfl) (by kernel_rfl) (by exact fun _ _ _ h => h) (by rfl) hS ?_
          (try simp only [Act.put, List.setIfInBounds_toArray, List.set_cons_zero, List.set_cons_succ])
          refine any_skip (i := 4) rfl (by kernel_rfl) (by kernel_rfl) (by kernel_rfl) (by exact fun _ _ _ h => h) (by rfl) hS ?_
          (try simp only [Act.put, List.setIfInBounds_toArray, List.set_cons_zero, List.set_cons_succ])
          refine any_skip (i := 5) rfl (by kernel_rfl) (by kernel_rfl) (by kernel_rfl) (by exact fun _ _ _ h => h) (by rfl) hS ?_
          (try simp only [Act.put, List.setIfInBounds_toArray, List.set_cons_zero, List.set_cons_succ])
          refine any_skip (i := 6) rfl (by kernel_rfl) (by kernel_rfl) (by kernel_rfl) (by exact fun _ _ _ h => h) (by rfl) hS ?_
          (try simp only [Act.put, List.setIfInBounds_toArray, List.set_cons_zero, List.set_cons_succ])
          refine any_skip (i := 7) rfl (by kernel_rfl) (by kernel_rfl) (by kernel_rfl) (by exact fun _ _ _ h => h) (by rfl) hS ?_
          (try simp only [Act.put, List.setIfInBounds_toArray, List.set_cons_zero, List.set_cons_succ])
          refine any_skip (i := 8) rfl (by kernel_rfl) (by kernel_rfl) (by kernel_rfl) (by exact fun _ _ _ h => h) (by rfl) hS ?_
          (try simp only [Act.put, List.setIfInBounds_toArray, List.set_cons_zero, List.set_cons_succ])
          refine any_skip (i := 9) rfl (by kernel_rfl) (by kernel_rfl) (by kernel_rfl) (by exact fun _ _ _ h => h) (by rfl) hS ?_
          (try simp only [Act.put, List.setIfInBounds_toArray, List.set_cons_zero, List.set_cons_succ])
          refine any_skip (i := 10) rfl (by kernel_rfl) (by kernel_rfl) (by kernel_rfl) (by exact fun _ _ _ h => h) (by rfl) hS ?_
          (try simp only [Act.put, List.setIfInBounds_toArray, List.set_cons_zero, List.set_cons_succ])
          refine any_skip (i := 11) rfl (by kernel_rfl) (by kernel_rfl) (by kernel_rfl) (by exact fun _ _ _ h => h) (by rfl) hS ?_
          (try simp only [Act.put, List.setIfInBounds_toArray, List.set_cons_zero, List.set_cons_succ])
          refine any_skip (i := 12) rfl (by kernel_rfl) (by kernel_rfl) (by kernel_rfl) (by exact fun _ _ _ h => h) (by rfl) hS ?_
          (try simp only [Act.put, List.setIfInBounds_toArray, List.set_cons_zero, List.set_cons_succ])
          refine any_skip (i := 13) rfl (by kernel_rfl) (by kernel_rfl) (by kernel_rfl) (by exact fun _ _ _ h => h) (by rfl) hS ?_
          (try simp only [Act.put, List.setIfInBounds_toArray, List.set_cons_zero, List.set_cons_succ])
          refine any_skip (i := 14) rfl (by kernel_rfl) (by kernel_rfl) (by kernel_rfl) (by exact fun _ _ _ h => h) (by rfl) hS ?_
          (try simp only [Act.put, List.setIfInBounds_toArray, List.set_cons_zero, List.set_cons_succ])
          refine any_skip (i := 15) rfl (by kernel_rfl) (by kernel_rfl) (by kernel_rfl) (by exact fun _ _ _ h => h) (by rfl) hS ?_
          (try simp only [Act.put, List.setIfInBounds_toArray, List.set_cons_zero, List.set_cons_succ])
          refine any_skip (i := 16) rfl (by kernel_rfl) (by kernel_rfl) (by kernel_rfl) (by exact fun _ _ _ h => h) (by rfl) hS ?_
          (try simp only [Act.put, List.setIfInBounds_toArray, List.set_cons_zero, List.set_cons_succ])
          refine any_skip (i := 17) rfl (by kernel_rfl) (by kernel_rfl) (by kernel_rfl) (by exact fun _ _ _ h => h) (by rfl) hS ?_
          (try simp only [Act.put, List.setIfInBounds_toArray, List.set_cons_zero, List.set_cons_succ])
          refine any_take (i := 18) (v := ?_) rfl (by kernel_rfl) (by kernel_rfl) (by kernel_rfl) (by exact fun _ _ _ h => h) (by rfl) ?_ hS ?_
          rotate_left
          · ((intro w hSw; skip; go_simp) <;> with_reducible rfl)
          (try simp only [Act.put, List.setIfInBounds_toArray, List.set_cons_zero, List.set_cons_succ])
          refine wpAnyH_done (by kernel_rfl) ?_ _
          clear hS
          have bd : Below wa.heap.size wa wa.drew := (Below.refl _ _).drew
          have RTX := HA.out.1.later bd
          have BC := HA.out.2.1.laterB bd
          have BR := HA.out.2.2.1.laterB bd
          have BA := HA.out.2.2.2.1.laterB bd
          have HSX : w.heap.size + 2 ≤ wa.drew.heap.size := HA.out.2.2.2.2
          clear bd HA HS7
          generalize wa.drew = wd at *
          have HMD : Hid _ := HMD0
          clear HMD0
          have HA0 : Hid _ := register_any g m i c _ RTX.ok hi hnw
          have ya := blk_at BA 2
          simp only [List.getElem?_cons_zero, List.getElem?_cons_succ] at ya
          have k0 := blk_at BC 0
          have k1 := blk_at BC 1
          have k2 := blk_at BC 2
          have k3 := blk_at BC 3
          simp only [List.getElem?_cons_zero, List.getElem?_cons_succ] at k0 k1 k2 k3
          have HX : Hid _ := And.intro RTX (And.intro BR (And.intro HSX trivial))
          clear RTX BC BR BA
          go_wp2_with fail
          clear ya k0 k1 k2 k3
          refine (Calls.mono HA0.out) ?_
          rintro e we ⟨v, rfl, hN, rt⟩
          have r3' := HX.out.1.trans rt
          have B3 := rt.blk HX.out.2.1 (by have := H1.out.2.2.2.2; omega)
          have hN' := hN.lower HX.out.1.size
          have han : ∀ b, v.ownBlock = some b → b ≠ w.heap.size + 1 := fun b hb => by have := hN.new b hb; have := HX.out.2.2.1; omega
          clear HA0 HX rt hN HSX
          obtain ⟨va, vc, hv, -, -⟩ := hN'.own.open
          rw [hv] at hN' han ⊢
          generalize (regM m i c) = A at *
          obtain ⟨⟨a1, a2, a3, a4⟩, m', l'⟩ := A
          simp only [rpV] at *
          have y0 := blk_at B3 0
          have f0 := blk_frozen B3 0
          have y1 := blk_at B3 1
          have f1 := blk_frozen B3 1
          have y2 := blk_at B3 2
          have f2 := blk_frozen B3 2
          have y3 := blk_at B3 3
          have f3 := blk_frozen B3 3
          have y4 := blk_at B3 4
          have f4 := blk_frozen B3 4
          simp only [List.getElem?_cons_zero, List.getElem?_cons_succ] at y0 y1 y2 y3 y4
          have SP := rp5_blk B3 a1 a2 a3 a4
          have G : Hid _ := And.intro SP.1 (And.intro (r3'.codes SP.2 (by omega) H1.out.2.2.2.2) (hN'.keep SP.2 han))
          unfold rp5 at G
          clear SP B3
          go_wp2
          clear y0 y1 y2 y3 y4 f0 f1 f2 f3 f4
          generalize (((((we).setCell ⟨w.heap.size + 1, 0, none⟩ (.int .i64 a1)).setCell ⟨w.heap.size + 1, 1, none⟩ (.int .i64 a2)).setCell ⟨w.heap.size + 1, 2, none⟩ (.int .i64 a3)).setCell ⟨w.heap.size + 1, 3, none⟩ (.int .i64 a4)).setCell ⟨w.heap.size + 1, 4, none⟩ (.slice none 0 0) = wf at *
          have y0 := blk_at G.out.1 0
          have y1 := blk_at G.out.1 1
          have y2 := blk_at G.out.1 2
          have y3 := blk_at G.out.1 3
          have y4 := blk_at G.out.1 4
          simp only [List.getElem?_cons_zero, List.getElem?_cons_succ] at y0 y1 y2 y3 y4
          refine bodyPost_ret (v := .tuple #[.agg #[.int .i64 a1, .int .i64 a2, .int .i64 a3, .int .i64 a4, .slice none 0 0], .slice va l'.length vc]) (by simp [results, Try.results7, go_sem, y0, y1, y2, y3, y4]) rfl ?_
          rw [HMD.out]
          exact ⟨_, rfl, G.out.2.2, G.out.2.1⟩
        · have hne : ((0 : Int) != c.a) = true := by rw [bne_iff_ne]; exact fun e => hca e.symm
          go_wp2_with (first | (refine wpList_value rfl (exec_index rfl rfl rfl hix) ?_) | (refine wpList_skip rfl (exec_store rfl rfl rfl (store_ac _ _ _ _ _)) ?_))
          go_roundw
          case rel => exact ⟨1, by omega, rfl, (fun j hj => by exact prev_step hprev hca j hj), HA.out.1, HA.out.2.1, HA.out.2.2.1, HA.out.2.2.2.2⟩
          case measure => simp [intOf]
    | 1, _, hpr =>
        have hprev := hpr
        have hkc : (((1 : Nat)) : Int) = 1 := rfl
        rw [hkc]
        have hix : (Instr.index 71 (.agg #[.int .i64 0, .bool false, .func (.func 34) #[.pointer (some ⟨g, 0, none⟩)] #[], .int .i64 1, .bool true, .func (.func 35) #[.pointer (some ⟨g, 0, none⟩)] #[], .int .i64 2, .bool true, .func (.func 36) #[.pointer (some ⟨g, 0, none⟩)] #[], .int .i64 3, .bool true, .func (.func 37) #[.pointer (some ⟨g, 0, none⟩)] #[], .int .i64 4, .bool true, .func (.func 38) #[.pointer (some ⟨g, 0, none⟩)] #[], .int .i64 6, .bool false, .func (.func 39) #[.pointer (some ⟨g, 0, none⟩)] #[]]) (.int .i64 1)).run Try.prog wr = .ok (.agg #[.int .i64 1, .bool true, .func (.func 35) #[.pointer (some ⟨g, 0, none⟩)] #[]]) wr := index_ac1 g wr
        have ba : Below wr.heap.size wr (wr.alloc (.cells #[.int .i64 1, .bool true, .func (.func 35) #[.pointer (some ⟨g, 0, none⟩)] #[]] 70)) := (Below.refl _ _).alloc (Nat.le_refl _) _
        have Ba := Blk.new' wr 70 [.int .i64 1, .bool true, .func (.func 35) #[.pointer (some ⟨g, 0, none⟩)] #[]]
        have HA : Hid (RT w (wr.alloc (.cells #[.int .i64 1, .bool true, .func (.func 35) #[.pointer (some ⟨g, 0, none⟩)] #[]] 70)) g m ∧ Blk (wr.alloc (.cells #[.int .i64 1, .bool true, .func (.func 35) #[.pointer (some ⟨g, 0, none⟩)] #[]] 70)) w.heap.size 37 [.int .i64 c.a, .int .u64 c.key, .int .u64 c.nw, .int .i64 c.t] ∧ Blk (wr.alloc (.cells #[.int .i64 1, .bool true, .func (.func 35) #[.pointer (some ⟨g, 0, none⟩)] #[]] 70)) (w.heap.size + 1) 28 [.int .i64 0, .int .i64 0, .int .i64 0, .int .i64 0, .slice none 0 0] ∧ Blk (wr.alloc (.cells #[.int .i64 1, .bool true, .func (.func 35) #[.pointer (some ⟨g, 0, none⟩)] #[]] 70)) wr.heap.size 70 [.int .i64 1, .bool true, .func (.func 35) #[.pointer (some ⟨g, 0, none⟩)] #[]] ∧ w.heap.size + 2 ≤ (wr.alloc (.cells #[.int .i64 1, .bool true, .func (.func 35) #[.pointer (some ⟨g, 0, none⟩)] #[]] 70)).heap.size) := ⟨K1.later ba, K2.laterB ba, K3.laterB ba, Ba, Nat.le_trans K4 ba.size⟩
        have yn := blk_at Ba 0
        have k0 := blk_at (K2.laterB ba) 0
        simp only [List.getElem?_cons_zero, List.getElem?_cons_succ] at yn k0
        clear ba Ba K1 K2 K3 K4
        by_cases hca : c.a = 1
        · have hne : ((1 : Int) != c.a) = false := by rw [bne_eq_false_iff_eq]; exact hca.symm
          have HCA : Hid _ := hca
          clear hca
          go_upto_region 7 with (first | (refine wpList_value rfl (exec_index rfl rfl rfl hix) ?_) | (refine wpList_skip rfl (exec_store rfl rfl rfl (store_ac _ _ _ _ _)) ?_))
          clear hix yn k0 hne
          generalize (Value.agg #[.int .i64 0, .bool false, .func (.func 34) #[.pointer (some ⟨g, 0, none⟩)] #[], .int .i64 1, .bool true, .func (.func 35) #[.pointer (some ⟨g, 0, none⟩)] #[], .int .i64 2, .bool true, .func (.func 36) #[.pointer (some ⟨g, 0, none⟩)] #[], .int .i64 3, .bool true, .func (.func 37) #[.pointer (some ⟨g, 0, none⟩)] #[], .int .i64 4, .bool true, .func (.func 38) #[.pointer (some ⟨g, 0, none⟩)] #[], .int .i64 6, .bool false, .func (.func 39) #[.pointer (some ⟨g, 0, none⟩)] #[]]) = AG
          obtain ⟨gb, hgb⟩ : ∃ gb, wr.heap.size = gb := ⟨_, rfl⟩
          rw [hgb] at HA ⊢
          clear hgb
          generalize wr.alloc (.cells #[.int .i64 1, .bool true, .func (.func 35) #[.pointer (some ⟨g, 0, none⟩)] #[]] 70) = wa at *
          have HS7 : Hid (∀ W, Below wa.heap.size wa W → W.cell? ⟨gb, 1, none⟩ = some (.bool true) ∧ W.cell? ⟨w.heap.size, 1, none⟩ = some (.int .u64 c.key) ∧ W.cell? ⟨g, 19 + i, none⟩ = some (.int .u64 x)) := fun W b => ⟨by have := blk_at (HA.out.2.2.2.1.laterB b) 1; simpa using this, by have := blk_at (HA.out.2.1.laterB b) 1; simpa using this, by rw [← HXK.out]; exact (HA.out.1.ok.later b).holds.2.key (HA.out.1.ok.later b).holds.1 i hi⟩
          have HRG : Hid (∀ W, Below wa.heap.size wa W → _) := fun W b => isReg_any g m i W (HA.out.1.ok.later b) hi
          cases hrg : rg m i with
        | false =>
            have HMD0 : doM m (i : Int) c = ((24, 0, 0, 0), m, []) := by have hca := HCA.out; unfold doM; rw [if_neg (by rw [nxB_nat hi]; decide), Int.toNat_natCast, if_neg (by omega), if_neg (by omega), if_pos (by omega), if_pos (.inl hrg)]
            rw [hrg] at HRG
            refine wp_region_held_drew (S := fun W => Below wa.heap.size wa W) (by kernel_rfl) ((Below.refl _ _).drew) (fun hS => ?_)
            refine any_take (i := 0) (v := ?_) rfl (by kernel_rfl) (by kernel_rfl) (by kernel_rfl) (by exact fun _ _ _ h => h) (by rfl) ?_ hS ?_
            rotate_left
            · ((intro w hSw; obtain ⟨ya, k1, ky⟩ := HS7.out _ hSw; go_simp) <;> with_reducible rfl)
            (try simp only [Act.put, List.setIfInBounds_toArray, List.set_cons_zero, List.set_cons_succ])
            refine any_take (i := 1) (v := ?_) rfl (by kernel_rfl) (by kernel_rfl) (by kernel_rfl) (by exact fun _ _ _ h => h) (by rfl) ?_ hS ?_
            rotate_left
            · ((intro w hSw; obtain ⟨ya, k1, ky⟩ := HS7.out _ hSw; go_simp) <;> with_reducible rfl)
            (try simp only [Act.put, List.setIfInBounds_toArray, List.set_cons_zero, List.set_cons_succ])
            refine any_take (i := 2) (v := ?_) rfl (by kernel_rfl) (by kernel_rfl) (by kernel_rfl) (by exact fun _ _ _ h => h) (by rfl) ?_ hS ?_
            rotate_left
            · ((intro w hSw; obtain ⟨ya, k1, ky⟩ := HS7.out _ hSw; go_simp) <;> with_reducible rfl)
            (try simp only [Act.put, List.setIfInBounds_toArray, List.set_cons_zero, List.set_cons_succ])
            refine any_take (i := 3) (v := ?_) rfl (by kernel_rfl) (by kernel_rfl) (by kernel_rfl) (by exact fun _ _ _ h => h) (by rfl) ?_ hS ?_
            rotate_left
            · ((intro w hSw; obtain ⟨ya, k1, ky⟩ := HS7.out _ hSw; go_simp) <;> with_reducible rfl)
            (try simp only [Act.put, List.setIfInBounds_toArray, List.set_cons_zero, List.set_cons_succ])
            refine any_take (i := 4) (v := ?_) rfl (by kernel_rfl) (by kernel_rfl) (by kernel_rfl) (by exact fun _ _ _ h => h) (by rfl) ?_ hS ?_
            rotate_left
            · ((intro w hSw; obtain ⟨ya, k1, ky⟩ := HS7.out _ hSw; go_simp) <;> with_reducible rfl)
            (try simp only [Act.put, List.setIfInBounds_toArray, List.set_cons_zero, List.set_cons_succ])
            refine any_one (i := 5) rfl (by kernel_rfl) (fun K hK => ?_)
            go_simp
            refine (Calls.mono (HRG.out _ hS)) ?_
            rintro e _ ⟨rfl, rfl⟩
            go_wp2_with fail
            refine hK.out _ _ hS ?_
            clear hK K
            refine any_take (i := 6) (v := ?_) rfl (by kernel_rfl) (by kernel_rfl) (by kernel_rfl) (by exact fun _ _ _ h => h) (by rfl) ?_ hS ?_
            rotate_left
            · ((intro w hSw; skip; go_simp) <;> with_reducible rfl)
            (try simp only [Act.put, List.setIfInBounds_toArray, List.set_cons_zero, List.set_cons_succ])
            refine any_take (i := 7) (v := ?_) rfl (by kernel_rfl) (by kernel_rfl) (by kernel_rfl) (by exact fun _ _ _ h => h) (by rfl) ?_ hS ?_
            rotate_left
            · ((intro w hSw; skip; go_simp) <;> with_reducible rfl)
            (try simp only [Act.put, List.setIfInBounds_toArray, List.set_cons_zero, List.set_cons_succ])
            refine any_skip (i := 8) rfl (by kernel_rfl) (by kernel_rfl) (by kernel_rfl) (by exact fun _ _ _ h => h) (by rfl) hS ?_
            (try simp only [Act.put, List.setIfInBounds_toArray, List.set_cons_zero, List.set_cons_succ])
            refine any_skip (i := 9) rfl (by kernel_rfl) (by kernel_rfl) (by kernel_rfl) (by exact fun _ _ _ h => h) (by rfl) hS ?_
            (try simp only [Act.put, List.setIfInBounds_toArray, List.set_cons_zero, List.set_cons_succ])
            refine any_skip (i := 10) rfl (by kernel_rfl) (by kernel_rfl) (by kernel_rfl) (by exact fun _ _ _ h => h) (by rfl) hS ?_
            (try simp only [Act.put, List.setIfInBounds_toArray, List.set_cons_zero, List.set_cons_succ])
            refine any_skip (i := 11) rfl (by kernel_rfl) (by kernel_rfl) (by kernel_rfl) (by exact fun _ _ _ h => h) (by rfl) hS ?_
            (try simp only [Act.put, List.setIfInBounds_toArray, List.set_cons_zero, List.set_cons_succ])
            refine any_skip (i := 12) rfl (by kernel_rfl) (by kernel_rfl) (by kernel_rfl) (by exact fun _ _ _ h => h) (by rfl) hS ?_
            (try simp only [Act.put, List.setIfInBounds_toArray, List.set_cons_zero, List.set_cons_succ])
            refine any_skip (i := 13) rfl (by kernel_rfl) (by kernel_rfl) (by kernel_rfl) (by exact fun _ _ _ h => h) (by rfl) hS ?_
            (try simp only [Act.put, List.setIfInBounds_toArray, List.set_cons_zero, List.set_cons_succ])
            refine any_skip (i := 14) rfl (by kernel_rfl) (by kernel_rfl) (by kernel_rfl) (by exact fun _ _ _ h => h) (by rfl) hS ?_
            (try simp only [Act.put, List.setIfInBounds_toArray, List.set_cons_zero, List.set_cons_succ])
            refine any_skip (i := 15) rfl (by kernel_rfl) (by kernel_rfl) (by kernel_rfl) (by exact fun _ _ _ h => h) (by rfl) hS ?_
            (try simp only [Act.put, List.setIfInBounds_toArray, List.set_cons_zero, List.set_cons_succ])
            refine any_skip (i := 16) rfl (by kernel_rfl) (by kernel_rfl) (by kernel_rfl) (by exact fun _ _ _ h => h) (by rfl) hS ?_
            (try simp only [Act.put, List.setIfInBounds_toArray, List.set_cons_zero, List.set_cons_succ])
            refine any_take (i := 17) (v := ?_) rfl (by kernel_rfl) (by kernel_rfl) (by kernel_rfl) (by exact fun _ _ _ h => h) (by rfl) ?_ hS ?_
            rotate_left
            · ((intro w hSw; skip; go_simp) <;> with_reducible rfl)
            (try simp only [Act.put, List.setIfInBounds_toArray, List.set_cons_zero, List.set_cons_succ])
            refine any_take (i := 18) (v := ?_) rfl (by kernel_rfl) (by kernel_rfl) (by kernel_rfl) (by exact fun _ _ _ h => h) (by rfl) ?_ hS ?_
            rotate_left
            · ((intro w hSw; skip; go_simp) <;> with_reducible rfl)
            (try simp only [Act.put, List.setIfInBounds_toArray, List.set_cons_zero, List.set_cons_succ])
            refine wpAnyH_done (by kernel_rfl) ?_ _
            clear hS
            have bd : Below wa.heap.size wa wa.drew := (Below.refl _ _).drew
            have RTX := HA.out.1.later bd
            have BC := HA.out.2.1.laterB bd
            have BR := HA.out.2.2.1.laterB bd
            have BA := HA.out.2.2.2.1.laterB bd
            have HSX : w.heap.size + 2 ≤ wa.drew.heap.size := HA.out.2.2.2.2
            clear bd HA HS7
            generalize wa.drew = wd at *
            have HMD : Hid _ := HMD0
            have RTW := RTX
            have BW := BR
            clear HMD0 RTX BC BR BA HSX
            have HG : Hid _ := conflict_any wd
            go_wp2_with fail
            refine (Calls.mono HG.out) ?_
            rintro e w9 ⟨rfl, b9⟩
            have r3' := RTW.later b9
            have B3 := BW.laterB b9
            have hN' : Nts w w9 (.slice none 0 0) [] := Nts.nil _ _
            have han : ∀ b, (Value.slice none 0 0).ownBlock = some b → b ≠ w.heap.size + 1 := fun b hb => by cases hb
            clear HG b9 RTW BW
            have y0 := blk_at B3 0
            have f0 := blk_frozen B3 0
            have y1 := blk_at B3 1
            have f1 := blk_frozen B3 1
            have y2 := blk_at B3 2
            have f2 := blk_frozen B3 2
            have y3 := blk_at B3 3
            have f3 := blk_frozen B3 3
            have y4 := blk_at B3 4
            have f4 := blk_frozen B3 4
            simp only [List.getElem?_cons_zero, List.getElem?_cons_succ] at y0 y1 y2 y3 y4
            have SP := rp5_blk B3 (24) (0) (0) (0)
            have G : Hid _ := And.intro SP.1 (And.intro (r3'.codes SP.2 (by omega) H1.out.2.2.2.2) (hN'.keep SP.2 han))
            unfold rp5 at G
            clear SP B3
            go_wp2
            clear y0 y1 y2 y3 y4 f0 f1 f2 f3 f4
            generalize (((((w9).setCell ⟨w.heap.size + 1, 0, none⟩ (.int .i64 24)).setCell ⟨w.heap.size + 1, 1, none⟩ (.int .i64 0)).setCell ⟨w.heap.size + 1, 2, none⟩ (.int .i64 0)).setCell ⟨w.heap.size + 1, 3, none⟩ (.int .i64 0)).setCell ⟨w.heap.size + 1, 4, none⟩ (.slice none 0 0) = wf at *
            have y0 := blk_at G.out.1 0
            have y1 := blk_at G.out.1 1
            have y2 := blk_at G.out.1 2
            have y3 := blk_at G.out.1 3
            have y4 := blk_at G.out.1 4
            simp only [List.getElem?_cons_zero, List.getElem?_cons_succ] at y0 y1 y2 y3 y4
            refine bodyPost_ret (v := .tuple #[.agg #[.int .i64 24, .int .i64 0, .int .i64 0, .int .i64 0, .slice none 0 0], .slice none 0 0]) (by simp [results, Try.results7, go_sem, y0, y1, y2, y3, y4]) rfl ?_
            exact ⟨_, by rw [HMD.out]; rfl, by rw [HMD.out]; exact G.out.2.2, by rw [HMD.out]; exact G.out.2.1⟩
        | true =>
            rw [hrg] at HRG
            refine wp_region_held_drew (S := fun W => Below wa.heap.size wa W) (by kernel_rfl) ((Below.refl _ _).drew) (fun hS => ?_)
            refine any_take (i := 0) (v := ?_) rfl (by kernel_rfl) (by kernel_rfl) (by kernel_rfl) (by exact fun _ _ _ h => h) (by rfl) ?_ hS ?_
            rotate_left
            · ((intro w hSw; obtain ⟨ya, k1, ky⟩ := HS7.out _ hSw; go_simp) <;> with_reducible rfl)
            (try simp only [Act.put, List.setIfInBounds_toArray, List.set_cons_zero, List.set_cons_succ])
            refine any_take (i := 1) (v := ?_) rfl (by kernel_rfl) (by kernel_rfl) (by kernel_rfl) (by exact fun _ _ _ h => h) (by rfl) ?_ hS ?_
            rotate_left
            · ((intro w hSw; obtain ⟨ya, k1, ky⟩ := HS7.out _ hSw; go_simp) <;> with_reducible rfl)
            (try simp only [Act.put, List.setIfInBounds_toArray, List.set_cons_zero, List.set_cons_succ])
            refine any_take (i := 2) (v := ?_) rfl (by kernel_rfl) (by kernel_rfl) (by kernel_rfl) (by exact fun _ _ _ h => h) (by rfl) ?_ hS ?_
            rotate_left
            · ((intro w hSw; obtain ⟨ya, k1, ky⟩ := HS7.out _ hSw; go_simp) <;> with_reducible rfl)
            (try simp only [Act.put, List.setIfInBounds_toArray, List.set_cons_zero, List.set_cons_succ])
            refine any_take (i := 3) (v := ?_) rfl (by kernel_rfl) (by kernel_rfl) (by kernel_rfl) (by exact fun _ _ _ h => h) (by rfl) ?_ hS ?_
            rotate_left
            · ((intro w hSw; obtain ⟨ya, k1, ky⟩ := HS7.out _ hSw; go_simp) <;> with_reducible rfl)
            (try simp only [Act.put, List.setIfInBounds_toArray, List.set_cons_zero, List.set_cons_succ])
            refine any_take (i := 4) (v := ?_) rfl (by kernel_rfl) (by kernel_rfl) (by kernel_rfl) (by exact fun _ _ _ h => h) (by rfl) ?_ hS ?_
            rotate_left
            · ((intro w hSw; obtain ⟨ya, k1, ky⟩ := HS7.out _ hSw; go_simp) <;> with_reducible rfl)
            (try simp only [Act.put, List.setIfInBounds_toArray, List.set_cons_zero, List.set_cons_succ])
            refine any_one (i := 5) rfl (by kernel_rfl) (fun K hK => ?_)
            go_simp
            refine (Calls.mono (HRG.out _ hS)) ?_
            rintro e _ ⟨rfl, rfl⟩
            go_wp2_with fail
            refine hK.out _ _ hS ?_
            clear hK K
            refine any_take (i := 6) (v := ?_) rfl (by kernel_rfl) (by kernel_rfl) (by kernel_rfl) (by exact fun _ _ _ h => h) (by rfl) ?_ hS ?_
            rotate_left
            · ((intro w hSw; skip; go_simp) <;> with_reducible rfl)
            (try simp only [Act.put, List.setIfInBounds_toArray, List.set_cons_zero, List.set_cons_succ])
            refine any_take (i := 7) (v := ?_) rfl (by kernel_rfl) (by kernel_rfl) (by kernel_rfl) (by exact fun _ _ _ h => h) (by rfl) ?_ hS ?_
            rotate_left
            · ((intro w hSw; skip; go_simp) <;> with_reducible rfl)
            (try simp only [Act.put, List.setIfInBounds_toArray, List.set_cons_zero, List.set_cons_succ])
            refine any_take (i := 8) (v := ?_) rfl (by kernel_rfl) (by kernel_rfl) (by kernel_rfl) (by exact fun _ _ _ h => h) (by rfl) ?_ hS ?_
            rotate_left
            · ((intro w hSw; obtain ⟨ya, k1, ky⟩ := HS7.out _ hSw; go_simp) <;> with_reducible rfl)
            (try simp only [Act.put, List.setIfInBounds_toArray, List.set_cons_zero, List.set_cons_succ])
            refine any_take (i := 9) (v := ?_) rfl (by kernel_rfl) (by kernel_rfl) (by kernel_rfl) (by exact fun _ _ _ h => h) (by rfl) ?_ hS ?_
            rotate_left
            · ((intro w hSw; obtain ⟨ya, k1, ky⟩ := HS7.out _ hSw; go_simp) <;> with_reducible rfl)
            (try simp only [Act.put, List.setIfInBounds_toArray, List.set_cons_zero, List.set_cons_succ])
            refine any_take (i := 10) (v := ?_) rfl (by kernel_rfl) (by kernel_rfl) (by kernel_rfl) (by exact fun _ _ _ h => h) (by rfl) ?_ hS ?_
            rotate_left
            · ((intro w hSw; obtain ⟨ya, k1, ky⟩ := HS7.out _ hSw; go_simp) <;> with_reducible rfl)
            (try simp only [Act.put, List.setIfInBounds_toArray, List.set_cons_zero, List.set_cons_succ])
            refine any_take (i := 11) (v := ?_) rfl (by kernel_rfl) (by kernel_rfl) (by kernel_rfl) (by exact fun _ _ _ h => h) (by rfl) ?_ hS ?_
            rotate_left
            · ((intro w hSw; obtain ⟨ya, k1, ky⟩ := HS7.out _ hSw; go_simp) <;> with_reducible rfl)
            (try simp only [Act.put, List.setIfInBounds_toArray, List.set_cons_zero, List.set_cons_succ])
            refine any_take (i := 12) (v := ?_) rfl (by kernel_rfl) (by kernel_rfl) (by kernel_rfl) (by exact fun _ _ _ h => h) (by rfl) ?_ hS ?_
            rotate_left
            · ((intro w hSw; obtain ⟨ya, k1, ky⟩ := HS7.out _ hSw; go_simp) <;> with_reducible rfl)
            (try simp only [Act.put, List.setIfInBounds_toArray, List.set_cons_zero, List.set_cons_succ])
            refine any_take (i := 13) (v := ?_) rfl (by kernel_rfl) (by kernel_rfl) (by kernel_rfl) (by exact fun _ _ _ h => h) (by rfl) ?_ hS ?_
            rotate_left
            · ((intro w hSw; obtain ⟨ya, k1, ky⟩ := HS7.out _ hSw; go_simp) <;> with_reducible rfl)
            (try simp only [Act.put, List.setIfInBounds_toArray, List.set_cons_zero, List.set_cons_succ])
            refine any_take (i := 14) (v := ?_) rfl (by kernel_rfl) (by kernel_rfl) (by kernel_rfl) (by exact fun _ _ _ h => h) (by rfl) ?_ hS ?_
            rotate_left
            · ((intro w hSw; obtain ⟨ya, k1, ky⟩ := HS7.out _ hSw; go_simp) <;> with_reducible rfl)
            (try simp only [Act.put, List.setIfInBounds_toArray, List.set_cons_zero, List.set_cons_succ])
            refine any_take (i := 15) (v := ?_) rfl (by kernel_rfl) (by kernel_rfl) (by kernel_rfl) (by exact fun _ _ _ h => h) (by rfl) ?_ hS ?_
            rotate_left
            · ((intro w hSw; obtain ⟨ya, k1, ky⟩ := HS7.out _ hSw; go_simp) <;> with_reducible rfl)
            (try simp only [Act.put, List.setIfInBounds_toArray, List.set_cons_zero, List.set_cons_succ])
            refine any_take (i := 16) (v := ?_) rfl (by kernel_rfl) (by kernel_rfl) (by kernel_rfl) (by exact fun _ _ _ h => h) (by rfl) ?_ hS ?_
            rotate_left
            · ((intro w hSw; obtain ⟨ya, k1, ky⟩ := HS7.out _ hSw; go_simp) <;> with_reducible rfl)
            (try simp only [Act.put, List.setIfInBounds_toArray, List.set_cons_zero, List.set_cons_succ])
            refine any_take (i := 17) (v := ?_) rfl (by kernel_rfl) (by kernel_rfl) (by kernel_rfl) (by exact fun _ _ _ h => h) (by rfl) ?_ hS ?_
            rotate_left
            · ((intro w hSw; skip; go_simp) <;> with_reducible rfl)
            (try simp only [Act.put, List.setIfInBounds_toArray, List.set_cons_zero, List.set_cons_succ])
            refine any_take (i := 18) (v := ?_) rfl (by kernel_rfl) (by kernel_rfl) (by kernel_rfl) (by exact fun _ _ _ h => h) (by rfl) ?_ hS ?_
            rotate_left
            · ((intro w hSw; skip; go_simp) <;> with_reducible rfl)
            (try simp only [Act.put, List.setIfInBounds_toArray, List.set_cons_zero, List.set_cons_succ])
            refine wpAnyH_done (by kernel_rfl) ?_ _
            clear hS
            have bd : Below wa.heap.size wa wa.drew := (Below.refl _ _).drew
            have RTX := HA.out.1.later bd
            have BC := HA.out.2.1.laterB bd
            have BR := HA.out.2.2.1.laterB bd
            have BA := HA.out.2.2.2.1.laterB bd
            have HSX : w.heap.size + 2 ≤ wa.drew.heap.size := HA.out.2.2.2.2
            clear bd HA HS7
            generalize wa.drew = wd at *
            by_cases hxk : c.key = x
            · have HMD0 : doM m (i : Int) c = rsvM m i c := by have hca := HCA.out; unfold doM; rw [if_neg (by rw [nxB_nat hi]; decide), Int.toNat_natCast, if_neg (by omega), if_neg (by omega), if_pos (by omega), if_neg (by rw [hrg, HXK.out]; simp [hxk]), if_pos hca]
              have hq2 : (c.key != x) = false := by rw [bne_eq_false_iff_eq]; exact hxk
              (try rw [hq2])
              have HMD : Hid _ := HMD0
              clear HMD0 hxk hq2
              have HA0 : Hid _ := reserve_any g m i c _ RTX.ok hi
              have ya := blk_at BA 2
              simp only [List.getElem?_cons_zero, List.getElem?_cons_succ] at ya
              have k0 := blk_at BC 0
              have k1 := blk_at BC 1
              have k2 := blk_at BC 2
              have k3 := blk_at BC 3
              simp only [List.getElem?_cons_zero, List.getElem?_cons_succ] at k0 k1 k2 k3
              have HX : Hid _ := And.intro RTX (And.intro BR (And.intro HSX trivial))
              clear RTX BC BR BA
              go_wp2_with fail
              clear ya k0 k1 k2 k3
              refine (Calls.mono HA0.out) ?_
              rintro e we ⟨v, rfl, hN, rt⟩
              have r3' := HX.out.1.trans rt
              have B3 := rt.blk HX.out.2.1 (by have := H1.out.2.2.2.2; omega)
              have hN' := hN.lower HX.out.1.size
              have han : ∀ b, v.ownBlock = some b → b ≠ w.heap.size + 1 := fun b hb => by have := hN.new b hb; have := HX.out.2.2.1; omega
              clear HA0 HX rt hN HSX
              obtain ⟨va, vc, hv, -, -⟩ := hN'.own.open
              rw [hv] at hN' han ⊢
              generalize (rsvM m i c) = A at *
              obtain ⟨⟨a1, a2, a3, a4⟩, m', l'⟩ := A
              simp only [rpV] at *
              have y0 := blk_at B3 0
              have f0 := blk_frozen B3 0
              have y1 := blk_at B3 1
              have f1 := blk_frozen B3 1
              have y2 := blk_at B3 2
              have f2 := blk_frozen B3 2
              have y3 := blk_at B3 3
              have f3 := blk_frozen B3 3
              have y4 := blk_at B3 4
              have f4 := blk_frozen B3 4
              simp only [List.getElem?_cons_zero, List.getElem?_cons_succ] at y0 y1 y2 y3 y4
              have SP := rp5_blk B3 a1 a2 a3 a4
              have G : Hid _ := And.intro SP.1 (And.intro (r3'.codes SP.2 (by omega) H1.out.2.2.2.2) (hN'.keep SP.2 han))
              unfold rp5 at G
              clear SP B3
              go_wp2
              clear y0 y1 y2 y3 y4 f0 f1 f2 f3 f4
              generalize (((((we).setCell ⟨w.heap.size + 1, 0, none⟩ (.int .i64 a1)).setCell ⟨w.heap.size + 1, 1, none⟩ (.int .i64 a2)).setCell ⟨w.heap.size + 1, 2, none⟩ (.int .i64 a3)).setCell ⟨w.heap.size + 1, 3, none⟩ (.int .i64 a4)).setCell ⟨w.heap.size + 1, 4, none⟩ (.slice none 0 0) = wf at *
              have y0 := blk_at G.out.1 0
              have y1 := blk_at G.out.1 1
              have y2 := blk_at G.out.1 2
              have y3 := blk_at G.out.1 3
              have y4 := blk_at G.out.1 4
              simp only [List.getElem?_cons_zero, List.getElem?_cons_succ] at y0 y1 y2 y3 y4
              refine bodyPost_ret (v := .tuple #[.agg #[.int .i64 a1, .int .i64 a2, .int .i64 a3, .int .i64 a4, .slice none 0 0], .slice va l'.length vc]) (by simp [results, Try.results7, go_sem, y0, y1, y2, y3, y4]) rfl ?_
              rw [HMD.out]
              exact ⟨_, rfl, G.out.2.2, G.out.2.1⟩
            · have HMD0 : doM m (i : Int) c = ((24, 0, 0, 0), m, []) := by have hca := HCA.out; unfold doM; rw [if_neg (by rw [nxB_nat hi]; decide), Int.toNat_natCast, if_neg (by omega), if_neg (by omega), if_pos (by omega), if_pos (.inr (by rw [HXK.out]; exact hxk))]
              have hq2 : (c.key != x) = true := by rw [bne_iff_ne]; exact hxk
              (try rw [hq2])
              have HMD : Hid _ := HMD0
              have RTW := RTX
              have BW := BR
              clear HMD0 RTX BC BR BA HSX
              have HG : Hid _ := conflict_any wd
              go_wp2_with fail
              refine (Calls.mono HG.out) ?_
              rintro e w9 ⟨rfl, b9⟩
              have r3' := RTW.later b9
              have B3 := BW.laterB b9
              have hN' : Nts w w9 (.slice none 0 0) [] := Nts.nil _ _
              have han : ∀ b, (Value.slice none 0 0).ownBlock = some b → b ≠ w.heap.size + 1 := fun b hb => by cases hb
              clear HG b9 RTW BW
              have y0 := blk_at B3 0
              have f0 := blk_frozen B3 0
              have y1 := blk_at B3 1
              have f1 := blk_frozen B3 1
              have y2 := blk_at B3 2
              have f2 := blk_frozen B3 2
              have y3 := blk_at B3 3
              have f3 := blk_frozen B3 3
              have y4 := blk_at B3 4
              have f4 := blk_frozen B3 4
              simp only [List.getElem?_cons_zero, List.getElem?_cons_succ] at y0 y1 y2 y3 y4
              have SP := rp5_blk B3 (24) (0) (0) (0)
              have G : Hid _ := And.intro SP.1 (And.intro (r3'.codes SP.2 (by omega) H1.out.2.2.2.2) (hN'.keep SP.2 han))
              unfold rp5 at G
              clear SP B3
              go_wp2
              clear y0 y1 y2 y3 y4 f0 f1 f2 f3 f4
              generalize (((((w9).setCell ⟨w.heap.size + 1, 0, none⟩ (.int .i64 24)).setCell ⟨w.heap.size + 1, 1, none⟩ (.int .i64 0)).setCell ⟨w.heap.size + 1, 2, none⟩ (.int .i64 0)).setCell ⟨w.heap.size + 1, 3, none⟩ (.int .i64 0)).setCell ⟨w.heap.size + 1, 4, none⟩ (.slice none 0 0) = wf at *
              have y0 := blk_at G.out.1 0
              have y1 := blk_at G.out.1 1
              have y2 := blk_at G.out.1 2
              have y3 := blk_at G.out.1 3
              have y4 := blk_at G.out.1 4
              simp only [List.getElem?_cons_zero, List.getElem?_cons_succ] at y0 y1 y2 y3 y4
              refine bodyPost_ret (v := .tuple #[.agg #[.int .i64 24, .int .i64 0, .int .i64 0, .int .i64 0, .slice none 0 0], .slice none 0 0]) (by simp [results, Try.results7, go_sem, y0, y1, y2, y3, y4]) rfl ?_
              exact ⟨_, by rw [HMD.out]; rfl, by rw [HMD.out]; exact G.out.2.2, by rw [HMD.out]; exact G.out.2.1⟩
        · have hne : ((1 : Int) != c.a) = true := by rw [bne_iff_ne]; exact fun e => hca e.symm
          go_wp2_with (first | (refine wpList_value rfl (exec_index rfl rfl rfl hix) ?_) | (refine wpList_skip rfl (exec_store rfl rfl rfl (store_ac _ _ _ _ _)) ?_))
          go_roundw
          case rel => exact ⟨2, by omega, rfl, (fun j hj => by exact prev_step hprev hca j hj), HA.out.1, HA.out.2.1, HA.out.2.2.1, HA.out.2.2.2.2⟩
          case measure => simp [intOf]
    | 2, _, hpr =>
        have hprev := hpr
        have hkc : (((2 : Nat)) : Int) = 2 := rfl
        rw [hkc]
        have hix : (Instr.index 71 (.agg #[.int .i64 0, .bool false, .func (.func 34) #[.pointer (some ⟨g, 0, none⟩)] #[], .int .i64 1, .bool true, .func (.func 35) #[.pointer (some ⟨g, 0, none⟩)] #[], .int .i64 2, .bool true, .func (.func 36) #[.pointer (some ⟨g, 0, none⟩)] #[], .int .i64 3, .bool true, .func (.func 37) #[.pointer (some ⟨g, 0, none⟩)] #[], .int .i64 4, .bool true, .func (.func 38) #[.pointer (some ⟨g, 0, none⟩)] #[], .int .i64 6, .bool false, .func (.func 39) #[.pointer (some ⟨g, 0, none⟩)] #[]]) (.int .i64 2)).run Try.prog wr = .ok (.agg #[.int .i64 2, .bool true, .func (.func 36) #[.pointer (some ⟨g, 0, none⟩)] #[]]) wr := index_ac2 g wr
        have ba : Below wr.heap.size wr (wr.alloc (.cells #[.int .i64 2, .bool true, .func (.func 36) #[.pointer (some ⟨g, 0, none⟩)] #[]] 70)) := (Below.refl _ _).alloc (Nat.le_refl _) _
        have Ba := Blk.new' wr 70 [.int .i64 2, .bool true, .func (.func 36) #[.pointer (some ⟨g, 0, none⟩)] #[]]
        have HA : Hid (RT w (wr.alloc (.cells #[.int .i64 2, .bool true, .func (.func 36) #[.pointer (some ⟨g, 0, none⟩)] #[]] 70)) g m ∧ Blk (wr.alloc (.cells #[.int .i64 2, .bool true, .func (.func 36) #[.pointer (some ⟨g, 0, none⟩)] #[]] 70)) w.heap.size 37 [.int .i64 c.a, .int .u64 c.key, .int .u64 c.nw, .int .i64 c.t] ∧ Blk (wr.alloc (.cells #[.int .i64 2, .bool true, .func (.func 36) #[.pointer (some ⟨g, 0, none⟩)] #[]] 70)) (w.heap.size + 1) 28 [.int .i64 0, .int .i64 0, .int .i64 0, .int .i64 0, .slice none 0 0] ∧ Blk (wr.alloc (.cells #[.int .i64 2, .bool true, .func (.func 36) #[.pointer (some ⟨g, 0, none⟩)] #[]] 70)) wr.heap.size 70 [.int .i64 2, .bool true, .func (.func 36) #[.pointer (some ⟨g, 0, none⟩)] #[]] ∧ w.heap.size + 2 ≤ (wr.alloc (.cells #[.int .i64 2, .bool true, .func (.func 36) #[.pointer (some ⟨g, 0, none⟩)] #[]] 70)).heap.size) := ⟨K1.later ba, K2.laterB ba, K3.laterB ba, Ba, Nat.le_trans K4 ba.size⟩
        have yn := blk_at Ba 0
        have k0 := blk_at (K2.laterB ba) 0
        simp only [List.getElem?_cons_zero, List.getElem?_cons_succ] at yn k0
        clear ba Ba K1 K2 K3 K4
        by_cases hca : c.a = 2
        · have hne : ((2 : Int) != c.a) = false := by rw [bne_eq_false_iff_eq]; exact hca.symm
          have HCA : Hid _ := hca
          clear hca
          go_upto_region 7 with (first | (refine wpList_value rfl (exec_index rfl rfl rfl hix) ?_) | (refine wpList_skip rfl (exec_store rfl rfl rfl (store_ac _ _ _ _ _)) ?_))
          clear hix yn k0 hne
          generalize (Value.agg #[.int .i64 0, .bool false, .func (.func 34) #[.pointer (some ⟨g, 0, none⟩)] #[], .int .i64 1, .bool true, .func (.func 35) #[.pointer (some ⟨g, 0, none⟩)] #[], .int .i64 2, .bool true, .func (.func 36) #[.pointer (some ⟨g, 0, none⟩)] #[], .int .i64 3, .bool true, .func (.func 37) #[.pointer (some ⟨g, 0, none⟩)] #[], .int .i64 4, .bool true, .func (.func 38) #[.pointer (some ⟨g, 0, none⟩)] #[], .int .i64 6, .bool false, .func (.func 39) #[.pointer (some ⟨g, 0, none⟩)] #[]]) = AG
          obtain ⟨gb, hgb⟩ : ∃ gb, wr.heap.size = gb := ⟨_, rfl⟩
          rw [hgb] at HA ⊢
          clear hgb
          generalize wr.alloc (.cells #[.int .i64 2, .bool true, .func (.func 36) #[.pointer (some ⟨g, 0, none⟩)] #[]] 70) = wa at *
          have HS7 : Hid (∀ W, Below wa.heap.size wa W → W.cell? ⟨gb, 1, none⟩ = some (.bool true) ∧ W.cell? ⟨w.heap.size, 1, none⟩ = some (.int .u64 c.key) ∧ W.cell? ⟨g, 19 + i, none⟩ = some (.int .u64 x)) := fun W b => ⟨by have := blk_at (HA.out.2.2.2.1.laterB b) 1; simpa using this, by have := blk_at (HA.out.2.1.laterB b) 1; simpa using this, by rw [← HXK.out]; exact (HA.out.1.ok.later b).holds.2.key (HA.out.1.ok.later b).holds.1 i hi⟩
          have HRG : Hid (∀ W, Below wa.heap.size wa W → _) := fun W b => isReg_any g m i W (HA.out.1.ok.later b) hi
          cases hrg : rg m i with
        | false =>
            have HMD0 : doM m (i : Int) c = ((24, 0, 0, 0), m, []) := by have hca := HCA.out; unfold doM; rw [if_neg (by rw [nxB_nat hi]; decide), Int.toNat_natCast, if_neg (by omega), if_neg (by omega), if_pos (by omega), if_pos (.inl hrg)]
            rw [hrg] at HRG
            refine wp_region_held_drew (S := fun W => Below wa.heap.size wa W) (by kernel_rfl) ((Below.refl _ _).drew) (fun hS => ?_)
            refine any_take (i := 0) (v := ?_) rfl (by kernel_rfl) (by kernel_rfl) (by kernel_rfl) (by exact fun _ _ _ h => h) (by rfl) ?_ hS ?_
            rotate_left
            · ((intro w hSw; obtain ⟨ya, k1, ky⟩ := HS7.out _ hSw; go_simp) <;> with_reducible rfl)
            (try simp only [Act.put, List.setIfInBounds_toArray, List.set_cons_zero, List.set_cons_succ])
            refine any_take (i := 1) (v := ?_) rfl (by kernel_rfl) (by kernel_rfl) (by kernel_rfl) (by exact fun _ _ _ h => h) (by rfl) ?_ hS ?_
            rotate_left
            · ((intro w hSw; obtain ⟨ya, k1, ky⟩ := HS7.out _ hSw; go_simp) <;> with_reducible rfl)
            (try simp only [Act.put, List.setIfInBounds_toArray, List.set_cons_zero, List.set_cons_succ])
            refine any_take (i := 2) (v := ?_) rfl (by kernel_rfl) (by kernel_rfl) (by kernel_rfl) (by exact fun _ _ _ h => h) (by rfl) ?_ hS ?_
            rotate_left
            · ((intro w hSw; obtain ⟨ya, k1, ky⟩ := HS7.out _ hSw; go_simp) <;> with_reducible rfl)
            (try simp only [Act.put, List.setIfInBounds_toArray, List.set_cons_zero, List.set_cons_succ])
            refine any_take (i := 3) (v := ?_) rfl (by kernel_rfl) (by kernel_rfl) (by kernel_rfl) (by exact fun _ _ _ h => h) (by rfl) ?_ hS ?_
            rotate_left
            · ((intro w hSw; obtain ⟨ya, k1, ky⟩ := HS7.out _ hSw; go_simp) <;> with_reducible rfl)
            (try simp only [Act.put, List.setIfInBounds_toArray, List.set_cons_zero, List.set_cons_succ])
            refine any_take (i := 4) (v := ?_) rfl (by kernel_rfl) (by kernel_rfl) (by kernel_rfl) (by exact fun _ _ _ h => h) (by rfl) ?_ hS ?_
            rotate_left
            · ((intro w hSw; obtain ⟨ya, k1, ky⟩ := HS7.out _ hSw; go_simp) <;> with_reducible rfl)
            (try simp only [Act.put, List.setIfInBounds_toArray, List.set_cons_zero, List.set_cons_succ])
            refine any_one (i := 5) rfl (by kernel_rfl) (fun K hK => ?_)
            go_simp
            refine (Calls.mono (HRG.out _ hS)) ?_
            rintro e _ ⟨rfl, rfl⟩
            go_wp2_with fail
            refine hK.out _ _ hS ?_
            clear hK K
            refine any_take (i := 6) (v := ?_) rfl (by kernel_rfl) (by kernel_rfl) (by kernel_rfl) (by exact fun _ _ _ h => h) (by rfl) ?_ hS ?_
            rotate_left
            · ((intro w hSw; skip; go_simp) <;> with_reducible rfl)
            (try simp only [Act.put, List.setIfInBounds_toArray, List.set_cons_zero, List.set_cons_succ])
            refine any_take (i := 7) (v := ?_) rfl (by kernel_rfl) (by kernel_rfl) (by kernel_rfl) (by exact fun _ _ _ h => h) (by rfl) ?_ hS ?_
            rotate_left
            · ((intro w hSw; skip; go_simp) <;> with_reducible rfl)
            (try simp only [Act.put, List.setIfInBounds_toArray, List.set_cons_zero, List.set_cons_succ])
            refine any_skip (i := 8) rfl (by kernel_rfl) (by kernel_rfl) (by kernel_rfl) (by exact fun _ _ _ h => h) (by rfl) hS ?_
            (try simp only [Act.put, List.setIfInBounds_toArray, List.set_cons_zero, List.set_cons_succ])
            refine any_skip (i := 9) rfl (by kernel_rfl) (by kernel_rfl) (by kernel_rfl) (by exact fun _ _ _ h => h) (by rfl) hS ?_
            (try simp only [Act.put, List.setIfInBounds_toArray, List.set_cons_zero, List.set_cons_succ])
            refine any_skip (i := 10) rfl (by kernel_rfl) (by kernel_rfl) (by kernel_rfl) (by exact fun _ _ _ h => h) (by rfl) hS ?_
            (try simp only [Act.put, List.setIfInBounds_toArray, List.set_cons_zero, List.set_cons_succ])
            refine any_skip (i := 11) rfl (by kernel_rfl) (by kernel_rfl) (by kernel_rfl) (by exact fun _ _ _ h => h) (by rfl) hS ?_
            (try simp only [Act.put, List.setIfInBounds_toArray, List.set_cons_zero, List.set_cons_succ])
            refine any_skip (i := 12) rfl (by kernel_rfl) (by kernel_rfl) (by kernel_rfl) (by exact fun _ _ _ h => h) (by rfl) hS ?_
            (try simp only [Act.put, List.setIfInBounds_toArray, List.set_cons_zero, List.set_cons_succ])
            refine any_skip (i := 13) rfl (by kernel_rfl) (by kernel_rfl) (by kernel_rfl) (by exact fun _ _ _ h => h) (by rfl) hS ?_
            (try simp only [Act.put, List.setIfInBounds_toArray, List.set_cons_zero, List.set_cons_succ])
            refine any_skip (i := 14) rfl (by kernel_rfl) (by kernel_rfl) (by kernel_rfl) (by exact fun _ _ _ h => h) (by rfl) hS ?_
            (try simp only [Act.put, List.setIfInBounds_toArray, List.set_cons_zero, List.set_cons_succ])
            refine any_skip (i := 15) rfl (by kernel_rfl) (by kernel_rfl) (by kernel_rfl) (by exact fun _ _ _ h => h) (by rfl) hS ?_
            (try simp only [Act.put, List.setIfInBounds_toArray, List.set_cons_zero, List.set_cons_succ])
            refine any_skip (i := 16) rfl (by kernel_rfl) (by kernel_rfl) (by kernel_rfl) (by exact fun _ _ _ h => h) (by rfl) hS ?_
            (try simp only [Act.put, List.setIfInBounds_toArray, List.set_cons_zero, List.set_cons_succ])
            refine any_take (i := 17) (v := ?_) rfl (by kernel_rfl) (by kernel_rfl) (by kernel_rfl) (by exact fun _ _ _ h => h) (by rfl) ?_ hS ?_
            rotate_left
            · ((intro w hSw; skip; go_simp) <;> with_reducible rfl)
            (try simp only [Act.put, List.setIfInBounds_toArray, List.set_cons_zero, List.set_cons_succ])
            refine any_take (i := 18) (v := ?_) rfl (by kernel_rfl) (by kernel_rfl) (by kernel_rfl) (by exact fun _ _ _ h => h) (by rfl) ?_ hS ?_
            rotate_left
            · ((intro w hSw; skip; go_simp) <;> with_reducible rfl)
            (try simp only [Act.put, List.setIfInBounds_toArray, List.set_cons_zero, List.set_cons_succ])
            refine wpAnyH_done (by kernel_rfl) ?_ _
            clear hS
            have bd : Below wa.heap.size wa wa.drew := (Below.refl _ _).drew
            have RTX := HA.out.1.later bd
            have BC := HA.out.2.1.laterB bd
            have BR := HA.out.2.2.1.laterB bd
            have BA := HA.out.2.2.2.1.laterB bd
            have HSX : w.heap.size + 2 ≤ wa.drew.heap.size := HA.out.2.2.2.2
            clear bd HA HS7
            generalize wa.drew = wd at *
            have HMD : Hid _ := HMD0
            have RTW := RTX
            have BW := BR
            clear HMD0 RTX BC BR BA HSX
            have HG : Hid _ := conflict_any wd
            go_wp2_with fail
            refine (Calls.mono HG.out) ?_
            rintro e w9 ⟨rfl, b9⟩
            have r3' := RTW.later b9
            have B3 := BW.laterB b9
            have hN' : Nts w w9 (.slice none 0 0) [] := Nts.nil _ _
            have han : ∀ b, (Value.slice none 0 0).ownBlock = some b → b ≠ w.heap.size + 1 := fun b hb => by cases hb
            clear HG b9 RTW BW
            have y0 := blk_at B3 0
            have f0 := blk_frozen B3 0
            have y1 := blk_at B3 1
            have f1 := blk_frozen B3 1
            have y2 := blk_at B3 2
            have f2 := blk_frozen B3 2
            have y3 := blk_at B3 3
            have f3 := blk_frozen B3 3
            have y4 := blk_at B3 4
            have f4 := blk_frozen B3 4
            simp only [List.getElem?_cons_zero, List.getElem?_cons_succ] at y0 y1 y2 y3 y4
            have SP := rp5_blk B3 (24) (0) (0) (0)
            have G : Hid _ := And.intro SP.1 (And.intro (r3'.codes SP.2 (by omega) H1.out.2.2.2.2) (hN'.keep SP.2 han))
            unfold rp5 at G
            clear SP B3
            go_wp2
            clear y0 y1 y2 y3 y4 f0 f1 f2 f3 f4
            generalize (((((w9).setCell ⟨w.heap.size + 1, 0, none⟩ (.int .i64 24)).setCell ⟨w.heap.size + 1, 1, none⟩ (.int .i64 0)).setCell ⟨w.heap.size + 1, 2, none⟩ (.int .i64 0)).setCell ⟨w.heap.size + 1, 3, none⟩ (.int .i64 0)).setCell ⟨w.heap.size + 1, 4, none⟩ (.slice none 0 0) = wf at *
            have y0 := blk_at G.out.1 0
            have y1 := blk_at G.out.1 1
            have y2 := blk_at G.out.1 2
            have y3 := blk_at G.out.1 3
            have y4 := blk_at G.out.1 4
            simp only [List.getElem?_cons_zero, List.getElem?_cons_succ] at y0 y1 y2 y3 y4
            refine bodyPost_ret (v := .tuple #[.agg #[.int .i64 24, .int .i64 0, .int .i64 0, .int .i64 0, .slice none 0 0], .slice none 0 0]) (by simp [results, Try.results7, go_sem, y0, y1, y2, y3, y4]) rfl ?_
            exact ⟨_, by rw [HMD.out]; rfl, by rw [HMD.out]; exact G.out.2.2, by rw [HMD.out]; exact G.out.2.1⟩
        | true =>
            rw [hrg] at HRG
            refine wp_region_held_drew (S := fun W => Below wa.heap.size wa W) (by kernel_rfl) ((Below.refl _ _).drew) (fun hS => ?_)
            refine any_take (i := 0) (v := ?_) rfl (by kernel_rfl) (by kernel_rfl) (by kernel_rfl) (by exact fun _ _ _ h => h) (by rfl) ?_ hS ?_
            rotate_left
            · ((intro w hSw; obtain ⟨ya, k1, ky⟩ := HS7.out _ hSw; go_simp) <;> with_reducible rfl)
            (try simp only [Act.put, List.setIfInBounds_toArray, List.set_cons_zero, List.set_cons_succ])
            refine any_take (i := 1) (v := ?_) rfl (by kernel_rfl) (by kernel_rfl) (by kernel_rfl) (by exact fun _ _ _ h => h) (by rfl) ?_ hS ?_
            rotate_left
            · ((intro w hSw; obtain ⟨ya, k1, ky⟩ := HS7.out _ hSw; go_simp) <;> with_reducible rfl)
            (try simp only [Act.put, List.setIfInBounds_toArray, List.set_cons_zero, List.set_cons_succ])
            refine any_take (i := 2) (v := ?_) rfl (by kernel_rfl) (by kernel_rfl) (by kernel_rfl) (by exact fun _ _ _ h => h) (by rfl) ?_ hS ?_
            rotate_left
            · ((intro w hSw; obtain ⟨ya, k1, ky⟩ := HS7.out _ hSw; go_simp) <;> with_reducible rfl)
            (try simp only [Act.put, List.setIfInBounds_toArray, List.set_cons_zero, List.set_cons_succ])
            refine any_take (i := 3) (v := ?_) rfl (by kernel_rfl) (by kernel_rfl) (by kernel_rfl) (by exact fun _ _ _ h => h) (by rfl) ?_ hS ?_
            rotate_left
            · ((intro w hSw; obtain ⟨ya, k1, ky⟩ := HS7.out _ hSw; go_simp) <;> with_reducible rfl)
            (try simp only [Act.put, List.setIfInBounds_toArray, List.set_cons_zero, List.set_cons_succ])
            refine any_take (i := 4) (v := ?_) rfl (by kernel_rfl) (by kernel_rfl) (by kernel_rfl) (by exact fun _ _ _ h => h) (by rfl) ?_ hS ?_
            rotate_left
            · ((intro w hSw; obtain ⟨ya, k1, ky⟩ := HS7.out _ hSw; go_simp) <;> with_reducible rfl)
            (try simp only [Act.put, List.setIfInBounds_toArray, List.set_cons_zero, List.set_cons_succ])
            refine any_one (i := 5) rfl (by kernel_rfl) (fun K hK => ?_)
            go_simp
            refine (Calls.mono (HRG.out _ hS)) ?_
            rintro e _ ⟨rfl, rfl⟩
            go_wp2_with fail
            refine hK.out _ _ hS ?_
            clear hK K
            refine any_take (i := 6) (v := ?_) rfl (by kernel_rfl) (by kernel_rfl) (by kernel_rfl) (by exact fun _ _ _ h => h) (by rfl) ?_ hS ?_
            rotate_left
            · ((intro w hSw; skip; go_simp) <;> with_reducible rfl)
            (try simp only [Act.put, List.setIfInBounds_toArray, List.set_cons_zero, List.set_cons_succ])
            refine any_take (i := 7) (v := ?_) rfl (by kernel_rfl) (by kernel_rfl) (by kernel_rfl) (by exact fun _ _ _ h => h) (by rfl) ?_ hS ?_
            rotate_left
            · ((intro w hSw; skip; go_simp) <;> with_reducible rfl)
            (try simp only [Act.put, List.setIfInBounds_toArray, List.set_cons_zero, List.set_cons_succ])
            refine any_take (i := 8) (v := ?_) rfl (by kernel_rfl) (by kernel_rfl) (by kernel_rfl) (by exact fun _ _ _ h => h) (by rfl) ?_ hS ?_
            rotate_left
            · ((intro w hSw; obtain ⟨ya, k1, ky⟩ := HS7.out _ hSw; go_simp) <;> with_reducible rfl)
            (try simp only [Act.put, List.setIfInBounds_toArray, List.set_cons_zero, List.set_cons_succ])
            refine any_take (i := 9) (v := ?_) rfl (by kernel_rfl) (by kernel_rfl) (by kernel_rfl) (by exact fun _ _ _ h => h) (by rfl) ?_ hS ?_
            rotate_left
            · ((intro w hSw; obtain ⟨ya, k1, ky⟩ := HS7.out _ hSw; go_simp) <;> with_reducible rfl)
            (try simp only [Act.put, List.setIfInBounds_toArray, List.set_cons_zero, List.set_cons_succ])
            refine any_take (i := 10) (v := ?_) rfl (by kernel_rfl) (by kernel_rfl) (by kernel_rfl) (by exact fun _ _ _ h => h) (by rfl) ?_ hS ?_
            rotate_left
            · ((intro w hSw; obtain ⟨ya, k1, ky⟩ := HS7.out _ hSw; go_simp) <;> with_reducible rfl)
            (try simp only [Act.put, List.setIfInBounds_toArray, List.set_cons_zero, List.set_cons_succ])
            refine any_take (i := 11) (v := ?_) rfl (by kernel_rfl) (by kernel_rfl) (by kernel_rfl) (by exact fun _ _ _ h => h) (by rfl) ?_ hS ?_
            rotate_left
            · ((intro w hSw; obtain ⟨ya, k1, ky⟩ := HS7.out _ hSw; go_simp) <;> with_reducible rfl)
            (try simp only [Act.put, List.setIfInBounds_toArray, List.set_cons_zero, List.set_cons_succ])
            refine any_take (i := 12) (v := ?_) rfl (by kernel_rfl) (by kernel_rfl) (by kernel_rfl) (by exact fun _ _ _ h => h) (by rfl) ?_ hS ?_
            rotate_left
            · ((intro w hSw; obtain ⟨ya, k1, ky⟩ := HS7.out _ hSw; go_simp) <;> with_reducible rfl)
            (try simp only [Act.put, List.setIfInBounds_toArray, List.set_cons_zero, List.set_cons_succ])
            refine any_take (i := 13) (v := ?_) rfl (by kernel_rfl) (by kernel_rfl) (by kernel_rfl) (by exact fun _ _ _ h => h) (by rfl) ?_ hS ?_
            rotate_left
            · ((intro w hSw; obtain ⟨ya, k1, ky⟩ := HS7.out _ hSw; go_simp) <;> with_reducible rfl)
            (try simp only [Act.put, List.setIfInBounds_toArray, List.set_cons_zero, List.set_cons_succ])
            refine any_take (i := 14) (v := ?_) rfl (by kernel_rfl) (by kernel_rfl) (by kernel_rfl) (by exact fun _ _ _ h => h) (by rfl) ?_ hS ?_
            rotate_left
            · ((intro w hSw; obtain ⟨ya, k1, ky⟩ := HS7.out _ hSw; go_simp) <;> with_reducible rfl)
            (try simp only [Act.put, List.setIfInBounds_toArray, List.set_cons_zero, List.set_cons_succ])
            refine any_take (i := 15) (v := ?_) rfl (by kernel_rfl) (by kernel_rfl) (by kernel_rfl) (by exact fun _ _ _ h => h) (by rfl) ?_ hS ?_
            rotate_left
            · ((intro w hSw; obtain ⟨ya, k1, ky⟩ := HS7.out _ hSw; go_simp) <;> with_reducible rfl)
            (try simp only [Act.put, List.setIfInBounds_toArray, List.set_cons_zero, List.set_cons_succ])
            refine any_take (i := 16) (v := ?_) rfl (by kernel_rfl) (by kernel_rfl) (by kernel_rfl) (by exact fun _ _ _ h => h) (by rfl) ?_ hS ?_
            rotate_left
            · ((intro w hSw; obtain ⟨ya, k1, ky⟩ := HS7.out _ hSw; go_simp) <;> with_reducible rfl)
            (try simp only [Act.put, List.setIfInBounds_toArray, List.set_cons_zero, List.set_cons_succ])
            refine any_take (i := 17) (v := ?_) rfl (by kernel_rfl) (by kernel_rfl) (by kernel_rfl) (by exact fun _ _ _ h => h) (by rfl) ?_ hS ?_
            rotate_left
            · ((intro w hSw; skip; go_simp) <;> with_reducible rfl)
            (try simp only [Act.put, List.setIfInBounds_toArray, List.set_cons_zero, List.set_cons_succ])
            refine any_take (i := 18) (v := ?_) rfl (by kernel_rfl) (by kernel_rfl) (by kernel_rfl) (by exact fun _ _ _ h => h) (by rfl) ?_ hS ?_
            rotate_left
            · ((intro w hSw; skip; go_simp) <;> with_reducible rfl)
            (try simp only [Act.put, List.setIfInBounds_toArray, List.set_cons_zero, List.set_cons_succ])
            refine wpAnyH_done (by kernel_rfl) ?_ _
            clear hS
            have bd : Below wa.heap.size wa wa.drew := (Below.refl _ _).drew
            have RTX := HA.out.1.later bd
            have BC := HA.out.2.1.laterB bd
            have BR := HA.out.2.2.1.laterB bd
            have BA := HA.out.2.2.2.1.laterB bd
            have HSX : w.heap.size + 2 ≤ wa.drew.heap.size := HA.out.2.2.2.2
            clear bd HA HS7
            generalize wa.drew = wd at *
            by_cases hxk : c.key = x
            · have HMD0 : doM m (i : Int) c = relM m i c := by have hca := HCA.out; unfold doM; rw [if_neg (by rw [nxB_nat hi]; decide), Int.toNat_natCast, if_neg (by omega), if_neg (by omega), if_pos (by omega), if_neg (by rw [hrg, HXK.out]; simp [hxk]), if_neg (by omega), if_pos hca]
              have hq2 : (c.key != x) = false := by rw [bne_eq_false_iff_eq]; exact hxk
              (try rw [hq2])
              have HMD : Hid _ := HMD0
              clear HMD0 hxk hq2
              have HA0 : Hid _ := release_any g m i c _ RTX.ok hi
              have ya := blk_at BA 2
              simp only [List.getElem?_cons_zero, List.getElem?_cons_succ] at ya
              have k0 := blk_at BC 0
              have k1 := blk_at BC 1
              have k2 := blk_at BC 2
              have k3 := blk_at BC 3
              simp only [List.getElem?_cons_zero, List.getElem?_cons_succ] at k0 k1 k2 k3
              have HX : Hid _ := And.intro RTX (And.intro BR (And.intro HSX trivial))
              clear RTX BC BR BA
              go_wp2_with fail
              clear ya k0 k1 k2 k3
              refine (Calls.mono HA0.out) ?_
              rintro e we ⟨v, rfl, hN, rt⟩
              have r3' := HX.out.1.trans rt
              have B3 := rt.blk HX.out.2.1 (by have := H1.out.2.2.2.2; omega)
              have hN' := hN.lower HX.out.1.size
              have han : ∀ b, v.ownBlock = some b → b ≠ w.heap.size + 1 := fun b hb => by have := hN.new b hb; have := HX.out.2.2.1; omega
              clear HA0 HX rt hN HSX
              obtain ⟨va, vc, hv, -, -⟩ := hN'.own.open
              rw [hv] at hN' han ⊢
              generalize (relM m i c) = A at *
              obtain ⟨⟨a1, a2, a3, a4⟩, m', l'⟩ := A
              simp only [rpV] at *
              have y0 := blk_at B3 0
              have f0 := blk_frozen B3 0
              have y1 := blk_at B3 1
              have f1 := blk_frozen B3 1
              have y2 := blk_at B3 2
              have f2 := blk_frozen B3 2
              have y3 := blk_at B3 3
              have f3 := blk_frozen B3 3
              have y4 := blk_at B3 4
              have f4 := blk_frozen B3 4
              simp only [List.getElem?_cons_zero, List.getElem?_cons_succ] at y0 y1 y2 y3 y4
              have SP := rp5_blk B3 a1 a2 a3 a4
              have G : Hid _ := And.intro SP.1 (And.intro (r3'.codes SP.2 (by omega) H1.out.2.2.2.2) (hN'.keep SP.2 han))
              unfold rp5 at G
              clear SP B3
              go_wp2
              clear y0 y1 y2 y3 y4 f0 f1 f2 f3 f4
              generalize (((((we).setCell ⟨w.heap.size + 1, 0, none⟩ (.int .i64 a1)).setCell ⟨w.heap.size + 1, 1, none⟩ (.int .i64 a2)).setCell ⟨w.heap.size + 1, 2, none⟩ (.int .i64 a3)).setCell ⟨w.heap.size + 1, 3, none⟩ (.int .i64 a4)).setCell ⟨w.heap.size + 1, 4, none⟩ (.slice none 0 0) = wf at *
              have y0 := blk_at G.out.1 0
              have y1 := blk_at G.out.1 1
              have y2 := blk_at G.out.1 2
              have y3 := blk_at G.out.1 3
              have y4 := blk_at G.out.1 4
              simp only [List.getElem?_cons_zero, List.getElem?_cons_succ] at y0 y1 y2 y3 y4
              refine bodyPost_ret (v := .tuple #[.agg #[.int .i64 a1, .int .i64 a2, .int .i64 a3, .int .i64 a4, .slice none 0 0], .slice va l'.length vc]) (by simp [results, Try.results7, go_sem, y0, y1, y2, y3, y4]) rfl ?_
              rw [HMD.out]
              exact ⟨_, rfl, G.out.2.2, G.out.2.1⟩
            · have HMD0 : doM m (i : Int) c = ((24, 0, 0, 0), m, []) := by have hca := HCA.out; unfold doM; rw [if_neg (by rw [nxB_nat hi]; decide), Int.toNat_natCast, if_neg (by omega), if_neg (by omega), if_pos (by omega), if_pos (.inr (by rw [HXK.out]; exact hxk))]
              have hq2 : (c.key != x) = true := by rw [bne_iff_ne]; exact hxk
              (try rw [hq2])
              have HMD : Hid _ := HMD0
              have RTW := RTX
              have BW := BR
              clear HMD0 RTX BC BR BA HSX
              have HG : Hid _ := conflict_any wd
              go_wp2_with fail
              refine (Calls.mono HG.out) ?_
              rintro e w9 ⟨rfl, b9⟩
              have r3' := RTW.later b9
              have B3 := BW.laterB b9
              have hN' : Nts w w9 (.slice none 0 0) [] := Nts.nil _ _
              have han : ∀ b, (Value.slice none 0 0).ownBlock = some b → b ≠ w.heap.size + 1 := fun b hb => by cases hb
              clear HG b9 RTW BW
              have y0 := blk_at B3 0
              have f0 := blk_frozen B3 0
              have y1 := blk_at B3 1
              have f1 := blk_frozen B3 1
              have y2 := blk_at B3 2
              have f2 := blk_frozen B3 2
              have y3 := blk_at B3 3
              have f3 := blk_frozen B3 3
              have y4 := blk_at B3 4
              have f4 := blk_frozen B3 4
              simp only [List.getElem?_cons_zero, List.getElem?_cons_succ] at y0 y1 y2 y3 y4
              have SP := rp5_blk B3 (24) (0) (0) (0)
              have G : Hid _ := And.intro SP.1 (And.intro (r3'.codes SP.2 (by omega) H1.out.2.2.2.2) (hN'.keep SP.2 han))
              unfold rp5 at G
              clear SP B3
              go_wp2
              clear y0 y1 y2 y3 y4 f0 f1 f2 f3 f4
              generalize (((((w9).setCell ⟨w.heap.size + 1, 0, none⟩ (.int .i64 24)).setCell ⟨w.heap.size + 1, 1, none⟩ (.int .i64 0)).setCell ⟨w.heap.size + 1, 2, none⟩ (.int .i64 0)).setCell ⟨w.heap.size + 1, 3, none⟩ (.int .i64 0)).setCell ⟨w.heap.size + 1, 4, none⟩ (.slice none 0 0) = wf at *
              have y0 := blk_at G.out.1 0
              have y1 := blk_at G.out.1 1
              have y2 := blk_at G.out.1 2
              have y3 := blk_at G.out.1 3
              have y4 := blk_at G.out.1 4
              simp only [List.getElem?_cons_zero, List.getElem?_cons_succ] at y0 y1 y2 y3 y4
              refine bodyPost_ret (v := .tuple #[.agg #[.int .i64 24, .int .i64 0, .int .i64 0, .int .i64 0, .slice none 0 0], .slice none 0 0]) (by simp [results, Try.results7, go_sem, y0, y1, y2, y3, y4]) rfl ?_
              exact ⟨_, by rw [HMD.out]; rfl, by rw [HMD.out]; exact G.out.2.2, by rw [HMD.out]; exact G.out.2.1⟩
        · have hne : ((2 : Int) != c.a) = true := by rw [bne_iff_ne]; exact fun e => hca e.symm
          go_wp2_with (first | (refine wpList_value rfl (exec_index rfl rfl rfl hix) ?_) | (refine wpList_skip rfl (exec_store rfl rfl rfl (store_ac _ _ _ _ _)) ?_))
          go_roundw
          case rel => exact ⟨3, by omega, rfl, (fun j hj => by exact prev_step hprev hca j hj), HA.out.1, HA.out.2.1, HA.out.2.2.1, HA.out.2.2.2.2⟩
          case measure => simp [intOf]
    | 3, _, hpr =>
        have hprev := hpr
        have hkc : (((3 : Nat)) : Int) = 3 := rfl
        rw [hkc]
        have hix : (Instr.index 71 (.agg #[.int .i64 0, .bool false, .func (.func 34) #[.pointer (some ⟨g, 0, none⟩)] #[], .int .i64 1, .bool true, .func (.func 35) #[.pointer (some ⟨g, 0, none⟩)] #[], .int .i64 2, .bool true, .func (.func 36) #[.pointer (some ⟨g, 0, none⟩)] #[], .int .i64 3, .bool true, .func (.func 37) #[.pointer (some ⟨g, 0, none⟩)] #[], .int .i64 4, .bool true, .func (.func 38) #[.pointer (some ⟨g, 0, none⟩)] #[], .int .i64 6, .bool false, .func (.func 39) #[.pointer (some ⟨g, 0, none⟩)] #[]]) (.int .i64 3)).run Try.prog wr = .ok (.agg #[.int .i64 3, .bool true, .func (.func 37) #[.pointer (some ⟨g, 0, none⟩)] #[]]) wr := index_ac3 g wr
        have ba : Below wr.heap.size wr (wr.alloc (.cells #[.int .i64 3, .bool true, .func (.func 37) #[.pointer (some ⟨g, 0, none⟩)] #[]] 70)) := (Below.refl _ _).alloc (Nat.le_refl _) _
        have Ba := Blk.new' wr 70 [.int .i64 3, .bool true, .func (.func 37) #[.pointer (some ⟨g, 0, none⟩)] #[]]
        have HA : Hid (RT w (wr.alloc (.cells #[.int .i64 3, .bool true, .func (.func 37) #[.pointer (some ⟨g, 0, none⟩)] #[]] 70)) g m ∧ Blk (wr.alloc (.cells #[.int .i64 3, .bool true, .func (.func 37) #[.pointer (some ⟨g, 0, none⟩)] #[]] 70)) w.heap.size 37 [.int .i64 c.a, .int .u64 c.key, .int .u64 c.nw, .int .i64 c.t] ∧ Blk (wr.alloc (.cells #[.int .i64 3, .bool true, .func (.func 37) #[.pointer (some ⟨g, 0, none⟩)] #[]] 70)) (w.heap.size + 1) 28 [.int .i64 0, .int .i64 0, .int .i64 0, .int .i64 0, .slice none 0 0] ∧ Blk (wr.alloc (.cells #[.int .i64 3, .bool true, .func (.func 37) #[.pointer (some ⟨g, 0, none⟩)] #[]] 70)) wr.heap.size 70 [.int .i64 3, .bool true, .func (.func 37) #[.pointer (some ⟨g, 0, none⟩)] #[]] ∧ w.heap.size + 2 ≤ (wr.alloc (.cells #[.int .i64 3, .bool true, .func (.func 37) #[.pointer (some ⟨g, 0, none⟩)] #[]] 70)).heap.size) := ⟨K1.later ba, K2.laterB ba, K3.laterB ba, Ba, Nat.le_trans K4 ba.size⟩
        have yn := blk_at Ba 0
        have k0 := blk_at (K2.laterB ba) 0
        simp only [List.getElem?_cons_zero, List.getElem?_cons_succ] at yn k0
        clear ba Ba K1 K2 K3 K4
        by_cases hca : c.a = 3
        · have hne : ((3 : Int) != c.a) = false := by rw [bne_eq_false_iff_eq]; exact hca.symm
          have HCA : Hid _ := hca
          clear hca
          go_upto_region 7 with (first | (refine wpList_value rfl (exec_index rfl rfl rfl hix) ?_) | (refine wpList_skip rfl (exec_store rfl rfl rfl (store_ac _ _ _ _ _)) ?_))
          clear hix yn k0 hne
          generalize (Value.agg #[.int .i64 0, .bool false, .func (.func 34) #[.pointer (some ⟨g, 0, none⟩)] #[], .int .i64 1, .bool true, .func (.func 35) #[.pointer (some ⟨g, 0, none⟩)] #[], .int .i64 2, .bool true, .func (.func 36) #[.pointer (some ⟨g, 0, none⟩)] #[], .int .i64 3, .bool true, .func (.func 37) #[.pointer (some ⟨g, 0, none⟩)] #[], .int .i64 4, .bool true, .func (.func 38) #[.pointer (some ⟨g, 0, none⟩)] #[], .int .i64 6, .bool false, .func (.func 39) #[.pointer (some ⟨g, 0, none⟩)] #[]]) = AG
          obtain ⟨gb, hgb⟩ : ∃ gb, wr.heap.size = gb := ⟨_, rfl⟩
          rw [hgb] at HA ⊢
          clear hgb
          generalize wr.alloc (.cells #[.int .i64 3, .bool true, .func (.func 37) #[.pointer (some ⟨g, 0, none⟩)] #[]] 70) = wa at *
          have HS7 : Hid (∀ W, Below wa.heap.size wa W → W.cell? ⟨gb, 1, none⟩ = some (.bool true) ∧ W.cell? ⟨w.heap.size, 1, none⟩ = some (.int .u64 c.key) ∧ W.cell? ⟨g, 19 + i, none⟩ = some (.int .u64 x)) := fun W b => ⟨by have := blk_at (HA.out.2.2.2.1.laterB b) 1; simpa using this, by have := blk_at (HA.out.2.1.laterB b) 1; simpa using this, by rw [← HXK.out]; exact (HA.out.1.ok.later b).holds.2.key (HA.out.1.ok.later b).holds.1 i hi⟩
          have HRG : Hid (∀ W, Below wa.heap.size wa W → _) := fun W b => isReg_any g m i W (HA.out.1.ok.later b) hi
          cases hrg : rg m i with
        | false =>
            have HMD0 : doM m (i : Int) c = ((24, 0, 0, 0), m, []) := by have hca := HCA.out; unfold doM; rw [if_neg (by rw [nxB_nat hi]; decide), Int.toNat_natCast, if_neg (by omega), if_neg (by omega), if_pos (by omega), if_pos (.inl hrg)]
            rw [hrg] at HRG
            refine wp_region_held_drew (S := fun W => Below wa.heap.size wa W) (by kernel_rfl) ((Below.refl _ _).drew) (fun hS => ?_)
            refine any_take (i := 0) (v := ?_) rfl (by kernel_rfl) (by kernel_rfl) (by kernel_rfl) (by exact fun _ _ _ h => h) (by rfl) ?_ hS ?_
            rotate_left
            · ((intro w hSw; obtain ⟨ya, k1, ky⟩ := HS7.out _ hSw; go_simp) <;> with_reducible rfl)
            (try simp only [Act.put, List.setIfInBounds_toArray, List.set_cons_zero, List.set_cons_succ])
            refine any_take (i := 1) (v := ?_) rfl (by kernel_rfl) (by kernel_rfl) (by kernel_rfl) (by exact fun _ _ _ h => h) (by rfl) ?_ hS ?_
            rotate_left
            · ((intro w hSw; obtain ⟨ya, k1, ky⟩ := HS7.out _ hSw; go_simp) <;> with_reducible rfl)
            (try simp only [Act.put, List.setIfInBounds_toArray, List.set_cons_zero, List.set_cons_succ])
            refine any_take (i := 2) (v := ?_) rfl (by kernel_rfl) (by kernel_rfl) (by kernel_rfl) (by exact fun _ _ _ h => h) (by rfl) ?_ hS ?_
            rotate_left
            · ((intro w hSw; obtain ⟨ya, k1, ky⟩ := HS7.out _ hSw; go_simp) <;> with_reducible rfl)
            (try simp only [Act.put, List.setIfInBounds_toArray, List.set_cons_zero, List.set_cons_succ])
            refine any_take (i := 3) (v := ?_) rfl (by kernel_rfl) (by kernel_rfl) (by kernel_rfl) (by exact fun _ _ _ h => h) (by rfl) ?_ hS ?_
            rotate_left
            · ((intro w hSw; obtain ⟨ya, k1, ky⟩ := HS7.out _ hSw; go_simp) <;> with_reducible rfl)
            (try simp only [Act.put, List.setIfInBounds_toArray, List.set_cons_zero, List.set_cons_succ])
            refine any_take (i := 4) (v := ?_) rfl (by kernel_rfl) (by kernel_rfl) (by kernel_rfl) (by exact fun _ _ _ h => h) (by rfl) ?_ hS ?_
            rotate_left
            · ((intro w hSw; obtain ⟨ya, k1, ky⟩ := HS7.out _ hSw; go_simp) <;> with_reducible rfl)
            (try simp only [Act.put, List.setIfInBounds_toArray, List.set_cons_zero, List.set_cons_succ])
            refine any_one (i := 5) rfl (by kernel_rfl) (fun K hK => ?_)
            go_simp
            refine (Calls.mono (HRG.out _ hS)) ?_
            rintro e _ ⟨rfl, rfl⟩
            go_wp2_with fail
            refine hK.out _ _ hS ?_
            clear hK K
            refine any_take (i := 6) (v := ?_) rfl (by kernel_rfl) (by kernel_rfl) (by kernel_rfl) (by exact fun _ _ _ h => h) (by rfl) ?_ hS ?_
            rotate_left
            · ((intro w hSw; skip; go_simp) <;> with_reducible rfl)
            (try simp only [Act.put, List.setIfInBounds_toArray, List.set_cons_zero, List.set_cons_succ])
            refine any_take (i := 7) (v := ?_) rfl (by kernel_rfl) (by kernel_rfl) (by kernel_rfl) (by exact fun _ _ _ h => h) (by rfl) ?_ hS ?_
            rotate_left
            · ((intro w hSw; skip; go_simp) <;> with_reducible rfl)
            (try simp only [Act.put, List.setIfInBounds_toArray, List.set_cons_zero, List.set_cons_succ])
            refine any_skip (i := 8) rfl (by kernel_rfl) (by kernel_rfl) (by kernel_rfl) (by exact fun _ _ _ h => h) (by rfl) hS ?_
            (try simp only [Act.put, List.setIfInBounds_toArray, List.set_cons_zero, List.set_cons_succ])
            refine any_skip (i := 9) rfl (by kernel_rfl) (by kernel_rfl) (by kernel_rfl) (by exact fun _ _ _ h => h) (by rfl) hS ?_
            (try simp only [Act.put, List.setIfInBounds_toArray, List.set_cons_zero, List.set_cons_succ])
            refine any_skip (i := 10) rfl (by kernel_rfl) (by kernel_rfl) (by kernel_rfl) (by exact fun _ _ _ h => h) (by rfl) hS ?_
            (try simp only [Act.put, List.setIfInBounds_toArray, List.set_cons_zero, List.set_cons_succ])
            refine any_skip (i := 11) rfl (by kernel_rfl) (by kernel_rfl) (by kernel_rfl) (by exact fun _ _ _ h => h) (by rfl) hS ?_
            (try simp only [Act.put, List.setIfInBounds_toArray, List.set_cons_zero, List.set_cons_succ])
            refine any_skip (i := 12) rfl (by kernel_rfl) (by kernel_rfl) (by kernel_rfl) (by exact fun _ _ _ h => h) (by rfl) hS ?_
            (try simp only [Act.put, List.setIfInBounds_toArray, List.set_cons_zero, List.set_cons_succ])
            refine any_skip (i := 13) rfl (by kernel_rfl) (by kernel_rfl) (by kernel_rfl) (by exact fun _ _ _ h => h) (by rfl) hS ?_
            (try simp only [Act.put, List.setIfInBounds_toArray, List.set_cons_zero, List.set_cons_succ])
            refine any_skip (i := 14) rfl (by kernel_rfl) (by kernel_rfl) (by kernel_rfl) (by exact fun _ _ _ h => h) (by rfl) hS ?_
            (try simp only [Act.put, List.setIfInBounds_toArray, List.set_cons_zero, List.set_cons_succ])
            refine any_skip (i := 15) rfl (by kernel_rfl) (by kernel_rfl) (by kernel_rfl) (by exact fun _ _ _ h => h) (by rfl) hS ?_
            (try simp only [Act.put, List.setIfInBounds_toArray, List.set_cons_zero, List.set_cons_succ])
            refine any_skip (i := 16) rfl (by kernel_rfl) (by kernel_rfl) (by kernel_rfl) (by exact fun _ _ _ h => h) (by rfl) hS ?_
            (try simp only [Act.put, List.setIfInBounds_toArray, List.set_cons_zero, List.set_cons_succ])
            refine any_take (i := 17) (v := ?_) rfl (by kernel_rfl) (by kernel_rfl) (by kernel_rfl) (by exact fun _ _ _ h => h) (by rfl) ?_ hS ?_
            rotate_left
            · ((intro w hSw; skip; go_simp) <;> with_reducible rfl)
            (try simp only [Act.put, List.setIfInBounds_toArray, List.set_cons_zero, List.set_cons_succ])
            refine any_take (i := 18) (v := ?_) rfl (by kernel_rfl) (by kernel_rfl) (by kernel_rfl) (by exact fun _ _ _ h => h) (by rfl) ?_ hS ?_
            rotate_left
            · ((intro w hSw; skip; go_simp) <;> with_reducible rfl)
            (try simp only [Act.put, List.setIfInBounds_toArray, List.set_cons_zero, List.set_cons_succ])
            refine wpAnyH_done (by kernel_rfl) ?_ _
            clear hS
            have bd : Below wa.heap.size wa wa.drew := (Below.refl _ _).drew
            have RTX := HA.out.1.later bd
            have BC := HA.out.2.1.laterB bd
            have BR := HA.out.2.2.1.laterB bd
            have BA := HA.out.2.2.2.1.laterB bd
            have HSX : w.heap.size + 2 ≤ wa.drew.heap.size := HA.out.2.2.2.2
            clear bd HA HS7
            generalize wa.drew = wd at *
            have HMD : Hid _ := HMD0
            have RTW := RTX
            have BW := BR
            clear HMD0 RTX BC BR BA HSX
            have HG : Hid _ := conflict_any wd
            go_wp2_with fail
            refine (Calls.mono HG.out) ?_
            rintro e w9 ⟨rfl, b9⟩
            have r3' := RTW.later b9
            have B3 := BW.laterB b9
            have hN' : Nts w w9 (.slice none 0 0) [] := Nts.nil _ _
            have han : ∀ b, (Value.slice none 0 0).ownBlock = some b → b ≠ w.heap.size + 1 := fun b hb => by cases hb
            clear HG b9 RTW BW
            have y0 := blk_at B3 0
            have f0 := blk_frozen B3 0
            have y1 := blk_at B3 1
            have f1 := blk_frozen B3 1
            have y2 := blk_at B3 2
            have f2 := blk_frozen B3 2
            have y3 := blk_at B3 3
            have f3 := blk_frozen B3 3
            have y4 := blk_at B3 4
            have f4 := blk_frozen B3 4
            simp only [List.getElem?_cons_zero, List.getElem?_cons_succ] at y0 y1 y2 y3 y4
            have SP := rp5_blk B3 (24) (0) (0) (0)
            have G : Hid _ := And.intro SP.1 (And.intro (r3'.codes SP.2 (by omega) H1.out.2.2.2.2) (hN'.keep SP.2 han))
            unfold rp5 at G
            clear SP B3
            go_wp2
            clear y0 y1 y2 y3 y4 f0 f1 f2 f3 f4
            generalize (((((w9).setCell ⟨w.heap.size + 1, 0, none⟩ (.int .i64 24)).setCell ⟨w.heap.size + 1, 1, none⟩ (.int .i64 0)).setCell ⟨w.heap.size + 1, 2, none⟩ (.int .i64 0)).setCell ⟨w.heap.size + 1, 3, none⟩ (.int .i64 0)).setCell ⟨w.heap.size + 1, 4, none⟩ (.slice none 0 0) = wf at *
            have y0 := blk_at G.out.1 0
            have y1 := blk_at G.out.1 1
            have y2 := blk_at G.out.1 2
            have y3 := blk_at G.out.1 3
            have y4 := blk_at G.out.1 4
            simp only [List.getElem?_cons_zero, List.getElem?_cons_succ] at y0 y1 y2 y3 y4
            refine bodyPost_ret (v := .tuple #[.agg #[.int .i64 24, .int .i64 0, .int .i64 0, .int .i64 0, .slice none 0 0], .slice none 0 0]) (by simp [results, Try.results7, go_sem, y0, y1, y2, y3, y4]) rfl ?_
            exact ⟨_, by rw [HMD.out]; rfl, by rw [HMD.out]; exact G.out.2.2, by rw [HMD.out]; exact G.out.2.1⟩
        | true =>
            rw [hrg] at HRG
            refine wp_region_held_drew (S := fun W => Below wa.heap.size wa W) (by kernel_rfl) ((Below.refl _ _).drew) (fun hS => ?_)
            refine any_take (i := 0) (v := ?_) rfl (by kernel_rfl) (by kernel_rfl) (by kernel_rfl) (by exact fun _ _ _ h => h) (by rfl) ?_ hS ?_
            rotate_left
            · ((intro w hSw; obtain ⟨ya, k1, ky⟩ := HS7.out _ hSw; go_simp) <;> with_reducible rfl)
            (try simp only [Act.put, List.setIfInBounds_toArray, List.set_cons_zero, List.set_cons_succ])
            refine any_take (i := 1) (v := ?_) rfl (by kernel_rfl) (by kernel_rfl) (by kernel_rfl) (by exact fun _ _ _ h => h) (by rfl) ?_ hS ?_
            rotate_left
            · ((intro w hSw; obtain ⟨ya, k1, ky⟩ := HS7.out _ hSw; go_simp) <;> with_reducible rfl)
            (try simp only [Act.put, List.setIfInBounds_toArray, List.set_cons_zero, List.set_cons_succ])
            refine any_take (i := 2) (v := ?_) rfl (by kernel_rfl) (by kernel_rfl) (by kernel_rfl) (by exact fun _ _ _ h => h) (by rfl) ?_ hS ?_
            rotate_left
            · ((intro w hSw; obtain ⟨ya, k1, ky⟩ := HS7.out _ hSw; go_simp) <;> with_reducible rfl)
            (try simp only [Act.put, List.setIfInBounds_toArray, List.set_cons_zero, List.set_cons_succ])
            refine any_take (i := 3) (v := ?_) rfl (by kernel_rfl) (by kernel_rfl) (by kernel_rfl) (by exact fun _ _ _ h => h) (by rfl) ?_ hS ?_
            rotate_left
            · ((intro w hSw; obtain ⟨ya, k1, ky⟩ := HS7.out _ hSw; go_simp) <;> with_reducible rfl)
            (try simp only [Act.put, List.setIfInBounds_toArray, List.set_cons_zero, List.set_cons_succ])
            refine any_take (i := 4) (v := ?_) rfl (by kernel_rfl) (by kernel_rfl) (by kernel_rfl) (by exact fun _ _ _ h => h) (by rfl) ?_ hS ?_
            rotate_left
            · ((intro w hSw; obtain ⟨ya, k1, ky⟩ := HS7.out _ hSw; go_simp) <;> with_reducible rfl)
            (try simp only [Act.put, List.setIfInBounds_toArray, List.set_cons_zero, List.set_cons_succ])
            refine any_one (i := 5) rfl (by kernel_rfl) (fun K hK => ?_)
            go_simp
            refine (Calls.mono (HRG.out _ hS)) ?_
            rintro e _ ⟨rfl, rfl⟩
            go_wp2_with fail
            refine hK.out _ _ hS ?_
            clear hK K
            refine any_take (i := 6) (v := ?_) rfl (by kernel_rfl) (by kernel_rfl) (by kernel_rfl) (by exact fun _ _ _ h => h) (by rfl) ?_ hS ?_
            rotate_left
            · ((intro w hSw; skip; go_simp) <;> with_reducible rfl)
            (try simp only [Act.put, List.setIfInBounds_toArray, List.set_cons_zero, List.set_cons_succ])
            refine any_take (i := 7) (v := ?_) rfl (by kernel_rfl) (by kernel_rfl) (by kernel_rfl) (by exact fun _ _ _ h => h) (by rfl) ?_ hS ?_
            rotate_left
            · ((intro w hSw; skip; go_simp) <;> with_reducible rfl)
            (try simp only [Act.put, List.setIfInBounds_toArray, List.set_cons_zero, List.set_cons_succ])
            refine any_take (i := 8) (v := ?_) rfl (by kernel_rfl) (by kernel_rfl) (by kernel_rfl) (by exact fun _ _ _ h => h) (by rfl) ?_ hS ?_
            rotate_left
            · ((intro w hSw; obtain ⟨ya, k1, ky⟩ := HS7.out _ hSw; go_simp) <;> with_reducible rfl)
            (try simp only [Act.put, List.setIfInBounds_toArray, List.set_cons_zero, List.set_cons_succ])
            refine any_take (i := 9) (v := ?_) rfl (by kernel_rfl) (by kernel_rfl) (by kernel_rfl) (by exact fun _ _ _ h => h) (by rfl) ?_ hS ?_
            rotate_left
            · ((intro w hSw; obtain ⟨ya, k1, ky⟩ := HS7.out _ hSw; go_simp) <;> with_reducible rfl)
            (try simp only [Act.put, List.setIfInBounds_toArray, List.set_cons_zero, List.set_cons_succ])
            refine any_take (i := 10) (v := ?_) rfl (by kernel_rfl) (by kernel_rfl) (by kernel_rfl) (by exact fun _ _ _ h => h) (by rfl) ?_ hS ?_
            rotate_left
            · ((intro w hSw; obtain ⟨ya, k1, ky⟩ := HS7.out _ hSw; go_simp) <;> with_reducible rfl)
            (try simp only [Act.put, List.setIfInBounds_toArray, List.set_cons_zero, List.set_cons_succ])
            refine any_take (i := 11) (v := ?_) rfl (by kernel_rfl) (by kernel_rfl) (by kernel_rfl) (by exact fun _ _ _ h => h) (by rfl) ?_ hS ?_
            rotate_left
            · ((intro w hSw; obtain ⟨ya, k1, ky⟩ := HS7.out _ hSw; go_simp) <;> with_reducible rfl)
            (try simp only [Act.put, List.setIfInBounds_toArray, List.set_cons_zero, List.set_cons_succ])
            refine any_take (i := 12) (v := ?_) rfl (by kernel_rfl) (by kernel_rfl) (by kernel_rfl) (by exact fun _ _ _ h => h) (by rfl) ?_ hS ?_
            rotate_left
            · ((intro w hSw; obtain ⟨ya, k1, ky⟩ := HS7.out _ hSw; go_simp) <;> with_reducible rfl)
            (try simp only [Act.put, List.setIfInBounds_toArray, List.set_cons_zero, List.set_cons_succ])
            refine any_take (i := 13) (v := ?_) rfl (by kernel_rfl) (by kernel_rfl) (by kernel_rfl) (by exact fun _ _ _ h => h) (by rfl) ?_ hS ?_
            rotate_left
            · ((intro w hSw; obtain ⟨ya, k1, ky⟩ := HS7.out _ hSw; go_simp) <;> with_reducible rfl)
            (try simp only [Act.put, List.setIfInBounds_toArray, List.set_cons_zero, List.set_cons_succ])
            refine any_take (i := 14) (v := ?_) rfl (by kernel_rfl) (by kernel_rfl) (by kernel_rfl) (by exact fun _ _ _ h => h) (by rfl) ?_ hS ?_
            rotate_left
            · ((intro w hSw; obtain ⟨ya, k1, ky⟩ := HS7.out _ hSw; go_simp) <;> with_reducible rfl)
            (try simp only [Act.put, List.setIfInBounds_toArray, List.set_cons_zero, List.set_cons_succ])
            refine any_take (i := 15) (v := ?_) rfl (by kernel_rfl) (by kernel_rfl) (by kernel_rfl) (by exact fun _ _ _ h => h) (by rfl) ?_ hS ?_
            rotate_left
            · ((intro w hSw; obtain ⟨ya, k1, ky⟩ := HS7.out _ hSw; go_simp) <;> with_reducible rfl)
            (try simp only [Act.put, List.setIfInBounds_toArray, List.set_cons_zero, List.set_cons_succ])
            refine any_take (i := 16) (v := ?_) rfl (by kernel_rfl) (by kernel_rfl) (by kernel_rfl) (by exact fun _ _ _ h => h) (by rfl) ?_ hS ?_
            rotate_left
            · ((intro w hSw; obtain ⟨ya, k1, ky⟩ := HS7.out _ hSw; go_simp) <;> with_reducible rfl)
            (try simp only [Act.put, List.setIfInBounds_toArray, List.set_cons_zero, List.set_cons_succ])
            refine any_take (i := 17) (v := ?_) rfl (by kernel_rfl) (by kernel_rfl) (by kernel_rfl) (by exact fun _ _ _ h => h) (by rfl) ?_ hS ?_
            rotate_left
            · ((intro w hSw; skip; go_simp) <;> with_reducible rfl)
            (try simp only [Act.put, List.setIfInBounds_toArray, List.set_cons_zero, List.set_cons_succ])
            refine any_take (i := 18) (v := ?_) rfl (by kernel_rfl) (by kernel_rfl) (by kernel_rfl) (by exact fun _ _ _ h => h) (by rfl) ?_ hS ?_
            rotate_left
            · ((intro w hSw; skip; go_simp) <;> with_reducible rfl)
            (try simp only [Act.put, List.setIfInBounds_toArray, List.set_cons_zero, List.set_cons_succ])
            refine wpAnyH_done (by kernel_rfl) ?_ _
            clear hS
            have bd : Below wa.heap.size wa wa.drew := (Below.refl _ _).drew
            have RTX := HA.out.1.later bd
            have BC := HA.out.2.1.laterB bd
            have BR := HA.out.2.2.1.laterB bd
            have BA := HA.out.2.2.2.1.laterB bd
            have HSX : w.heap.size + 2 ≤ wa.drew.heap.size := HA.out.2.2.2.2
            clear bd HA HS7
            generalize wa.drew = wd at *
            by_cases hxk : c.key = x
            · have HMD0 : doM m (i : Int) c = clrM m i := by have hca := HCA.out; unfold doM; rw [if_neg (by rw [nxB_nat hi]; decide), Int.toNat_natCast, if_neg (by omega), if_neg (by omega), if_pos (by omega), if_neg (by rw [hrg, HXK.out]; simp [hxk]), if_neg (by omega), if_neg (by omega), if_pos hca]
              have hq2 : (c.key != x) = false := by rw [bne_eq_false_iff_eq]; exact hxk
              (try rw [hq2])
              have HMD : Hid _ := HMD0
              clear HMD0 hxk hq2
              have HA0 : Hid _ := clear_any g m i c _ RTX.ok hi
              have ya := blk_at BA 2
              simp only [List.getElem?_cons_zero, List.getElem?_cons_succ] at ya
              have k0 := blk_at BC 0
              have k1 := blk_at BC 1
              have k2 := blk_at BC 2
              have k3 := blk_at BC 3
              simp only [List.getElem?_cons_zero, List.getElem?_cons_succ] at k0 k1 k2 k3
              have HX : Hid _ := And.intro RTX (And.intro BR (And.intro HSX trivial))
              clear RTX BC BR BA
              go_wp2_with fail
              clear ya k0 k1 k2 k3
              refine (Calls.mono HA0.out) ?_
              rintro e we ⟨v, rfl, hN, rt⟩
              have r3' := HX.out.1.trans rt
              have B3 := rt.blk HX.out.2.1 (by have := H1.out.2.2.2.2; omega)
              have hN' := hN.lower HX.out.1.size
              have han : ∀ b, v.ownBlock = some b → b ≠ w.heap.size + 1 := fun b hb => by have := hN.new b hb; have := HX.out.2.2.1; omega
              clear HA0 HX rt hN HSX
              obtain ⟨va, vc, hv, -, -⟩ := hN'.own.open
              rw [hv] at hN' han ⊢
              generalize (clrM m i) = A at *
              obtain ⟨⟨a1, a2, a3, a4⟩, m', l'⟩ := A
              simp only [rpV] at *
              have y0 := blk_at B3 0
              have f0 := blk_frozen B3 0
              have y1 := blk_at B3 1
              have f1 := blk_frozen B3 1
              have y2 := blk_at B3 2
              have f2 := blk_frozen B3 2
              have y3 := blk_at B3 3
              have f3 := blk_frozen B3 3
              have y4 := blk_at B3 4
              have f4 := blk_frozen B3 4
              simp only [List.getElem?_cons_zero, List.getElem?_cons_succ] at y0 y1 y2 y3 y4
              have SP := rp5_blk B3 a1 a2 a3 a4
              have G : Hid _ := And.intro SP.1 (And.intro (r3'.codes SP.2 (by omega) H1.out.2.2.2.2) (hN'.keep SP.2 han))
              unfold rp5 at G
              clear SP B3
              go_wp2
              clear y0 y1 y2 y3 y4 f0 f1 f2 f3 f4
              generalize (((((we).setCell ⟨w.heap.size + 1, 0, none⟩ (.int .i64 a1)).setCell ⟨w.heap.size + 1, 1, none⟩ (.int .i64 a2)).setCell ⟨w.heap.size + 1, 2, none⟩ (.int .i64 a3)).setCell ⟨w.heap.size + 1, 3, none⟩ (.int .i64 a4)).setCell ⟨w.heap.size + 1, 4, none⟩ (.slice none 0 0) = wf at *
              have y0 := blk_at G.out.1 0
              have y1 := blk_at G.out.1 1
              have y2 := blk_at G.out.1 2
              have y3 := blk_at G.out.1 3
              have y4 := blk_at G.out.1 4
              simp only [List.getElem?_cons_zero, List.getElem?_cons_succ] at y0 y1 y2 y3 y4
              refine bodyPost_ret (v := .tuple #[.agg #[.int .i64 a1, .int .i64 a2, .int .i64 a3, .int .i64 a4, .slice none 0 0], .slice va l'.length vc]) (by simp [results, Try.results7, go_sem, y0, y1, y2, y3, y4]) rfl ?_
              rw [HMD.out]
              exact ⟨_, rfl, G.out.2.2, G.out.2.1⟩
            · have HMD0 : doM m (i : Int) c = ((24, 0, 0, 0), m, []) := by have hca := HCA.out; unfold doM; rw [if_neg (by rw [nxB_nat hi]; decide), Int.toNat_natCast, if_neg (by omega), if_neg (by omega), if_pos (by omega), if_pos (.inr (by rw [HXK.out]; exact hxk))]
              have hq2 : (c.key != x) = true := by rw [bne_iff_ne]; exact hxk
              (try rw [hq2])
              have HMD : Hid _ := HMD0
              have RTW := RTX
              have BW := BR
              clear HMD0 RTX BC BR BA HSX
              have HG : Hid _ := conflict_any wd
              go_wp2_with fail
              refine (Calls.mono HG.out) ?_
              rintro e w9 ⟨rfl, b9⟩
              have r3' := RTW.later b9
              have B3 := BW.laterB b9
              have hN' : Nts w w9 (.slice none 0 0) [] := Nts.nil _ _
              have han : ∀ b, (Value.slice none 0 0).ownBlock = some b → b ≠ w.heap.size + 1 := fun b hb => by cases hb
              clear HG b9 RTW BW
              have y0 := blk_at B3 0
              have f0 := blk_frozen B3 0
              have y1 := blk_at B3 1
              have f1 := blk_frozen B3 1
              have y2 := blk_at B3 2
              have f2 := blk_frozen B3 2
              have y3 := blk_at B3 3
              have f3 := blk_frozen B3 3
              have y4 := blk_at B3 4
              have f4 := blk_frozen B3 4
              simp only [List.getElem?_cons_zero, List.getElem?_cons_succ] at y0 y1 y2 y3 y4
              have SP := rp5_blk B3 (24) (0) (0) (0)
              have G : Hid _ := And.intro SP.1 (And.intro (r3'.codes SP.2 (by omega) H1.out.2.2.2.2) (hN'.keep SP.2 han))
              unfold rp5 at G
              clear SP B3
              go_wp2
              clear y0 y1 y2 y3 y4 f0 f1 f2 f3 f4
              generalize (((((w9).setCell ⟨w.heap.size + 1, 0, none⟩ (.int .i64 24)).setCell ⟨w.heap.size + 1, 1, none⟩ (.int .i64 0)).setCell ⟨w.heap.size + 1, 2, none⟩ (.int .i64 0)).setCell ⟨w.heap.size + 1, 3, none⟩ (.int .i64 0)).setCell ⟨w.heap.size + 1, 4, none⟩ (.slice none 0 0) = wf at *
              have y0 := blk_at G.out.1 0
              have y1 := blk_at G.out.1 1
              have y2 := blk_at G.out.1 2
              have y3 := blk_at G.out.1 3
              have y4 := blk_at G.out.1 4
              simp only [List.getElem?_cons_zero, List.getElem?_cons_succ] at y0 y1 y2 y3 y4
              refine bodyPost_ret (v := .tuple #[.agg #[.int .i64 24, .int .i64 0, .int .i64 0, .int .i64 0, .slice none 0 0], .slice none 0 0]) (by simp [results, Try.results7, go_sem, y0, y1, y2, y3, y4]) rfl ?_
              exact ⟨_, by rw [HMD.out]; rfl, by rw [HMD.out]; exact G.out.2.2, by rw [HMD.out]; exact G.out.2.1⟩
        · have hne : ((3 : Int) != c.a) = true := by rw [bne_iff_ne]; exact fun e => hca e.symm
          go_wp2_with (first | (refine wpList_value rfl (exec_index rfl rfl rfl hix) ?_) | (refine wpList_skip rfl (exec_store rfl rfl rfl (store_ac _ _ _ _ _)) ?_))
          go_roundw
          case rel => exact ⟨4, by omega, rfl, (fun j hj => by exact prev_step hprev hca j hj), HA.out.1, HA.out.2.1, HA.out.2.2.1, HA.out.2.2.2.2⟩
          case measure => simp [intOf]
    | 4, _, hpr =>
        have hprev := hpr
        have hkc : (((4 : Nat)) : Int) = 4 := rfl
        rw [hkc]
        have hix : (Instr.index 71 (.agg #[.int .i64 0, .bool false, .func (.func 34) #[.pointer (some ⟨g, 0, none⟩)] #[], .int .i64 1, .bool true, .func (.func 35) #[.pointer (some ⟨g, 0, none⟩)] #[], .int .i64 2, .bool true, .func (.func 36) #[.pointer (some ⟨g, 0, none⟩)] #[], .int .i64 3, .bool true, .func (.func 37) #[.pointer (some ⟨g, 0, none⟩)] #[], .int .i64 4, .bool true, .func (.func 38) #[.pointer (some ⟨g, 0, none⟩)] #[], .int .i64 6, .bool false, .func (.func 39) #[.pointer (some ⟨g, 0, none⟩)] #[]]) (.int .i64 4)).run Try.prog wr = .ok (.agg #[.int .i64 4, .bool true, .func (.func 38) #[.pointer (some ⟨g, 0, none⟩)] #[]]) wr := index_ac4 g wr
        have ba : Below wr.heap.size wr (wr.alloc (.cells #[.int .i64 4, .bool true, .func (.func 38) #[.pointer (some ⟨g, 0, none⟩)] #[]] 70)) := (Below.refl _ _).alloc (Nat.le_refl _) _
        have Ba := Blk.new' wr 70 [.int .i64 4, .bool true, .func (.func 38) #[.pointer (some ⟨g, 0, none⟩)] #[]]
        have HA : Hid (RT w (wr.alloc (.cells #[.int .i64 4, .bool true, .func (.func 38) #[.pointer (some ⟨g, 0, none⟩)] #[]] 70)) g m ∧ Blk (wr.alloc (.cells #[.int .i64 4, .bool true, .func (.func 38) #[.pointer (some ⟨g, 0, none⟩)] #[]] 70)) w.heap.size 37 [.int .i64 c.a, .int .u64 c.key, .int .u64 c.nw, .int .i64 c.t] ∧ Blk (wr.alloc (.cells #[.int .i64 4, .bool true, .func (.func 38) #[.pointer (some ⟨g, 0, none⟩)] #[]] 70)) (w.heap.size + 1) 28 [.int .i64 0, .int .i64 0, .int .i64 0, .int .i64 0, .slice none 0 0] ∧ Blk (wr.alloc (.cells #[.int .i64 4, .bool true, .func (.func 38) #[.pointer (some ⟨g, 0, none⟩)] #[]] 70)) wr.heap.size 70 [.int .i64 4, .bool true, .func (.func 38) #[.pointer (some ⟨g, 0, none⟩)] #[]] ∧ w.heap.size + 2 ≤ (wr.alloc (.cells #[.int .i64 4, .bool true, .func (.func 38) #[.pointer (some ⟨g, 0, none⟩)] #[]] 70)).heap.size) := ⟨K1.later ba, K2.laterB ba, K3.laterB ba, Ba, Nat.le_trans K4 ba.size⟩
        have yn := blk_at Ba 0
        have k0 := blk_at (K2.laterB ba) 0
        simp only [List.getElem?_cons_zero, List.getElem?_cons_succ] at yn k0
        clear ba Ba K1 K2 K3 K4
        by_cases hca : c.a = 4
        · have hne : ((4 : Int) != c.a) = false := by rw [bne_eq_false_iff_eq]; exact hca.symm
          have HCA : Hid _ := hca
          clear hca
          go_upto_region 7 with (first | (refine wpList_value rfl (exec_index rfl rfl rfl hix) ?_) | (refine wpList_skip rfl (exec_store rfl rfl rfl (store_ac _ _ _ _ _)) ?_))
          clear hix yn k0 hne
          generalize (Value.agg #[.int .i64 0, .bool false, .func (.func 34) #[.pointer (some ⟨g, 0, none⟩)] #[], .int .i64 1, .bool true, .func (.func 35) #[.pointer (some ⟨g, 0, none⟩)] #[], .int .i64 2, .bool true, .func (.func 36) #[.pointer (some ⟨g, 0, none⟩)] #[], .int .i64 3, .bool true, .func (.func 37) #[.pointer (some ⟨g, 0, none⟩)] #[], .int .i64 4, .bool true, .func (.func 38) #[.pointer (some ⟨g, 0, none⟩)] #[], .int .i64 6, .bool false, .func (.func 39) #[.pointer (some ⟨g, 0, none⟩)] #[]]) = AG
          obtain ⟨gb, hgb⟩ : ∃ gb, wr.heap.size = gb := ⟨_, rfl⟩
          rw [hgb] at HA ⊢
          clear hgb
          generalize wr.alloc (.cells #[.int .i64 4, .bool true, .func (.func 38) #[.pointer (some ⟨g, 0, none⟩)] #[]] 70) = wa at *
          have HS7 : Hid (∀ W, Below wa.heap.size wa W → W.cell? ⟨gb, 1, none⟩ = some (.bool true) ∧ W.cell? ⟨w.heap.size, 1, none⟩ = some (.int .u64 c.key) ∧ W.cell? ⟨g, 19 + i, none⟩ = some (.int .u64 x)) := fun W b => ⟨by have := blk_at (HA.out.2.2.2.1.laterB b) 1; simpa using this, by have := blk_at (HA.out.2.1.laterB b) 1; simpa using this, by rw [← HXK.out]; exact (HA.out.1.ok.later b).holds.2.key (HA.out.1.ok.later b).holds.1 i hi⟩
          have HRG : Hid (∀ W, Below wa.heap.size wa W → _) := fun W b => isReg_any g m i W (HA.out.1.ok.later b) hi
          cases hrg : rg m i with
        | false =>
            have HMD0 : doM m (i : Int) c = ((24, 0, 0, 0), m, []) := by have hca := HCA.out; unfold doM; rw [if_neg (by rw [nxB_nat hi]; decide), Int.toNat_natCast, if_neg (by omega), if_neg (by omega), if_pos (by omega), if_pos (.inl hrg)]
            rw [hrg] at HRG
            refine wp_region_held_drew (S := fun W => Below wa.heap.size wa W) (by kernel_rfl) ((Below.refl _ _).drew) (fun hS => ?_)
            refine any_take (i := 0) (v := ?_) rfl (by kernel_rfl) (by kernel_rfl) (by kernel_rfl) (by exact fun _ _ _ h => h) (by rfl) ?_ hS ?_
            rotate_left
            · ((intro w hSw; obtain ⟨ya, k1, ky⟩ := HS7.out _ hSw; go_simp) <;> with_reducible rfl)
            (try simp only [Act.put, List.setIfInBounds_toArray, List.set_cons_zero, List.set_cons_succ])
            refine any_take (i := 1) (v := ?_) rfl (by kernel_rfl) (by kernel_rfl) (by kernel_rfl) (by exact fun _ _ _ h => h) (by rfl) ?_ hS ?_
            rotate_left
            · ((intro w hSw; obtain ⟨ya, k1, ky⟩ := HS7.out _ hSw; go_simp) <;> with_reducible rfl)
            (try simp only [Act.put, List.setIfInBounds_toArray, List.set_cons_zero, List.set_cons_succ])
            refine any_take (i := 2) (v := ?_) rfl (by kernel_rfl) (by kernel_rfl) (by kernel_rfl) (by exact fun _ _ _ h => h) (by rfl) ?_ hS ?_
            rotate_left
            · ((intro w hSw; obtain ⟨ya, k1, ky⟩ := HS7.out _ hSw; go_simp) <;> with_reducible rfl)
            (try simp only [Act.put, List.setIfInBounds_toArray, List.set_cons_zero, List.set_cons_succ])
            refine any_take (i := 3) (v := ?_) rfl (by kernel_rfl) (by kernel_rfl) (by kernel_rfl) (by exact fun _ _ _ h => h) (by rfl) ?_ hS ?_
            rotate_left
            · ((intro w hSw; obtain ⟨ya, k1, ky⟩ := HS7.out _ hSw; go_simp) <;> with_reducible rfl)
            (try simp only [Act.put, List.setIfInBounds_toArray, List.set_cons_zero, List.set_cons_succ])
            refine any_take (i := 4) (v := ?_) rfl (by kernel_rfl) (by kernel_rfl) (by kernel_rfl) (by exact fun _ _ _ h => h) (by rfl) ?_ hS ?_
            rotate_left
            · ((intro w hSw; obtain ⟨ya, k1, ky⟩ := HS7.out _ hSw; go_simp) <;> with_reducible rfl)
            (try simp only [Act.put, List.setIfInBounds_toArray, List.set_cons_zero, List.set_cons_succ])
            refine any_one (i := 5) rfl (by kernel_rfl) (fun K hK => ?_)
            go_simp
            refine (Calls.mono (HRG.out _ hS)) ?_
            rintro e _ ⟨rfl, rfl⟩
            go_wp2_with fail
            refine hK.out _ _ hS ?_
            clear hK K
            refine any_take (i := 6) (v := ?_) rfl (by kernel_rfl) (by kernel_rfl) (by kernel_rfl) (by exact fun _ _ _ h => h) (by rfl) ?_ hS ?_
            rotate_left
            · ((intro w hSw; skip; go_simp) <;> with_reducible rfl)
            (try simp only [Act.put, List.setIfInBounds_toArray, List.set_cons_zero, List.set_cons_succ])
            refine any_take (i := 7) (v := ?_) rfl (by kernel_rfl) (by kernel_rfl) (by kernel_rfl) (by exact fun _ _ _ h => h) (by rfl) ?_ hS ?_
            rotate_left
            · ((intro w hSw; skip; go_simp) <;> with_reducible rfl)
            (try simp only [Act.put, List.setIfInBounds_toArray, List.set_cons_zero, List.set_cons_succ])
            refine any_skip (i := 8) rfl (by kernel_rfl) (by kernel_rfl) (by kernel_rfl) (by exact fun _ _ _ h => h) (by rfl) hS ?_
            (try simp only [Act.put, List.setIfInBounds_toArray, List.set_cons_zero, List.set_cons_succ])
            refine any_skip (i := 9) rfl (by kernel_rfl) (by kernel_rfl) (by kernel_rfl) (by exact fun _ _ _ h => h) (by rfl) hS ?_
            (try simp only [Act.put, List.setIfInBounds_toArray, List.set_cons_zero, List.set_cons_succ])
            refine any_skip (i := 10) rfl (by kernel_rfl) (by kernel_rfl) (by kernel_rfl) (by exact fun _ _ _ h => h) (by rfl) hS ?_
            (try simp only [Act.put, List.setIfInBounds_toArray, List.set_cons_zero, List.set_cons_succ])
            refine any_skip (i := 11) rfl (by kernel_rfl) (by kernel_rfl) (by kernel_rfl) (by exact fun _ _ _ h => h) (by rfl) hS ?_
            (try simp only [Act.put, List.setIfInBounds_toArray, List.set_cons_zero, List.set_cons_succ])
            refine any_skip (i := 12) rfl (by kernel_rfl) (by kernel_rfl) (by kernel_rfl) (by exact fun _ _ _ h => h) (by rfl) hS ?_
            (try simp only [Act.put, List.setIfInBounds_toArray, List.set_cons_zero, List.set_cons_succ])
            refine any_skip (i := 13) rfl (by kernel_rfl) (by kernel_rfl) (by kernel_rfl) (by exact fun _ _ _ h => h) (by rfl) hS ?_
            (try simp only [Act.put, List.setIfInBounds_toArray, List.set_cons_zero, List.set_cons_succ])
            refine any_skip (i := 14) rfl (by kernel_rfl) (by kernel_rfl) (by kernel_rfl) (by exact fun _ _ _ h => h) (by rfl) hS ?_
            (try simp only [Act.put, List.setIfInBounds_toArray, List.set_cons_zero, List.set_cons_succ])
            refine any_skip (i := 15) rfl (by kernel_rfl) (by kernel_rfl) (by kernel_rfl) (by exact fun _ _ _ h => h) (by rfl) hS ?_
            (try simp only [Act.put, List.setIfInBounds_toArray, List.set_cons_zero, List.set_cons_succ])
            refine any_skip (i := 16) rfl (by kernel_rfl) (by kernel_rfl) (by kernel_rfl) (by exact fun _ _ _ h => h) (by rfl) hS ?_
            (try simp only [Act.put, List.setIfInBounds_toArray, List.set_cons_zero, List.set_cons_succ])
            refine any_take (i := 17) (v := ?_) rfl (by kernel_rfl) (by kernel_rfl) (by kernel_rfl) (by exact fun _ _ _ h => h) (by rfl) ?_ hS ?_
            rotate_left
            · ((intro w hSw; skip; go_simp) <;> with_reducible rfl)
            (try simp only [Act.put, List.setIfInBounds_toArray, List.set_cons_zero, List.set_cons_succ])
            refine any_take (i := 18) (v := ?_) rfl (by kernel_rfl) (by kernel_rfl) (by kernel_rfl) (by exact fun _ _ _ h => h) (by rfl) ?_ hS ?_
            rotate_left
            · ((intro w hSw; skip; go_simp) <;> with_reducible rfl)
            (try simp only [Act.put, List.setIfInBounds_toArray, List.set_cons_zero, List.set_cons_succ])
            refine wpAnyH_done (by kernel_rfl) ?_ _
            clear hS
            have bd : Below wa.heap.size wa wa.drew := (Below.refl _ _).drew
            have RTX := HA.out.1.later bd
            have BC := HA.out.2.1.laterB bd
            have BR := HA.out.2.2.1.laterB bd
            have BA := HA.out.2.2.2.1.laterB bd
            have HSX : w.heap.size + 2 ≤ wa.drew.heap.size := HA.out.2.2.2.2
            clear bd HA HS7
            generalize wa.drew = wd at *
            have HMD : Hid _ := HMD0
            have RTW := RTX
            have BW := BR
            clear HMD0 RTX BC BR BA HSX
            have HG : Hid _ := conflict_any wd
            go_wp2_with fail
            refine (Calls.mono HG.out) ?_
            rintro e w9 ⟨rfl, b9⟩
            have r3' := RTW.later b9
            have B3 := BW.laterB b9
            have hN' : Nts w w9 (.slice none 0 0) [] := Nts.nil _ _
            have han : ∀ b, (Value.slice none 0 0).ownBlock = some b → b ≠ w.heap.size + 1 := fun b hb => by cases hb
            clear HG b9 RTW BW
            have y0 := blk_at B3 0
            have f0 := blk_frozen B3 0
            have y1 := blk_at B3 1
            have f1 := blk_frozen B3 1
            have y2 := blk_at B3 2
            have f2 := blk_frozen B3 2
            have y3 := blk_at B3 3
            have f3 := blk_frozen B3 3
            have y4 := blk_at B3 4
            have f4 := blk_frozen B3 4
            simp only [List.getElem?_cons_zero, List.getElem?_cons_succ] at y0 y1 y2 y3 y4
            have SP := rp5_blk B3 (24) (0) (0) (0)
            have G : Hid _ := And.intro SP.1 (And.intro (r3'.codes SP.2 (by omega) H1.out.2.2.2.2) (hN'.keep SP.2 han))
            unfold rp5 at G
            clear SP B3
            go_wp2
            clear y0 y1 y2 y3 y4 f0 f1 f2 f3 f4
            generalize (((((w9).setCell ⟨w.heap.size + 1, 0, none⟩ (.int .i64 24)).setCell ⟨w.heap.size + 1, 1, none⟩ (.int .i64 0)).setCell ⟨w.heap.size + 1, 2, none⟩ (.int .i64 0)).setCell ⟨w.heap.size + 1, 3, none⟩ (.int .i64 0)).setCell ⟨w.heap.size + 1, 4, none⟩ (.slice none 0 0) = wf at *
            have y0 := blk_at G.out.1 0
            have y1 := blk_at G.out.1 1
            have y2 := blk_at G.out.1 2
            have y3 := blk_at G.out.1 3
            have y4 := blk_at G.out.1 4
            simp only [List.getElem?_cons_zero, List.getElem?_cons_succ] at y0 y1 y2 y3 y4
            refine bodyPost_ret (v := .tuple #[.agg #[.int .i64 24, .int .i64 0, .int .i64 0, .int .i64 0, .slice none 0 0], .slice none 0 0]) (by simp [results, Try.results7, go_sem, y0, y1, y2, y3, y4]) rfl ?_
            exact ⟨_, by rw [HMD.out]; rfl, by rw [HMD.out]; exact G.out.2.2, by rw [HMD.out]; exact G.out.2.1⟩
        | true =>
            rw [hrg] at HRG
            refine wp_region_held_drew (S := fun W => Below wa.heap.size wa W) (by kernel_rfl) ((Below.refl _ _).drew) (fun hS => ?_)
            refine any_take (i := 0) (v := ?_) rfl (by kernel_rfl) (by kernel_rfl) (by kernel_rfl) (by exact fun _ _ _ h => h) (by rfl) ?_ hS ?_
            rotate_left
            · ((intro w hSw; obtain ⟨ya, k1, ky⟩ := HS7.out _ hSw; go_simp) <;> with_reducible rfl)
            (try simp only [Act.put, List.setIfInBounds_toArray, List.set_cons_zero, List.set_cons_succ])
            refine any_take (i := 1) (v := ?_) rfl (by kernel_rfl) (by kernel_rfl) (by kernel_rfl) (by exact fun _ _ _ h => h) (by rfl) ?_ hS ?_
            rotate_left
            · ((intro w hSw; obtain ⟨ya, k1, ky⟩ := HS7.out _ hSw; go_simp) <;> with_reducible rfl)
            (try simp only [Act.put, List.setIfInBounds_toArray, List.set_cons_zero, List.set_cons_succ])
            refine any_take (i := 2) (v := ?_) rfl (by kernel_rfl) (by kernel_rfl) (by kernel_rfl) (by exact fun _ _ _ h => h) (by rfl) ?_ hS ?_
            rotate_left
            · ((intro w hSw; obtain ⟨ya, k1, ky⟩ := HS7.out _ hSw; go_simp) <;> with_reducible rfl)
            (try simp only [Act.put, List.setIfInBounds_toArray, List.set_cons_zero, List.set_cons_succ])
            refine any_take (i := 3) (v := ?_) rfl (by kernel_rfl) (by kernel_rfl) (by kernel_rfl) (by exact fun _ _ _ h => h) (by rfl) ?_ hS ?_
            rotate_left
            · ((intro w hSw; obtain ⟨ya, k1, ky⟩ := HS7.out _ hSw; go_simp) <;> with_reducible rfl)
            (try simp only [Act.put, List.setIfInBounds_toArray, List.set_cons_zero, List.set_cons_succ])
            refine any_take (i := 4) (v := ?_) rfl (by kernel_rfl) (by kernel_rfl) (by kernel_rfl) (by exact fun _ _ _ h => h) (by rfl) ?_ hS ?_
            rotate_left
            · ((intro w hSw; obtain ⟨ya, k1, ky⟩ := HS7.out _ hSw; go_simp) <;> with_reducible rfl)
            (try simp only [Act.put, List.setIfInBounds_toArray, List.set_cons_zero, List.set_cons_succ])
            refine any_one (i := 5) rfl (by kernel_rfl) (fun K hK => ?_)
            go_simp
            refine (Calls.mono (HRG.out _ hS)) ?_
            rintro e _ ⟨rfl, rfl⟩
            go_wp2_with fail
            refine hK.out _ _ hS ?_
            clear hK K
            refine any_take (i := 6) (v := ?_) rfl (by kernel_rfl) (by kernel_rfl) (by kernel_rfl) (by exact fun _ _ _ h => h) (by rfl) ?_ hS ?_
            rotate_left
            · ((intro w hSw; skip; go_simp) <;> with_reducible rfl)
            (try simp only [Act.put, List.setIfInBounds_toArray, List.set_cons_zero, List.set_cons_succ])
            refine any_take (i := 7) (v := ?_) rfl (by kernel_rfl) (by kernel_rfl) (by kernel_rfl) (by exact fun _ _ _ h => h) (by rfl) ?_ hS ?_
            rotate_left
            · ((intro w hSw; skip; go_simp) <;> with_reducible rfl)
            (try simp only [Act.put, List.setIfInBounds_toArray, List.set_cons_zero, List.set_cons_succ])
            refine any_take (i := 8) (v := ?_) rfl (by kernel_rfl) (by kernel_rfl) (by kernel_rfl) (by exact fun _ _ _ h => h) (by rfl) ?_ hS ?_
            rotate_left
            · ((intro w hSw; obtain ⟨ya, k1, ky⟩ := HS7.out _ hSw; go_simp) <;> with_reducible rfl)
            (try simp only [Act.put, List.setIfInBounds_toArray, List.set_cons_zero, List.set_cons_succ])
            refine any_take (i := 9) (v := ?_) rfl (by kernel_rfl) (by kernel_rfl) (by kernel_rfl) (by exact fun _ _ _ h => h) (by rfl) ?_ hS ?_
            rotate_left
            · ((intro w hSw; obtain ⟨ya, k1, ky⟩ := HS7.out _ hSw; go_simp) <;> with_reducible rfl)
            (try simp only [Act.put, List.setIfInBounds_toArray, List.set_cons_zero, List.set_cons_succ])
            refine any_take (i := 10) (v := ?_) rfl (by kernel_rfl) (by kernel_rfl) (by kernel_rfl) (by exact fun _ _ _ h => h) (by rfl) ?_ hS ?_
            rotate_left
            · ((intro w hSw; obtain ⟨ya, k1, ky⟩ := HS7.out _ hSw; go_simp) <;> with_reducible rfl)
            (try simp only [Act.put, List.setIfInBounds_toArray, List.set_cons_zero, List.set_cons_succ])
            refine any_take (i := 11) (v := ?_) rfl (by kernel_rfl) (by kernel_rfl) (by kernel_rfl) (by exact fun _ _ _ h => h) (by rfl) ?_ hS ?_
            rotate_left
            · ((intro w hSw; obtain ⟨ya, k1, ky⟩ := HS7.out _ hSw; go_simp) <;> with_reducible rfl)
            (try simp only [Act.put, List.setIfInBounds_toArray, List.set_cons_zero, List.set_cons_succ])
            refine any_take (i := 12) (v := ?_) rfl (by kernel_rfl) (by kernel_rfl) (by kernel_rfl) (by exact fun _ _ _ h => h) (by rfl) ?_ hS ?_
            rotate_left
            · ((intro w hSw; obtain ⟨ya, k1, ky⟩ := HS7.out _ hSw; go_simp) <;> with_reducible rfl)
            (try simp only [Act.put, List.setIfInBounds_toArray, List.set_cons_zero, List.set_cons_succ])
            refine any_take (i := 13) (v := ?_) rfl (by kernel_rfl) (by kernel_rfl) (by kernel_rfl) (by exact fun _ _ _ h => h) (by rfl) ?_ hS ?_
            rotate_left
            · ((intro w hSw; obtain ⟨ya, k1, ky⟩ := HS7.out _ hSw; go_simp) <;> with_reducible rfl)
            (try simp only [Act.put, List.setIfInBounds_toArray, List.set_cons_zero, List.set_cons_succ])
            refine any_take (i := 14) (v := ?_) rfl (by kernel_rfl) (by kernel_rfl) (by kernel_rfl) (by exact fun _ _ _ h => h) (by rfl) ?_ hS ?_
            rotate_left
            · ((intro w hSw; obtain ⟨ya, k1, ky⟩ := HS7.out _ hSw; go_simp) <;> with_reducible rfl)
            (try simp only [Act.put, List.setIfInBounds_toArray, List.set_cons_zero, List.set_cons_succ])
            refine any_take (i := 15) (v := ?_) rfl (by kernel_rfl) (by kernel_rfl) (by kernel_rfl) (by exact fun _ _ _ h => h) (by rfl) ?_ hS ?_
            rotate_left
            · ((intro w hSw; obtain ⟨ya, k1, ky⟩ := HS7.out _ hSw; go_simp) <;> with_reducible rfl)
            (try simp only [Act.put, List.setIfInBounds_toArray, List.set_cons_zero, List.set_cons_succ])
            refine any_take (i := 16) (v := ?_) rfl (by kernel_rfl) (by kernel_rfl) (by kernel_rfl) (by exact fun _ _ _ h => h) (by rfl) ?_ hS ?_
            rotate_left
            · ((intro w hSw; obtain ⟨ya, k1, ky⟩ := HS7.out _ hSw; go_simp) <;> with_reducible rfl)
            (try simp only [Act.put, List.setIfInBounds_toArray, List.set_cons_zero, List.set_cons_succ])
            refine any_take (i := 17) (v := ?_) rfl (by kernel_rfl) (by kernel_rfl) (by kernel_rfl) (by exact fun _ _ _ h => h) (by rfl) ?_ hS ?_
            rotate_left
            · ((intro w hSw; skip; go_simp) <;> with_reducible rfl)
            (try simp only [Act.put, List.setIfInBounds_toArray, List.set_cons_zero, List.set_cons_succ])
            refine any_take (i := 18) (v := ?_) rfl (by kernel_rfl) (by kernel_rfl) (by kernel_rfl) (by exact fun _ _ _ h => h) (by rfl) ?_ hS ?_
            rotate_left
            · ((intro w hSw; skip; go_simp) <;> with_reducible rfl)
            (try simp only [Act.put, List.setIfInBounds_toArray, List.set_cons_zero, List.set_cons_succ])
            refine wpAnyH_done (by kernel_rfl) ?_ _
            clear hS
            have bd : Below wa.heap.size wa wa.drew := (Below.refl _ _).drew
            have RTX := HA.out.1.later bd
            have BC := HA.out.2.1.laterB bd
            have BR := HA.out.2.2.1.laterB bd
            have BA := HA.out.2.2.2.1.laterB bd
            have HSX : w.heap.size + 2 ≤ wa.drew.heap.size := HA.out.2.2.2.2
            clear bd HA HS7
            generalize wa.drew = wd at *
            by_cases hxk : c.key = x
            · have HMD0 : doM m (i : Int) c = preM m i c := by have hca := HCA.out; unfold doM; rw [if_neg (by rw [nxB_nat hi]; decide), Int.toNat_natCast, if_neg (by omega), if_neg (by omega), if_pos (by omega), if_neg (by rw [hrg, HXK.out]; simp [hxk]), if_neg (by omega), if_neg (by omega), if_neg (by omega)]
              have hq2 : (c.key != x) = false := by rw [bne_eq_false_iff_eq]; exact hxk
              (try rw [hq2])
              have HMD : Hid _ := HMD0
              clear HMD0 hxk hq2
              have HA0 : Hid _ := preempt_any g m i c _ RTX.ok hi
              have ya := blk_at BA 2
              simp only [List.getElem?_cons_zero, List.getElem?_cons_succ] at ya
              have k0 := blk_at BC 0
              have k1 := blk_at BC 1
              have k2 := blk_at BC 2
              have k3 := blk_at BC 3
              simp only [List.getElem?_cons_zero, List.getElem?_cons_succ] at k0 k1 k2 k3
              have HX : Hid _ := And.intro RTX (And.intro BR (And.intro HSX trivial))
              clear RTX BC BR BA
              go_wp2_with fail
              clear ya k0 k1 k2 k3
              refine (Calls.mono HA0.out) ?_
              rintro e we ⟨v, rfl, hN, rt⟩
              have r3' := HX.out.1.trans rt
              have B3 := rt.blk HX.out.2.1 (by have := H1.out.2.2.2.2; omega)
              have hN' := hN.lower HX.out.1.size
              have han : ∀ b, v.ownBlock = some b → b ≠ w.heap.size + 1 := fun b hb => by have := hN.new b hb; have := HX.out.2.2.1; omega
              clear HA0 HX rt hN HSX
              obtain ⟨va, vc, hv, -, -⟩ := hN'.own.open
              rw [hv] at hN' han ⊢
              generalize (preM m i c) = A at *
              obtain ⟨⟨a1, a2, a3, a4⟩, m', l'⟩ := A
              simp only [rpV] at *
              have y0 := blk_at B3 0
              have f0 := blk_frozen B3 0
              have y1 := blk_at B3 1
              have f1 := blk_frozen B3 1
              have y2 := blk_at B3 2
              have f2 := blk_frozen B3 2
              have y3 := blk_at B3 3
              have f3 := blk_frozen B3 3
              have y4 := blk_at B3 4
              have f4 := blk_frozen B3 4
              simp only [List.getElem?_cons_zero, List.getElem?_cons_succ] at y0 y1 y2 y3 y4
              have SP := rp5_blk B3 a1 a2 a3 a4
              have G : Hid _ := And.intro SP.1 (And.intro (r3'.codes SP.2 (by omega) H1.out.2.2.2.2) (hN'.keep SP.2 han))
              unfold rp5 at G
              clear SP B3
              go_wp2
              clear y0 y1 y2 y3 y4 f0 f1 f2 f3 f4
              generalize (((((we).setCell ⟨w.heap.size + 1, 0, none⟩ (.int .i64 a1)).setCell ⟨w.heap.size + 1, 1, none⟩ (.int .i64 a2)).setCell ⟨w.heap.size + 1, 2, none⟩ (.int .i64 a3)).setCell ⟨w.heap.size + 1, 3, none⟩ (.int .i64 a4)).setCell ⟨w.heap.size + 1, 4, none⟩ (.slice none 0 0) = wf at *
              have y0 := blk_at G.out.1 0
              have y1 := blk_at G.out.1 1
              have y2 := blk_at G.out.1 2
              have y3 := blk_at G.out.1 3
              have y4 := blk_at G.out.1 4
              simp only [List.getElem?_cons_zero, List.getElem?_cons_succ] at y0 y1 y2 y3 y4
              refine bodyPost_ret (v := .tuple #[.agg #[.int .i64 a1, .int .i64 a2, .int .i64 a3, .int .i64 a4, .slice none 0 0], .slice va l'.length vc]) (by simp [results, Try.results7, go_sem, y0, y1, y2, y3, y4]) rfl ?_
              rw [HMD.out]
              exact ⟨_, rfl, G.out.2.2, G.out.2.1⟩
            · have HMD0 : doM m (i : Int) c = ((24, 0, 0, 0), m, []) := by have hca := HCA.out; unfold doM; rw [if_neg (by rw [nxB_nat hi]; decide), Int.toNat_natCast, if_neg (by omega), if_neg (by omega), if_pos (by omega), if_pos (.inr (by rw [HXK.out]; exact hxk))]
              have hq2 : (c.key != x) = true := by rw [bne_iff_ne]; exact hxk
              (try rw [hq2])
              have HMD : Hid _ := HMD0
              have RTW := RTX
              have BW := BR
              clear HMD0 RTX BC BR BA HSX
              have HG : Hid _ := conflict_any wd
              go_wp2_with fail
              refine (Calls.mono HG.out) ?_
              rintro e w9 ⟨rfl, b9⟩
              have r3' := RTW.later b9
              have B3 := BW.laterB b9
              have hN' : Nts w w9 (.slice none 0 0) [] := Nts.nil _ _
              have han : ∀ b, (Value.slice none 0 0).ownBlock = some b → b ≠ w.heap.size + 1 := fun b hb => by cases hb
              clear HG b9 RTW BW
              have y0 := blk_at B3 0
              have f0 := blk_frozen B3 0
              have y1 := blk_at B3 1
              have f1 := blk_frozen B3 1
              have y2 := blk_at B3 2
              have f2 := blk_frozen B3 2
              have y3 := blk_at B3 3
              have f3 := blk_frozen B3 3
              have y4 := blk_at B3 4
              have f4 := blk_frozen B3 4
              simp only [List.getElem?_cons_zero, List.getElem?_cons_succ] at y0 y1 y2 y3 y4
              have SP := rp5_blk B3 (24) (0) (0) (0)
              have G : Hid _ := And.intro SP.1 (And.intro (r3'.codes SP.2 (by omega) H1.out.2.2.2.2) (hN'.keep SP.2 han))
              unfold rp5 at G
              clear SP B3
              go_wp2
              clear y0 y1 y2 y3 y4 f0 f1 f2 f3 f4
              generalize (((((w9).setCell ⟨w.heap.size + 1, 0, none⟩ (.int .i64 24)).setCell ⟨w.heap.size + 1, 1, none⟩ (.int .i64 0)).setCell ⟨w.heap.size + 1, 2, none⟩ (.int .i64 0)).setCell ⟨w.heap.size + 1, 3, none⟩ (.int .i64 0)).setCell ⟨w.heap.size + 1, 4, none⟩ (.slice none 0 0) = wf at *
              have y0 := blk_at G.out.1 0
              have y1 := blk_at G.out.1 1
              have y2 := blk_at G.out.1 2
              have y3 := blk_at G.out.1 3
              have y4 := blk_at G.out.1 4
              simp only [List.getElem?_cons_zero, List.getElem?_cons_succ] at y0 y1 y2 y3 y4
              refine bodyPost_ret (v := .tuple #[.agg #[.int .i64 24, .int .i64 0, .int .i64 0, .int .i64 0, .slice none 0 0], .slice none 0 0]) (by simp [results, Try.results7, go_sem, y0, y1, y2, y3, y4]) rfl ?_
              exact ⟨_, by rw [HMD.out]; rfl, by rw [HMD.out]; exact G.out.2.2, by rw [HMD.out]; exact G.out.2.1⟩
        · have hne : ((4 : Int) != c.a) = true := by rw [bne_iff_ne]; exact fun e => hca e.symm
          go_wp2_with (first | (refine wpList_value rfl (exec_index rfl rfl rfl hix) ?_) | (refine wpList_skip rfl (exec_store rfl rfl rfl (store_ac _ _ _ _ _)) ?_))
          go_roundw
          case rel => exact ⟨5, by omega, rfl, (fun j hj => by exact prev_step hprev hca j hj), HA.out.1, HA.out.2.1, HA.out.2.2.1, HA.out.2.2.2.2⟩
          case measure => simp [intOf]
    | 5, _, hpr =>
        have hprev := hpr
        have hkc : (((5 : Nat)) : Int) = 5 := rfl
        rw [hkc]
        have hix : (Instr.index 71 (.agg #[.int .i64 0, .bool false, .func (.func 34) #[.pointer (some ⟨g, 0, none⟩)] #[], .int .i64 1, .bool true, .func (.func 35) #[.pointer (some ⟨g, 0, none⟩)] #[], .int .i64 2, .bool true, .func (.func 36) #[.pointer (some ⟨g, 0, none⟩)] #[], .int .i64 3, .bool true, .func (.func 37) #[.pointer (some ⟨g, 0, none⟩)] #[], .int .i64 4, .bool true, .func (.func 38) #[.pointer (some ⟨g, 0, none⟩)] #[], .int .i64 6, .bool false, .func (.func 39) #[.pointer (some ⟨g, 0, none⟩)] #[]]) (.int .i64 5)).run Try.prog wr = .ok (.agg #[.int .i64 6, .bool false, .func (.func 39) #[.pointer (some ⟨g, 0, none⟩)] #[]]) wr := index_ac5 g wr
        have ba : Below wr.heap.size wr (wr.alloc (.cells #[.int .i64 6, .bool false, .func (.func 39) #[.pointer (some ⟨g, 0, none⟩)] #[]] 70)) := (Below.refl _ _).alloc (Nat.le_refl _) _
        have Ba := Blk.new' wr 70 [.int .i64 6, .bool false, .func (.func 39) #[.pointer (some ⟨g, 0, none⟩)] #[]]
        have HA : Hid (RT w (wr.alloc (.cells #[.int .i64 6, .bool false, .func (.func 39) #[.pointer (some ⟨g, 0, none⟩)] #[]] 70)) g m ∧ Blk (wr.alloc (.cells #[.int .i64 6, .bool false, .func (.func 39) #[.pointer (some ⟨g, 0, none⟩)] #[]] 70)) w.heap.size 37 [.int .i64 c.a, .int .u64 c.key, .int .u64 c.nw, .int .i64 c.t] ∧ Blk (wr.alloc (.cells #[.int .i64 6, .bool false, .func (.func 39) #[.pointer (some ⟨g, 0, none⟩)] #[]] 70)) (w.heap.size + 1) 28 [.int .i64 0, .int .i64 0, .int .i64 0, .int .i64 0, .slice none 0 0] ∧ Blk (wr.alloc (.cells #[.int .i64 6, .bool false, .func (.func 39) #[.pointer (some ⟨g, 0, none⟩)] #[]] 70)) wr.heap.size 70 [.int .i64 6, .bool false, .func (.func 39) #[.pointer (some ⟨g, 0, none⟩)] #[]] ∧ w.heap.size + 2 ≤ (wr.alloc (.cells #[.int .i64 6, .bool false, .func (.func 39) #[.pointer (some ⟨g, 0, none⟩)] #[]] 70)).heap.size) := ⟨K1.later ba, K2.laterB ba, K3.laterB ba, Ba, Nat.le_trans K4 ba.size⟩
        have yn := blk_at Ba 0
        have k0 := blk_at (K2.laterB ba) 0
        simp only [List.getElem?_cons_zero, List.getElem?_cons_succ] at yn k0
        clear ba Ba K1 K2 K3 K4
        by_cases hca : c.a = 6
        · have hne : ((6 : Int) != c.a) = false := by rw [bne_eq_false_iff_eq]; exact hca.symm
          have HCA : Hid _ := hca
          clear hca
          go_upto_region 7 with (first | (refine wpList_value rfl (exec_index rfl rfl rfl hix) ?_) | (refine wpList_skip rfl (exec_store rfl rfl rfl (store_ac _ _ _ _ _)) ?_))
          clear hix yn k0 hne
          generalize (Value.agg #[.int .i64 0, .bool false, .func (.func 34) #[.pointer (some ⟨g, 0, none⟩)] #[], .int .i64 1, .bool true, .func (.func 35) #[.pointer (some ⟨g, 0, none⟩)] #[], .int .i64 2, .bool true, .func (.func 36) #[.pointer (some ⟨g, 0, none⟩)] #[], .int .i64 3, .bool true, .func (.func 37) #[.pointer (some ⟨g, 0, none⟩)] #[], .int .i64 4, .bool true, .func (.func 38) #[.pointer (some ⟨g, 0, none⟩)] #[], .int .i64 6, .bool false, .func (.func 39) #[.pointer (some ⟨g, 0, none⟩)] #[]]) = AG
          obtain ⟨gb, hgb⟩ : ∃ gb, wr.heap.size = gb := ⟨_, rfl⟩
          rw [hgb] at HA ⊢
          clear hgb
          generalize wr.alloc (.cells #[.int .i64 6, .bool false, .func (.func 39) #[.pointer (some ⟨g, 0, none⟩)] #[]] 70) = wa at *
          have HS7 : Hid (∀ W, Below wa.heap.size wa W → W.cell? ⟨gb, 1, none⟩ = some (.bool false) ∧ W.cell? ⟨w.heap.size, 1, none⟩ = some (.int .u64 c.key) ∧ W.cell? ⟨g, 19 + i, none⟩ = some (.int .u64 x)) := fun W b => ⟨by have := blk_at (HA.out.2.2.2.1.laterB b) 1; simpa using this, by have := blk_at (HA.out.2.1.laterB b) 1; simpa using this, by rw [← HXK.out]; exact (HA.out.1.ok.later b).holds.2.key (HA.out.1.ok.later b).holds.1 i hi⟩
          have HMD0 : doM m (i : Int) c = ignA m i c := by have hca := HCA.out; unfold doM; rw [if_neg (by rw [nxB_nat hi]; decide), Int.toNat_natCast, if_neg (by omega), if_pos hca]
          refine wp_region_held_drew (S := fun W => Below wa.heap.size wa W) (by kernel_rfl) ((Below.refl _ _).drew) (fun hS => ?_)
          refine any_take (i := 0) (v := ?_) rfl (by kernel_rfl) (by kernel_rfl) (by kernel_rfl) (by exact fun _ _ _ h => h) (by rfl) ?_ hS ?_
          rotate_left
          · ((intro w hSw; obtain ⟨ya, k1, ky⟩ := HS7.out _ hSw; go_simp) <;> with_reducible rfl)
          (try simp only [Act.put, List.setIfInBounds_toArray, List.set_cons_zero, List.set_cons_succ])
          refine any_take (i := 1) (v := ?_) rfl (by kernel_rfl) (by kernel_rfl) (by kernel_rfl) (by exact fun _ _ _ h => h) (by rfl) ?_ hS ?_
          rotate_left
          · ((intro w hSw; obtain ⟨ya, k1, ky⟩ := HS7.out _ hSw; go_simp) <;> with_reducible rfl)
          (try simp only [Act.put, List.setIfInBounds_toArray, List.set_cons_zero, List.set_cons_succ])
          refine any_take (i := 2) (v := ?_) rfl (by kernel_rfl) (by kernel_rfl) (by kernel_rfl) (by exact fun _ _ _ h => h) (by rfl) ?_ hS ?_
          rotate_left
          · ((intro w hSw; obtain ⟨ya, k1, ky⟩ := HS7.out _ hSw; go_simp) <;> with_reducible rfl)
          (try simp only [Act.put, List.setIfInBounds_toArray, List.set_cons_zero, List.set_cons_succ])
          refine any_skip (i := 3) rfl (by kernel_rfl) (by kernel_rfl) (by kernel_rfl) (by exact fun _ _ _ h => h) (by rfl) hS ?_
          (try simp only [Act.put, List.setIfInBounds_toArray, List.set_cons_zero, List.set_cons_succ])
          refine any_skip (i := 4) rfl (by kernel_rfl) (by kernel_rfl) (by kernel_rfl) (by exact fun _ _ _ h => h) (by rfl) hS ?_
          (try simp only [Act.put, List.setIfInBounds_toArray, List.set_cons_zero, List.set_cons_succ])
          refine any_skip (i := 5) rfl (by kernel_rfl) (by kernel_rfl) (by kernel_rfl) (by exact fun _ _ _ h => h) (by rfl) hS ?_
          (try simp only [Act.put, List.setIfInBounds_toArray, List.set_cons_zero, List.set_cons_succ])
          refine any_skip (i := 6) rfl (by kernel_rfl) (by kernel_rfl) (by kernel_rfl) (by exact fun _ _ _ h => h) (by rfl) hS ?_
          (try simp only [Act.put, List.setIfInBounds_toArray, List.set_cons_zero, List.set_cons_succ])
          refine any_skip (i := 7) rfl (by kernel_rfl) (by kernel_rfl) (by kernel_rfl) (by exact fun _ _ _ h => h) (by rfl) hS ?_
          (try simp only [Act.put, List.setIfInBounds_toArray, List.set_cons_zero, List.set_cons_succ])
          refine any_skip (i := 8) rfl (by kernel_rfl) (by kernel_rfl) (by kernel_rfl) (by exact fun _ _ _ h => h) (by rfl) hS ?_
          (try simp only [Act.put, List.setIfInBounds_toArray, List.set_cons_zero, List.set_cons_succ])
          refine any_skip (i := 9) rfl (by kernel_rfl) (by kernel_rfl) (by kernel_rfl) (by exact fun _ _ _ h => h) (by rfl) hS ?_
          (try simp only [Act.put, List.setIfInBounds_toArray, List.set_cons_zero, List.set_cons_succ])
          refine any_skip (i := 10) rfl (by kernel_rfl) (by kernel_rfl) (by kernel_rfl) (by exact fun _ _ _ h => h) (by rfl) hS ?_
          (try simp only [Act.put, List.setIfInBounds_toArray, List.set_cons_zero, List.set_cons_succ])
          refine any_skip (i := 11) rfl (by kernel_rfl) (by kernel_rfl) (by kernel_rfl) (by exact fun _ _ _ h => h) (by rfl) hS ?_
          (try simp only [Act.put, List.setIfInBounds_toArray, List.set_cons_zero, List.set_cons_succ])
          refine any_skip (i := 12) rfl (by kernel_rfl) (by kernel_rfl) (by kernel_rfl) (by exact fun _ _ _ h => h) (by rfl) hS ?_
          (try simp only [Act.put, List.setIfInBounds_toArray, List.set_cons_zero, List.set_cons_succ])
          refine any_skip (i := 13) rfl (by kernel_rfl) (by kernel_rfl) (by kernel_rfl) (by exact fun _ _ _ h => h) (by rfl) hS ?_
          (try simp only [Act.put, List.setIfInBounds_toArray, List.set_cons_zero, List.set_cons_succ])
          refine any_skip (i := 14) rfl (by kernel_rfl) (by kernel_rfl) (by kernel_rfl) (by exact fun _ _ _ h => h) (by rfl) hS ?_
          (try simp only [Act.put, List.setIfInBounds_toArray, List.set_cons_zero, List.set_cons_succ])
          refine any_skip (i := 15) rfl (by kernel_rfl) (by kernel_rfl) (by kernel_rfl) (by exact fun _ _ _ h => h) (by rfl) hS ?_
          (try simp only [Act.put, List.setIfInBounds_toArray, List.set_cons_zero, List.set_cons_succ])
          refine any_skip (i := 16) rfl (by kernel_rfl) (by kernel_rfl) (by kernel_rfl) (by exact fun _ _ _ h => h) (by rfl) hS ?_
          (try simp only [Act.put, List.setIfInBounds_toArray, List.set_cons_zero, List.set_cons_succ])
          refine any_skip (i := 17) rfl (by kernel_rfl) (by kernel_rfl) (by kernel_rfl) (by exact fun _ _ _ h => h) (by rfl) hS ?_
          (try simp only [Act.put, List.setIfInBounds_toArray, List.set_cons_zero, List.set_cons_succ])
          refine any_take (i := 18) (v := ?_) rfl (by kernel_rfl) (by kernel_rfl) (by kernel_rfl) (by exact fun _ _ _ h => h) (by rfl) ?_ hS ?_
          rotate_left
          · ((intro w hSw; skip; go_simp) <;> with_reducible rfl)
          (try simp only [Act.put, List.setIfInBounds_toArray, List.set_cons_zero, List.set_cons_succ])
          refine wpAnyH_done (by kernel_rfl) ?_ _
          clear hS
          have bd : Below wa.heap.size wa wa.drew := (Below.refl _ _).drew
          have RTX := HA.out.1.later bd
          have BC := HA.out.2.1.laterB bd
          have BR := HA.out.2.2.1.laterB bd
          have BA := HA.out.2.2.2.1.laterB bd
          have HSX : w.heap.size + 2 ≤ wa.drew.heap.size := HA.out.2.2.2.2
          clear bd HA HS7
          generalize wa.drew = wd at *
          have HMD : Hid _ := HMD0
          clear HMD0
          have HA0 : Hid _ := ignA_any g m i c _ RTX.ok hi hnw
          have ya := blk_at BA 2
          simp only [List.getElem?_cons_zero, List.getElem?_cons_succ] at ya
          have k0 := blk_at BC 0
          have k1 := blk_at BC 1
          have k2 := blk_at BC 2
          have k3 := blk_at BC 3
          simp only [List.getElem?_cons_zero, List.getElem?_cons_succ] at k0 k1 k2 k3
          have HX : Hid _ := And.intro RTX (And.intro BR (And.intro HSX trivial))
          clear RTX BC BR BA
          go_wp2_with fail
          clear ya k0 k1 k2 k3
          refine (Calls.mono HA0.out) ?_
          rintro e we ⟨v, rfl, hN, rt⟩
          have r3' := HX.out.1.trans rt
          have B3 := rt.blk HX.out.2.1 (by have := H1.out.2.2.2.2; omega)
          have hN' := hN.lower HX.out.1.size
          have han : ∀ b, v.ownBlock = some b → b ≠ w.heap.size + 1 := fun b hb => by have := hN.new b hb; have := HX.out.2.2.1; omega
          clear HA0 HX rt hN HSX
          obtain ⟨va, vc, hv, -, -⟩ := hN'.own.open
          rw [hv] at hN' han ⊢
          generalize (ignA m i c) = A at *
          obtain ⟨⟨a1, a2, a3, a4⟩, m', l'⟩ := A
          simp only [rpV] at *
          have y0 := blk_at B3 0
          have f0 := blk_frozen B3 0
          have y1 := blk_at B3 1
          have f1 := blk_frozen B3 1
          have y2 := blk_at B3 2
          have f2 := blk_frozen B3 2
          have y3 := blk_at B3 3
          have f3 := blk_frozen B3 3
          have y4 := blk_at B3 4
          have f4 := blk_frozen B3 4
          simp only [List.getElem?_cons_zero, List.getElem?_cons_succ] at y0 y1 y2 y3 y4
          have SP := rp5_blk B3 a1 a2 a3 a4
          have G : Hid _ := And.intro SP.1 (And.intro (r3'.codes SP.2 (by omega) H1.out.2.2.2.2) (hN'.keep SP.2 han))
          unfold rp5 at G
          clear SP B3
          go_wp2
          clear y0 y1 y2 y3 y4 f0 f1 f2 f3 f4
          generalize (((((we).setCell ⟨w.heap.size + 1, 0, none⟩ (.int .i64 a1)).setCell ⟨w.heap.size + 1, 1, none⟩ (.int .i64 a2)).setCell ⟨w.heap.size + 1, 2, none⟩ (.int .i64 a3)).setCell ⟨w.heap.size + 1, 3, none⟩ (.int .i64 a4)).setCell ⟨w.heap.size + 1, 4, none⟩ (.slice none 0 0) = wf at *
          have y0 := blk_at G.out.1 0
          have y1 := blk_at G.out.1 1
          have y2 := blk_at G.out.1 2
          have y3 := blk_at G.out.1 3
          have y4 := blk_at G.out.1 4
          simp only [List.getElem?_cons_zero, List.getElem?_cons_succ] at y0 y1 y2 y3 y4
          refine bodyPost_ret (v := .tuple #[.agg #[.int .i64 a1, .int .i64 a2, .int .i64 a3, .int .i64 a4, .slice none 0 0], .slice va l'.length vc]) (by simp [results, Try.results7, go_sem, y0, y1, y2, y3, y4]) rfl ?_
          rw [HMD.out]
          exact ⟨_, rfl, G.out.2.2, G.out.2.1⟩
        · have hne : ((6 : Int) != c.a) = true := by rw [bne_iff_ne]; exact fun e => hca e.symm
          go_wp2_with (first | (refine wpList_value rfl (exec_index rfl rfl rfl hix) ?_) | (refine wpList_skip rfl (exec_store rfl rfl rfl (store_ac _ _ _ _ _)) ?_))
          go_roundw
          case rel => exact ⟨6, by omega, rfl, (fun j hj => by exact prev_step hprev hca j hj), HA.out.1, HA.out.2.1, HA.out.2.2.1, HA.out.2.2.2.2⟩
          case measure => simp [intOf]
    | 6, _, hpr =>
      have e0 := hpr 0 (by omega)
      have e1 := hpr 1 (by omega)
      have e2 := hpr 2 (by omega)
      have e3 := hpr 3 (by omega)
      have e4 := hpr 4 (by omega)
      have e5 := hpr 5 (by omega)
      simp only [acN] at e0 e1 e2 e3 e4 e5
      have HMD0 : doM m (i : Int) c = ((2, 5, 36, 0), m, []) := by unfold doM; rw [if_neg (by rw [nxB_nat hi]; decide), if_neg e0, if_neg e5, if_neg (by omega)]
      have HMD : Hid _ := HMD0
      have RTW := K1
      have BW := K3
      clear HMD0 K1 K2 K3 K4 e0 e1 e2 e3 e4 e5 hpr
      have HG : Hid _ := wrong_any wr
      go_wp2_with fail
      refine (Calls.mono HG.out) ?_
      rintro e w9 ⟨rfl, b9⟩
      have r3' := RTW.later b9
      have B3 := BW.laterB b9
      have hN' : Nts w w9 (.slice none 0 0) [] := Nts.nil _ _
      have han : ∀ b, (Value.slice none 0 0).ownBlock = some b → b ≠ w.heap.size + 1 := fun b hb => by cases hb
      clear HG b9 RTW BW
      have y0 := blk_at B3 0
      have f0 := blk_frozen B3 0
      have y1 := blk_at B3 1
      have f1 := blk_frozen B3 1
      have y2 := blk_at B3 2
      have f2 := blk_frozen B3 2
      have y3 := blk_at B3 3
      have f3 := blk_frozen B3 3
      have y4 := blk_at B3 4
      have f4 := blk_frozen B3 4
      simp only [List.getElem?_cons_zero, List.getElem?_cons_succ] at y0 y1 y2 y3 y4
      have SP := rp5_blk B3 (2) (5) (36) (0)
      have G : Hid _ := And.intro SP.1 (And.intro (r3'.codes SP.2 (by omega) H1.out.2.2.2.2) (hN'.keep SP.2 han))
      unfold rp5 at G
      clear SP B3
      go_wp2
      clear y0 y1 y2 y3 y4 f0 f1 f2 f3 f4
      generalize (((((w9).setCell ⟨w.heap.size + 1, 0, none⟩ (.int .i64 2)).setCell ⟨w.heap.size + 1, 1, none⟩ (.int .i64 5)).setCell ⟨w.heap.size + 1, 2, none⟩ (.int .i64 36)).setCell ⟨w.heap.size + 1, 3, none⟩ (.int .i64 0)).setCell ⟨w.heap.size + 1, 4, none⟩ (.slice none 0 0) = wf at *
      have y0 := blk_at G.out.1 0
      have y1 := blk_at G.out.1 1
      have y2 := blk_at G.out.1 2
      have y3 := blk_at G.out.1 3
      have y4 := blk_at G.out.1 4
      simp only [List.getElem?_cons_zero, List.getElem?_cons_succ] at y0 y1 y2 y3 y4
      refine bodyPost_ret (v := .tuple #[.agg #[.int .i64 2, .int .i64 5, .int .i64 36, .int .i64 0, .slice none 0 0], .slice none 0 0]) (by simp [results, Try.results7, go_sem, y0, y1, y2, y3, y4]) rfl ?_
      exact ⟨_, by rw [HMD.out]; rfl, by rw [HMD.out]; exact G.out.2.2, by rw [HMD.out]; exact G.out.2.1⟩
end Go.Proofs.Ytlopkfenbeahgaa

