/- extent: a block is read. -/
import Derived.Test.YtmkacgdbmojomaaXErF
import Derived.Test.YtmkacgdbmojomaaXLd3
namespace Go.Proofs.Ytmkacgdbmojomaa
open Go.RowKit
set_option linter.unusedVariables false
set_option linter.unusedSimpArgs false
set_option maxRecDepth 8000

set_option maxHeartbeats 400000 in
theorem isShort_any (F : List Nat) (g : Nat) (L : List (BitVec 8)) (E : Int) (w : World) (hR : Rd w F g 116 L E) : Calls Try.prog 38 #[.pointer (some ⟨g, 0, none⟩)] w fun e w' => e = .returned (.bool (rdEnd L E == 10)) ∧ w = w' := by
  have H : Hid _ := End_any F g L E w hR
  clear hR
  go_enter Try.func38, Try.ntmps38
  go_wp2_with fail
  refine (Calls.mono H.out) ?_
  rintro e _ ⟨rfl, rfl⟩
  go_wp2
  go_ret
  exact ⟨rfl, rfl⟩
/-- the reader behind j words -/
def rw8 (L : List (BitVec 8)) (E : Int) : Nat → List (BitVec 8) × Int
  | 0 => (L, E)
  | j + 1 => ((rdNum (rw8 L E j).1 (rw8 L E j).2 8).1, (rdNum (rw8 L E j).1 (rw8 L E j).2 8).2.1)
theorem rd8_yes (L : List (BitVec 8)) (h : 8 ≤ L.length) : rdNum L 0 8 = (L.drop 8, 0, wrap64 ((num (L.take 8)).toNat : Int)) := by
  have hw : widthB 8 = true := by decide
  have hn : numE L.length 8 = 0 := by unfold numE; rw [hw, if_neg (by decide), if_neg (by omega)]
  unfold rdNum
  rw [if_pos rfl, if_pos hn]
  rfl
theorem rd8_no (L : List (BitVec 8)) (h : L.length < 8) : rdNum L 0 8 = ([], 10, 0) := by
  have hw : widthB 8 = true := by decide
  have hn : numE L.length 8 = 10 := by unfold numE; rw [hw, if_neg (by decide), if_pos (by omega)]
  unfold rdNum
  rw [if_pos rfl, hn, if_neg (by decide)]
theorem rd8_bad (L : List (BitVec 8)) (E : Int) (h : E ≠ 0) : rdNum L E 8 = ([], E, 0) := by unfold rdNum; rw [if_neg h]
theorem rw8_ok (L : List (BitVec 8)) (j : Nat) (h : 8 * j ≤ L.length) : rw8 L 0 j = (L.drop (8 * j), 0) := by
  induction j with
  | zero => rfl
  | succ j ih =>
    have := ih (by omega)
    unfold rw8
    rw [this, rd8_yes _ (by rw [List.length_drop]; omega), List.drop_drop]
    rfl
theorem rw8_err (L : List (BitVec 8)) (E : Int) (hE : E ≠ 0) (j : Nat) : (rw8 L E j).2 = E := by
  induction j with
  | zero => rfl
  | succ j ih =>
    unfold rw8
    rw [rd8_bad _ _ (by rw [ih]; exact hE)]
    exact ih
theorem rw8_short (L : List (BitVec 8)) (j : Nat) (h : L.length < 8 * j) : (rw8 L 0 j).2 = 10 := by
  induction j with
  | zero => omega
  | succ j ih =>
    by_cases h1 : L.length < 8 * j
    · have := ih h1
      unfold rw8
      rw [rd8_bad _ _ (by rw [this]; decide)]
      exact this
    · unfold rw8
      rw [rw8_ok L j (by omega), rd8_no _ (by rw [List.length_drop]; omega)]
/-- the word's bytes laid into the block, i of them -/
def ins8 (bl : List (BitVec 8)) (p : Nat) (X : List (BitVec 8)) (i : Nat) : List (BitVec 8) := bl.take p ++ X.take i ++ bl.drop (p + i)
theorem ins8_zero (bl : List (BitVec 8)) (p : Nat) (X : List (BitVec 8)) : ins8 bl p X 0 = bl := by unfold ins8; simp
theorem ins8_len {bl : List (BitVec 8)} {p : Nat} {X : List (BitVec 8)} {i : Nat} (hX : i ≤ X.length) (hp : p + i ≤ bl.length) : (ins8 bl p X i).length = bl.length := by
  unfold ins8; rw [List.length_append, List.length_append, List.length_take, List.length_take, List.length_drop]; omega
theorem ins8_set {bl : List (BitVec 8)} {p : Nat} {X : List (BitVec 8)} {i : Nat} (hX : i < X.length) (hp : p + i < bl.length) : (vals (ins8 bl p X i)).set (p + i) (.int .u8 (X[i].toNat : Int)) = vals (ins8 bl p X (i + 1)) := by
  have hA : (bl.take p ++ X.take i).length = p + i := by rw [List.length_append, List.length_take, List.length_take]; omega
  unfold ins8 vals
  rw [List.map_append, List.map_append (l₁ := bl.take p ++ X.take (i + 1)), List.set_append_right _ _ (by rw [List.length_map, hA]; exact Nat.le_refl _), List.length_map, hA, Nat.sub_self]
  rw [← List.take_append_getElem hX, ← List.append_assoc, List.map_append (l₁ := bl.take p ++ X.take i), List.append_assoc]
  congr 1
  rw [List.drop_eq_getElem_cons hp, List.map_cons, List.set_cons_zero, Nat.add_assoc]
  rfl
theorem splice_consF {α : Type} (xs : List α) (o : Nat) (v : α) (r : List α) (h : o + 1 + r.length ≤ xs.length) : splice (xs.set o v) (o + 1) r = splice xs o (v :: r) := by
  unfold splice
  have e1 : (xs.set o v).take (o + 1) = xs.take o ++ [v] := by
    rw [List.take_succ_eq_append_getElem (by simp; omega), List.take_set_of_le (Nat.le_refl _)]
    simp
  have e2 : (xs.set o v).drop (o + 1 + r.length) = xs.drop (o + (v :: r).length) := by
    rw [List.drop_set, if_pos (by omega)]
    congr 1
    simp; omega
  rw [e1, e2]
  simp
theorem Blk.setCellsF {g : Nat} {t : TypeId} : ∀ (vs : List Value) (o : Nat) (w : World) (xs : List Value), Blk w g t xs → o + vs.length ≤ xs.length → Blk (w.setCells g o vs) g t (splice xs o vs) ∧ w.grownBy (w.setCells g o vs) (some g)
  | [], o, w, xs, h, hl => ⟨by simpa [World.setCells, splice] using h, ⟨rfl, rfl, rfl, Nat.le_refl _, fun _ _ _ => rfl⟩⟩
  | v :: r, o, w, xs, h, hl => by
    have hl' : o + 1 + r.length ≤ xs.length := by simp at hl; omega
    obtain ⟨h1, h2⟩ := Blk.setCellsF r (o + 1) (w.setCell ⟨g, o, none⟩ v) (xs.set o v) (h.set o v) (by rw [List.length_set]; exact hl')
    rw [splice_consF xs o v r hl'] at h1
    exact ⟨h1, grown_trans (grown_set w g o v) h2⟩

theorem turned_one {w w' : World} {g : Nat} (h : Turned (fun k => k = g) w w') : w.grownBy w' (some g) := ⟨h.os, h.tape, h.output, h.size, fun k hk hn => h.block k hk (fun e => hn (by rw [e]))⟩
theorem storeBlk {w : World} {g : Nat} {xs : List Value} {l : List (BitVec 8)} (hB : Blk w g 77 xs) (hx : xs.length = 64) (hl : l.length = 64) :
    ∃ w', (Instr.storeAt 77 (.pointer (some ⟨g, 0, none⟩)) (arrV l)).run Try.prog w = .ok () w' ∧ Blk w' g 77 (vals l) ∧ w.grownBy w' (some g) := by
  have h := run_storeCells_cells (P := Try.prog) g 0 (vals l) 0 w (fun j hj => by
    rw [vals_length] at hj
    rw [Nat.zero_add, hB.cell (by rw [hx]; simp [maxLen]) j (by omega), List.getElem?_eq_getElem (by omega)]; rfl) (fun j hj => hB.frozen (by rw [hx]; simp [maxLen]) _) (by intro u hu; unfold vals at hu; obtain ⟨c, -, rfl⟩ := List.mem_map.1 hu; rfl)
  obtain ⟨i, hi, hz⟩ := Option.map_eq_some_iff.1 size_blk
  obtain ⟨h2, h3⟩ := Blk.setCellsF (vals l) 0 w xs hB (by rw [vals_length]; omega)
  have e : splice xs 0 (vals l) = vals l := by unfold splice; simp [hx, vals_length, hl]
  rw [e] at h2
  refine ⟨w.setCells g 0 (vals l), ?_, h2, h3⟩
  simp [Instr.storeAt, Instr.sureAddr, storeVar, Sem.run_bind, sizeOf, typeInfo, hi, hz, Value.cells, arrV, h, vals_length, hl]
theorem load_blkV {w : World} {y : Nat} {l : List (BitVec 8)} (hB : Blk w y 77 (vals l)) (hl : l.length = 64) : (loadVar 77 ⟨y, 0, none⟩).run Try.prog w = .ok (arrV l) w := by
  have h := load_blk (blk_row hB) hl
  simpa [Instr.loadAt, Instr.sureAddr, Sem.run_bind] using h
theorem res_blk {fn : Func} {tmps : Array Value} {k : Nat} {l : List (BitVec 8)} {w : World} (h1 : tmps.getD 2 undef = .pointer (some ⟨k, 0, none⟩)) (hB : Blk w k 77 (vals l)) (hl : l.length = 64) (hf : fn.results = #[.cell 2 77]) : (results fn tmps).run Try.prog w = .ok (arrV l) w := by
  have k1 : tmps[2]?.getD undef = .pointer (some ⟨k, 0, none⟩) := by simpa using h1
  simp [results, hf, k1, load_blkV hB hl, asAddr, Sem.run_bind]
theorem be8_byte (x : BitVec 64) (i : Nat) (hi : i < 8) : ((be 8 x)[i]'(by rw [be_length 8 x (by omega)]; exact hi)).toNat = x.toNat / 2 ^ (8 * (7 - i)) % 256 := by
  have h : i = 0 ∨ i = 1 ∨ i = 2 ∨ i = 3 ∨ i = 4 ∨ i = 5 ∨ i = 6 ∨ i = 7 := by omega
  rcases h with rfl | rfl | rfl | rfl | rfl | rfl | rfl | rfl <;> simp [be, be8, BitVec.toNat_setWidth, BitVec.toNat_ushiftRight, Nat.shiftRight_eq_div_pow]
theorem val8 (v : Int) (i : Nat) (hi : i < 8) : (max (v % 18446744073709551616) 0 / 2 ^ (8 * (7 - i)) % 256 : Int) = (((be 8 (BitVec.ofInt 64 v))[i]'(by rw [be_length 8 _ (by omega)]; exact hi)).toNat : Int) := by
  rw [be8_byte _ i hi]
  have e : max (v % 18446744073709551616) 0 = ((BitVec.ofInt 64 v).toNat : Int) := by
    rw [BitVec.toNat_ofInt]
    omega
  rw [e]
  simp
def RbR (F : List Nat) (g : Nat) (L : List (BitVec 8)) (E : Int) (w : World) (e : Ending) (w' : World) : Prop :=
  ∃ bl, bl.length = 64 ∧ e = .returned (arrV bl) ∧ (E = 0 → 64 ≤ L.length → bl = L.take 64) ∧ Rd w' F g 116 (rw8 L E 8).1 (rw8 L E 8).2 ∧ w.grownBy w' (some g)
set_option maxHeartbeats 16000000 in
theorem readBlock_any (F : List Nat) (g : Nat) (L : List (BitVec 8)) (E : Int) (w : World) (hR : Rd w F g 116 L E) : Calls Try.prog 73 #[.pointer (some ⟨g, 0, none⟩)] w fun e w' => RbR F g L E w e w' := by
  have hgl := hR.blt
  have b1 : Below w.heap.size w (w.alloc (.cells (vals zero64).toArray 77)) := (Below.refl _ _).alloc (Nat.le_refl _) _
  have b2 : Below (w.alloc (.cells (vals zero64).toArray 77)).heap.size (w.alloc (.cells (vals zero64).toArray 77)) ((w.alloc (.cells (vals zero64).toArray 77)).alloc (.cells (vals zero64).toArray 77)) := (Below.refl _ _).alloc (Nat.le_refl _) _
  have z1 : (w.alloc (.cells (vals zero64).toArray 77)).heap.size = w.heap.size + 1 := by simp
  have B1 : Blk ((w.alloc (.cells (vals zero64).toArray 77)).alloc (.cells (vals zero64).toArray 77)) w.heap.size 77 (vals zero64) := (Blk.new' w _ _).laterB b2
  have B2 : Blk ((w.alloc (.cells (vals zero64).toArray 77)).alloc (.cells (vals zero64).toArray 77)) (w.heap.size + 1) 77 (vals zero64) := by have := Blk.new' (w.alloc (.cells (vals zero64).toArray 77)) 77 (vals zero64); rw [z1] at this; exact this
  have R2 : Rd ((w.alloc (.cells (vals zero64).toArray 77)).alloc (.cells (vals zero64).toArray 77)) (w.heap.size :: (w.heap.size + 1) :: F) g 116 L E := ((hR.more (w.heap.size + 1) (by omega)).more w.heap.size (Nat.le_refl _)).later (below_then b1 b2)
  have t2 : Turned (fun k => k = g) w ((w.alloc (.cells (vals zero64).toArray 77)).alloc (.cells (vals zero64).toArray 77)) := (turned_below (below_then b1 b2)).mono (fun _ h => h.elim)
  have H2 : Hid _ := And.intro B1 (And.intro B2 (And.intro R2 t2))
  clear b1 b2 z1 B1 B2 R2 t2 hR
  go_enter Try.func73, Try.ntmps73
  go_wp2_with (first | (refine wpList_value rfl (exec_alloc rfl (alloc_blk _)) ?_))
  generalize ((w.alloc (.cells (vals zero64).toArray 77)).alloc (.cells (vals zero64).toArray 77)) = w2 at *
  go_loopw [4] (fun av wr => ∃ (j : Nat) (bl : List (BitVec 8)), j ≤ 8 ∧ av = .int .i64 ((8 * j : Nat) : Int) ∧ bl.length = 64 ∧ Blk wr w.heap.size 77 (vals zero64) ∧ Blk wr (w.heap.size + 1) 77 (vals bl) ∧ Rd wr (w.heap.size :: (w.heap.size + 1) :: F) g 116 (rw8 L E j).1 (rw8 L E j).2 ∧ Turned (fun k => k = g) w wr ∧ (E = 0 → 8 * j ≤ L.length → bl.take (8 * j) = L.take (8 * j))) (fun av _ => 64 - (intOf av).toNat)
  case atStart => exact ⟨0, zero64, by omega, rfl, by simp [zero64], H2.out.1, H2.out.2.1, H2.out.2.2.1, H2.out.2.2.2, fun _ _ => rfl⟩
  case round =>
    obtain ⟨j, bl, hj, rfl, hbl, hB1, hB2, hRd, hT, hC⟩ := hrel
    by_cases hlt : j < 8
    · have q1 : ((8 * j : Nat) : Int) < 64 := by omega
      have N := Num_any (w.heap.size :: (w.heap.size + 1) :: F) g (rw8 L E j).1 (rw8 L E j).2 8 wr hRd
      have hXc : E = 0 → 8 * (j + 1) ≤ L.length → be 8 (BitVec.ofInt 64 (rdNum (rw8 L E j).1 (rw8 L E j).2 8).2.2) = (L.drop (8 * j)).take 8 := by
        intro h0 h1
        subst h0
        rw [rw8_ok L j (by omega), rd8_yes _ (by rw [List.length_drop]; omega)]
        simp only
        rw [ofInt_wrap]
        exact be_num 8 _ (by rw [List.length_take, List.length_drop]; omega) (by omega)
      have e1 : (rdNum (rw8 L E j).1 (rw8 L E j).2 8).1 = (rw8 L E (j + 1)).1 := rfl
      have e2 : (rdNum (rw8 L E j).1 (rw8 L E j).2 8).2.1 = (rw8 L E (j + 1)).2 := rfl
      rw [e1, e2] at N
      generalize (rdNum (rw8 L E j).1 (rw8 L E j).2 8).2.2 = v at *
      have HN : Hid _ := N
      have HC : Hid _ := And.intro hXc (And.intro hC hbl)
      have HB : Hid _ := And.intro hB1 (And.intro hB2 hT)
      clear N e1 e2 hXc hC hB1 hB2 hT hRd
      go_wp2_with fail
      refine (Calls.mono HN.out) ?_
      rintro e w5 ⟨rfl, R5, g5⟩
      clear HN
      have h5 : g ≠ w.heap.size ∧ g ≠ w.heap.size + 1 := by omega
      have H5 : Hid _ := And.intro (blk_grown HB.out.1 g5 (fun e => h5.1 (Option.some.inj e))) (And.intro (blk_grown HB.out.2.1 g5 (fun e => h5.2 (Option.some.inj e))) (And.intro R5 (HB.out.2.2.trans (turned_grown (R := fun k => k = g ∨ w.heap.size ≤ k) g5 (fun k e => .inl (Option.some.inj e).symm)))))
      clear R5 g5 HB
      have hu : IntKind.u64.wrap v = ((BitVec.ofInt 64 v).toNat : Int) := by rw [BitVec.toNat_ofInt]; unfold IntKind.wrap; simp [IntKind.signed, IntKind.bits]; try omega
      go_wp2_with fail
      go_loopw [14] (fun iv wx => ∃ i : Nat, i ≤ 8 ∧ iv = .int .i64 i ∧ Blk wx w.heap.size 77 (vals zero64) ∧ Blk wx (w.heap.size + 1) 77 (vals (ins8 bl (8 * j) (be 8 (BitVec.ofInt 64 v)) i)) ∧ Rd wx (w.heap.size :: (w.heap.size + 1) :: F) g 116 (rw8 L E (j + 1)).1 (rw8 L E (j + 1)).2 ∧ Turned (fun k => k = g) w wx) (fun iv _ => 8 - (intOf iv).toNat)
      case atStart => exact ⟨0, by omega, rfl, H5.out.1, by rw [ins8_zero]; exact H5.out.2.1, H5.out.2.2.1, H5.out.2.2.2⟩
      case round =>
        obtain ⟨i, hi, rfl, hB1, hB2, hRd, hT⟩ := hrel
        by_cases hil : i < 8
        · have q9 : (i : Int) < 8 := by omega
          have hX : (be 8 (BitVec.ofInt 64 v)).length = 8 := be_length 8 _ (by omega)
          have hil2 : (ins8 bl (8 * j) (be 8 (BitVec.ofInt 64 v)) i).length = 64 := by rw [ins8_len (by omega) (by omega)]; exact hbl
          have y0 := hB2.cell (by rw [vals_length, hil2]; simp [maxLen]) (8 * j + i) (by rw [vals_length, hil2]; omega)
          obtain ⟨old, hold⟩ : ∃ old, (vals (ins8 bl (8 * j) (be 8 (BitVec.ofInt 64 v)) i))[8 * j + i]? = some old := ⟨_, List.getElem?_eq_getElem (by rw [vals_length, hil2]; omega)⟩
          rw [hold] at y0
          have f0 := hB2.frozen (by rw [vals_length, hil2]; simp [maxLen]) (8 * j + i)
          have g9 := grown_set wr (w.heap.size + 1) (8 * j + i) (.int .u8 (max (v % 18446744073709551616) 0 / 2 ^ (8 * (7 - i)) % 256))
          have B2' := hB2.set (8 * j + i) (.int .u8 (max (v % 18446744073709551616) 0 / 2 ^ (8 * (7 - i)) % 256))
          rw [show (vals (ins8 bl (8 * j) (be 8 (BitVec.ofInt 64 v)) i)).set (8 * j + i) (.int .u8 (max (v % 18446744073709551616) 0 / 2 ^ (8 * (7 - i)) % 256)) = vals (ins8 bl (8 * j) (be 8 (BitVec.ofInt 64 v)) (i + 1)) by rw [val8 v i hil]; exact ins8_set (by omega) (by omega)] at B2'
          have HW : Hid _ := And.intro (blk_grown hB1 g9 (fun e => by have := Option.some.inj e; omega)) (And.intro B2' (And.intro (hRd.keep g9 (fun k e => ⟨by have := Option.some.inj e; omega, .inl (by rw [← Option.some.inj e]; simp)⟩)) (hT.trans (turned_grown (R := fun k => k = g ∨ w.heap.size ≤ k) g9 (fun k e => .inr (by have := Option.some.inj e; omega))))))
          have hjI : (j : Int) < 8 := by omega
          clear hB1 hB2 hRd hT g9 B2' hold hX hil2
          go_wp2
          go_roundw
          case rel => exact ⟨i + 1, by omega, by go_num, HW.out.1, HW.out.2.1, HW.out.2.2.1, HW.out.2.2.2⟩
          case measure => simp [intOf]; omega
        · obtain rfl : i = 8 := by omega
          have hX : (be 8 (BitVec.ofInt 64 v)).length = 8 := be_length 8 _ (by omega)
          have hcc : E = 0 → 8 * (j + 1) ≤ L.length → (ins8 bl (8 * j) (be 8 (BitVec.ofInt 64 v)) 8).take (8 * (j + 1)) = L.take (8 * (j + 1)) := by
            intro h0 h1
            have k1 := HC.out.1 h0 h1
            have k2 := HC.out.2.1 h0 (by omega)
            unfold ins8
            rw [List.take_append_of_le_length (by rw [List.length_append, List.length_take, List.length_take]; omega), List.take_of_length_le (by rw [List.length_append, List.length_take, List.length_take]; omega), List.take_of_length_le (l := (be 8 (BitVec.ofInt 64 v))) (by omega), k1, k2, show 8 * (j + 1) = 8 * j + 8 by omega, List.take_add]
          have HW : Hid _ := And.intro hB1 (And.intro hB2 (And.intro hRd (And.intro hT (And.intro hcc (show (ins8 bl (8 * j) (be 8 (BitVec.ofInt 64 v)) 8).length = 64 by rw [ins8_len (by omega) (by omega)]; exact hbl)))))
          clear hB1 hB2 hRd hT hcc hX
          go_wp2
          go_roundw
          case rel => exact ⟨j + 1, _, by omega, by go_num, HW.out.2.2.2.2.2, HW.out.1, HW.out.2.1, HW.out.2.2.1, HW.out.2.2.2.1, HW.out.2.2.2.2.1⟩
          case measure => simp [intOf]; omega
    · obtain rfl : j = 8 := by omega
      have q1 : ¬ (((8 * 8 : Nat) : Int) < 64) := by omega
      obtain ⟨w9, hst, B9, g9⟩ := storeBlk (l := bl) hB1 (by rw [vals_length]; simp [zero64]) hbl
      have hld := load_blk (blk_row hB2) hbl
      have hc9 := fun h0 (h1 : 64 ≤ L.length) => by have := hC h0 (by omega); rwa [List.take_of_length_le (l := bl) (by omega)] at this
      have F : Hid _ := And.intro B9 (And.intro hbl (And.intro hc9 (And.intro ((hRd.keep g9 (fun k e => ⟨by have := Option.some.inj e; omega, .inl (by rw [← Option.some.inj e]; simp)⟩)).less (F' := F) (fun k hk => List.mem_cons_of_mem _ (List.mem_cons_of_mem _ hk))) (hT.trans (turned_grown (R := fun k => k = g ∨ w.heap.size ≤ k) g9 (fun k e => .inr (by have := Option.some.inj e; omega)))))))
      clear B9 g9 hRd hT hC hc9 hB1 hB2 hj hlt
      go_wp2_with (first | (refine wpList_value rfl (exec_load rfl rfl hld) ?_) | (refine wpList_skip rfl (exec_store rfl rfl rfl hst) ?_))
      refine bodyPost_ret (v := arrV bl) (res_blk rfl F.out.1 F.out.2.1 rfl) rfl ?_
      exact ⟨bl, F.out.2.1, rfl, F.out.2.2.1, F.out.2.2.2.1, turned_one F.out.2.2.2.2⟩
end Go.Proofs.Ytmkacgdbmojomaa

