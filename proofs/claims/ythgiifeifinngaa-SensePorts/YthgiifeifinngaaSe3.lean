/- sense: the document's Capacity; Luns, the program's and the document's; known. -/
import Derived.Test.YthgiifeifinngaaSe2
namespace Go.Proofs.Ythgiifeifinngaa
open Go.RowKit
set_option linter.unusedVariables false
set_option linter.unusedSimpArgs false
set_option maxRecDepth 4000

theorem over_8a (x : BitVec 64) : over (List.replicate 8 0#8) 0 (be 4 x) = be 4 x ++ List.replicate 4 0#8 := by
  simp [over, be4_len]
theorem over_8b (x y : BitVec 64) : over (be 4 x ++ List.replicate 4 0#8) 4 (be 4 y) = be 4 x ++ be 4 y := by
  have h1 : (be 4 x ++ List.replicate 4 0#8).take 4 = be 4 x := List.take_left' (be4_len x)
  have h2 : (be 4 x ++ List.replicate 4 0#8).drop 8 = [] := List.drop_eq_nil_of_le (by simp [be4_len])
  simp only [over, be4_len, h1, h2, List.append_nil]
theorem cp_no {n : Int} (h : ¬ (1 ≤ n ∧ n ≤ 256)) : Hid (cpE n = 1 ∧ cpB n = []) := by
  have h' : ¬ fromB 1 n 256 = true := fun e => h (of_decide_eq_true e)
  exact ⟨if_neg h', if_neg h'⟩
theorem made_ow (u : World) (N : Nat) (hN : N ≤ maxLen) : Own (u.alloc (.cells (vals (List.replicate N 0#8)).toArray 5)) u.heap.size (.slice (some ⟨u.heap.size, 0, none⟩) N N) (List.replicate N 0#8) := by
  have h := Own.ofBlock (base := u.heap.size) (cap := N) (l := List.replicate N 0#8) (Nat.le_refl _) (Blk.new' u 5 (vals (List.replicate N 0#8))) (by simp) hN (by simp [vals]) (by simp [vals])
  simpa using h
set_option maxHeartbeats 1000000 in
theorem rcap_any (n : Int) (w : World) :
    Calls Try.prog 19 #[.int .i64 n] w fun e w' => ∃ z, e = .returned (.tuple #[z, .int .i64 (cpE n)]) ∧ Own w' w.heap.size z (cpB n) ∧ Below w.heap.size w w' := by
  by_cases h1 : n < 1
  · have e1 : Hid (cpE n = 1 ∧ cpB n = []) := cp_no (by omega)
    go_enter Try.func19, Try.ntmps19
    go_wp2
    go_ret2
    refine ⟨.slice none 0 0, by rw [e1.out.1]; try rfl, ?_, Below.refl _ _⟩
    rw [e1.out.2]; exact Own.nil _ _
  · by_cases h2 : n > 256
    · have e1 : Hid (cpE n = 1 ∧ cpB n = []) := cp_no (by omega)
      go_enter Try.func19, Try.ntmps19
      go_wp2
      go_ret2
      refine ⟨.slice none 0 0, by rw [e1.out.1]; try rfl, ?_, Below.refl _ _⟩
      rw [e1.out.2]; exact Own.nil _ _
    · have hB : 1 ≤ n ∧ n ≤ 256 := ⟨by omega, by omega⟩
      have h : fromB 1 n 256 = true := decide_eq_true hB
      have e1 : Hid (cpE n = 0 ∧ cpB n = be 4 (BitVec.ofInt 64 (n - 1)) ++ be 4 (BitVec.ofInt 64 64)) := ⟨if_pos h, if_pos h⟩
      have v1 : IntKind.i64.wrap (n - 1) = n - 1 := by rw [IntKind.wrap_i64]; omega
      have d1 : decide (n < 1) = false := decide_eq_false h1
      have d2 : decide (n > 256) = false := decide_eq_false h2
      have HB : Hid _ := hB
      clear h1 h2 hB h
      have hmk : (Instr.makeSlice 22 (.int .i64 8) (.int .i64 8)).run Try.prog w = _ := seMake 8 (by omega) w
      have M0 := made_ow w 8 (by simp [maxLen])
      have bm : Below w.heap.size w (w.alloc (.cells (vals (List.replicate 8 0#8)).toArray 5)) := (Below.refl _ _).alloc (Nat.le_refl _) _
      generalize w.alloc (.cells (vals (List.replicate 8 0#8)).toArray 5) = w1 at *
      have M : Hid _ := And.intro M0 bm
      clear M0 bm
      obtain ⟨a1, c1, ea1, hle1, -, hr1, hn1, -⟩ := M.out.1.open
      have A : Hid _ := at_yes _ _ _ _ 0 4 (n - 1) w1 (by simp) hle1 hr1 hn1 (by simp) (by omega) (by omega) (by simp) (fits_4 ⟨by have := HB.out; omega, by have := HB.out; omega⟩)
      cases ea1
      clear hle1 hr1 hn1
      go_enter Try.func19, Try.ntmps19
      go_wp2_with fail
      refine (Calls.mono A.out) ?_
      rintro e w2 ⟨y2, rfl, o2, b2⟩
      rw [over_8a] at o2
      obtain ⟨a2, c2, rfl, hle2, -, hr2, hn2, -⟩ := o2.open
      have A2 : Hid _ := at_yes _ _ _ _ 4 4 64 w2 rfl hle2 hr2 hn2 (by simp [be4_len]) (by omega) (by omega) (by simp [be4_len]) (fits_4 (by omega))
      have F : Hid _ := below_then M.out.2 b2
      clear hle2 hr2 hn2 o2 b2 A M hmk
      go_wp2_with fail
      refine (Calls.mono A2.out) ?_
      rintro e w3 ⟨y3, rfl, o3, b3⟩
      rw [over_8b] at o3
      have G : Hid _ := And.intro (o3.lower F.out.size) (below_then F.out b3)
      clear o3 b3 A2 F
      go_wp2
      go_ret2
      refine ⟨y3, by rw [e1.out.1]; rfl, ?_, G.out.2⟩
      rw [e1.out.2]; exact G.out.1
/-- the bytes of the units from 0 on -/
def ub (k : Nat) : List (BitVec 8) := [0#8, b8 k, 0#8, 0#8, 0#8, 0#8, 0#8, 0#8]
def ubs : Nat → List (BitVec 8)
  | 0 => []
  | k + 1 => ubs k ++ ub k
theorem ubs_len (k : Nat) : (ubs k).length = 8 * k := by
  induction k with
  | zero => rfl
  | succ k ih => simp [ubs, ub, ih]; omega
theorem bk_row {w : World} {g : Nat} {t : TypeId} {l : List (BitVec 8)} (h : Blk w g t (vals l)) : Row w (some ⟨g, 0, none⟩) l := by
  refine .inr ⟨g, 0, rfl, fun i hi => ?_⟩
  rw [Nat.zero_add, bk_at h i, vals_at l i hi]
/-- Luns' error and bytes -/
def lnE (n : Int) : Int := if fromB 1 n 3 = true then 0 else 1
def lnB (n : Int) : List (BitVec 8) := if fromB 1 n 3 = true then (be 4 (BitVec.ofInt 64 (8 * n)) ++ be 4 (BitVec.ofInt 64 0)) ++ ubs n.toNat else []
theorem ln_no {n : Int} (h : ¬ (1 ≤ n ∧ n ≤ 3)) : Hid (lnE n = 1 ∧ lnB n = []) := by
  have h' : ¬ fromB 1 n 3 = true := fun e => h (of_decide_eq_true e)
  exact ⟨if_neg h', if_neg h'⟩
theorem slice8_0 (B : Nat) (W : World) : (Instr.sliceAt 56 (.pointer (some ⟨B, 0, none⟩)) none none none).run Try.prog W = .ok (.slice (some ⟨B, 0, none⟩) 8 8) W := by kernel_rfl
theorem ub_blk {W : World} {g : Nat} {t : TypeId} {k : Nat} (hk : k < 256) (h : Blk W g t [.int .u8 0, .int .u8 (k : Int), .int .u8 0, .int .u8 0, .int .u8 0, .int .u8 0, .int .u8 0, .int .u8 0]) : Row W (some ⟨g, 0, none⟩) (ub k) := by
  refine bk_row (t := t) ?_
  have e : (k : Int) % 256 = k := by omega
  simpa [vals, ub, b8_val, e] using h
set_option maxHeartbeats 2000000 in
theorem luns_any (n : Int) (w : World) :
    Calls Try.prog 20 #[.int .i64 n] w fun e w' => ∃ z, e = .returned (.tuple #[z, .int .i64 (lnE n)]) ∧ Own w' w.heap.size z (lnB n) ∧ Below w.heap.size w w' := by
  by_cases h : fromB 1 n 3 = true
  · have h' : 1 ≤ n ∧ n ≤ 3 := of_decide_eq_true h
    have e1 : Hid (lnE n = 0 ∧ lnB n = (be 4 (BitVec.ofInt 64 (8 * n)) ++ be 4 (BitVec.ofInt 64 0)) ++ ubs n.toNat) := ⟨if_pos h, if_pos h⟩
    obtain ⟨N, rfl⟩ : ∃ N : Nat, n = N := ⟨n.toNat, by omega⟩
    rw [Int.toNat_natCast, Int.mul_comm] at e1
    have hN : N ≤ 3 := by omega
    have v1 : IntKind.i64.wrap ((N : Int) * 8) = (N : Int) * 8 := by rw [IntKind.wrap_i64]; omega
    have F0 : Hid (Below w.heap.size w w) := Below.refl _ _
    clear h'
    go_enter Try.func20, Try.ntmps20
    go_wp2_with fail
    refine (Calls.mono (isFrom_any _ _ _ _)) ?_
    rintro e _ ⟨rfl, rfl⟩
    rw [h]
    have HN : Hid _ := NewWriter_any w.heap.size w F0.out.size
    go_wp2_with fail
    refine (Calls.mono HN.out) ?_
    rintro r u0 ⟨g, rfl, -, W0, b0⟩
    have J0 : Hid _ := And.intro W0 (below_then F0.out b0)
    clear W0 b0 HN
    have NN := wNum_any w.heap.size g _ ([]) 0 4 (N * 8) u0 J0.out.1 (by simp)
    rw [wrNum_ok 4 (N * 8) (wnE_4 (by omega))] at NN
    have HN : Hid _ := NN
    clear NN
    go_wp2_with fail
    refine (Calls.mono HN.out) ?_
    rintro r u1 ⟨rfl, x1, W1, -, t1⟩
    have J1 : Hid _ := And.intro W1 (J0.out.2.trans (wr_blw J0.out.1 t1))
    clear W1 t1 HN J0
    have NN := wNum_any w.heap.size g _ ([] ++ be 4 (BitVec.ofInt 64 (N * 8))) 0 4 (0) u1 J1.out.1 (by simp [be4_len])
    rw [wrNum_ok 4 (0) (wnE_4 (by omega))] at NN
    have HN : Hid _ := NN
    clear NN
    go_wp2_with fail
    refine (Calls.mono HN.out) ?_
    rintro r u2 ⟨rfl, x2, W1, -, t1⟩
    have J2 : Hid _ := And.intro W1 (J1.out.2.trans (wr_blw J1.out.1 t1))
    clear W1 t1 HN J1
    have HM : Hid _ := wEnd_any w.heap.size g _ (([] ++ be 4 (BitVec.ofInt 64 (N * 8))) ++ be 4 (BitVec.ofInt 64 (0))) 0 u2 J2.out.1 (by simp [be4_len])
    go_wp2_with fail
    refine (Calls.mono HM.out) ?_
    rintro r we ⟨z, rfl, o5, b5⟩
    rw [show ∀ L, wrEnd L 0 = L from fun L => if_pos rfl] at o5
    have G : Hid _ := And.intro (o5.lower J2.out.2.size) (below_then J2.out.2 b5)
    clear o5 b5 HM J2
    go_wp2_with fail
    go_loopw [5, 25] (fun bv iv wr => ∃ k : Nat, k ≤ N ∧ iv = .int .i64 k ∧ Own wr w.heap.size bv ((be 4 (BitVec.ofInt 64 ((N : Int) * 8)) ++ be 4 (BitVec.ofInt 64 0)) ++ ubs k) ∧ Below w.heap.size w wr) (fun _ iv _ => N - (intOf iv).toNat)
    case atStart => exact ⟨0, by omega, rfl, by have := G.out.1; simpa [ubs] using this, G.out.2⟩
    case round =>
      clear G
      obtain ⟨k, hk, rfl, ho, hb⟩ := hrel
      by_cases hlt : k < N
      · have B1 := Blk.new' wr 56 [.int .u8 0, .int .u8 (k : Int), .int .u8 0, .int .u8 0, .int .u8 0, .int .u8 0, .int .u8 0, .int .u8 0]
        have R2 := ub_blk (k := k) (by omega) B1
        have b2 : Below wr.heap.size wr (wr.alloc (.cells #[.int .u8 0, .int .u8 (k : Int), .int .u8 0, .int .u8 0, .int .u8 0, .int .u8 0, .int .u8 0, .int .u8 0] 56)) := (Below.refl _ _).alloc (Nat.le_refl _) _
        have q1 : (k : Int) < (N : Int) := by omega
        have HF : Hid _ := And.intro (ho.later b2) (And.intro R2 (below_then hb b2))
        have hsl := slice8_0
        have hul := ubs_len k
        clear ho hb R2 b2 B1
        go_wp2_with (at_builtin; refine wpList_append_bytes _ rfl _ _ rfl w.heap.size u5 _ rfl HF.out.1 (some ⟨wr.heap.size, 0, none⟩) 8 8 (ub k) rfl rfl HF.out.2.1 (fun h => by cases h) (by omega) (by simp [be4_len, hul]; omega) (Below.size HF.out.2.2) ?_)
        intro v' w' ho' hg'
        have hb' : Below w.heap.size w w' := (HF.out.2.2).grown hg' (Below.size HF.out.2.2) (own_block HF.out.1)
        have F : Hid (Own w' w.heap.size v' ((be 4 (BitVec.ofInt 64 ((N : Int) * 8)) ++ be 4 (BitVec.ofInt 64 0)) ++ ubs (k + 1)) ∧ Below w.heap.size w w') := ⟨by rw [ubs, ← List.append_assoc]; exact ho', hb'⟩
        clear ho' hg' hb' HF hsl hul
        go_wp2
        go_roundw
        case rel => exact ⟨k + 1, by omega, by go_num, F.out.1, F.out.2⟩
        case measure => simp [intOf]; omega
      · obtain rfl : k = N := by omega
        have F : Hid _ := And.intro ho hb
        clear ho hb
        go_wp2
        go_ret2
        refine ⟨_, by rw [e1.out.1]; rfl, ?_, F.out.2⟩
        rw [e1.out.2]; exact F.out.1
  · have h : fromB 1 n 3 = false := by simpa using h
    have e1 : Hid (lnE n = 1 ∧ lnB n = []) := ln_no (fun h' => by rw [show fromB 1 n 3 = true from decide_eq_true h'] at h; cases h)
    go_enter Try.func20, Try.ntmps20
    go_wp2_with fail
    refine (Calls.mono (isFrom_any _ _ _ _)) ?_
    rintro e _ ⟨rfl, rfl⟩
    rw [h]
    go_wp2
    go_ret2
    refine ⟨.slice none 0 0, by rw [e1.out.1]; try rfl, ?_, Below.refl _ _⟩
    rw [e1.out.2]; exact Own.nil _ _
end Go.Proofs.Ythgiifeifinngaa
