/- The bytes of an answer. -/
import Derived.Test.YtkcbbaanlkpeiaaXDd3
import Derived.Test.YtkcbbaanlkpeiaaXFieldX1
namespace Go.Proofs.Ytkcbbaanlkpeiaa
open Go.RowKit
set_option linter.unusedVariables false
set_option linter.unusedSimpArgs false
set_option maxRecDepth 4000

def byteOk (n : Int) : Prop := 0 ≤ n ∧ n ≤ 255
instance (n : Int) : Decidable (byteOk n) := inferInstanceAs (Decidable (_ ∧ _))
def fourOk (a b c d : Int) : Prop := byteOk a ∧ byteOk b ∧ byteOk c ∧ byteOk d
instance (a b c d : Int) : Decidable (fourOk a b c d) := inferInstanceAs (Decidable (_ ∧ _))
/-- the numbers' bytes, as far as they are written -/
def fourB (a b c d : Int) : Nat → List (BitVec 8)
  | 0 => []
  | 1 => [] ++ be 1 (BitVec.ofInt 64 a)
  | 2 => ([] ++ be 1 (BitVec.ofInt 64 a)) ++ be 1 (BitVec.ofInt 64 b)
  | 3 => (([] ++ be 1 (BitVec.ofInt 64 a)) ++ be 1 (BitVec.ofInt 64 b)) ++ be 1 (BitVec.ofInt 64 c)
  | _ => ((([] ++ be 1 (BitVec.ofInt 64 a)) ++ be 1 (BitVec.ofInt 64 b)) ++ be 1 (BitVec.ofInt 64 c)) ++ be 1 (BitVec.ofInt 64 d)
theorem fourB_len (a b c d : Int) (k : Nat) : (fourB a b c d k).length ≤ 4 := by
  unfold fourB
  split <;> simp [be_length]
theorem wrAt_below {w w' : World} {base g T : Nat} {v : Value} {L : List (BitVec 8)} {E : Int} (h : WrAt w base g T v L E) (ht : Turned (Mine g v) w w') : Below base w w' :=
  ht.below base h.base_w (fun k hk => by
    rcases hk with rfl | hk
    · exact h.base_g
    · obtain ⟨l, ho, -⟩ := h.own; exact (World.ownsRow.lt ho k hk).1)
theorem addE_2 (n : Nat) (h : n ≤ 4096) : addE 2 n = 0 := by
  unfold addE
  rw [if_neg (by decide), if_neg]
  rintro (h1 | h1)
  · omega
  · have h2 : fitsB 2 (BitVec.ofNat 64 n) = true := by
      unfold fitsB
      rw [decide_eq_true_eq, BitVec.toNat_ofNat, Nat.mod_eq_of_lt (by omega)]
      exact Nat.div_eq_of_lt (by omega)
    have h3 : fitsB 2 (BitVec.ofNat 64 n) = false := h1
    rw [h2] at h3
    cases h3
theorem wrBytes_2 {l : List (BitVec 8)} (h : l.length ≤ 4096) (L : List (BitVec 8)) : wrBytes L 0 2 l = (L ++ (be 2 (BitVec.ofNat 64 l.length) ++ l), 0) := by
  unfold wrBytes
  rw [if_pos rfl, if_pos (addE_2 _ h)]
  rfl
/-- PutReply's error and bytes -/
def prE (a b c d : Int) (n : Nat) : Int := if fourOk a b c d then (if n ≤ 4096 then 0 else 3) else 1
def prB (a b c d : Int) (l : List (BitVec 8)) : List (BitVec 8) :=
  if prE a b c d l.length = 0 then fourB a b c d 4 ++ (be 2 (BitVec.ofNat 64 l.length) ++ l) else []
theorem wnE_1 {n : Int} (h : byteOk n) : wnE 1 n = 0 := by
  obtain ⟨h1, h2⟩ := h
  unfold wnE
  rw [if_neg (by decide), if_neg (by decide), if_neg]
  simp
  omega
theorem wrNum_1 {n : Int} (h : byteOk n) (L : List (BitVec 8)) : wrNum L 0 1 n = (L ++ be 1 (BitVec.ofInt 64 n), 0) := by
  unfold wrNum
  rw [if_pos rfl, if_pos (wnE_1 h)]
  rfl
set_option maxHeartbeats 1000000 in
theorem putReply_any (a b c d : Int) (x : Option Addr) (cp : Nat) (l : List (BitVec 8)) (w : World) (hl : l.length ≤ 140737488351232) (hc : l.length ≤ cp) (hn : x = none → cp = 0) (hr : Row w x l) :
    Calls Try.prog 43 #[.agg #[.int .i64 a, .int .i64 b, .int .i64 c, .int .i64 d, .slice x l.length cp]] w fun e w' => ∃ z, e = .returned (.tuple #[z, .int .i64 (prE a b c d l.length)]) ∧ Own w' w.heap.size z (prB a b c d l) ∧ Below w.heap.size w w' := by
  have b1 : Below w.heap.size w (w.alloc (.cells #[.int .i64 a, .int .i64 b, .int .i64 c, .int .i64 d, .slice x l.length cp] 38)) := (Below.refl _ _).alloc (Nat.le_refl _) _
  have B1 := Blk.new' w 38 [.int .i64 a, .int .i64 b, .int .i64 c, .int .i64 d, .slice x l.length cp]
  have b2 := below_then b1 ((Below.refl _ _).alloc (Nat.le_refl _) (.cells #[.int .i64 a, .int .i64 b, .int .i64 c, .int .i64 d] 120))
  have B2 := B1.laterB ((Below.refl _ _).alloc (Nat.le_refl _) (.cells #[.int .i64 a, .int .i64 b, .int .i64 c, .int .i64 d] 120))
  have A2 := Blk.new' (w.alloc (.cells #[.int .i64 a, .int .i64 b, .int .i64 c, .int .i64 d, .slice x l.length cp] 38)) 120 [.int .i64 a, .int .i64 b, .int .i64 c, .int .i64 d]
  rw [show (w.alloc (.cells #[.int .i64 a, .int .i64 b, .int .i64 c, .int .i64 d, .slice x l.length cp] 38)).heap.size = w.heap.size + 1 by simp] at A2
  have n0 := blk_at B1 0
  have n1 := blk_at B1 1
  have n2 := blk_at B1 2
  have n3 := blk_at B1 3
  simp only [List.getElem?_cons_zero, List.getElem?_cons_succ] at n0 n1 n2 n3
  have ix0 : ∀ W : World, (Instr.index 120 (.agg #[.int .i64 a, .int .i64 b, .int .i64 c, .int .i64 d]) (.int .i64 0)).run Try.prog W = .ok (.int .i64 a) W := fun _ => by first | rfl | kernel_rfl
  have ix1 : ∀ W : World, (Instr.index 120 (.agg #[.int .i64 a, .int .i64 b, .int .i64 c, .int .i64 d]) (.int .i64 1)).run Try.prog W = .ok (.int .i64 b) W := fun _ => by first | rfl | kernel_rfl
  have ix2 : ∀ W : World, (Instr.index 120 (.agg #[.int .i64 a, .int .i64 b, .int .i64 c, .int .i64 d]) (.int .i64 2)).run Try.prog W = .ok (.int .i64 c) W := fun _ => by first | rfl | kernel_rfl
  have ix3 : ∀ W : World, (Instr.index 120 (.agg #[.int .i64 a, .int .i64 b, .int .i64 c, .int .i64 d]) (.int .i64 3)).run Try.prog W = .ok (.int .i64 d) W := fun _ => by first | rfl | kernel_rfl
  have hx : l ≠ [] → ∀ y, x = some y → y.block < w.heap.size := fun h0 y hy => by
    rcases hr with e | ⟨bb, off, rfl, hc⟩
    · exact absurd e h0
    · cases hy
      exact World.block_lt_of_cell? w ⟨bb, off + 0, none⟩ (hc 0 (by cases l; exact absurd rfl h0; simp))
  have HR : Hid _ := And.intro hr hx
  have H2 : Hid _ := And.intro b2 (And.intro B2 A2)
  clear hr b1 B1 b2 B2 A2 hx
  go_enter Try.func43, Try.ntmps43
  go_wp2_with fail
  clear n0 n1 n2 n3
  generalize (w.alloc (.cells #[.int .i64 a, .int .i64 b, .int .i64 c, .int .i64 d, .slice x l.length cp] 38)).alloc (.cells #[.int .i64 a, .int .i64 b, .int .i64 c, .int .i64 d] 120) = W2 at *
  go_loopw [20] (fun iv wr => ∃ (k : Nat) (I : Int), I = k ∧ k ≤ 4 ∧ iv = .int .i64 I ∧ (0 < k → byteOk a) ∧ (1 < k → byteOk b) ∧ (2 < k → byteOk c) ∧ (3 < k → byteOk d) ∧ W2 = wr) (fun iv _ => 4 - (intOf iv).toNat)
  case atStart => exact ⟨0, 0, rfl, by omega, rfl, (fun h => by omega), (fun h => by omega), (fun h => by omega), (fun h => by omega), rfl⟩
  case round =>
    obtain ⟨k, I, hI, hk, rfl, ka, kb, kc, kd, rfl⟩ := hrel
    have hk' : k = 0 ∨ k = 1 ∨ k = 2 ∨ k = 3 ∨ k = 4 := by omega
    rcases hk' with rfl | rfl | rfl | rfl | rfl
    · obtain rfl : I = 0 := by simpa using hI
      have KA : Hid _ := And.intro ka (And.intro kb (And.intro kc kd))
      clear hI hk ka kb kc kd
      by_cases h1 : a < 0
      · have hE : Hid (prE a b c d l.length = 1 ∧ prB a b c d l = []) := by
          have : prE a b c d l.length = 1 := if_neg (fun h : fourOk a b c d => by have h' : byteOk a := h.1; have := h'.1; omega)
          exact ⟨this, by unfold prB; rw [this]; rfl⟩
        go_wp2
        go_ret2
        refine ⟨.slice none 0 0, ?_, ?_, H2.out.1⟩
        · (rw [hE.out.1]; try rfl)
        · rw [hE.out.2]; exact Own.nil _ _
      · by_cases h2 : 255 < a
        · have hE : Hid (prE a b c d l.length = 1 ∧ prB a b c d l = []) := by
            have : prE a b c d l.length = 1 := if_neg (fun h : fourOk a b c d => by have h' : byteOk a := h.1; have := h'.2; omega)
            exact ⟨this, by unfold prB; rw [this]; rfl⟩
          go_wp2
          go_ret2
          refine ⟨.slice none 0 0, ?_, ?_, H2.out.1⟩
          · (rw [hE.out.1]; try rfl)
          · rw [hE.out.2]; exact Own.nil _ _
        · have hV : byteOk a := ⟨by omega, by omega⟩
          have HV : Hid _ := hV
          clear hV
          go_wp2
          go_roundw
          case rel => exact ⟨1, 1, rfl, by omega, rfl, (fun h => HV.out), (fun h => by omega), (fun h => by omega), (fun h => by omega), by trivial⟩
          case measure => simp [intOf]
    · obtain rfl : I = 1 := by simpa using hI
      have KA : Hid _ := And.intro ka (And.intro kb (And.intro kc kd))
      clear hI hk ka kb kc kd
      by_cases h1 : b < 0
      · have hE : Hid (prE a b c d l.length = 1 ∧ prB a b c d l = []) := by
          have : prE a b c d l.length = 1 := if_neg (fun h : fourOk a b c d => by have h' : byteOk b := h.2.1; have := h'.1; omega)
          exact ⟨this, by unfold prB; rw [this]; rfl⟩
        go_wp2
        go_ret2
        refine ⟨.slice none 0 0, ?_, ?_, H2.out.1⟩
        · (rw [hE.out.1]; try rfl)
        · rw [hE.out.2]; exact Own.nil _ _
      · by_cases h2 : 255 < b
        · have hE : Hid (prE a b c d l.length = 1 ∧ prB a b c d l = []) := by
            have : prE a b c d l.length = 1 := if_neg (fun h : fourOk a b c d => by have h' : byteOk b := h.2.1; have := h'.2; omega)
            exact ⟨this, by unfold prB; rw [this]; rfl⟩
          go_wp2
          go_ret2
          refine ⟨.slice none 0 0, ?_, ?_, H2.out.1⟩
          · (rw [hE.out.1]; try rfl)
          · rw [hE.out.2]; exact Own.nil _ _
        · have hV : byteOk b := ⟨by omega, by omega⟩
          have HV : Hid _ := hV
          clear hV
          go_wp2
          go_roundw
          case rel => exact ⟨2, 2, rfl, by omega, rfl, (fun h => KA.out.1 (by omega)), (fun h => HV.out), (fun h => by omega), (fun h => by omega), by trivial⟩
          case measure => simp [intOf]
    · obtain rfl : I = 2 := by simpa using hI
      have KA : Hid _ := And.intro ka (And.intro kb (And.intro kc kd))
      clear hI hk ka kb kc kd
      by_cases h1 : c < 0
      · have hE : Hid (prE a b c d l.length = 1 ∧ prB a b c d l = []) := by
          have : prE a b c d l.length = 1 := if_neg (fun h : fourOk a b c d => by have h' : byteOk c := h.2.2.1; have := h'.1; omega)
          exact ⟨this, by unfold prB; rw [this]; rfl⟩
        go_wp2
        go_ret2
        refine ⟨.slice none 0 0, ?_, ?_, H2.out.1⟩
        · (rw [hE.out.1]; try rfl)
        · rw [hE.out.2]; exact Own.nil _ _
      · by_cases h2 : 255 < c
        · have hE : Hid (prE a b c d l.length = 1 ∧ prB a b c d l = []) := by
            have : prE a b c d l.length = 1 := if_neg (fun h : fourOk a b c d => by have h' : byteOk c := h.2.2.1; have := h'.2; omega)
            exact ⟨this, by unfold prB; rw [this]; rfl⟩
          go_wp2
          go_ret2
          refine ⟨.slice none 0 0, ?_, ?_, H2.out.1⟩
          · (rw [hE.out.1]; try rfl)
          · rw [hE.out.2]; exact Own.nil _ _
        · have hV : byteOk c := ⟨by omega, by omega⟩
          have HV : Hid _ := hV
          clear hV
          go_wp2
          go_roundw
          case rel => exact ⟨3, 3, rfl, by omega, rfl, (fun h => KA.out.1 (by omega)), (fun h => KA.out.2.1 (by omega)), (fun h => HV.out), (fun h => by omega), by trivial⟩
          case measure => simp [intOf]
    · obtain rfl : I = 3 := by simpa using hI
      have KA : Hid _ := And.intro ka (And.intro kb (And.intro kc kd))
      clear hI hk ka kb kc kd
      by_cases h1 : d < 0
      · have hE : Hid (prE a b c d l.length = 1 ∧ prB a b c d l = []) := by
          have : prE a b c d l.length = 1 := if_neg (fun h : fourOk a b c d => by have h' : byteOk d := h.2.2.2; have := h'.1; omega)
          exact ⟨this, by unfold prB; rw [this]; rfl⟩
        go_wp2
        go_ret2
        refine ⟨.slice none 0 0, ?_, ?_, H2.out.1⟩
        · (rw [hE.out.1]; try rfl)
        · rw [hE.out.2]; exact Own.nil _ _
      · by_cases h2 : 255 < d
        · have hE : Hid (prE a b c d l.length = 1 ∧ prB a b c d l = []) := by
            have : prE a b c d l.length = 1 := if_neg (fun h : fourOk a b c d => by have h' : byteOk d := h.2.2.2; have := h'.2; omega)
            exact ⟨this, by unfold prB; rw [this]; rfl⟩
          go_wp2
          go_ret2
          refine ⟨.slice none 0 0, ?_, ?_, H2.out.1⟩
          · (rw [hE.out.1]; try rfl)
          · rw [hE.out.2]; exact Own.nil _ _
        · have hV : byteOk d := ⟨by omega, by omega⟩
          have HV : Hid _ := hV
          clear hV
          go_wp2
          go_roundw
          case rel => exact ⟨4, 4, rfl, by omega, rfl, (fun h => KA.out.1 (by omega)), (fun h => KA.out.2.1 (by omega)), (fun h => KA.out.2.2.1 (by omega)), (fun h => HV.out), by trivial⟩
          case measure => simp [intOf]
    · obtain rfl : I = 4 := by simpa using hI
      have h4 : fourOk a b c d := ⟨ka (by omega), kb (by omega), kc (by omega), kd (by omega)⟩
      have H4 : Hid _ := h4
      clear hI hk ka kb kc kd
      have n4 := blk_at H2.out.2.1 4
      simp only [List.getElem?_cons_zero, List.getElem?_cons_succ] at n4
      by_cases h1 : 4096 < l.length
      · have hE : Hid (prE a b c d l.length = 3 ∧ prB a b c d l = []) := by
          have : prE a b c d l.length = 3 := by unfold prE; rw [if_pos h4, if_neg (by omega)]
          exact ⟨this, by unfold prB; rw [this]; rfl⟩
        have e1 : (4096 : Int) < (l.length : Int) := by omega
        clear h4 h1
        go_wp2
        go_ret2
        refine ⟨.slice none 0 0, ?_, ?_, H2.out.1⟩
        · (rw [hE.out.1]; try rfl)
        · rw [hE.out.2]; exact Own.nil _ _
      · have hE : Hid (prE a b c d l.length = 0 ∧ prB a b c d l = fourB a b c d 4 ++ (be 2 (BitVec.ofNat 64 l.length) ++ l)) := by
          have : prE a b c d l.length = 0 := by unfold prE; rw [if_pos h4, if_pos (by omega)]
          exact ⟨this, by unfold prB; rw [this]; rfl⟩
        have e1 : (l.length : Int) ≤ 4096 := by omega
        have hl4 : l.length ≤ 4096 := by omega
        clear h4 h1
        have HN : Hid _ := NewWriter_any W2.heap.size W2 (Nat.le_refl _)
        go_wp2_with fail
        refine (Calls.mono HN.out) ?_
        rintro r w3 ⟨g, rfl, hg, W3, b3⟩
        have A3 := H2.out.2.2.laterB b3
        have m0 := blk_at A3 0
        have m1 := blk_at A3 1
        have m2 := blk_at A3 2
        have m3 := blk_at A3 3
        simp only [List.getElem?_cons_zero, List.getElem?_cons_succ] at m0 m1 m2 m3
        have H3 : Hid _ := And.intro b3 W3
        clear b3 W3 hg A3 HN n4
        go_wp2_with fail
        clear m0 m1 m2 m3
        go_loopw [36] (fun iv wr => ∃ (k : Nat) (I : Int) (v : Value), I = k ∧ k ≤ 4 ∧ iv = .int .i64 I ∧ WrAt wr W2.heap.size g 111 v (fourB a b c d k) 0 ∧ Below W2.heap.size W2 wr) (fun iv _ => 4 - (intOf iv).toNat)
        case atStart => exact ⟨0, 0, .slice none 0 0, rfl, by omega, rfl, H3.out.2, H3.out.1⟩
        case round =>
          obtain ⟨k, I, v, hI, hk, rfl, hW, hB⟩ := hrel
          have hk' : k = 0 ∨ k = 1 ∨ k = 2 ∨ k = 3 ∨ k = 4 := by omega
          rcases hk' with rfl | rfl | rfl | rfl | rfl
          · obtain rfl : I = 0 := by simpa using hI
            have N := wNum_any W2.heap.size g v (fourB a b c d 0) 0 1 a wr hW (by have := fourB_len a b c d 0; omega)
            rw [wrNum_1 H4.out.1] at N
            have HN : Hid _ := N
            have K : Hid _ := And.intro hW hB
            clear N hI hk hW hB
            go_wp2_with fail
            refine (Calls.mono HN.out) ?_
            rintro r w4 ⟨rfl, v4, W4, -, t4⟩
            have F : Hid (WrAt w4 W2.heap.size g 111 v4 (fourB a b c d 1) 0 ∧ Below W2.heap.size W2 w4) := ⟨W4, K.out.2.trans (wrAt_below K.out.1 t4)⟩
            clear W4 t4 K HN
            go_wp2
            go_roundw
            case rel => exact ⟨1, 1, v4, rfl, by omega, rfl, F.out.1, F.out.2⟩
            case measure => simp [intOf]
          · obtain rfl : I = 1 := by simpa using hI
            have N := wNum_any W2.heap.size g v (fourB a b c d 1) 0 1 b wr hW (by have := fourB_len a b c d 1; omega)
            rw [wrNum_1 H4.out.2.1] at N
            have HN : Hid _ := N
            have K : Hid _ := And.intro hW hB
            clear N hI hk hW hB
            go_wp2_with fail
            refine (Calls.mono HN.out) ?_
            rintro r w4 ⟨rfl, v4, W4, -, t4⟩
            have F : Hid (WrAt w4 W2.heap.size g 111 v4 (fourB a b c d 2) 0 ∧ Below W2.heap.size W2 w4) := ⟨W4, K.out.2.trans (wrAt_below K.out.1 t4)⟩
            clear W4 t4 K HN
            go_wp2
            go_roundw
            case rel => exact ⟨2, 2, v4, rfl, by omega, rfl, F.out.1, F.out.2⟩
            case measure => simp [intOf]
          · obtain rfl : I = 2 := by simpa using hI
            have N := wNum_any W2.heap.size g v (fourB a b c d 2) 0 1 c wr hW (by have := fourB_len a b c d 2; omega)
            rw [wrNum_1 H4.out.2.2.1] at N
            have HN : Hid _ := N
            have K : Hid _ := And.intro hW hB
            clear N hI hk hW hB
            go_wp2_with fail
            refine (Calls.mono HN.out) ?_
            rintro r w4 ⟨rfl, v4, W4, -, t4⟩
            have F : Hid (WrAt w4 W2.heap.size g 111 v4 (fourB a b c d 3) 0 ∧ Below W2.heap.size W2 w4) := ⟨W4, K.out.2.trans (wrAt_below K.out.1 t4)⟩
            clear W4 t4 K HN
            go_wp2
            go_roundw
            case rel => exact ⟨3, 3, v4, rfl, by omega, rfl, F.out.1, F.out.2⟩
            case measure => simp [intOf]
          · obtain rfl : I = 3 := by simpa using hI
            have N := wNum_any W2.heap.size g v (fourB a b c d 3) 0 1 d wr hW (by have := fourB_len a b c d 3; omega)
            rw [wrNum_1 H4.out.2.2.2] at N
            have HN : Hid _ := N
            have K : Hid _ := And.intro hW hB
            clear N hI hk hW hB
            go_wp2_with fail
            refine (Calls.mono HN.out) ?_
            rintro r w4 ⟨rfl, v4, W4, -, t4⟩
            have F : Hid (WrAt w4 W2.heap.size g 111 v4 (fourB a b c d 4) 0 ∧ Below W2.heap.size W2 w4) := ⟨W4, K.out.2.trans (wrAt_below K.out.1 t4)⟩
            clear W4 t4 K HN
            go_wp2
            go_roundw
            case rel => exact ⟨4, 4, v4, rfl, by omega, rfl, F.out.1, F.out.2⟩
            case measure => simp [intOf]
          · obtain rfl : I = 4 := by simpa using hI
            have n4 := blk_at (H2.out.2.1.laterB hB) 4
            simp only [List.getElem?_cons_zero, List.getElem?_cons_succ] at n4
            have N := wBytes_any W2.heap.size g v (fourB a b c d 4) 0 2 x l.length cp l wr hW (by have := fourB_len a b c d 4; omega) rfl hc (HR.out.1.later (below_then H2.out.1 hB)) hn (by omega) (fun h0 y hy e => by
              obtain ⟨l', ho, -⟩ := hW.own
              have h1 := (World.ownsRow.lt ho _ e).1
              have h2 := HR.out.2 h0 y hy
              have h3 := H2.out.1.size
              omega)
            rw [wrBytes_2 hl4] at N
            have HN : Hid _ := N
            have K : Hid _ := And.intro hW hB
            clear N hI hk hW hB
            go_wp2_with fail
            clear n4
            refine (Calls.mono HN.out) ?_
            rintro r w4 ⟨rfl, v4, W4, -, t4⟩
            have HM : Hid _ := wEnd_any W2.heap.size g v4 _ 0 w4 W4 (by have := fourB_len a b c d 4; simp only [List.length_append, be_length _ _ (show 2 ≤ 8 by omega)]; omega)
            have F : Hid (Below w.heap.size w w4) := below_then H2.out.1 (K.out.2.trans (wrAt_below K.out.1 t4))
            clear W4 t4 K HN
            go_wp2_with fail
            refine (Calls.mono HM.out) ?_
            rintro r w5 ⟨z, rfl, o5, b5⟩
            rw [show ∀ L, wrEnd L 0 = L from fun L => if_pos rfl] at o5
            have G : Hid _ := And.intro (o5.lower F.out.size) (below_then F.out b5)
            clear o5 b5 HM F
            go_wp2
            go_ret2
            refine ⟨z, ?_, ?_, G.out.2⟩
            · (rw [hE.out.1]; try rfl)
            · rw [hE.out.2]; exact G.out.1
end Go.Proofs.Ytkcbbaanlkpeiaa

