/- The document's writer. -/
import Derived.Test.YtgonglbgejaffaaXFieldX1
import Derived.Test.YtgonglbgejaffaaXFieldRef
namespace Go.Proofs.Ytgonglbgejaffaa
open Go.RowKit

theorem byte_of (n : Int) (k : Nat) (hk : k < 8) : n / 2 ^ (8 * k) % 256 = ((BitVec.ofInt 64 n).toNat : Int) / 2 ^ (8 * k) % 256 := by
  rw [← toU64]
  have h : k = 0 ∨ k = 1 ∨ k = 2 ∨ k = 3 ∨ k = 4 ∨ k = 5 ∨ k = 6 ∨ k = 7 := by omega
  rcases h with rfl | rfl | rfl | rfl | rfl | rfl | rfl | rfl <;> simp only [Nat.mul_zero, Nat.mul_one, Nat.reduceMul, Int.reducePow] <;> omega
theorem byte_be (n : Int) (s k : Nat) (hs : s ≤ 8) (hk : k < s) : n / 2 ^ (8 * k) % 256 = (((be s (BitVec.ofInt 64 n)).getD (s - 1 - k) 0#8).toNat : Int) := by
  have := be_val (BitVec.ofInt 64 n) s (s - 1 - k) hs (by omega)
  rw [show s - 1 - (s - 1 - k) = k by omega] at this
  rw [byte_of n k (by omega), this]
theorem take_more (l : List (BitVec 8)) (s k : Nat) (hl : l.length = s) (hk : k < s) : l.take (s - k) = l.take (s - (k + 1)) ++ [l.getD (s - 1 - k) 0#8] := by
  rw [show s - k = (s - (k + 1)) + 1 by omega, List.take_add_one]
  rw [show s - 1 - k = s - (k + 1) by omega]
  rw [List.getD, List.getElem?_eq_getElem (by omega)]
  rfl

theorem WrAt.more {w wr wr' w1 : World} {base g T : Nat} {v v1 v2 : Value} {L l2 : List (BitVec 8)} (hW1 : WrAt wr base g T v1 L 0) (hN1 : Newer w v v1) (hT1 : Turned (Mine g v) w wr) (hb : Below wr.heap.size wr wr')
    (ho2 : Own w1 base v2 l2) (hg2 : wr'.grownBy w1 v1.ownBlock) (hn2 : Newer wr' v1 v2) : WrAt (w1.setCell ⟨g, 0, none⟩ v2) base g T v2 l2 0 ∧ Newer w v v2 ∧ Turned (Mine g v) w (w1.setCell ⟨g, 0, none⟩ v2) := by
  have hT : Turned (fun _ => False) wr wr' := turned_grown (below_grown hb) (fun k e => by cases e)
  have hW := hW1.stays hT (fun e => e) (fun _ _ e => e)
  obtain ⟨p1, p2, p3⟩ := hW.put ho2 hg2 hn2
  refine ⟨p1, hN1.trans hn2 (Nat.le_trans hT1.size hb.size), (hT1.trans (hT.mono (fun _ e => e.elim))).trans (p3.mono ?_)⟩
  rintro k (rfl | e)
  · exact .inl (.inl rfl)
  · rcases hN1 k e with e | e
    · exact .inl (.inr e)
    · exact .inr e

set_option maxHeartbeats 1000000 in
theorem rwNum_1 (base g : Nat) (v : Value) (L : List (BitVec 8)) (n : Int) (w : World) (hW : WrAt w base g 97 v L 0) (hL : L.length + 8 ≤ 140737488351232) (h1 : -128 ≤ n) (h2 : n ≤ 255) :
    Calls Try.prog 52 #[.pointer (some ⟨g, 0, none⟩), .int .i64 1, .int .i64 n] w fun e w' => e = .returned (.tuple #[]) ∧ ∃ v', WrAt w' base g 97 v' (L ++ be 1 (BitVec.ofInt 64 n)) 0 ∧ Newer w v v' ∧ Turned (Mine g v) w w' := by
  have c1 := hW.blk.cell (by simp [maxLen]) 1 (by simp)
  simp only [List.getElem?_cons_zero, List.getElem?_cons_succ] at c1
  have t1 : ¬ n < -128 := by omega
  have t2 : ¬ 255 < n := by omega
  clear h1 h2
  have hbl := be_length 1 (BitVec.ofInt 64 n) (by omega)
  go_enter Try.func52, Try.ntmps52
  go_wp2_with fail
  go_loopw [8] (fun i wr => ∃ (m : Nat) (v' : Value), m ≤ 1 ∧ i = .int .i64 ((m : Int) - 1) ∧ WrAt wr base g 97 v' (L ++ (be 1 (BitVec.ofInt 64 n)).take (1 - m)) 0 ∧ Newer w v v' ∧ Turned (Mine g v) w wr) (fun i _ => (intOf i + 1).toNat)
  case atStart => exact ⟨1, v, by omega, by rfl, by simpa using hW, fun _ e => .inl e, turned_refl _ _⟩
  case round =>
    obtain ⟨m, v1, hm, rfl, hW1, hN1, hT1⟩ := hrel
    by_cases hm0 : m = 0
    · subst hm0
      rw [List.take_of_length_le (by omega)] at hW1
      have F : Hid _ := And.intro hW1 (And.intro hN1 hT1)
      clear hW1 hN1 hT1 hW c1
      go_wp2
      go_end0
      exact ⟨rfl, v1, F.out.1, F.out.2.1, F.out.2.2⟩
    · obtain ⟨k, rfl⟩ : ∃ k, m = k + 1 := ⟨m - 1, by omega⟩
      have e : (((k + 1 : Nat) : Int) - 1) = (k : Int) := by omega
      rw [e]
      obtain ⟨l, ho, hl⟩ := hW1.own
      have hl' := hl rfl
      subst hl'
      obtain ⟨av, nv, cv, rfl⟩ := own_slice ho
      have c0 := hW1.blk.cell (by simp [maxLen]) 0 (by simp)
      simp only [List.getElem?_cons_zero] at c0
      have hby := byte_be n 1 k (by omega) (by omega)
      have htk : (L ++ (be 1 (BitVec.ofInt 64 n)).take (1 - (k + 1))) ++ [(be 1 (BitVec.ofInt 64 n)).getD (1 - 1 - k) 0#8] = L ++ (be 1 (BitVec.ofInt 64 n)).take (1 - k) := by rw [take_more (be 1 (BitVec.ofInt 64 n)) 1 k hbl (by omega), List.append_assoc]
      have ll : (L ++ (be 1 (BitVec.ofInt 64 n)).take (1 - (k + 1))).length ≤ L.length + 8 := by rw [List.length_append, List.length_take]; omega
      generalize L ++ (be 1 (BitVec.ofInt 64 n)).take (1 - (k + 1)) = P1 at *
      generalize (be 1 (BitVec.ofInt 64 n)).getD (1 - 1 - k) 0#8 = cB at *
      have bA : Below wr.heap.size wr (wr.alloc (.cells #[.int .u8 (n / 2 ^ (8 * k) % 256)] 5)) := (Below.refl _ _).alloc (Nat.le_refl _) _
      have oA := ho.later bA
      have rA : Row (wr.alloc (.cells #[.int .u8 (n / 2 ^ (8 * k) % 256)] 5)) (some ⟨wr.heap.size, 0, none⟩) [cB] := Row.newl _ _ _ _ _ (by rw [hby]; rfl)
      have bW : base ≤ wr.heap.size + 1 := Nat.le_succ_of_le hW1.base_w
      have K : Hid _ := And.intro hW1 (And.intro hN1 (And.intro hT1 (And.intro bA (And.intro oA (And.intro rA htk)))))
      clear hW1 hN1 hT1 ho hl hW c1 bA oA rA htk hby
      go_wp2_with (at_builtin; refine wpList_append_bytes_at _ rfl _ _ rfl base (.slice av nv cv) P1 rfl K.out.2.2.2.2.1 (some ⟨wr.heap.size, 0, none⟩) 1 1 [cB] rfl rfl K.out.2.2.2.2.2.1 (fun h => by cases h) (Nat.le_refl _) (by omega) (by simpa using bW) ?_)
      intro v2 w2 ho2 hg2 hn2
      rw [K.out.2.2.2.2.2.2] at ho2
      obtain ⟨a2, n2, cap2, rfl⟩ := own_slice ho2
      have hB2 := (K.out.1.blk.grown (below_grown K.out.2.2.2.1) (by simp)).grown hg2 (fun e => own_apart K.out.2.2.2.2.1 (K.out.1.blk.grown (below_grown K.out.2.2.2.1) (by simp)) K.out.1.other g e.symm rfl)
      have d0 := hB2.cell (by simp [maxLen]) 0 (by simp)
      have f0 := hB2.frozen (by simp [maxLen]) 0
      simp only [List.getElem?_cons_zero] at d0
      have P : Hid _ := WrAt.more K.out.1 K.out.2.1 K.out.2.2.1 K.out.2.2.2.1 ho2 hg2 hn2
      clear ho2 hg2 hn2 hB2 K c0
      go_wp2
      go_roundw
      case rel => exact ⟨k, _, by omega, by go_num, P.out.1, P.out.2.1, P.out.2.2⟩
      case measure => simp [intOf]

set_option maxHeartbeats 1000000 in
theorem rwNum_2 (base g : Nat) (v : Value) (L : List (BitVec 8)) (n : Int) (w : World) (hW : WrAt w base g 97 v L 0) (hL : L.length + 8 ≤ 140737488351232) (h1 : -32768 ≤ n) (h2 : n ≤ 65535) :
    Calls Try.prog 52 #[.pointer (some ⟨g, 0, none⟩), .int .i64 2, .int .i64 n] w fun e w' => e = .returned (.tuple #[]) ∧ ∃ v', WrAt w' base g 97 v' (L ++ be 2 (BitVec.ofInt 64 n)) 0 ∧ Newer w v v' ∧ Turned (Mine g v) w w' := by
  have c1 := hW.blk.cell (by simp [maxLen]) 1 (by simp)
  simp only [List.getElem?_cons_zero, List.getElem?_cons_succ] at c1
  have t1 : ¬ n < -32768 := by omega
  have t2 : ¬ 65535 < n := by omega
  clear h1 h2
  have hbl := be_length 2 (BitVec.ofInt 64 n) (by omega)
  go_enter Try.func52, Try.ntmps52
  go_wp2_with fail
  go_loopw [8] (fun i wr => ∃ (m : Nat) (v' : Value), m ≤ 2 ∧ i = .int .i64 ((m : Int) - 1) ∧ WrAt wr base g 97 v' (L ++ (be 2 (BitVec.ofInt 64 n)).take (2 - m)) 0 ∧ Newer w v v' ∧ Turned (Mine g v) w wr) (fun i _ => (intOf i + 1).toNat)
  case atStart => exact ⟨2, v, by omega, by rfl, by simpa using hW, fun _ e => .inl e, turned_refl _ _⟩
  case round =>
    obtain ⟨m, v1, hm, rfl, hW1, hN1, hT1⟩ := hrel
    by_cases hm0 : m = 0
    · subst hm0
      rw [List.take_of_length_le (by omega)] at hW1
      have F : Hid _ := And.intro hW1 (And.intro hN1 hT1)
      clear hW1 hN1 hT1 hW c1
      go_wp2
      go_end0
      exact ⟨rfl, v1, F.out.1, F.out.2.1, F.out.2.2⟩
    · obtain ⟨k, rfl⟩ : ∃ k, m = k + 1 := ⟨m - 1, by omega⟩
      have e : (((k + 1 : Nat) : Int) - 1) = (k : Int) := by omega
      rw [e]
      obtain ⟨l, ho, hl⟩ := hW1.own
      have hl' := hl rfl
      subst hl'
      obtain ⟨av, nv, cv, rfl⟩ := own_slice ho
      have c0 := hW1.blk.cell (by simp [maxLen]) 0 (by simp)
      simp only [List.getElem?_cons_zero] at c0
      have hby := byte_be n 2 k (by omega) (by omega)
      have htk : (L ++ (be 2 (BitVec.ofInt 64 n)).take (2 - (k + 1))) ++ [(be 2 (BitVec.ofInt 64 n)).getD (2 - 1 - k) 0#8] = L ++ (be 2 (BitVec.ofInt 64 n)).take (2 - k) := by rw [take_more (be 2 (BitVec.ofInt 64 n)) 2 k hbl (by omega), List.append_assoc]
      have ll : (L ++ (be 2 (BitVec.ofInt 64 n)).take (2 - (k + 1))).length ≤ L.length + 8 := by rw [List.length_append, List.length_take]; omega
      generalize L ++ (be 2 (BitVec.ofInt 64 n)).take (2 - (k + 1)) = P1 at *
      generalize (be 2 (BitVec.ofInt 64 n)).getD (2 - 1 - k) 0#8 = cB at *
      have bA : Below wr.heap.size wr (wr.alloc (.cells #[.int .u8 (n / 2 ^ (8 * k) % 256)] 5)) := (Below.refl _ _).alloc (Nat.le_refl _) _
      have oA := ho.later bA
      have rA : Row (wr.alloc (.cells #[.int .u8 (n / 2 ^ (8 * k) % 256)] 5)) (some ⟨wr.heap.size, 0, none⟩) [cB] := Row.newl _ _ _ _ _ (by rw [hby]; rfl)
      have bW : base ≤ wr.heap.size + 1 := Nat.le_succ_of_le hW1.base_w
      have K : Hid _ := And.intro hW1 (And.intro hN1 (And.intro hT1 (And.intro bA (And.intro oA (And.intro rA htk)))))
      clear hW1 hN1 hT1 ho hl hW c1 bA oA rA htk hby
      go_wp2_with (at_builtin; refine wpList_append_bytes_at _ rfl _ _ rfl base (.slice av nv cv) P1 rfl K.out.2.2.2.2.1 (some ⟨wr.heap.size, 0, none⟩) 1 1 [cB] rfl rfl K.out.2.2.2.2.2.1 (fun h => by cases h) (Nat.le_refl _) (by omega) (by simpa using bW) ?_)
      intro v2 w2 ho2 hg2 hn2
      rw [K.out.2.2.2.2.2.2] at ho2
      obtain ⟨a2, n2, cap2, rfl⟩ := own_slice ho2
      have hB2 := (K.out.1.blk.grown (below_grown K.out.2.2.2.1) (by simp)).grown hg2 (fun e => own_apart K.out.2.2.2.2.1 (K.out.1.blk.grown (below_grown K.out.2.2.2.1) (by simp)) K.out.1.other g e.symm rfl)
      have d0 := hB2.cell (by simp [maxLen]) 0 (by simp)
      have f0 := hB2.frozen (by simp [maxLen]) 0
      simp only [List.getElem?_cons_zero] at d0
      have P : Hid _ := WrAt.more K.out.1 K.out.2.1 K.out.2.2.1 K.out.2.2.2.1 ho2 hg2 hn2
      clear ho2 hg2 hn2 hB2 K c0
      go_wp2
      go_roundw
      case rel => exact ⟨k, _, by omega, by go_num, P.out.1, P.out.2.1, P.out.2.2⟩
      case measure => simp [intOf]

set_option maxHeartbeats 1000000 in
theorem rwNum_3 (base g : Nat) (v : Value) (L : List (BitVec 8)) (n : Int) (w : World) (hW : WrAt w base g 97 v L 0) (hL : L.length + 8 ≤ 140737488351232) (h1 : -8388608 ≤ n) (h2 : n ≤ 16777215) :
    Calls Try.prog 52 #[.pointer (some ⟨g, 0, none⟩), .int .i64 3, .int .i64 n] w fun e w' => e = .returned (.tuple #[]) ∧ ∃ v', WrAt w' base g 97 v' (L ++ be 3 (BitVec.ofInt 64 n)) 0 ∧ Newer w v v' ∧ Turned (Mine g v) w w' := by
  have c1 := hW.blk.cell (by simp [maxLen]) 1 (by simp)
  simp only [List.getElem?_cons_zero, List.getElem?_cons_succ] at c1
  have t1 : ¬ n < -8388608 := by omega
  have t2 : ¬ 16777215 < n := by omega
  clear h1 h2
  have hbl := be_length 3 (BitVec.ofInt 64 n) (by omega)
  go_enter Try.func52, Try.ntmps52
  go_wp2_with fail
  go_loopw [8] (fun i wr => ∃ (m : Nat) (v' : Value), m ≤ 3 ∧ i = .int .i64 ((m : Int) - 1) ∧ WrAt wr base g 97 v' (L ++ (be 3 (BitVec.ofInt 64 n)).take (3 - m)) 0 ∧ Newer w v v' ∧ Turned (Mine g v) w wr) (fun i _ => (intOf i + 1).toNat)
  case atStart => exact ⟨3, v, by omega, by rfl, by simpa using hW, fun _ e => .inl e, turned_refl _ _⟩
  case round =>
    obtain ⟨m, v1, hm, rfl, hW1, hN1, hT1⟩ := hrel
    by_cases hm0 : m = 0
    · subst hm0
      rw [List.take_of_length_le (by omega)] at hW1
      have F : Hid _ := And.intro hW1 (And.intro hN1 hT1)
      clear hW1 hN1 hT1 hW c1
      go_wp2
      go_end0
      exact ⟨rfl, v1, F.out.1, F.out.2.1, F.out.2.2⟩
    · obtain ⟨k, rfl⟩ : ∃ k, m = k + 1 := ⟨m - 1, by omega⟩
      have e : (((k + 1 : Nat) : Int) - 1) = (k : Int) := by omega
      rw [e]
      obtain ⟨l, ho, hl⟩ := hW1.own
      have hl' := hl rfl
      subst hl'
      obtain ⟨av, nv, cv, rfl⟩ := own_slice ho
      have c0 := hW1.blk.cell (by simp [maxLen]) 0 (by simp)
      simp only [List.getElem?_cons_zero] at c0
      have hby := byte_be n 3 k (by omega) (by omega)
      have htk : (L ++ (be 3 (BitVec.ofInt 64 n)).take (3 - (k + 1))) ++ [(be 3 (BitVec.ofInt 64 n)).getD (3 - 1 - k) 0#8] = L ++ (be 3 (BitVec.ofInt 64 n)).take (3 - k) := by rw [take_more (be 3 (BitVec.ofInt 64 n)) 3 k hbl (by omega), List.append_assoc]
      have ll : (L ++ (be 3 (BitVec.ofInt 64 n)).take (3 - (k + 1))).length ≤ L.length + 8 := by rw [List.length_append, List.length_take]; omega
      generalize L ++ (be 3 (BitVec.ofInt 64 n)).take (3 - (k + 1)) = P1 at *
      generalize (be 3 (BitVec.ofInt 64 n)).getD (3 - 1 - k) 0#8 = cB at *
      have bA : Below wr.heap.size wr (wr.alloc (.cells #[.int .u8 (n / 2 ^ (8 * k) % 256)] 5)) := (Below.refl _ _).alloc (Nat.le_refl _) _
      have oA := ho.later bA
      have rA : Row (wr.alloc (.cells #[.int .u8 (n / 2 ^ (8 * k) % 256)] 5)) (some ⟨wr.heap.size, 0, none⟩) [cB] := Row.newl _ _ _ _ _ (by rw [hby]; rfl)
      have bW : base ≤ wr.heap.size + 1 := Nat.le_succ_of_le hW1.base_w
      have K : Hid _ := And.intro hW1 (And.intro hN1 (And.intro hT1 (And.intro bA (And.intro oA (And.intro rA htk)))))
      clear hW1 hN1 hT1 ho hl hW c1 bA oA rA htk hby
      go_wp2_with (at_builtin; refine wpList_append_bytes_at _ rfl _ _ rfl base (.slice av nv cv) P1 rfl K.out.2.2.2.2.1 (some ⟨wr.heap.size, 0, none⟩) 1 1 [cB] rfl rfl K.out.2.2.2.2.2.1 (fun h => by cases h) (Nat.le_refl _) (by omega) (by simpa using bW) ?_)
      intro v2 w2 ho2 hg2 hn2
      rw [K.out.2.2.2.2.2.2] at ho2
      obtain ⟨a2, n2, cap2, rfl⟩ := own_slice ho2
      have hB2 := (K.out.1.blk.grown (below_grown K.out.2.2.2.1) (by simp)).grown hg2 (fun e => own_apart K.out.2.2.2.2.1 (K.out.1.blk.grown (below_grown K.out.2.2.2.1) (by simp)) K.out.1.other g e.symm rfl)
      have d0 := hB2.cell (by simp [maxLen]) 0 (by simp)
      have f0 := hB2.frozen (by simp [maxLen]) 0
      simp only [List.getElem?_cons_zero] at d0
      have P : Hid _ := WrAt.more K.out.1 K.out.2.1 K.out.2.2.1 K.out.2.2.2.1 ho2 hg2 hn2
      clear ho2 hg2 hn2 hB2 K c0
      go_wp2
      go_roundw
      case rel => exact ⟨k, _, by omega, by go_num, P.out.1, P.out.2.1, P.out.2.2⟩
      case measure => simp [intOf]

set_option maxHeartbeats 1000000 in
theorem rwNum_4 (base g : Nat) (v : Value) (L : List (BitVec 8)) (n : Int) (w : World) (hW : WrAt w base g 97 v L 0) (hL : L.length + 8 ≤ 140737488351232) (h1 : -2147483648 ≤ n) (h2 : n ≤ 4294967295) :
    Calls Try.prog 52 #[.pointer (some ⟨g, 0, none⟩), .int .i64 4, .int .i64 n] w fun e w' => e = .returned (.tuple #[]) ∧ ∃ v', WrAt w' base g 97 v' (L ++ be 4 (BitVec.ofInt 64 n)) 0 ∧ Newer w v v' ∧ Turned (Mine g v) w w' := by
  have c1 := hW.blk.cell (by simp [maxLen]) 1 (by simp)
  simp only [List.getElem?_cons_zero, List.getElem?_cons_succ] at c1
  have t1 : ¬ n < -2147483648 := by omega
  have t2 : ¬ 4294967295 < n := by omega
  clear h1 h2
  have hbl := be_length 4 (BitVec.ofInt 64 n) (by omega)
  go_enter Try.func52, Try.ntmps52
  go_wp2_with fail
  go_loopw [8] (fun i wr => ∃ (m : Nat) (v' : Value), m ≤ 4 ∧ i = .int .i64 ((m : Int) - 1) ∧ WrAt wr base g 97 v' (L ++ (be 4 (BitVec.ofInt 64 n)).take (4 - m)) 0 ∧ Newer w v v' ∧ Turned (Mine g v) w wr) (fun i _ => (intOf i + 1).toNat)
  case atStart => exact ⟨4, v, by omega, by rfl, by simpa using hW, fun _ e => .inl e, turned_refl _ _⟩
  case round =>
    obtain ⟨m, v1, hm, rfl, hW1, hN1, hT1⟩ := hrel
    by_cases hm0 : m = 0
    · subst hm0
      rw [List.take_of_length_le (by omega)] at hW1
      have F : Hid _ := And.intro hW1 (And.intro hN1 hT1)
      clear hW1 hN1 hT1 hW c1
      go_wp2
      go_end0
      exact ⟨rfl, v1, F.out.1, F.out.2.1, F.out.2.2⟩
    · obtain ⟨k, rfl⟩ : ∃ k, m = k + 1 := ⟨m - 1, by omega⟩
      have e : (((k + 1 : Nat) : Int) - 1) = (k : Int) := by omega
      rw [e]
      obtain ⟨l, ho, hl⟩ := hW1.own
      have hl' := hl rfl
      subst hl'
      obtain ⟨av, nv, cv, rfl⟩ := own_slice ho
      have c0 := hW1.blk.cell (by simp [maxLen]) 0 (by simp)
      simp only [List.getElem?_cons_zero] at c0
      have hby := byte_be n 4 k (by omega) (by omega)
      have htk : (L ++ (be 4 (BitVec.ofInt 64 n)).take (4 - (k + 1))) ++ [(be 4 (BitVec.ofInt 64 n)).getD (4 - 1 - k) 0#8] = L ++ (be 4 (BitVec.ofInt 64 n)).take (4 - k) := by rw [take_more (be 4 (BitVec.ofInt 64 n)) 4 k hbl (by omega), List.append_assoc]
      have ll : (L ++ (be 4 (BitVec.ofInt 64 n)).take (4 - (k + 1))).length ≤ L.length + 8 := by rw [List.length_append, List.length_take]; omega
      generalize L ++ (be 4 (BitVec.ofInt 64 n)).take (4 - (k + 1)) = P1 at *
      generalize (be 4 (BitVec.ofInt 64 n)).getD (4 - 1 - k) 0#8 = cB at *
      have bA : Below wr.heap.size wr (wr.alloc (.cells #[.int .u8 (n / 2 ^ (8 * k) % 256)] 5)) := (Below.refl _ _).alloc (Nat.le_refl _) _
      have oA := ho.later bA
      have rA : Row (wr.alloc (.cells #[.int .u8 (n / 2 ^ (8 * k) % 256)] 5)) (some ⟨wr.heap.size, 0, none⟩) [cB] := Row.newl _ _ _ _ _ (by rw [hby]; rfl)
      have bW : base ≤ wr.heap.size + 1 := Nat.le_succ_of_le hW1.base_w
      have K : Hid _ := And.intro hW1 (And.intro hN1 (And.intro hT1 (And.intro bA (And.intro oA (And.intro rA htk)))))
      clear hW1 hN1 hT1 ho hl hW c1 bA oA rA htk hby
      go_wp2_with (at_builtin; refine wpList_append_bytes_at _ rfl _ _ rfl base (.slice av nv cv) P1 rfl K.out.2.2.2.2.1 (some ⟨wr.heap.size, 0, none⟩) 1 1 [cB] rfl rfl K.out.2.2.2.2.2.1 (fun h => by cases h) (Nat.le_refl _) (by omega) (by simpa using bW) ?_)
      intro v2 w2 ho2 hg2 hn2
      rw [K.out.2.2.2.2.2.2] at ho2
      obtain ⟨a2, n2, cap2, rfl⟩ := own_slice ho2
      have hB2 := (K.out.1.blk.grown (below_grown K.out.2.2.2.1) (by simp)).grown hg2 (fun e => own_apart K.out.2.2.2.2.1 (K.out.1.blk.grown (below_grown K.out.2.2.2.1) (by simp)) K.out.1.other g e.symm rfl)
      have d0 := hB2.cell (by simp [maxLen]) 0 (by simp)
      have f0 := hB2.frozen (by simp [maxLen]) 0
      simp only [List.getElem?_cons_zero] at d0
      have P : Hid _ := WrAt.more K.out.1 K.out.2.1 K.out.2.2.1 K.out.2.2.2.1 ho2 hg2 hn2
      clear ho2 hg2 hn2 hB2 K c0
      go_wp2
      go_roundw
      case rel => exact ⟨k, _, by omega, by go_num, P.out.1, P.out.2.1, P.out.2.2⟩
      case measure => simp [intOf]

set_option maxHeartbeats 1000000 in
theorem rwNum_5 (base g : Nat) (v : Value) (L : List (BitVec 8)) (n : Int) (w : World) (hW : WrAt w base g 97 v L 0) (hL : L.length + 8 ≤ 140737488351232) (h1 : -549755813888 ≤ n) (h2 : n ≤ 1099511627775) :
    Calls Try.prog 52 #[.pointer (some ⟨g, 0, none⟩), .int .i64 5, .int .i64 n] w fun e w' => e = .returned (.tuple #[]) ∧ ∃ v', WrAt w' base g 97 v' (L ++ be 5 (BitVec.ofInt 64 n)) 0 ∧ Newer w v v' ∧ Turned (Mine g v) w w' := by
  have c1 := hW.blk.cell (by simp [maxLen]) 1 (by simp)
  simp only [List.getElem?_cons_zero, List.getElem?_cons_succ] at c1
  have t1 : ¬ n < -549755813888 := by omega
  have t2 : ¬ 1099511627775 < n := by omega
  clear h1 h2
  have hbl := be_length 5 (BitVec.ofInt 64 n) (by omega)
  go_enter Try.func52, Try.ntmps52
  go_wp2_with fail
  go_loopw [8] (fun i wr => ∃ (m : Nat) (v' : Value), m ≤ 5 ∧ i = .int .i64 ((m : Int) - 1) ∧ WrAt wr base g 97 v' (L ++ (be 5 (BitVec.ofInt 64 n)).take (5 - m)) 0 ∧ Newer w v v' ∧ Turned (Mine g v) w wr) (fun i _ => (intOf i + 1).toNat)
  case atStart => exact ⟨5, v, by omega, by rfl, by simpa using hW, fun _ e => .inl e, turned_refl _ _⟩
  case round =>
    obtain ⟨m, v1, hm, rfl, hW1, hN1, hT1⟩ := hrel
    by_cases hm0 : m = 0
    · subst hm0
      rw [List.take_of_length_le (by omega)] at hW1
      have F : Hid _ := And.intro hW1 (And.intro hN1 hT1)
      clear hW1 hN1 hT1 hW c1
      go_wp2
      go_end0
      exact ⟨rfl, v1, F.out.1, F.out.2.1, F.out.2.2⟩
    · obtain ⟨k, rfl⟩ : ∃ k, m = k + 1 := ⟨m - 1, by omega⟩
      have e : (((k + 1 : Nat) : Int) - 1) = (k : Int) := by omega
      rw [e]
      obtain ⟨l, ho, hl⟩ := hW1.own
      have hl' := hl rfl
      subst hl'
      obtain ⟨av, nv, cv, rfl⟩ := own_slice ho
      have c0 := hW1.blk.cell (by simp [maxLen]) 0 (by simp)
      simp only [List.getElem?_cons_zero] at c0
      have hby := byte_be n 5 k (by omega) (by omega)
      have htk : (L ++ (be 5 (BitVec.ofInt 64 n)).take (5 - (k + 1))) ++ [(be 5 (BitVec.ofInt 64 n)).getD (5 - 1 - k) 0#8] = L ++ (be 5 (BitVec.ofInt 64 n)).take (5 - k) := by rw [take_more (be 5 (BitVec.ofInt 64 n)) 5 k hbl (by omega), List.append_assoc]
      have ll : (L ++ (be 5 (BitVec.ofInt 64 n)).take (5 - (k + 1))).length ≤ L.length + 8 := by rw [List.length_append, List.length_take]; omega
      generalize L ++ (be 5 (BitVec.ofInt 64 n)).take (5 - (k + 1)) = P1 at *
      generalize (be 5 (BitVec.ofInt 64 n)).getD (5 - 1 - k) 0#8 = cB at *
      have bA : Below wr.heap.size wr (wr.alloc (.cells #[.int .u8 (n / 2 ^ (8 * k) % 256)] 5)) := (Below.refl _ _).alloc (Nat.le_refl _) _
      have oA := ho.later bA
      have rA : Row (wr.alloc (.cells #[.int .u8 (n / 2 ^ (8 * k) % 256)] 5)) (some ⟨wr.heap.size, 0, none⟩) [cB] := Row.newl _ _ _ _ _ (by rw [hby]; rfl)
      have bW : base ≤ wr.heap.size + 1 := Nat.le_succ_of_le hW1.base_w
      have K : Hid _ := And.intro hW1 (And.intro hN1 (And.intro hT1 (And.intro bA (And.intro oA (And.intro rA htk)))))
      clear hW1 hN1 hT1 ho hl hW c1 bA oA rA htk hby
      go_wp2_with (at_builtin; refine wpList_append_bytes_at _ rfl _ _ rfl base (.slice av nv cv) P1 rfl K.out.2.2.2.2.1 (some ⟨wr.heap.size, 0, none⟩) 1 1 [cB] rfl rfl K.out.2.2.2.2.2.1 (fun h => by cases h) (Nat.le_refl _) (by omega) (by simpa using bW) ?_)
      intro v2 w2 ho2 hg2 hn2
      rw [K.out.2.2.2.2.2.2] at ho2
      obtain ⟨a2, n2, cap2, rfl⟩ := own_slice ho2
      have hB2 := (K.out.1.blk.grown (below_grown K.out.2.2.2.1) (by simp)).grown hg2 (fun e => own_apart K.out.2.2.2.2.1 (K.out.1.blk.grown (below_grown K.out.2.2.2.1) (by simp)) K.out.1.other g e.symm rfl)
      have d0 := hB2.cell (by simp [maxLen]) 0 (by simp)
      have f0 := hB2.frozen (by simp [maxLen]) 0
      simp only [List.getElem?_cons_zero] at d0
      have P : Hid _ := WrAt.more K.out.1 K.out.2.1 K.out.2.2.1 K.out.2.2.2.1 ho2 hg2 hn2
      clear ho2 hg2 hn2 hB2 K c0
      go_wp2
      go_roundw
      case rel => exact ⟨k, _, by omega, by go_num, P.out.1, P.out.2.1, P.out.2.2⟩
      case measure => simp [intOf]

set_option maxHeartbeats 1000000 in
theorem rwNum_6 (base g : Nat) (v : Value) (L : List (BitVec 8)) (n : Int) (w : World) (hW : WrAt w base g 97 v L 0) (hL : L.length + 8 ≤ 140737488351232) (h1 : -140737488355328 ≤ n) (h2 : n ≤ 281474976710655) :
    Calls Try.prog 52 #[.pointer (some ⟨g, 0, none⟩), .int .i64 6, .int .i64 n] w fun e w' => e = .returned (.tuple #[]) ∧ ∃ v', WrAt w' base g 97 v' (L ++ be 6 (BitVec.ofInt 64 n)) 0 ∧ Newer w v v' ∧ Turned (Mine g v) w w' := by
  have c1 := hW.blk.cell (by simp [maxLen]) 1 (by simp)
  simp only [List.getElem?_cons_zero, List.getElem?_cons_succ] at c1
  have t1 : ¬ n < -140737488355328 := by omega
  have t2 : ¬ 281474976710655 < n := by omega
  clear h1 h2
  have hbl := be_length 6 (BitVec.ofInt 64 n) (by omega)
  go_enter Try.func52, Try.ntmps52
  go_wp2_with fail
  go_loopw [8] (fun i wr => ∃ (m : Nat) (v' : Value), m ≤ 6 ∧ i = .int .i64 ((m : Int) - 1) ∧ WrAt wr base g 97 v' (L ++ (be 6 (BitVec.ofInt 64 n)).take (6 - m)) 0 ∧ Newer w v v' ∧ Turned (Mine g v) w wr) (fun i _ => (intOf i + 1).toNat)
  case atStart => exact ⟨6, v, by omega, by rfl, by simpa using hW, fun _ e => .inl e, turned_refl _ _⟩
  case round =>
    obtain ⟨m, v1, hm, rfl, hW1, hN1, hT1⟩ := hrel
    by_cases hm0 : m = 0
    · subst hm0
      rw [List.take_of_length_le (by omega)] at hW1
      have F : Hid _ := And.intro hW1 (And.intro hN1 hT1)
      clear hW1 hN1 hT1 hW c1
      go_wp2
      go_end0
      exact ⟨rfl, v1, F.out.1, F.out.2.1, F.out.2.2⟩
    · obtain ⟨k, rfl⟩ : ∃ k, m = k + 1 := ⟨m - 1, by omega⟩
      have e : (((k + 1 : Nat) : Int) - 1) = (k : Int) := by omega
      rw [e]
      obtain ⟨l, ho, hl⟩ := hW1.own
      have hl' := hl rfl
      subst hl'
      obtain ⟨av, nv, cv, rfl⟩ := own_slice ho
      have c0 := hW1.blk.cell (by simp [maxLen]) 0 (by simp)
      simp only [List.getElem?_cons_zero] at c0
      have hby := byte_be n 6 k (by omega) (by omega)
      have htk : (L ++ (be 6 (BitVec.ofInt 64 n)).take (6 - (k + 1))) ++ [(be 6 (BitVec.ofInt 64 n)).getD (6 - 1 - k) 0#8] = L ++ (be 6 (BitVec.ofInt 64 n)).take (6 - k) := by rw [take_more (be 6 (BitVec.ofInt 64 n)) 6 k hbl (by omega), List.append_assoc]
      have ll : (L ++ (be 6 (BitVec.ofInt 64 n)).take (6 - (k + 1))).length ≤ L.length + 8 := by rw [List.length_append, List.length_take]; omega
      generalize L ++ (be 6 (BitVec.ofInt 64 n)).take (6 - (k + 1)) = P1 at *
      generalize (be 6 (BitVec.ofInt 64 n)).getD (6 - 1 - k) 0#8 = cB at *
      have bA : Below wr.heap.size wr (wr.alloc (.cells #[.int .u8 (n / 2 ^ (8 * k) % 256)] 5)) := (Below.refl _ _).alloc (Nat.le_refl _) _
      have oA := ho.later bA
      have rA : Row (wr.alloc (.cells #[.int .u8 (n / 2 ^ (8 * k) % 256)] 5)) (some ⟨wr.heap.size, 0, none⟩) [cB] := Row.newl _ _ _ _ _ (by rw [hby]; rfl)
      have bW : base ≤ wr.heap.size + 1 := Nat.le_succ_of_le hW1.base_w
      have K : Hid _ := And.intro hW1 (And.intro hN1 (And.intro hT1 (And.intro bA (And.intro oA (And.intro rA htk)))))
      clear hW1 hN1 hT1 ho hl hW c1 bA oA rA htk hby
      go_wp2_with (at_builtin; refine wpList_append_bytes_at _ rfl _ _ rfl base (.slice av nv cv) P1 rfl K.out.2.2.2.2.1 (some ⟨wr.heap.size, 0, none⟩) 1 1 [cB] rfl rfl K.out.2.2.2.2.2.1 (fun h => by cases h) (Nat.le_refl _) (by omega) (by simpa using bW) ?_)
      intro v2 w2 ho2 hg2 hn2
      rw [K.out.2.2.2.2.2.2] at ho2
      obtain ⟨a2, n2, cap2, rfl⟩ := own_slice ho2
      have hB2 := (K.out.1.blk.grown (below_grown K.out.2.2.2.1) (by simp)).grown hg2 (fun e => own_apart K.out.2.2.2.2.1 (K.out.1.blk.grown (below_grown K.out.2.2.2.1) (by simp)) K.out.1.other g e.symm rfl)
      have d0 := hB2.cell (by simp [maxLen]) 0 (by simp)
      have f0 := hB2.frozen (by simp [maxLen]) 0
      simp only [List.getElem?_cons_zero] at d0
      have P : Hid _ := WrAt.more K.out.1 K.out.2.1 K.out.2.2.1 K.out.2.2.2.1 ho2 hg2 hn2
      clear ho2 hg2 hn2 hB2 K c0
      go_wp2
      go_roundw
      case rel => exact ⟨k, _, by omega, by go_num, P.out.1, P.out.2.1, P.out.2.2⟩
      case measure => simp [intOf]

set_option maxHeartbeats 1000000 in
theorem rwNum_7 (base g : Nat) (v : Value) (L : List (BitVec 8)) (n : Int) (w : World) (hW : WrAt w base g 97 v L 0) (hL : L.length + 8 ≤ 140737488351232) (h1 : -36028797018963968 ≤ n) (h2 : n ≤ 72057594037927935) :
    Calls Try.prog 52 #[.pointer (some ⟨g, 0, none⟩), .int .i64 7, .int .i64 n] w fun e w' => e = .returned (.tuple #[]) ∧ ∃ v', WrAt w' base g 97 v' (L ++ be 7 (BitVec.ofInt 64 n)) 0 ∧ Newer w v v' ∧ Turned (Mine g v) w w' := by
  have c1 := hW.blk.cell (by simp [maxLen]) 1 (by simp)
  simp only [List.getElem?_cons_zero, List.getElem?_cons_succ] at c1
  have t1 : ¬ n < -36028797018963968 := by omega
  have t2 : ¬ 72057594037927935 < n := by omega
  clear h1 h2
  have hbl := be_length 7 (BitVec.ofInt 64 n) (by omega)
  go_enter Try.func52, Try.ntmps52
  go_wp2_with fail
  go_loopw [8] (fun i wr => ∃ (m : Nat) (v' : Value), m ≤ 7 ∧ i = .int .i64 ((m : Int) - 1) ∧ WrAt wr base g 97 v' (L ++ (be 7 (BitVec.ofInt 64 n)).take (7 - m)) 0 ∧ Newer w v v' ∧ Turned (Mine g v) w wr) (fun i _ => (intOf i + 1).toNat)
  case atStart => exact ⟨7, v, by omega, by rfl, by simpa using hW, fun _ e => .inl e, turned_refl _ _⟩
  case round =>
    obtain ⟨m, v1, hm, rfl, hW1, hN1, hT1⟩ := hrel
    by_cases hm0 : m = 0
    · subst hm0
      rw [List.take_of_length_le (by omega)] at hW1
      have F : Hid _ := And.intro hW1 (And.intro hN1 hT1)
      clear hW1 hN1 hT1 hW c1
      go_wp2
      go_end0
      exact ⟨rfl, v1, F.out.1, F.out.2.1, F.out.2.2⟩
    · obtain ⟨k, rfl⟩ : ∃ k, m = k + 1 := ⟨m - 1, by omega⟩
      have e : (((k + 1 : Nat) : Int) - 1) = (k : Int) := by omega
      rw [e]
      obtain ⟨l, ho, hl⟩ := hW1.own
      have hl' := hl rfl
      subst hl'
      obtain ⟨av, nv, cv, rfl⟩ := own_slice ho
      have c0 := hW1.blk.cell (by simp [maxLen]) 0 (by simp)
      simp only [List.getElem?_cons_zero] at c0
      have hby := byte_be n 7 k (by omega) (by omega)
      have htk : (L ++ (be 7 (BitVec.ofInt 64 n)).take (7 - (k + 1))) ++ [(be 7 (BitVec.ofInt 64 n)).getD (7 - 1 - k) 0#8] = L ++ (be 7 (BitVec.ofInt 64 n)).take (7 - k) := by rw [take_more (be 7 (BitVec.ofInt 64 n)) 7 k hbl (by omega), List.append_assoc]
      have ll : (L ++ (be 7 (BitVec.ofInt 64 n)).take (7 - (k + 1))).length ≤ L.length + 8 := by rw [List.length_append, List.length_take]; omega
      generalize L ++ (be 7 (BitVec.ofInt 64 n)).take (7 - (k + 1)) = P1 at *
      generalize (be 7 (BitVec.ofInt 64 n)).getD (7 - 1 - k) 0#8 = cB at *
      have bA : Below wr.heap.size wr (wr.alloc (.cells #[.int .u8 (n / 2 ^ (8 * k) % 256)] 5)) := (Below.refl _ _).alloc (Nat.le_refl _) _
      have oA := ho.later bA
      have rA : Row (wr.alloc (.cells #[.int .u8 (n / 2 ^ (8 * k) % 256)] 5)) (some ⟨wr.heap.size, 0, none⟩) [cB] := Row.newl _ _ _ _ _ (by rw [hby]; rfl)
      have bW : base ≤ wr.heap.size + 1 := Nat.le_succ_of_le hW1.base_w
      have K : Hid _ := And.intro hW1 (And.intro hN1 (And.intro hT1 (And.intro bA (And.intro oA (And.intro rA htk)))))
      clear hW1 hN1 hT1 ho hl hW c1 bA oA rA htk hby
      go_wp2_with (at_builtin; refine wpList_append_bytes_at _ rfl _ _ rfl base (.slice av nv cv) P1 rfl K.out.2.2.2.2.1 (some ⟨wr.heap.size, 0, none⟩) 1 1 [cB] rfl rfl K.out.2.2.2.2.2.1 (fun h => by cases h) (Nat.le_refl _) (by omega) (by simpa using bW) ?_)
      intro v2 w2 ho2 hg2 hn2
      rw [K.out.2.2.2.2.2.2] at ho2
      obtain ⟨a2, n2, cap2, rfl⟩ := own_slice ho2
      have hB2 := (K.out.1.blk.grown (below_grown K.out.2.2.2.1) (by simp)).grown hg2 (fun e => own_apart K.out.2.2.2.2.1 (K.out.1.blk.grown (below_grown K.out.2.2.2.1) (by simp)) K.out.1.other g e.symm rfl)
      have d0 := hB2.cell (by simp [maxLen]) 0 (by simp)
      have f0 := hB2.frozen (by simp [maxLen]) 0
      simp only [List.getElem?_cons_zero] at d0
      have P : Hid _ := WrAt.more K.out.1 K.out.2.1 K.out.2.2.1 K.out.2.2.2.1 ho2 hg2 hn2
      clear ho2 hg2 hn2 hB2 K c0
      go_wp2
      go_roundw
      case rel => exact ⟨k, _, by omega, by go_num, P.out.1, P.out.2.1, P.out.2.2⟩
      case measure => simp [intOf]

set_option maxHeartbeats 1000000 in
theorem rwNum_8 (base g : Nat) (v : Value) (L : List (BitVec 8)) (n : Int) (w : World) (hW : WrAt w base g 97 v L 0) (hL : L.length + 8 ≤ 140737488351232)  :
    Calls Try.prog 52 #[.pointer (some ⟨g, 0, none⟩), .int .i64 8, .int .i64 n] w fun e w' => e = .returned (.tuple #[]) ∧ ∃ v', WrAt w' base g 97 v' (L ++ be 8 (BitVec.ofInt 64 n)) 0 ∧ Newer w v v' ∧ Turned (Mine g v) w w' := by
  have c1 := hW.blk.cell (by simp [maxLen]) 1 (by simp)
  simp only [List.getElem?_cons_zero, List.getElem?_cons_succ] at c1
  have hbl := be_length 8 (BitVec.ofInt 64 n) (by omega)
  go_enter Try.func52, Try.ntmps52
  go_wp2_with fail
  go_loopw [8] (fun i wr => ∃ (m : Nat) (v' : Value), m ≤ 8 ∧ i = .int .i64 ((m : Int) - 1) ∧ WrAt wr base g 97 v' (L ++ (be 8 (BitVec.ofInt 64 n)).take (8 - m)) 0 ∧ Newer w v v' ∧ Turned (Mine g v) w wr) (fun i _ => (intOf i + 1).toNat)
  case atStart => exact ⟨8, v, by omega, by rfl, by simpa using hW, fun _ e => .inl e, turned_refl _ _⟩
  case round =>
    obtain ⟨m, v1, hm, rfl, hW1, hN1, hT1⟩ := hrel
    by_cases hm0 : m = 0
    · subst hm0
      rw [List.take_of_length_le (by omega)] at hW1
      have F : Hid _ := And.intro hW1 (And.intro hN1 hT1)
      clear hW1 hN1 hT1 hW c1
      go_wp2
      go_end0
      exact ⟨rfl, v1, F.out.1, F.out.2.1, F.out.2.2⟩
    · obtain ⟨k, rfl⟩ : ∃ k, m = k + 1 := ⟨m - 1, by omega⟩
      have e : (((k + 1 : Nat) : Int) - 1) = (k : Int) := by omega
      rw [e]
      obtain ⟨l, ho, hl⟩ := hW1.own
      have hl' := hl rfl
      subst hl'
      obtain ⟨av, nv, cv, rfl⟩ := own_slice ho
      have c0 := hW1.blk.cell (by simp [maxLen]) 0 (by simp)
      simp only [List.getElem?_cons_zero] at c0
      have hby := byte_be n 8 k (by omega) (by omega)
      have htk : (L ++ (be 8 (BitVec.ofInt 64 n)).take (8 - (k + 1))) ++ [(be 8 (BitVec.ofInt 64 n)).getD (8 - 1 - k) 0#8] = L ++ (be 8 (BitVec.ofInt 64 n)).take (8 - k) := by rw [take_more (be 8 (BitVec.ofInt 64 n)) 8 k hbl (by omega), List.append_assoc]
      have ll : (L ++ (be 8 (BitVec.ofInt 64 n)).take (8 - (k + 1))).length ≤ L.length + 8 := by rw [List.length_append, List.length_take]; omega
      generalize L ++ (be 8 (BitVec.ofInt 64 n)).take (8 - (k + 1)) = P1 at *
      generalize (be 8 (BitVec.ofInt 64 n)).getD (8 - 1 - k) 0#8 = cB at *
      have bA : Below wr.heap.size wr (wr.alloc (.cells #[.int .u8 (n / 2 ^ (8 * k) % 256)] 5)) := (Below.refl _ _).alloc (Nat.le_refl _) _
      have oA := ho.later bA
      have rA : Row (wr.alloc (.cells #[.int .u8 (n / 2 ^ (8 * k) % 256)] 5)) (some ⟨wr.heap.size, 0, none⟩) [cB] := Row.newl _ _ _ _ _ (by rw [hby]; rfl)
      have bW : base ≤ wr.heap.size + 1 := Nat.le_succ_of_le hW1.base_w
      have K : Hid _ := And.intro hW1 (And.intro hN1 (And.intro hT1 (And.intro bA (And.intro oA (And.intro rA htk)))))
      clear hW1 hN1 hT1 ho hl hW c1 bA oA rA htk hby
      go_wp2_with (at_builtin; refine wpList_append_bytes_at _ rfl _ _ rfl base (.slice av nv cv) P1 rfl K.out.2.2.2.2.1 (some ⟨wr.heap.size, 0, none⟩) 1 1 [cB] rfl rfl K.out.2.2.2.2.2.1 (fun h => by cases h) (Nat.le_refl _) (by omega) (by simpa using bW) ?_)
      intro v2 w2 ho2 hg2 hn2
      rw [K.out.2.2.2.2.2.2] at ho2
      obtain ⟨a2, n2, cap2, rfl⟩ := own_slice ho2
      have hB2 := (K.out.1.blk.grown (below_grown K.out.2.2.2.1) (by simp)).grown hg2 (fun e => own_apart K.out.2.2.2.2.1 (K.out.1.blk.grown (below_grown K.out.2.2.2.1) (by simp)) K.out.1.other g e.symm rfl)
      have d0 := hB2.cell (by simp [maxLen]) 0 (by simp)
      have f0 := hB2.frozen (by simp [maxLen]) 0
      simp only [List.getElem?_cons_zero] at d0
      have P : Hid _ := WrAt.more K.out.1 K.out.2.1 K.out.2.2.1 K.out.2.2.2.1 ho2 hg2 hn2
      clear ho2 hg2 hn2 hB2 K c0
      go_wp2
      go_roundw
      case rel => exact ⟨k, _, by omega, by go_num, P.out.1, P.out.2.1, P.out.2.2⟩
      case measure => simp [intOf]

/-- an error is set; the bytes stay -/
theorem WrAt.err {w : World} {base g T : Nat} {v : Value} {L : List (BitVec 8)} {E E' : Int} (h : WrAt w base g T v L E) (hE : E' ≠ 0) :
    ∃ v', WrAt (w.setCell ⟨g, 1, none⟩ (.int .i64 E')) base g T v' [] E' ∧ Newer w v v' ∧ Turned (Mine g v) w (w.setCell ⟨g, 1, none⟩ (.int .i64 E')) := by
  obtain ⟨hB, ⟨l, ho, hl⟩, hb, hw, hT⟩ := h
  have hG := grown_set w g 1 (.int .i64 E')
  refine ⟨v, ⟨hB.set 1 (.int .i64 E'), ⟨l, ho.keep hG (fun k hk e => ?_), fun e => absurd e hE⟩, hb, Nat.le_trans hw hG.size, hT⟩, fun _ e => .inl e, turned_grown hG (fun k e => .inl (by simpa using e.symm))⟩
  exact own_apart ho hB hT k hk (by simpa using e)

set_option maxHeartbeats 400000 in
theorem rwNum_no1 (base g : Nat) (v : Value) (L : List (BitVec 8)) (n : Int) (w : World) (hW : WrAt w base g 97 v L 0) (h : n < -128 ∨ 255 < n) :
    Calls Try.prog 52 #[.pointer (some ⟨g, 0, none⟩), .int .i64 1, .int .i64 n] w fun e w' => e = .returned (.tuple #[]) ∧ ∃ v', WrAt w' base g 97 v' [] 3 ∧ Newer w v v' ∧ Turned (Mine g v) w w' := by
  have c1 := hW.blk.cell (by simp [maxLen]) 1 (by simp)
  have f1 := hW.blk.frozen (by simp [maxLen]) 1
  simp only [List.getElem?_cons_zero, List.getElem?_cons_succ] at c1
  have P : Hid _ := hW.err (show (3 : Int) ≠ 0 by decide)
  clear hW
  by_cases h1 : n < -128
  · clear h
    go_enter Try.func52, Try.ntmps52
    go_wp2
    refine bodyPost_ret (results_none rfl _ _ _) rfl ?_
    exact ⟨rfl, P.out⟩
  · have h2 : 255 < n := by omega
    clear h
    go_enter Try.func52, Try.ntmps52
    go_wp2
    refine bodyPost_ret (results_none rfl _ _ _) rfl ?_
    exact ⟨rfl, P.out⟩

set_option maxHeartbeats 400000 in
theorem rwNum_no2 (base g : Nat) (v : Value) (L : List (BitVec 8)) (n : Int) (w : World) (hW : WrAt w base g 97 v L 0) (h : n < -32768 ∨ 65535 < n) :
    Calls Try.prog 52 #[.pointer (some ⟨g, 0, none⟩), .int .i64 2, .int .i64 n] w fun e w' => e = .returned (.tuple #[]) ∧ ∃ v', WrAt w' base g 97 v' [] 3 ∧ Newer w v v' ∧ Turned (Mine g v) w w' := by
  have c1 := hW.blk.cell (by simp [maxLen]) 1 (by simp)
  have f1 := hW.blk.frozen (by simp [maxLen]) 1
  simp only [List.getElem?_cons_zero, List.getElem?_cons_succ] at c1
  have P : Hid _ := hW.err (show (3 : Int) ≠ 0 by decide)
  clear hW
  by_cases h1 : n < -32768
  · clear h
    go_enter Try.func52, Try.ntmps52
    go_wp2
    refine bodyPost_ret (results_none rfl _ _ _) rfl ?_
    exact ⟨rfl, P.out⟩
  · have h2 : 65535 < n := by omega
    clear h
    go_enter Try.func52, Try.ntmps52
    go_wp2
    refine bodyPost_ret (results_none rfl _ _ _) rfl ?_
    exact ⟨rfl, P.out⟩

set_option maxHeartbeats 400000 in
theorem rwNum_no3 (base g : Nat) (v : Value) (L : List (BitVec 8)) (n : Int) (w : World) (hW : WrAt w base g 97 v L 0) (h : n < -8388608 ∨ 16777215 < n) :
    Calls Try.prog 52 #[.pointer (some ⟨g, 0, none⟩), .int .i64 3, .int .i64 n] w fun e w' => e = .returned (.tuple #[]) ∧ ∃ v', WrAt w' base g 97 v' [] 3 ∧ Newer w v v' ∧ Turned (Mine g v) w w' := by
  have c1 := hW.blk.cell (by simp [maxLen]) 1 (by simp)
  have f1 := hW.blk.frozen (by simp [maxLen]) 1
  simp only [List.getElem?_cons_zero, List.getElem?_cons_succ] at c1
  have P : Hid _ := hW.err (show (3 : Int) ≠ 0 by decide)
  clear hW
  by_cases h1 : n < -8388608
  · clear h
    go_enter Try.func52, Try.ntmps52
    go_wp2
    refine bodyPost_ret (results_none rfl _ _ _) rfl ?_
    exact ⟨rfl, P.out⟩
  · have h2 : 16777215 < n := by omega
    clear h
    go_enter Try.func52, Try.ntmps52
    go_wp2
    refine bodyPost_ret (results_none rfl _ _ _) rfl ?_
    exact ⟨rfl, P.out⟩

set_option maxHeartbeats 400000 in
theorem rwNum_no4 (base g : Nat) (v : Value) (L : List (BitVec 8)) (n : Int) (w : World) (hW : WrAt w base g 97 v L 0) (h : n < -2147483648 ∨ 4294967295 < n) :
    Calls Try.prog 52 #[.pointer (some ⟨g, 0, none⟩), .int .i64 4, .int .i64 n] w fun e w' => e = .returned (.tuple #[]) ∧ ∃ v', WrAt w' base g 97 v' [] 3 ∧ Newer w v v' ∧ Turned (Mine g v) w w' := by
  have c1 := hW.blk.cell (by simp [maxLen]) 1 (by simp)
  have f1 := hW.blk.frozen (by simp [maxLen]) 1
  simp only [List.getElem?_cons_zero, List.getElem?_cons_succ] at c1
  have P : Hid _ := hW.err (show (3 : Int) ≠ 0 by decide)
  clear hW
  by_cases h1 : n < -2147483648
  · clear h
    go_enter Try.func52, Try.ntmps52
    go_wp2
    refine bodyPost_ret (results_none rfl _ _ _) rfl ?_
    exact ⟨rfl, P.out⟩
  · have h2 : 4294967295 < n := by omega
    clear h
    go_enter Try.func52, Try.ntmps52
    go_wp2
    refine bodyPost_ret (results_none rfl _ _ _) rfl ?_
    exact ⟨rfl, P.out⟩

set_option maxHeartbeats 400000 in
theorem rwNum_no5 (base g : Nat) (v : Value) (L : List (BitVec 8)) (n : Int) (w : World) (hW : WrAt w base g 97 v L 0) (h : n < -549755813888 ∨ 1099511627775 < n) :
    Calls Try.prog 52 #[.pointer (some ⟨g, 0, none⟩), .int .i64 5, .int .i64 n] w fun e w' => e = .returned (.tuple #[]) ∧ ∃ v', WrAt w' base g 97 v' [] 3 ∧ Newer w v v' ∧ Turned (Mine g v) w w' := by
  have c1 := hW.blk.cell (by simp [maxLen]) 1 (by simp)
  have f1 := hW.blk.frozen (by simp [maxLen]) 1
  simp only [List.getElem?_cons_zero, List.getElem?_cons_succ] at c1
  have P : Hid _ := hW.err (show (3 : Int) ≠ 0 by decide)
  clear hW
  by_cases h1 : n < -549755813888
  · clear h
    go_enter Try.func52, Try.ntmps52
    go_wp2
    refine bodyPost_ret (results_none rfl _ _ _) rfl ?_
    exact ⟨rfl, P.out⟩
  · have h2 : 1099511627775 < n := by omega
    clear h
    go_enter Try.func52, Try.ntmps52
    go_wp2
    refine bodyPost_ret (results_none rfl _ _ _) rfl ?_
    exact ⟨rfl, P.out⟩

set_option maxHeartbeats 400000 in
theorem rwNum_no6 (base g : Nat) (v : Value) (L : List (BitVec 8)) (n : Int) (w : World) (hW : WrAt w base g 97 v L 0) (h : n < -140737488355328 ∨ 281474976710655 < n) :
    Calls Try.prog 52 #[.pointer (some ⟨g, 0, none⟩), .int .i64 6, .int .i64 n] w fun e w' => e = .returned (.tuple #[]) ∧ ∃ v', WrAt w' base g 97 v' [] 3 ∧ Newer w v v' ∧ Turned (Mine g v) w w' := by
  have c1 := hW.blk.cell (by simp [maxLen]) 1 (by simp)
  have f1 := hW.blk.frozen (by simp [maxLen]) 1
  simp only [List.getElem?_cons_zero, List.getElem?_cons_succ] at c1
  have P : Hid _ := hW.err (show (3 : Int) ≠ 0 by decide)
  clear hW
  by_cases h1 : n < -140737488355328
  · clear h
    go_enter Try.func52, Try.ntmps52
    go_wp2
    refine bodyPost_ret (results_none rfl _ _ _) rfl ?_
    exact ⟨rfl, P.out⟩
  · have h2 : 281474976710655 < n := by omega
    clear h
    go_enter Try.func52, Try.ntmps52
    go_wp2
    refine bodyPost_ret (results_none rfl _ _ _) rfl ?_
    exact ⟨rfl, P.out⟩

set_option maxHeartbeats 400000 in
theorem rwNum_no7 (base g : Nat) (v : Value) (L : List (BitVec 8)) (n : Int) (w : World) (hW : WrAt w base g 97 v L 0) (h : n < -36028797018963968 ∨ 72057594037927935 < n) :
    Calls Try.prog 52 #[.pointer (some ⟨g, 0, none⟩), .int .i64 7, .int .i64 n] w fun e w' => e = .returned (.tuple #[]) ∧ ∃ v', WrAt w' base g 97 v' [] 3 ∧ Newer w v v' ∧ Turned (Mine g v) w w' := by
  have c1 := hW.blk.cell (by simp [maxLen]) 1 (by simp)
  have f1 := hW.blk.frozen (by simp [maxLen]) 1
  simp only [List.getElem?_cons_zero, List.getElem?_cons_succ] at c1
  have P : Hid _ := hW.err (show (3 : Int) ≠ 0 by decide)
  clear hW
  by_cases h1 : n < -36028797018963968
  · clear h
    go_enter Try.func52, Try.ntmps52
    go_wp2
    refine bodyPost_ret (results_none rfl _ _ _) rfl ?_
    exact ⟨rfl, P.out⟩
  · have h2 : 72057594037927935 < n := by omega
    clear h
    go_enter Try.func52, Try.ntmps52
    go_wp2
    refine bodyPost_ret (results_none rfl _ _ _) rfl ?_
    exact ⟨rfl, P.out⟩

set_option maxHeartbeats 400000 in
theorem rwNum_arg (base g : Nat) (v : Value) (L : List (BitVec 8)) (size n : Int) (w : World) (hW : WrAt w base g 97 v L 0) (h : size < 1 ∨ 8 < size) :
    Calls Try.prog 52 #[.pointer (some ⟨g, 0, none⟩), .int .i64 size, .int .i64 n] w fun e w' => e = .returned (.tuple #[]) ∧ ∃ v', WrAt w' base g 97 v' [] 1 ∧ Newer w v v' ∧ Turned (Mine g v) w w' := by
  have c1 := hW.blk.cell (by simp [maxLen]) 1 (by simp)
  have f1 := hW.blk.frozen (by simp [maxLen]) 1
  simp only [List.getElem?_cons_zero, List.getElem?_cons_succ] at c1
  have P : Hid _ := hW.err (show (1 : Int) ≠ 0 by decide)
  clear hW
  by_cases h1 : size < 1
  · clear h
    go_enter Try.func52, Try.ntmps52
    go_wp2
    refine bodyPost_ret (results_none rfl _ _ _) rfl ?_
    exact ⟨rfl, P.out⟩
  · have h2 : 8 < size := by omega
    clear h
    go_enter Try.func52, Try.ntmps52
    go_wp2
    refine bodyPost_ret (results_none rfl _ _ _) rfl ?_
    exact ⟨rfl, P.out⟩

set_option maxHeartbeats 400000 in
theorem rwNum_err (base g : Nat) (v : Value) (L : List (BitVec 8)) (E size n : Int) (w : World) (hW : WrAt w base g 97 v L E) (hE : E ≠ 0) :
    Calls Try.prog 52 #[.pointer (some ⟨g, 0, none⟩), .int .i64 size, .int .i64 n] w fun e w' => e = .returned (.tuple #[]) ∧ w = w' := by
  have c1 := hW.blk.cell (by simp [maxLen]) 1 (by simp)
  simp only [List.getElem?_cons_zero, List.getElem?_cons_succ] at c1
  clear hW
  go_enter Try.func52, Try.ntmps52
  go_wp2
  refine bodyPost_ret (results_none rfl _ _ _) rfl ?_
  exact ⟨rfl, rfl⟩

theorem rwNum_any (base g : Nat) (v : Value) (L : List (BitVec 8)) (E size n : Int) (w : World) (hW : WrAt w base g 97 v L E) (hL : L.length + 8 ≤ 140737488351232) :
    Calls Try.prog 52 #[.pointer (some ⟨g, 0, none⟩), .int .i64 size, .int .i64 n] w fun e w' => e = .returned (.tuple #[]) ∧ ∃ v', WrAt w' base g 97 v' (wrNum L E size n).1 (wrNum L E size n).2 ∧ Newer w v v' ∧ Turned (Mine g v) w w' := by
  by_cases hE : E = 0
  · subst hE
    by_cases hr : size < 1 ∨ 8 < size
    · have e : wrNum L 0 size n = ([], 1) := by
        unfold wrNum wnE widthB
        rw [if_pos rfl, show decide (1 ≤ size ∧ size ≤ 8) = false by rw [decide_eq_false_iff_not]; omega]
        rfl
      rw [e]
      exact rwNum_arg base g v L size n w hW hr
    · have hw : widthB size = true := by unfold widthB; rw [decide_eq_true_eq]; omega
      have e : wrNum L 0 size n = (if wnE size n = 0 then (L ++ be size.toNat (BitVec.ofInt 64 n), 0) else ([], wnE size n)) := by unfold wrNum; rw [if_pos rfl]
      rw [e]
      have e2 : wnE size n = if size = 8 then 0 else if n < -(2 ^ (8 * size.toNat - 1)) ∨ 2 ^ (8 * size.toNat) - 1 < n then 3 else 0 := by unfold wnE; rw [hw]; rfl
      have hc : size = 1 ∨ size = 2 ∨ size = 3 ∨ size = 4 ∨ size = 5 ∨ size = 6 ∨ size = 7 ∨ size = 8 := by omega
      rcases hc with rfl | rfl | rfl | rfl | rfl | rfl | rfl | rfl
      · have e3 : wnE 1 n = if n < -128 ∨ 255 < n then 3 else 0 := e2
        by_cases hn : n < -128 ∨ 255 < n
        · rw [e3, if_pos hn]
          exact rwNum_no1 base g v L n w hW hn
        · rw [e3, if_neg hn]
          exact rwNum_1 base g v L n w hW hL (by omega) (by omega)
      · have e3 : wnE 2 n = if n < -32768 ∨ 65535 < n then 3 else 0 := e2
        by_cases hn : n < -32768 ∨ 65535 < n
        · rw [e3, if_pos hn]
          exact rwNum_no2 base g v L n w hW hn
        · rw [e3, if_neg hn]
          exact rwNum_2 base g v L n w hW hL (by omega) (by omega)
      · have e3 : wnE 3 n = if n < -8388608 ∨ 16777215 < n then 3 else 0 := e2
        by_cases hn : n < -8388608 ∨ 16777215 < n
        · rw [e3, if_pos hn]
          exact rwNum_no3 base g v L n w hW hn
        · rw [e3, if_neg hn]
          exact rwNum_3 base g v L n w hW hL (by omega) (by omega)
      · have e3 : wnE 4 n = if n < -2147483648 ∨ 4294967295 < n then 3 else 0 := e2
        by_cases hn : n < -2147483648 ∨ 4294967295 < n
        · rw [e3, if_pos hn]
          exact rwNum_no4 base g v L n w hW hn
        · rw [e3, if_neg hn]
          exact rwNum_4 base g v L n w hW hL (by omega) (by omega)
      · have e3 : wnE 5 n = if n < -549755813888 ∨ 1099511627775 < n then 3 else 0 := e2
        by_cases hn : n < -549755813888 ∨ 1099511627775 < n
        · rw [e3, if_pos hn]
          exact rwNum_no5 base g v L n w hW hn
        · rw [e3, if_neg hn]
          exact rwNum_5 base g v L n w hW hL (by omega) (by omega)
      · have e3 : wnE 6 n = if n < -140737488355328 ∨ 281474976710655 < n then 3 else 0 := e2
        by_cases hn : n < -140737488355328 ∨ 281474976710655 < n
        · rw [e3, if_pos hn]
          exact rwNum_no6 base g v L n w hW hn
        · rw [e3, if_neg hn]
          exact rwNum_6 base g v L n w hW hL (by omega) (by omega)
      · have e3 : wnE 7 n = if n < -36028797018963968 ∨ 72057594037927935 < n then 3 else 0 := e2
        by_cases hn : n < -36028797018963968 ∨ 72057594037927935 < n
        · rw [e3, if_pos hn]
          exact rwNum_no7 base g v L n w hW hn
        · rw [e3, if_neg hn]
          exact rwNum_7 base g v L n w hW hL (by omega) (by omega)
      · have e3 : wnE 8 n = 0 := e2
        rw [e3]
        exact rwNum_8 base g v L n w hW hL
  · have e : wrNum L E size n = ([], E) := by unfold wrNum; rw [if_neg hE]
    rw [e]
    refine (rwNum_err base g v L E size n w hW hE).mono ?_
    rintro e w' ⟨rfl, rfl⟩
    exact ⟨rfl, v, hW.forget hE, fun _ e => .inl e, turned_refl _ _⟩

/-- the document's Add -/
theorem rAdd_any (l : List (BitVec 8)) (size : Int) (lp : List (BitVec 8)) (a : Option Addr) (cap : Nat) (ap : Option Addr) (plen pcap : Nat) (w : World) (hr : Row w a l) (hle : l.length ≤ cap) (hn : a = none → cap = 0) (hpl : lp.length = plen) (hpr : Row w ap lp) (hple : plen ≤ pcap) (hpn : ap = none → pcap = 0) (hb : l.length + 65544 ≤ 140737488351232) (hp4 : plen ≤ 140737488355328) :
    Calls Try.prog 77 #[.slice a l.length cap, .int .i64 size, .slice ap plen pcap] w fun e w' => ∃ v, e = .returned (.tuple #[v, .int .i64 (addE size plen)]) ∧ (∃ m, Own w' w.heap.size v m) ∧ (addE size plen = 0 → Own w' w.heap.size v (l ++ (be size.toNat (BitVec.ofNat 64 plen) ++ lp))) ∧ Below w.heap.size w w' := by
  by_cases h : addE size plen = 0
  · obtain ⟨s, rfl, hs, h6, hf⟩ := addE_0 h
    rw [h, Int.toNat_natCast]
    have H : Calls Try.prog 77 #[.slice a l.length cap, .int .i64 s, .slice ap plen pcap] w fun e w' => ∃ v, e = .returned (.tuple #[v, .int .i64 0]) ∧ Own w' w.heap.size v (l ++ (be s (BitVec.ofNat 64 plen) ++ lp)) ∧ Below w.heap.size w w' := by
      rcases hs with rfl | rfl | rfl
      · exact rAdd_1 a l.length cap l ap plen pcap lp w rfl hle hr hn hpl hple hpr hpn (by omega) h6 hf
      · exact rAdd_2 a l.length cap l ap plen pcap lp w rfl hle hr hn hpl hple hpr hpn (by omega) h6 hf
      · exact rAdd_4 a l.length cap l ap plen pcap lp w rfl hle hr hn hpl hple hpr hpn (by omega) h6 hf
    refine H.mono ?_
    rintro e w' ⟨v, rfl, h1, h2⟩
    exact ⟨v, rfl, ⟨_, h1⟩, fun _ => h1, h2⟩
  · refine (rAdd_no a l.length cap size ap plen pcap w hp4 h).mono ?_
    rintro e w' ⟨rfl, rfl⟩
    exact ⟨_, rfl, ⟨_, Own.nil _ _⟩, fun e => absurd e h, Below.refl _ _⟩

set_option maxHeartbeats 400000 in
theorem rwBytes_any (base g : Nat) (v : Value) (L : List (BitVec 8)) (E size : Int) (ap : Option Addr) (plen pcap : Nat) (lp : List (BitVec 8)) (w : World) (hW : WrAt w base g 97 v L E) (hL : L.length + 65544 ≤ 140737488351232)
    (hpl : lp.length = plen) (hple : plen ≤ pcap) (hpr : Row w ap lp) (hpn : ap = none → pcap = 0) (hp4 : plen ≤ 140737488355328) :
    Calls Try.prog 53 #[.pointer (some ⟨g, 0, none⟩), .int .i64 size, .slice ap plen pcap] w fun e w' => e = .returned (.tuple #[]) ∧ ∃ v', WrAt w' base g 97 v' (wrBytes L E size lp).1 (wrBytes L E size lp).2 ∧ Newer w v v' ∧ Turned (Mine g v) w w' := by
  have hB := hW.blk
  have c0 := hB.cell (by simp [maxLen]) 0 (by simp)
  have c1 := hB.cell (by simp [maxLen]) 1 (by simp)
  simp only [List.getElem?_cons_zero, List.getElem?_cons_succ] at c0 c1
  by_cases hE : E = 0
  · subst hE
    obtain ⟨l, ho, hl⟩ := hW.own
    have hl' := hl rfl
    subst hl'
    obtain ⟨av, cv, rfl, hlev, _, hrv, hnv, _⟩ := ho.open
    have hA := rAdd_any l size lp av cv ap plen pcap w hrv hlev hnv hpl hpr hple hpn hL hp4
    have K : Hid _ := And.intro hW (And.intro hB ho)
    clear hW hB ho hl hrv hpr
    by_cases hn : addE size plen = 0
    · have e : wrBytes l 0 size lp = (l ++ (be size.toNat (BitVec.ofNat 64 plen) ++ lp), 0) := by unfold wrBytes; rw [if_pos rfl, hpl, if_pos hn]
      rw [e]
      rw [hn] at hA
      generalize l ++ (be size.toNat (BitVec.ofNat 64 plen) ++ lp) = l2 at *
      go_enter Try.func53, Try.ntmps53
      go_wp2_with fail
      refine Calls.mono hA ?_
      rintro e w1 ⟨v1, rfl, _, ho1, hb1⟩
      have ho1 := ho1 trivial
      obtain ⟨a1, n1, cap1, rfl⟩ := own_slice ho1
      have hB1 := K.out.2.1.grown (below_grown hb1) (by simp)
      have d0 := hB1.cell (by simp [maxLen]) 0 (by simp)
      have d1 := hB1.cell (by simp [maxLen]) 1 (by simp)
      have f0 := hB1.frozen (by simp [maxLen]) 0
      simp only [List.getElem?_cons_zero, List.getElem?_cons_succ] at d0 d1
      have P : Hid _ := WrAt.put K.out.1 (Own.lower ho1 K.out.1.base_w) (grown_none (below_grown hb1) _) (fun k hk => .inr (own_block ho1 k hk))
      clear ho1 hb1 hB1 hA
      go_wp2
      go_end0
      exact ⟨rfl, _, P.out.1, P.out.2.1, P.out.2.2⟩
    · have e : wrBytes l 0 size lp = ([], addE size plen) := by unfold wrBytes; rw [if_pos rfl, hpl, if_neg hn]
      rw [e]
      have hn' : (addE size plen == 0) = false := by simpa using hn
      go_enter Try.func53, Try.ntmps53
      go_wp2_with fail
      refine Calls.mono hA ?_
      rintro e w1 ⟨v1, rfl, ⟨m1, hm1⟩, ho1, hb1⟩
      obtain ⟨a1, n1, cap1, rfl⟩ := own_slice hm1
      have hT : Turned (fun _ => False) w w1 := turned_grown (below_grown hb1) (fun k e => by cases e)
      have hW1 := K.out.1.stays hT (fun e => e) (fun _ _ e => e)
      have d1 := hW1.blk.cell (by simp [maxLen]) 1 (by simp)
      have f1 := hW1.blk.frozen (by simp [maxLen]) 1
      simp only [List.getElem?_cons_zero, List.getElem?_cons_succ] at d1
      obtain ⟨v3, p1, p2, p3⟩ := hW1.err hn
      have P : Hid _ := And.intro p1 (And.intro (Newer.trans (w := w) (fun _ e => .inl e) p2 hb1.size) ((hT.mono (fun _ e => e.elim)).trans (p3.mono (fun _ e => .inl e))))
      clear p1 p2 p3 hb1 hT hW1 hA ho1 hm1
      go_wp2
      refine bodyPost_ret (results_none rfl _ _ _) rfl ?_
      exact ⟨rfl, v3, P.out.1, P.out.2.1, P.out.2.2⟩
  · have e : wrBytes L E size lp = ([], E) := by unfold wrBytes; rw [if_neg hE]
    rw [e]
    have K : Hid _ := hW
    clear hW hB
    go_enter Try.func53, Try.ntmps53
    go_wp2
    refine bodyPost_ret (results_none rfl _ _ _) rfl ?_
    exact ⟨rfl, v, K.out.forget hE, fun _ e => .inl e, turned_refl _ _⟩

set_option maxHeartbeats 400000 in
theorem rwEnd_any (base g : Nat) (v : Value) (L : List (BitVec 8)) (E : Int) (w : World) (hW : WrAt w base g 97 v L E) (hL : L.length ≤ 140737488351232) :
    Calls Try.prog 54 #[.pointer (some ⟨g, 0, none⟩)] w fun e w' => ∃ c, e = .returned (.tuple #[c, .int .i64 E]) ∧ Own w' w.heap.size c (wrEnd L E) ∧ Below w.heap.size w w' := by
  have hB := hW.blk
  have c0 := hB.cell (by simp [maxLen]) 0 (by simp)
  have c1 := hB.cell (by simp [maxLen]) 1 (by simp)
  simp only [List.getElem?_cons_zero, List.getElem?_cons_succ] at c0 c1
  by_cases hE : E = 0
  · subst hE
    obtain ⟨l, ho, hl⟩ := hW.own
    have hl' := hl rfl
    subst hl'
    obtain ⟨a1, cap1, rfl, hle1, hm1, hr1, hn1, _⟩ := ho.open
    have e : wrEnd l 0 = l := by unfold wrEnd; rw [if_pos rfl]
    rw [e]
    clear hB hW ho hl
    go_enter Try.func54, Try.ntmps54
    go_wp2_with (at_builtin; refine wpList_append_bytes _ rfl _ _ rfl w.heap.size _ [] rfl (Own.nil _ _) a1 l.length cap1 l rfl rfl hr1 hn1 hle1 (by simp; omega) (Nat.le_refl _) ?_)
    intro v2 w2 ho2 hg2
    have F : Hid _ := And.intro ho2 ((Below.refl w.heap.size w).grown hg2 (Nat.le_refl _) (by simp [Value.ownBlock]))
    obtain ⟨a2, n2, cap2, rfl⟩ := own_slice ho2
    clear ho2 hg2 hr1
    go_wp2
    go_ret2
    exact ⟨_, rfl, F.out.1, F.out.2⟩
  · have e : wrEnd L E = [] := by unfold wrEnd; rw [if_neg hE]
    rw [e]
    clear hB hW
    go_enter Try.func54, Try.ntmps54
    go_wp2
    have S0 : w.drew.cell? ⟨g, 1, none⟩ = some (.int .i64 E) := c1
    go_region_held_law (fun W => W.cell? ⟨g, 1, none⟩ = some (.int .i64 E)) (first | exact S0 | assumption) (fail)
    go_wp2
    go_ret2
    exact ⟨_, rfl, Own.nil _ _, (Below.refl _ _).drew⟩

end Go.Proofs.Ytgonglbgejaffaa

