/- cdb: PutKeys and Keys, the program's and the document's. -/
import Derived.Test.YtmoobfpmijdoaaaDoorXCd7
import Derived.Test.YtmoobfpmijdoaaaDoorXFieldP2
namespace Go.Proofs.YtmoobfpmijdoaaaDoor
open Go.RowKit
set_option linter.unusedVariables false
set_option linter.unusedSimpArgs false
set_option maxRecDepth 4000

theorem num_lowC (l : List (BitVec 8)) (h : l.length ≤ 7) : ∀ i, 56 ≤ i → (num l).getLsbD i = false := by
  suffices H : ∀ k l, List.length l = k → k ≤ 7 → ∀ i, 8 * k ≤ i → (num l).getLsbD i = false from fun i hi => H l.length l rfl h i (by omega)
  intro k
  induction k with
  | zero => intro l hl _ i _; rw [List.eq_nil_of_length_eq_zero hl]; simp [num]
  | succ k ih =>
    intro l hl hk i hi
    obtain ⟨l', c, rfl⟩ : ∃ l' c, l = l' ++ [c] := ⟨l.dropLast, l.getLast (by intro e; simp [e] at hl), (List.dropLast_concat_getLast _).symm⟩
    have hl' : l'.length = k := by simpa using hl
    rw [num_snoc, BitVec.getLsbD_or, BitVec.getLsbD_shiftLeft, ih l' hl' (by omega) (i - 8) (by omega), BitVec.getLsbD_setWidth, BitVec.getLsbD_of_ge c i (by omega)]
    simp
theorem be_numC : ∀ (k : Nat) (l : List (BitVec 8)), l.length = k → k ≤ 8 → be k (num l) = l
  | 0, l, hl, _ => by rw [List.eq_nil_of_length_eq_zero hl]; rfl
  | k + 1, l, hl, hk => by
    obtain ⟨l', c, rfl⟩ : ∃ l' c, l = l' ++ [c] := ⟨l.dropLast, l.getLast (by intro e; simp [e] at hl), (List.dropLast_concat_getLast _).symm⟩
    have hl' : l'.length = k := by simpa using hl
    have e1 : num (l' ++ [c]) >>> 8 = num l' := by
      apply BitVec.eq_of_getLsbD_eq
      intro i hi
      rw [num_snoc, BitVec.getLsbD_ushiftRight, BitVec.getLsbD_or, BitVec.getLsbD_shiftLeft, BitVec.getLsbD_setWidth, BitVec.getLsbD_of_ge c (8 + i) (by omega)]
      by_cases h56 : i < 56
      · simp [show 8 + i < 64 by omega, show 8 + i - 8 = i by omega]
      · rw [num_lowC l' (by omega) i (by omega)]
        simp [show 8 + i - 8 = i by omega, num_lowC l' (by omega) i (by omega)]
    have e2 : (num (l' ++ [c])).setWidth 8 = c := by
      apply BitVec.eq_of_getLsbD_eq
      intro i hi
      rw [num_snoc, BitVec.getLsbD_setWidth, BitVec.getLsbD_or, BitVec.getLsbD_shiftLeft, BitVec.getLsbD_setWidth]
      simp [hi, show i < 64 by omega]
    rw [be_snoc k _ hk, e1, e2, be_numC k l' hl' (by omega)]
theorem wr_blC {w w' : World} {base g T : Nat} {v : Value} {L : List (BitVec 8)} {E : Int} (h : WrAt w base g T v L E) (ht : Turned (Mine g v) w w') : Below base w w' :=
  ht.below base h.base_w (fun k hk => by
    rcases hk with rfl | hk
    · exact h.base_g
    · obtain ⟨l, ho, -⟩ := h.own; exact (World.ownsRow.lt ho k hk).1)
theorem wrNum_8 {L : List (BitVec 8)} (n : Int) : wrNum L 0 8 n = (L ++ be 8 (BitVec.ofInt 64 n), 0) := by
  unfold wrNum
  rw [if_pos rfl, if_pos (by unfold wnE; rw [if_neg (by decide), if_pos rfl])]
  rfl
theorem len8 (x : BitVec 64) : (be 8 x).length = 8 := be_length 8 x (by omega)
theorem ofInt_wrapC (x : BitVec 64) : BitVec.ofInt 64 (wrap64 (x.toNat : Int)) = x := by
  apply BitVec.eq_of_toNat_eq
  rw [BitVec.toNat_ofInt]
  have := x.isLt
  unfold wrap64
  simp
  omega
theorem back_wrapC (x : BitVec 64) : IntKind.u64.wrap (wrap64 (x.toNat : Int)) = (x.toNat : Int) := by
  have := x.isLt
  unfold wrap64
  simp [IntKind.wrap, IntKind.signed, IntKind.bits]
  omega
theorem zero_wrapC (x : BitVec 64) : x = 0#64 ∨ wrap64 (x.toNat : Int) ≠ 0 := by
  rcases Decidable.em (x = 0#64) with h | h
  · exact .inl h
  · refine .inr (fun e => h ?_)
    have := x.isLt
    unfold wrap64 at e
    apply BitVec.eq_of_toNat_eq
    simp
    omega
def pkB (x y : BitVec 64) : List (BitVec 8) := (be 8 x ++ be 8 y) ++ be 8 0#64
theorem rd8 {l : List (BitVec 8)} (h : 8 ≤ l.length) : rdNum l 0 8 = (l.drop 8, 0, wrap64 ((numTo l 0 8).toNat : Int)) := by
  unfold rdNum
  rw [if_pos rfl, if_pos (by unfold numE; rw [if_neg (by decide), if_neg (by omega)])]
  rfl
/-- what Keys answers -/
def ksR (l : List (BitVec 8)) : Int × Int × Int :=
  if l.length < 24 then (0, 0, 10) else if numTo ((l.drop 8).drop 8) 0 8 ≠ 0#64 ∨ l.length ≠ 24 then (0, 0, 11) else (((numTo l 0 8).toNat : Int), ((numTo (l.drop 8) 0 8).toNat : Int), 0)
set_option maxHeartbeats 1000000 in
theorem putKeys_any (x y : BitVec 64) (w : World) :
    Calls Tryd.prog 10 #[.int .u64 (x.toNat : Int), .int .u64 (y.toNat : Int)] w fun e w' => ∃ z, e = .returned z ∧ Own w' w.heap.size z (pkB x y) ∧ Below w.heap.size w w' := by
  have EX : Hid (BitVec.ofInt 64 (wrap64 (x.toNat : Int)) = x ∧ BitVec.ofInt 64 (wrap64 (y.toNat : Int)) = y) := ⟨ofInt_wrapC x, ofInt_wrapC y⟩
  generalize (x.toNat : Int) = X at *
  generalize (y.toNat : Int) = Y at *
  have HN : Hid _ := NewWriter_any w.heap.size w (Nat.le_refl _)
  go_enter Tryd.func10, Tryd.ntmps10
  go_wp2_with fail
  refine (Calls.mono HN.out) ?_
  rintro r u0 ⟨g, rfl, -, W0, b0⟩
  have J0 : Hid _ := And.intro W0 b0
  clear W0 b0 HN
  have NN := wNum_any w.heap.size g _ ([]) 0 8 (wrap64 X) u0 J0.out.1 (by simp [len8])
  rw [wrNum_8] at NN
  have HN : Hid _ := NN
  clear NN
  go_wp2_with fail
  refine (Calls.mono HN.out) ?_
  rintro r u1 ⟨rfl, x1, W1, -, t1⟩
  have J1 : Hid _ := And.intro W1 (J0.out.2.trans (wr_blC J0.out.1 t1))
  clear W1 t1 HN J0
  have NN := wNum_any w.heap.size g _ ([] ++ be 8 (BitVec.ofInt 64 (wrap64 X))) 0 8 (wrap64 Y) u1 J1.out.1 (by simp [len8])
  rw [wrNum_8] at NN
  have HN : Hid _ := NN
  clear NN
  go_wp2_with fail
  refine (Calls.mono HN.out) ?_
  rintro r u2 ⟨rfl, x2, W1, -, t1⟩
  have J2 : Hid _ := And.intro W1 (J1.out.2.trans (wr_blC J1.out.1 t1))
  clear W1 t1 HN J1
  have NN := wNum_any w.heap.size g _ (([] ++ be 8 (BitVec.ofInt 64 (wrap64 X))) ++ be 8 (BitVec.ofInt 64 (wrap64 Y))) 0 8 (0) u2 J2.out.1 (by simp [len8])
  rw [wrNum_8] at NN
  have HN : Hid _ := NN
  clear NN
  go_wp2_with fail
  refine (Calls.mono HN.out) ?_
  rintro r u3 ⟨rfl, x3, W1, -, t1⟩
  have J3 : Hid _ := And.intro W1 (J2.out.2.trans (wr_blC J2.out.1 t1))
  clear W1 t1 HN J2
  have HM : Hid _ := wEnd_any w.heap.size g _ ((([] ++ be 8 (BitVec.ofInt 64 (wrap64 X))) ++ be 8 (BitVec.ofInt 64 (wrap64 Y))) ++ be 8 (BitVec.ofInt 64 (0))) 0 u3 J3.out.1 (by simp [len8])
  go_wp2_with fail
  refine (Calls.mono HM.out) ?_
  rintro r we ⟨z, rfl, o5, b5⟩
  rw [show ∀ L, wrEnd L 0 = L from fun L => if_pos rfl, EX.out.1, EX.out.2] at o5
  have G : Hid _ := And.intro (o5.lower J3.out.2.size) (below_then J3.out.2 b5)
  clear o5 b5 HM J3
  go_wp2
  go_ret
  exact ⟨z, rfl, by have := G.out.1; simpa [pkB] using this, G.out.2⟩
set_option maxHeartbeats 1000000 in
theorem rputKeys_any (x y : BitVec 64) (w : World) :
    Calls Tryd.prog 13 #[.int .u64 (x.toNat : Int), .int .u64 (y.toNat : Int)] w fun e w' => ∃ z, e = .returned z ∧ Own w' w.heap.size z (pkB x y) ∧ Below w.heap.size w w' := by
  have EX : Hid (BitVec.ofInt 64 (wrap64 (x.toNat : Int)) = x ∧ BitVec.ofInt 64 (wrap64 (y.toNat : Int)) = y) := ⟨ofInt_wrapC x, ofInt_wrapC y⟩
  generalize (x.toNat : Int) = X at *
  generalize (y.toNat : Int) = Y at *
  have B0 := Blk.new' w 76 [.slice none 0 0, .int .i64 0]
  have b0 : Below w.heap.size w (w.alloc (.cells #[.slice none 0 0, .int .i64 0] 76)) := (Below.refl _ _).alloc (Nat.le_refl _) _
  have W0 : WrAt (w.alloc (.cells #[.slice none 0 0, .int .i64 0] 76)) w.heap.size w.heap.size 76 (.slice none 0 0) [] 0 := ⟨B0, ⟨[], Own.nil _ _, fun _ => rfl⟩, Nat.le_refl _, b0.size, by decide⟩
  obtain ⟨u0, hu0⟩ : ∃ u0, u0 = w.alloc (.cells #[.slice none 0 0, .int .i64 0] 76) := ⟨_, rfl⟩
  obtain ⟨g, hg⟩ : ∃ g, g = w.heap.size := ⟨_, rfl⟩
  rw [← hu0] at W0 b0
  have J0 : Hid (WrAt u0 w.heap.size g 76 (.slice none 0 0) [] 0 ∧ Below w.heap.size w u0) := ⟨by rw [hg]; exact W0, b0⟩
  clear W0 b0 B0
  go_enter Tryd.func13, Tryd.ntmps13
  go_upto_region 2 with fail
  rw [← hu0, ← hg]
  clear hu0 hg
  have NN := rwNum_any w.heap.size g _ ([]) 0 8 (wrap64 X) u0 J0.out.1 (by simp [len8])
  rw [wrNum_8] at NN
  have HN : Hid _ := NN
  clear NN
  go_wp2_with fail
  refine (Calls.mono HN.out) ?_
  rintro r u1 ⟨rfl, x1, W1, -, t1⟩
  have J1 : Hid _ := And.intro W1 (J0.out.2.trans (wr_blC J0.out.1 t1))
  clear W1 t1 HN J0
  have NN := rwNum_any w.heap.size g _ ([] ++ be 8 (BitVec.ofInt 64 (wrap64 X))) 0 8 (wrap64 Y) u1 J1.out.1 (by simp [len8])
  rw [wrNum_8] at NN
  have HN : Hid _ := NN
  clear NN
  go_wp2_with fail
  refine (Calls.mono HN.out) ?_
  rintro r u2 ⟨rfl, x2, W1, -, t1⟩
  have J2 : Hid _ := And.intro W1 (J1.out.2.trans (wr_blC J1.out.1 t1))
  clear W1 t1 HN J1
  have NN := rwNum_any w.heap.size g _ (([] ++ be 8 (BitVec.ofInt 64 (wrap64 X))) ++ be 8 (BitVec.ofInt 64 (wrap64 Y))) 0 8 (0) u2 J2.out.1 (by simp [len8])
  rw [wrNum_8] at NN
  have HN : Hid _ := NN
  clear NN
  go_wp2_with fail
  refine (Calls.mono HN.out) ?_
  rintro r u3 ⟨rfl, x3, W1, -, t1⟩
  have J3 : Hid _ := And.intro W1 (J2.out.2.trans (wr_blC J2.out.1 t1))
  clear W1 t1 HN J2
  have HM : Hid _ := rwEnd_any w.heap.size g _ ((([] ++ be 8 (BitVec.ofInt 64 (wrap64 X))) ++ be 8 (BitVec.ofInt 64 (wrap64 Y))) ++ be 8 (BitVec.ofInt 64 (0))) 0 u3 J3.out.1 (by simp [len8])
  go_wp2_with fail
  refine (Calls.mono HM.out) ?_
  rintro r we ⟨z, rfl, o5, b5⟩
  rw [show ∀ L, wrEnd L 0 = L from fun L => if_pos rfl, EX.out.1, EX.out.2] at o5
  have G : Hid _ := And.intro (o5.lower J3.out.2.size) (below_then J3.out.2 b5)
  clear o5 b5 HM J3
  go_wp2
  go_ret
  exact ⟨z, rfl, by have := G.out.1; simpa [pkB] using this, G.out.2⟩
set_option maxHeartbeats 1000000 in
theorem ckeys_any (a : Option Addr) (c : Nat) (l : List (BitVec 8)) (w : World) (hle : l.length ≤ c) (hr : Row w a l) (hn : a = none → c = 0) (hlen : l.length ≤ 140737488351232) :
    Calls Tryd.prog 11 #[.slice a l.length c] w fun e w' => e = .returned (.tuple #[.int .u64 (ksR l).1, .int .u64 (ksR l).2.1, .int .i64 (ksR l).2.2]) ∧ Below w.heap.size w w' := by
  by_cases h24 : l.length < 24
  · have e1 : Hid (ksR l = (0, 0, 10)) := if_pos h24
    have q1 : (l.length : Int) < 24 := by omega
    clear hr h24
    go_enter Tryd.func11, Tryd.ntmps11
    go_wp2
    refine bodyPost_ret (v := .tuple #[.int .u64 0, .int .u64 0, .int .i64 10]) (by first | rfl | simp [results, Tryd.results11, go_sem]) rfl ?_
    exact ⟨by rw [e1.out], Below.refl _ _⟩
  have e0 : Hid (ksR l = if numTo ((l.drop 8).drop 8) 0 8 ≠ 0#64 ∨ l.length ≠ 24 then (0, 0, 11) else (((numTo l 0 8).toNat : Int), ((numTo (l.drop 8) 0 8).toNat : Int), 0)) := if_neg h24
  have q1 : decide ((l.length : Int) < 24) = false := decide_eq_false (by omega)
  have HN : Hid _ := NewReader_any a l.length c l w rfl hle hr hn hlen
  clear hr
  go_enter Tryd.func11, Tryd.ntmps11
  go_wp2_with fail
  refine (Calls.mono HN.out) ?_
  rintro e u0 ⟨g, rfl, hg, R0, b0⟩
  have J0 : Hid _ := And.intro (R0 [] (fun k h => by cases h)) b0
  clear R0 b0 HN
  have NN := Num_any [] g (l) 0 8 u0 J0.out.1
  rw [rd8 (l := l) (by (try simp only [List.length_drop]); omega)] at NN
  have HN : Hid _ := NN
  clear NN
  go_wp2_with fail
  refine (Calls.mono HN.out) ?_
  rintro e u1 ⟨rfl, R1, g1⟩
  have J1 : Hid _ := And.intro R1 (J0.out.2.grown g1 J0.out.2.size (fun k h => by cases h; exact hg))
  clear R1 g1 HN J0
  have NN := Num_any [] g ((l).drop 8) 0 8 u1 J1.out.1
  rw [rd8 (l := (l).drop 8) (by (try simp only [List.length_drop]); omega)] at NN
  have HN : Hid _ := NN
  clear NN
  go_wp2_with fail
  refine (Calls.mono HN.out) ?_
  rintro e u2 ⟨rfl, R1, g1⟩
  have J2 : Hid _ := And.intro R1 (J1.out.2.grown g1 J1.out.2.size (fun k h => by cases h; exact hg))
  clear R1 g1 HN J1
  have NN := Num_any [] g (((l).drop 8).drop 8) 0 8 u2 J2.out.1
  rw [rd8 (l := ((l).drop 8).drop 8) (by (try simp only [List.length_drop]); omega)] at NN
  have HN : Hid _ := NN
  clear NN
  go_wp2_with fail
  refine (Calls.mono HN.out) ?_
  rintro e u3 ⟨rfl, R1, g1⟩
  have J3 : Hid _ := And.intro R1 (J2.out.2.grown g1 J2.out.2.size (fun k h => by cases h; exact hg))
  clear R1 g1 HN J2
  have bw1 := back_wrapC (numTo l 0 8)
  have bw2 := back_wrapC (numTo (l.drop 8) 0 8)
  have bw3 := back_wrapC (numTo ((l.drop 8).drop 8) 0 8)
  have hz := zero_wrapC (numTo ((l.drop 8).drop 8) 0 8)
  generalize hX1 : numTo l 0 8 = X1 at *
  generalize hX2 : numTo (l.drop 8) 0 8 = X2 at *
  generalize hX3 : numTo ((l.drop 8).drop 8) 0 8 = X3 at *
  clear hX1 hX2 hX3 bw3
  have hlen2 : (((l.drop 8).drop 8).drop 8).length = l.length - 24 := by simp only [List.length_drop]; omega
  by_cases hx : X3 = 0#64
  · have z3 : wrap64 (X3.toNat : Int) = 0 := by rw [hx]; unfold wrap64; decide
    rw [z3]
    by_cases hl : l.length = 24
    · have e1 : Hid (ksR l = ((X1.toNat : Int), (X2.toNat : Int), 0)) := by show _ = _; rw [e0.out, if_neg (by rintro (h | h); exact h hx; exact h hl)]
      have HE0 := End_any [] g _ 0 u3 J3.out.1
      rw [show rdEnd (((l.drop 8).drop 8).drop 8) 0 = 0 by unfold rdEnd; rw [if_pos rfl, if_neg (by rw [hlen2, hl]; decide)]] at HE0
      have HE : Hid _ := HE0
      clear HE0
      go_wp2_with fail
      refine (Calls.mono HE.out) ?_
      rintro e _ ⟨rfl, rfl⟩
      clear HE
      generalize hA1 : (X1.toNat : Int) = A1 at *
      generalize hA2 : (X2.toNat : Int) = A2 at *
      clear hlen2 hx hz hl h24
      go_wp2
      refine bodyPost_ret (v := .tuple #[.int .u64 A1, .int .u64 A2, .int .i64 0]) (by first | rfl | simp [results, Tryd.results11, go_sem, bw1, bw2]) rfl ?_
      exact ⟨by rw [e1.out], J3.out.2⟩
    · have e1 : Hid (ksR l = (0, 0, 11)) := by show _ = _; rw [e0.out, if_pos (.inr hl)]
      have HE0 := End_any [] g _ 0 u3 J3.out.1
      rw [show rdEnd (((l.drop 8).drop 8).drop 8) 0 = 11 by unfold rdEnd; rw [if_pos rfl, if_pos (by rw [hlen2]; omega)]] at HE0
      have HE : Hid _ := HE0
      clear HE0
      go_wp2_with fail
      refine (Calls.mono HE.out) ?_
      rintro e _ ⟨rfl, rfl⟩
      clear HE
      clear hlen2 hx hz bw1 bw2
      go_wp2
      refine bodyPost_ret (v := .tuple #[.int .u64 0, .int .u64 0, .int .i64 11]) (by first | rfl | simp [results, Tryd.results11, go_sem]) rfl ?_
      exact ⟨by rw [e1.out], J3.out.2⟩
  · have e1 : Hid (ksR l = (0, 0, 11)) := by show _ = _; rw [e0.out, if_pos (.inl hx)]
    have d9 : (wrap64 (X3.toNat : Int) != 0) = true := by simpa using hz.resolve_left hx
    generalize wrap64 (X3.toNat : Int) = W3 at *
    clear hlen2 hx hz bw1 bw2
    go_wp2
    refine bodyPost_ret (v := .tuple #[.int .u64 0, .int .u64 0, .int .i64 11]) (by first | rfl | simp [results, Tryd.results11, go_sem]) rfl ?_
    exact ⟨by rw [e1.out], J3.out.2⟩
set_option maxHeartbeats 1000000 in
theorem crkeys_any (a : Option Addr) (c : Nat) (l : List (BitVec 8)) (w : World) (hle : l.length ≤ c) (hr : Row w a l) (hn : a = none → c = 0) (hlen : l.length ≤ 140737488351232) :
    Calls Tryd.prog 12 #[.slice a l.length c] w fun e w' => e = .returned (.tuple #[.int .u64 (ksR l).1, .int .u64 (ksR l).2.1, .int .i64 (ksR l).2.2]) ∧ Below w.heap.size w w' := by
  by_cases h24 : l.length < 24
  · have e1 : Hid (ksR l = (0, 0, 10)) := if_pos h24
    have q1 : (l.length : Int) < 24 := by omega
    clear hr h24
    go_enter Tryd.func12, Tryd.ntmps12
    go_wp2
    refine bodyPost_ret (v := .tuple #[.int .u64 0, .int .u64 0, .int .i64 10]) (by first | rfl | simp [results, Tryd.results12, go_sem]) rfl ?_
    exact ⟨by rw [e1.out], Below.refl _ _⟩
  have e0 : Hid (ksR l = if numTo ((l.drop 8).drop 8) 0 8 ≠ 0#64 ∨ l.length ≠ 24 then (0, 0, 11) else (((numTo l 0 8).toNat : Int), ((numTo (l.drop 8) 0 8).toNat : Int), 0)) := if_neg h24
  have q1 : decide ((l.length : Int) < 24) = false := decide_eq_false (by omega)
  have HN : Hid _ := Of_any a l.length c l w rfl hle hr hn hlen
  clear hr
  go_enter Tryd.func12, Tryd.ntmps12
  go_wp2_with fail
  refine (Calls.mono HN.out) ?_
  rintro e u0 ⟨g, rfl, hg, R0, b0⟩
  have J0 : Hid _ := And.intro (R0 [] (fun k h => by cases h)) b0
  clear R0 b0 HN
  have NN := rNum_any [] g (l) 0 8 u0 J0.out.1
  rw [rd8 (l := l) (by (try simp only [List.length_drop]); omega)] at NN
  have HN : Hid _ := NN
  clear NN
  go_wp2_with fail
  refine (Calls.mono HN.out) ?_
  rintro e u1 ⟨rfl, R1, g1⟩
  have J1 : Hid _ := And.intro R1 (J0.out.2.grown g1 J0.out.2.size (fun k h => by cases h; exact hg))
  clear R1 g1 HN J0
  have NN := rNum_any [] g ((l).drop 8) 0 8 u1 J1.out.1
  rw [rd8 (l := (l).drop 8) (by (try simp only [List.length_drop]); omega)] at NN
  have HN : Hid _ := NN
  clear NN
  go_wp2_with fail
  refine (Calls.mono HN.out) ?_
  rintro e u2 ⟨rfl, R1, g1⟩
  have J2 : Hid _ := And.intro R1 (J1.out.2.grown g1 J1.out.2.size (fun k h => by cases h; exact hg))
  clear R1 g1 HN J1
  have NN := rNum_any [] g (((l).drop 8).drop 8) 0 8 u2 J2.out.1
  rw [rd8 (l := ((l).drop 8).drop 8) (by (try simp only [List.length_drop]); omega)] at NN
  have HN : Hid _ := NN
  clear NN
  go_wp2_with fail
  refine (Calls.mono HN.out) ?_
  rintro e u3 ⟨rfl, R1, g1⟩
  have J3 : Hid _ := And.intro R1 (J2.out.2.grown g1 J2.out.2.size (fun k h => by cases h; exact hg))
  clear R1 g1 HN J2
  have bw1 := back_wrapC (numTo l 0 8)
  have bw2 := back_wrapC (numTo (l.drop 8) 0 8)
  have bw3 := back_wrapC (numTo ((l.drop 8).drop 8) 0 8)
  have hz := zero_wrapC (numTo ((l.drop 8).drop 8) 0 8)
  generalize hX1 : numTo l 0 8 = X1 at *
  generalize hX2 : numTo (l.drop 8) 0 8 = X2 at *
  generalize hX3 : numTo ((l.drop 8).drop 8) 0 8 = X3 at *
  clear hX1 hX2 hX3 bw3
  have hlen2 : (((l.drop 8).drop 8).drop 8).length = l.length - 24 := by simp only [List.length_drop]; omega
  by_cases hx : X3 = 0#64
  · have z3 : wrap64 (X3.toNat : Int) = 0 := by rw [hx]; unfold wrap64; decide
    rw [z3]
    by_cases hl : l.length = 24
    · have e1 : Hid (ksR l = ((X1.toNat : Int), (X2.toNat : Int), 0)) := by show _ = _; rw [e0.out, if_neg (by rintro (h | h); exact h hx; exact h hl)]
      have d9 : decide ((l.length : Int) > 24) = false := decide_eq_false (by omega)
      generalize hA1 : (X1.toNat : Int) = A1 at *
      generalize hA2 : (X2.toNat : Int) = A2 at *
      clear hlen2 hx hz hl h24
      go_wp2
      refine bodyPost_ret (v := .tuple #[.int .u64 A1, .int .u64 A2, .int .i64 0]) (by first | rfl | simp [results, Tryd.results12, go_sem, bw1, bw2]) rfl ?_
      exact ⟨by rw [e1.out], J3.out.2⟩
    · have e1 : Hid (ksR l = (0, 0, 11)) := by show _ = _; rw [e0.out, if_pos (.inr hl)]
      have d9 : (l.length : Int) > 24 := by omega
      clear hlen2 hx hz bw1 bw2
      go_wp2
      refine bodyPost_ret (v := .tuple #[.int .u64 0, .int .u64 0, .int .i64 11]) (by first | rfl | simp [results, Tryd.results12, go_sem]) rfl ?_
      exact ⟨by rw [e1.out], J3.out.2⟩
  · have e1 : Hid (ksR l = (0, 0, 11)) := by show _ = _; rw [e0.out, if_pos (.inl hx)]
    have d9 : (wrap64 (X3.toNat : Int) != 0) = true := by simpa using hz.resolve_left hx
    generalize wrap64 (X3.toNat : Int) = W3 at *
    clear hlen2 hx hz bw1 bw2
    go_wp2
    refine bodyPost_ret (v := .tuple #[.int .u64 0, .int .u64 0, .int .i64 11]) (by first | rfl | simp [results, Tryd.results12, go_sem]) rfl ?_
    exact ⟨by rw [e1.out], J3.out.2⟩
end Go.Proofs.YtmoobfpmijdoaaaDoor

