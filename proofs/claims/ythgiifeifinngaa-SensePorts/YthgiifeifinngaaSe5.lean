/- sense: Holder, the program's and the document's. -/
import Derived.Test.YthgiifeifinngaaSe4
namespace Go.Proofs.Ythgiifeifinngaa
open Go.RowKit
set_option linter.unusedVariables false
set_option linter.unusedSimpArgs false
set_option maxRecDepth 4000

def genB (n : Int) : Bool := decide (0 ≤ n ∧ n < 4294967296)
set_option maxHeartbeats 400000 in
theorem isGen_any (n : Int) (w : World) : Calls Try.prog 38 #[.int .i64 n] w fun e w' => e = .returned (.bool (genB n)) ∧ w = w' := by
  by_cases h : 0 ≤ n
  · have H : Hid (decide (n ≤ 4294967295) = genB n) := by show decide _ = decide _; simp [h]; omega
    go_enter Try.func38, Try.ntmps38
    go_wp2
    go_ret
    exact ⟨ret_bool H.out, rfl⟩
  · have H : Hid (false = genB n) := by show false = decide _; simp [h]
    go_enter Try.func38, Try.ntmps38
    go_wp2
    go_ret
    exact ⟨ret_bool H.out, rfl⟩
set_option maxHeartbeats 400000 in
theorem rgen_any (n : Int) (w : World) : Calls Try.prog 39 #[.int .i64 n] w fun e w' => e = .returned (.bool (genB n)) ∧ w = w' := by
  by_cases h : 0 ≤ n
  · have H : Hid (decide (n < 4294967296) = genB n) := by show decide _ = decide _; simp [h]
    go_enter Try.func39, Try.ntmps39
    go_wp2
    go_ret
    exact ⟨ret_bool H.out, rfl⟩
  · have H : Hid (false = genB n) := by show false = decide _; simp [h]
    go_enter Try.func39, Try.ntmps39
    go_wp2
    go_ret
    exact ⟨ret_bool H.out, rfl⟩
/-- Holder's error and bytes -/
def hdE (g t : Int) : Int := if genB g = true ∧ fromB 0 t 8 = true then 0 else 1
def hdB (g x t : Int) : List (BitVec 8) := if genB g = true ∧ fromB 0 t 8 = true then (if t = 0 then be 4 (BitVec.ofInt 64 g) ++ List.replicate 4 0#8 else ((be 4 (BitVec.ofInt 64 g) ++ be 4 (BitVec.ofInt 64 16)) ++ be 8 (BitVec.ofInt 64 (wrap64 x))) ++ [0#8, 0#8, 0#8, 0#8, 0#8, b8 t, 0#8, 0#8]) else []
theorem hd_no {g x t : Int} (h : genB g = false ∨ fromB 0 t 8 = false) : Hid (hdE g t = 1 ∧ hdB g x t = []) := by
  have h' : ¬ (genB g = true ∧ fromB 0 t 8 = true) := fun e => by rcases h with h | h <;> simp [h] at e
  exact ⟨if_neg h', if_neg h'⟩
theorem wnE_1b {n : Int} (h : 0 ≤ n ∧ n ≤ 255) : wnE 1 n = 0 := by
  obtain ⟨h1, h2⟩ := h
  unfold wnE
  rw [if_neg (by decide), if_neg (by decide), if_neg]
  simp
  omega
theorem wnE_20 : wnE 2 0 = 0 := by decide
theorem be1_len (x : BitVec 64) : (be 1 x).length = 1 := be_length 1 x (by omega)
theorem be2_len (x : BitVec 64) : (be 2 x).length = 2 := be_length 2 x (by omega)
theorem be1_val (t : Int) : be 1 (BitVec.ofInt 64 t) = [b8 t] := by
  have h := be_at (BitVec.ofInt 64 t) 1 0 (by omega) (by omega)
  have hl := be1_len (BitVec.ofInt 64 t)
  match hb : be 1 (BitVec.ofInt 64 t), hl with
  | [y], _ =>
    rw [hb] at h
    simp at h
    rw [h]
    congr 1
    apply BitVec.eq_of_toInt_eq
    unfold b8
    rw [BitVec.toInt_setWidth]
    rw [BitVec.toInt_ofInt, BitVec.toNat_ofInt]
    simp [Int.bmod_def]
    omega
set_option maxHeartbeats 400000 in
theorem holder_any (g t X : Int) (w : World) :
    Calls Try.prog 24 #[.int .i64 g, .int .u64 X, .int .i64 t] w fun e w' => ∃ z, e = .returned (.tuple #[z, .int .i64 (hdE g t)]) ∧ Own w' w.heap.size z (hdB g X t) ∧ Below w.heap.size w w' := by
  cases hg : genB g with
  | false =>
    have e1 := hd_no (g := g) (x := X) (t := t) (.inl hg)
    go_enter Try.func24, Try.ntmps24
    go_wp2_with fail
    refine (Calls.mono (isGen_any _ _)) ?_
    rintro e _ ⟨rfl, rfl⟩
    rw [hg]
    go_wp2
    go_ret2
    refine ⟨.slice none 0 0, by rw [e1.out.1]; try rfl, ?_, Below.refl _ _⟩
    rw [e1.out.2]; exact Own.nil _ _
  | true =>
    cases ht : fromB 0 t 8 with
    | false =>
      have e1 := hd_no (g := g) (x := X) (t := t) (.inr ht)
      go_enter Try.func24, Try.ntmps24
      go_wp2_with fail
      refine (Calls.mono (isGen_any _ _)) ?_
      rintro e _ ⟨rfl, rfl⟩
      rw [hg]
      go_wp2_with fail
      refine (Calls.mono (isFrom_any _ _ _ _)) ?_
      rintro e _ ⟨rfl, rfl⟩
      rw [ht]
      go_wp2
      go_ret2
      refine ⟨.slice none 0 0, by rw [e1.out.1]; try rfl, ?_, Below.refl _ _⟩
      rw [e1.out.2]; exact Own.nil _ _
    | true =>
      have HG : Hid (0 ≤ g ∧ g < 4294967296) := (of_decide_eq_true hg : 0 ≤ g ∧ g < 4294967296)
      have HT : Hid (0 ≤ t ∧ t ≤ 8) := (of_decide_eq_true ht : 0 ≤ t ∧ t ≤ 8)
      have F0 : Hid (Below w.heap.size w w) := Below.refl _ _
      have hE : Hid (hdE g t = 0) := if_pos ⟨hg, ht⟩
      by_cases h0 : t = 0
      · subst h0
        have hB : Hid (hdB g X 0 = be 4 (BitVec.ofInt 64 g) ++ be 4 (BitVec.ofInt 64 0)) := by unfold hdB; rw [if_pos ⟨hg, ht⟩, if_pos rfl, be_zero]; rfl
        go_enter Try.func24, Try.ntmps24
        go_wp2_with fail
        refine (Calls.mono (isGen_any _ _)) ?_
        rintro e _ ⟨rfl, rfl⟩
        rw [hg]
        go_wp2_with fail
        refine (Calls.mono (isFrom_any _ _ _ _)) ?_
        rintro e _ ⟨rfl, rfl⟩
        rw [ht]
        have HN : Hid _ := NewWriter_any w.heap.size w F0.out.size
        go_wp2_with fail
        refine (Calls.mono HN.out) ?_
        rintro r u0 ⟨q, rfl, -, W0, b0⟩
        have J0 : Hid _ := And.intro W0 (below_then F0.out b0)
        clear W0 b0 HN
        have NN := wNum_any w.heap.size q _ ([]) 0 4 (g) u0 J0.out.1 (by simp)
        rw [wrNum_ok 4 (g) (wnE_4 HG.out)] at NN
        have HN : Hid _ := NN
        clear NN
        go_wp2_with fail
        refine (Calls.mono HN.out) ?_
        rintro r u1 ⟨rfl, x1, W1, -, t1⟩
        have J1 : Hid _ := And.intro W1 (J0.out.2.trans (wr_blw J0.out.1 t1))
        clear W1 t1 HN J0
        have NN := wNum_any w.heap.size q _ ([] ++ be 4 (BitVec.ofInt 64 (g))) 0 4 (0) u1 J1.out.1 (by simp [be4_len])
        rw [wrNum_ok 4 (0) (wnE_4 (by omega))] at NN
        have HN : Hid _ := NN
        clear NN
        go_wp2_with fail
        refine (Calls.mono HN.out) ?_
        rintro r u2 ⟨rfl, x2, W1, -, t1⟩
        have J2 : Hid _ := And.intro W1 (J1.out.2.trans (wr_blw J1.out.1 t1))
        clear W1 t1 HN J1
        have HM : Hid _ := wEnd_any w.heap.size q _ (([] ++ be 4 (BitVec.ofInt 64 (g))) ++ be 4 (BitVec.ofInt 64 (0))) 0 u2 J2.out.1 (by simp [be4_len])
        go_wp2_with fail
        refine (Calls.mono HM.out) ?_
        rintro r we ⟨z, rfl, o5, b5⟩
        rw [show ∀ L, wrEnd L 0 = L from fun L => if_pos rfl] at o5
        have G : Hid _ := And.intro (o5.lower J2.out.2.size) (below_then J2.out.2 b5)
        clear o5 b5 HM J2
        go_wp2
        go_ret2
        refine ⟨z, by rw [hE.out]; rfl, ?_, G.out.2⟩
        rw [hB.out]
        have := G.out.1
        simpa using this
      · have hB : Hid (hdB g X t = ((be 4 (BitVec.ofInt 64 g) ++ be 4 (BitVec.ofInt 64 16)) ++ be 8 (BitVec.ofInt 64 (wrap64 X))) ++ [0#8, 0#8, 0#8, 0#8, 0#8, b8 t, 0#8, 0#8]) := by unfold hdB; rw [if_pos ⟨hg, ht⟩, if_neg h0]; rfl
        have d0 : (t == 0) = false := by simpa using h0
        go_enter Try.func24, Try.ntmps24
        go_wp2_with fail
        refine (Calls.mono (isGen_any _ _)) ?_
        rintro e _ ⟨rfl, rfl⟩
        rw [hg]
        go_wp2_with fail
        refine (Calls.mono (isFrom_any _ _ _ _)) ?_
        rintro e _ ⟨rfl, rfl⟩
        rw [ht]
        have HN : Hid _ := NewWriter_any w.heap.size w F0.out.size
        go_wp2_with fail
        refine (Calls.mono HN.out) ?_
        rintro r u0 ⟨q, rfl, -, W0, b0⟩
        have J0 : Hid _ := And.intro W0 (below_then F0.out b0)
        clear W0 b0 HN
        have NN := wNum_any w.heap.size q _ ([]) 0 4 (g) u0 J0.out.1 (by simp)
        rw [wrNum_ok 4 (g) (wnE_4 HG.out)] at NN
        have HN : Hid _ := NN
        clear NN
        go_wp2_with fail
        refine (Calls.mono HN.out) ?_
        rintro r u1 ⟨rfl, x1, W1, -, t1⟩
        have J1 : Hid _ := And.intro W1 (J0.out.2.trans (wr_blw J0.out.1 t1))
        clear W1 t1 HN J0
        have NN := wNum_any w.heap.size q _ ([] ++ be 4 (BitVec.ofInt 64 (g))) 0 4 (16) u1 J1.out.1 (by simp [be4_len])
        rw [wrNum_ok 4 (16) (wnE_4 (by omega))] at NN
        have HN : Hid _ := NN
        clear NN
        go_wp2_with fail
        refine (Calls.mono HN.out) ?_
        rintro r u2 ⟨rfl, x2, W1, -, t1⟩
        have J2 : Hid _ := And.intro W1 (J1.out.2.trans (wr_blw J1.out.1 t1))
        clear W1 t1 HN J1
        have NN := wNum_any w.heap.size q _ (([] ++ be 4 (BitVec.ofInt 64 (g))) ++ be 4 (BitVec.ofInt 64 (16))) 0 8 (wrap64 X) u2 J2.out.1 (by simp [be4_len])
        rw [wrNum_ok 8 (wrap64 X) (wnE_8 _)] at NN
        have HN : Hid _ := NN
        clear NN
        go_wp2_with fail
        refine (Calls.mono HN.out) ?_
        rintro r u3 ⟨rfl, x3, W1, -, t1⟩
        have J3 : Hid _ := And.intro W1 (J2.out.2.trans (wr_blw J2.out.1 t1))
        clear W1 t1 HN J2
        have NN := wNum_any w.heap.size q _ ((([] ++ be 4 (BitVec.ofInt 64 (g))) ++ be 4 (BitVec.ofInt 64 (16))) ++ be 8 (BitVec.ofInt 64 (wrap64 X))) 0 4 (0) u3 J3.out.1 (by simp [be4_len, be8_len])
        rw [wrNum_ok 4 (0) (wnE_4 (by omega))] at NN
        have HN : Hid _ := NN
        clear NN
        go_wp2_with fail
        refine (Calls.mono HN.out) ?_
        rintro r u4 ⟨rfl, x4, W1, -, t1⟩
        have J4 : Hid _ := And.intro W1 (J3.out.2.trans (wr_blw J3.out.1 t1))
        clear W1 t1 HN J3
        have NN := wNum_any w.heap.size q _ (((([] ++ be 4 (BitVec.ofInt 64 (g))) ++ be 4 (BitVec.ofInt 64 (16))) ++ be 8 (BitVec.ofInt 64 (wrap64 X))) ++ be 4 (BitVec.ofInt 64 (0))) 0 1 (0) u4 J4.out.1 (by simp [be4_len, be8_len])
        rw [wrNum_ok 1 (0) (wnE_1b (by omega))] at NN
        have HN : Hid _ := NN
        clear NN
        go_wp2_with fail
        refine (Calls.mono HN.out) ?_
        rintro r u5 ⟨rfl, x5, W1, -, t1⟩
        have J5 : Hid _ := And.intro W1 (J4.out.2.trans (wr_blw J4.out.1 t1))
        clear W1 t1 HN J4
        have NN := wNum_any w.heap.size q _ ((((([] ++ be 4 (BitVec.ofInt 64 (g))) ++ be 4 (BitVec.ofInt 64 (16))) ++ be 8 (BitVec.ofInt 64 (wrap64 X))) ++ be 4 (BitVec.ofInt 64 (0))) ++ be 1 (BitVec.ofInt 64 (0))) 0 1 (t) u5 J5.out.1 (by simp [be4_len, be8_len, be1_len])
        rw [wrNum_ok 1 (t) (wnE_1b (by have := HT.out; omega))] at NN
        have HN : Hid _ := NN
        clear NN
        go_wp2_with fail
        refine (Calls.mono HN.out) ?_
        rintro r u6 ⟨rfl, x6, W1, -, t1⟩
        have J6 : Hid _ := And.intro W1 (J5.out.2.trans (wr_blw J5.out.1 t1))
        clear W1 t1 HN J5
        have NN := wNum_any w.heap.size q _ (((((([] ++ be 4 (BitVec.ofInt 64 (g))) ++ be 4 (BitVec.ofInt 64 (16))) ++ be 8 (BitVec.ofInt 64 (wrap64 X))) ++ be 4 (BitVec.ofInt 64 (0))) ++ be 1 (BitVec.ofInt 64 (0))) ++ be 1 (BitVec.ofInt 64 (t))) 0 2 (0) u6 J6.out.1 (by simp [be4_len, be8_len, be1_len])
        rw [wrNum_ok 2 (0) (wnE_20)] at NN
        have HN : Hid _ := NN
        clear NN
        go_wp2_with fail
        refine (Calls.mono HN.out) ?_
        rintro r u7 ⟨rfl, x7, W1, -, t1⟩
        have J7 : Hid _ := And.intro W1 (J6.out.2.trans (wr_blw J6.out.1 t1))
        clear W1 t1 HN J6
        have HM : Hid _ := wEnd_any w.heap.size q _ ((((((([] ++ be 4 (BitVec.ofInt 64 (g))) ++ be 4 (BitVec.ofInt 64 (16))) ++ be 8 (BitVec.ofInt 64 (wrap64 X))) ++ be 4 (BitVec.ofInt 64 (0))) ++ be 1 (BitVec.ofInt 64 (0))) ++ be 1 (BitVec.ofInt 64 (t))) ++ be 2 (BitVec.ofInt 64 (0))) 0 u7 J7.out.1 (by simp [be4_len, be8_len, be1_len, be2_len])
        go_wp2_with fail
        refine (Calls.mono HM.out) ?_
        rintro r we ⟨z, rfl, o5, b5⟩
        rw [show ∀ L, wrEnd L 0 = L from fun L => if_pos rfl] at o5
        have G : Hid _ := And.intro (o5.lower J7.out.2.size) (below_then J7.out.2 b5)
        clear o5 b5 HM J7
        go_wp2
        go_ret2
        refine ⟨z, by rw [hE.out]; rfl, ?_, G.out.2⟩
        rw [hB.out]
        have := G.out.1
        rw [be1_val t, be_zero, show be 1 (BitVec.ofInt 64 0) = [0#8] by decide, show be 2 (BitVec.ofInt 64 0) = [0#8, 0#8] by decide] at this
        simpa using this
end Go.Proofs.Ythgiifeifinngaa
