/- sense: the document's at; Capacity, the program's and the document's. -/
import Derived.Test.YtncplnejoppekaaDoorSe1
import Derived.Test.YtncplnejoppekaaDoorFieldP2
namespace Go.Proofs.YtncplnejoppekaaDoor
open Go.RowKit
set_option linter.unusedVariables false
set_option linter.unusedSimpArgs false
set_option maxRecDepth 4000

theorem wr_blw {w w' : World} {base g T : Nat} {v : Value} {L : List (BitVec 8)} {E : Int} (h : WrAt w base g T v L E) (ht : Turned (Mine g v) w w') : Below base w w' :=
  ht.below base h.base_w (fun k hk => by
    rcases hk with rfl | hk
    · exact h.base_g
    · obtain ⟨l, ho, -⟩ := h.own; exact (World.ownsRow.lt ho k hk).1)
theorem wrNum_ok {L : List (BitVec 8)} (s n : Int) (h : wnE s n = 0) : wrNum L 0 s n = (L ++ be s.toNat (BitVec.ofInt 64 n), 0) := by
  unfold wrNum
  rw [if_pos rfl, if_pos h]
theorem wnE_4 {n : Int} (h : 0 ≤ n ∧ n < 4294967296) : wnE 4 n = 0 := by
  unfold wnE
  rw [if_neg (by decide), if_neg (by decide), if_neg]
  simp
  omega
theorem wnE_8 (n : Int) : wnE 8 n = 0 := by
  unfold wnE
  rw [if_neg (by decide), if_pos rfl]
theorem fits_4 {n : Int} (h : 0 ≤ n ∧ n < 4294967296) : fitsB 4 (BitVec.ofInt 64 n) = true := by
  unfold fitsB
  rw [decide_eq_true_eq, BitVec.toNat_ofInt]
  apply Nat.div_eq_of_lt
  simp
  omega
theorem fits_8 (x : BitVec 64) : fitsB 8 x = true := by
  unfold fitsB
  rw [decide_eq_true_eq]
  exact Nat.div_eq_of_lt x.isLt

/-- Capacity's error and bytes -/
def cpE (n : Int) : Int := if fromB 1 n 256 = true then 0 else 1
def cpB (n : Int) : List (BitVec 8) := if fromB 1 n 256 = true then be 4 (BitVec.ofInt 64 (n - 1)) ++ be 4 (BitVec.ofInt 64 64) else []
theorem be4_len (x : BitVec 64) : (be 4 x).length = 4 := be_length 4 x (by omega)
theorem be8_len (x : BitVec 64) : (be 8 x).length = 8 := be_length 8 x (by omega)
set_option maxHeartbeats 1000000 in
theorem cap_any (n : Int) (w : World) :
    Calls Tryd.prog 12 #[.int .i64 n] w fun e w' => ∃ z, e = .returned (.tuple #[z, .int .i64 (cpE n)]) ∧ Own w' w.heap.size z (cpB n) ∧ Below w.heap.size w w' := by
  by_cases h : fromB 1 n 256 = true
  · have HB : Hid (0 ≤ n - 1 ∧ n - 1 < 4294967296) := by have h' : 1 ≤ n ∧ n ≤ 256 := of_decide_eq_true h; exact ⟨by omega, by omega⟩
    have v1 : IntKind.i64.wrap (n - 1) = n - 1 := by rw [IntKind.wrap_i64]; have := HB.out; omega
    have e1 : Hid (cpE n = 0 ∧ cpB n = be 4 (BitVec.ofInt 64 (n - 1)) ++ be 4 (BitVec.ofInt 64 64)) := ⟨if_pos h, if_pos h⟩
    have F0 : Hid (Below w.heap.size w w) := Below.refl _ _
    go_enter Tryd.func12, Tryd.ntmps12
    go_wp2_with fail
    refine (Calls.mono (isFrom_any _ _ _ _)) ?_
    rintro e _ ⟨rfl, rfl⟩
    rw [h]
    have HN : Hid _ := NewWriter_any w.heap.size w F0.out.size
    go_wp2_with fail
    refine (Calls.mono HN.out) ?_
    rintro r u0 ⟨g, rfl, -, W0, b0⟩
    have J0 : Hid _ := And.intro W0 (below_then F0.out b0)
    clear W0 b0 HN
    have NN := wNum_any w.heap.size g _ ([]) 0 4 (n - 1) u0 J0.out.1 (by simp)
    rw [wrNum_ok 4 (n - 1) (wnE_4 HB.out)] at NN
    have HN : Hid _ := NN
    clear NN
    go_wp2_with fail
    refine (Calls.mono HN.out) ?_
    rintro r u1 ⟨rfl, x1, W1, -, t1⟩
    have J1 : Hid _ := And.intro W1 (J0.out.2.trans (wr_blw J0.out.1 t1))
    clear W1 t1 HN J0
    have NN := wNum_any w.heap.size g _ ([] ++ be 4 (BitVec.ofInt 64 (n - 1))) 0 4 (64) u1 J1.out.1 (by simp [be4_len])
    rw [wrNum_ok 4 (64) (wnE_4 (by omega))] at NN
    have HN : Hid _ := NN
    clear NN
    go_wp2_with fail
    refine (Calls.mono HN.out) ?_
    rintro r u2 ⟨rfl, x2, W1, -, t1⟩
    have J2 : Hid _ := And.intro W1 (J1.out.2.trans (wr_blw J1.out.1 t1))
    clear W1 t1 HN J1
    have HM : Hid _ := wEnd_any w.heap.size g _ (([] ++ be 4 (BitVec.ofInt 64 (n - 1))) ++ be 4 (BitVec.ofInt 64 (64))) 0 u2 J2.out.1 (by simp [be4_len])
    go_wp2_with fail
    refine (Calls.mono HM.out) ?_
    rintro r we ⟨z, rfl, o5, b5⟩
    rw [show ∀ L, wrEnd L 0 = L from fun L => if_pos rfl] at o5
    have G : Hid _ := And.intro (o5.lower J2.out.2.size) (below_then J2.out.2 b5)
    clear o5 b5 HM J2
    go_wp2
    go_ret2
    refine ⟨z, by rw [e1.out.1]; rfl, ?_, G.out.2⟩
    rw [e1.out.2]
    have := G.out.1
    simpa using this
  · have h : fromB 1 n 256 = false := by simpa using h
    have e1 : Hid (cpE n = 1 ∧ cpB n = []) := ⟨if_neg (by rw [h]; decide), if_neg (by rw [h]; decide)⟩
    go_enter Tryd.func12, Tryd.ntmps12
    go_wp2_with fail
    refine (Calls.mono (isFrom_any _ _ _ _)) ?_
    rintro e _ ⟨rfl, rfl⟩
    rw [h]
    go_wp2
    go_ret2
    refine ⟨.slice none 0 0, by rw [e1.out.1]; try rfl, ?_, Below.refl _ _⟩
    rw [e1.out.2]; exact Own.nil _ _
end Go.Proofs.YtncplnejoppekaaDoor
