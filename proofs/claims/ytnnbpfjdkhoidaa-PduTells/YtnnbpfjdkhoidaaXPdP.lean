/- pdu: Put in all cases; how many bytes a letter has, and what its first bytes are. -/
import Derived.Test.YtnnbpfjdkhoidaaXPd9
namespace Go.Proofs.Ytnnbpfjdkhoidaa
open Go.RowKit
set_option linter.unusedVariables false
set_option linter.unusedSimpArgs false
set_option maxRecDepth 8000

def putE (mo : Int) (op fl b2 b3 : Int) (dn : Nat) : Int := if (okO mo && canP op fl b2 b3) = true then (if mo < (dn : Int) then 3 else 0) else 1
theorem canP_of {op fl b2 b3 : Int} (h : canP op fl b2 b3 = true) : (0 ≤ op ∧ op ≤ 63) ∧ (0 ≤ fl ∧ fl ≤ 255) ∧ (0 ≤ b2 ∧ b2 ≤ 255) ∧ (0 ≤ b3 ∧ b3 ≤ 255) := by
  unfold canP isB at h
  simp only [Bool.and_eq_true, decide_eq_true_eq] at h
  exact ⟨h.1.1.1, h.1.1.2, h.1.2, h.2⟩
theorem pPut_any (op fl b2 b3 lun tk w0 w1 w2 w3 w4 w5 w6 : Int) (now : Bool) (dx : Option Addr) (dn dc : Nat) (hs ds : Bool) (mo : Int) (d : List (BitVec 8)) (w : World) (htw : ∀ t ∈ [tk, w0, w1, w2, w3, w4, w5, w6], 0 ≤ t ∧ t < 4294967296) (hdl : d.length = dn) (hdc : dn ≤ dc) (hdn : dx = none → dc = 0) (hdr : Row w dx d) :
    Calls Try.prog 7 #[.agg #[.int .i64 op, .bool now, .int .i64 fl, .int .i64 b2, .int .i64 b3, .int .u64 lun, .int .u32 tk, .int .u32 w0, .int .u32 w1, .int .u32 w2, .int .u32 w3, .int .u32 w4, .int .u32 w5, .int .u32 w6, .slice dx dn dc], .agg #[.bool hs, .bool ds, .int .i64 mo]] w fun e w' => ∃ z, e = .returned (.tuple #[z, .int .i64 (putE mo op fl b2 b3 dn)]) ∧ Own w' w.heap.size z (if putE mo op fl b2 b3 dn = 0 then putB hs ds (pdH op now fl b2 b3 dn lun tk w0 w1 w2 w3 w4 w5 w6) d else []) ∧ Below w.heap.size w w' := by
  cases ho : okO mo
  · have e : putE mo op fl b2 b3 dn = 1 := by unfold putE; rw [ho]; rfl
    refine (pPut_arg1 op fl b2 b3 lun tk w0 w1 w2 w3 w4 w5 w6 now dx dn dc hs ds mo w ho).mono ?_
    rintro e' w' ⟨rfl, b⟩
    exact ⟨_, by rw [e], by rw [e, if_neg (by decide)]; exact Own.nil _ _, b⟩
  · cases hc : canP op fl b2 b3
    · have e : putE mo op fl b2 b3 dn = 1 := by unfold putE; rw [ho, hc]; rfl
      refine (pPut_arg2 op fl b2 b3 lun tk w0 w1 w2 w3 w4 w5 w6 now dx dn dc hs ds mo w ho hc).mono ?_
      rintro e' w' ⟨rfl, b⟩
      exact ⟨_, by rw [e], by rw [e, if_neg (by decide)]; exact Own.nil _ _, b⟩
    · by_cases hsz : mo < (dn : Int)
      · have e : putE mo op fl b2 b3 dn = 3 := by unfold putE; rw [ho, hc]; exact if_pos hsz
        refine (pPut_size op fl b2 b3 lun tk w0 w1 w2 w3 w4 w5 w6 now dx dn dc hs ds mo w ho hc hsz).mono ?_
        rintro e' w' ⟨rfl, b⟩
        exact ⟨_, by rw [e], by rw [e, if_neg (by decide)]; exact Own.nil _ _, b⟩
      · have e : putE mo op fl b2 b3 dn = 0 := by unfold putE; rw [ho, hc]; exact if_neg hsz
        have hmo : 48 ≤ mo ∧ mo ≤ 65536 := of_decide_eq_true ho
        obtain ⟨q0, q1, q2, q3⟩ := canP_of hc
        refine (pPut_yes op fl b2 b3 lun tk w0 w1 w2 w3 w4 w5 w6 now dx dn dc hs ds mo d w ho hc (by omega) q0 q1 q2 q3 htw hdl hdc hdn (by omega) hdr).mono ?_
        rintro e' w' ⟨z, rfl, o, b⟩
        exact ⟨z, by rw [e], by rw [e, if_pos rfl]; exact o, b⟩
theorem pdH_len (op : Int) (now : Bool) (fl b2 b3 : Int) (n : Nat) (lun tk w0 w1 w2 w3 w4 w5 w6 : Int) : (pdH op now fl b2 b3 n lun tk w0 w1 w2 w3 w4 w5 w6).length = 48 := by
  unfold pdH; simp [be_length]
theorem bdy_len (d : List (BitVec 8)) (h : d.length < 16777216) : (bdy d).length = bodyN d.length := by
  have := pad_body d.length h
  unfold bdy nulls; rw [List.length_append, List.length_replicate]; omega
theorem dgB_len (b : Bool) (l : List (BitVec 8)) : (dgB b l).length = dgN b := by unfold dgB dgN; cases b <;> rfl
theorem putB_len (hs ds : Bool) (H d : List (BitVec 8)) (hd : d.length < 16777216) : (putB hs ds H d).length = H.length + (dgN hs + (bodyN d.length + dgN (ds && decide (0 < d.length)))) := by
  unfold putB
  rw [List.length_append, List.length_append, List.length_append, dgB_len, bdy_len d hd, dgB_len]
theorem putB_at (hs ds : Bool) (H d : List (BitVec 8)) (i : Nat) (h : i < H.length) : bt (putB hs ds H d) i = bt H i := by
  unfold putB
  rw [bt_append, if_pos h]
theorem pdH_bytes (op : Int) (now : Bool) (fl b2 b3 : Int) (n : Nat) (lun tk w0 w1 w2 w3 w4 w5 w6 : Int) (hop : 0 ≤ op ∧ op ≤ 63) (hn : n < 16777216) :
    bt (pdH op now fl b2 b3 n lun tk w0 w1 w2 w3 w4 w5 w6) 0 < 128 ∧ bt (pdH op now fl b2 b3 n lun tk w0 w1 w2 w3 w4 w5 w6) 4 = 0 ∧ bt (pdH op now fl b2 b3 n lun tk w0 w1 w2 w3 w4 w5 w6) 5 * 65536 + bt (pdH op now fl b2 b3 n lun tk w0 w1 w2 w3 w4 w5 w6) 6 * 256 + bt (pdH op now fl b2 b3 n lun tk w0 w1 w2 w3 w4 w5 w6) 7 = (n : Int) := by
  have h0 : 0 ≤ fst7 op now ∧ fst7 op now < 128 := by unfold fst7; split <;> omega
  unfold pdH
  refine ⟨?_, ?_, ?_⟩
  · simp only [be, be8, bt, List.nil_append, List.append_assoc, List.drop, List.cons_append, List.getD_cons_zero, List.getD_cons_succ, Nat.sub_self, Nat.reduceSub]
    simp only [BitVec.toNat_setWidth, BitVec.toNat_ofInt]
    omega
  · simp only [be, be8, bt, List.nil_append, List.append_assoc, List.drop, List.cons_append, List.getD_cons_zero, List.getD_cons_succ, Nat.sub_self, Nat.reduceSub]
    decide
  · simp only [be, be8, bt, List.nil_append, List.append_assoc, List.drop, List.cons_append, List.getD_cons_zero, List.getD_cons_succ, Nat.sub_self, Nat.reduceSub]
    simp only [BitVec.toNat_setWidth, BitVec.toNat_ofInt, BitVec.toNat_ushiftRight, Nat.shiftRight_eq_div_pow]
    omega
end Go.Proofs.Ytnnbpfjdkhoidaa

