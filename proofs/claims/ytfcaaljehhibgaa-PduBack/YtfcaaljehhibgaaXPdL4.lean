/- The walk of PduPuts. -/
import Derived.Test.YtfcaaljehhibgaaXPdR1
import Derived.Test.YtfcaaljehhibgaaXPdU
import Derived.Test.YtfcaaljehhibgaaXPdQ
import Derived.Test.YtfcaaljehhibgaaXPdL2
import Derived.Test.YtfcaaljehhibgaaXOpA
namespace Go.Proofs.Ytfcaaljehhibgaa
open Go.RowKit
set_option linter.unusedVariables false
set_option linter.unusedSimpArgs false
set_option maxRecDepth 8000

theorem rqPut_any (op fl b2 b3 lun tk w0 w1 w2 w3 w4 w5 w6 : Int) (now : Bool) (dx : Option Addr) (dn dc : Nat) (hs ds : Bool) (mo : Int) (d : List (BitVec 8)) (w : World) (htw : ∀ t ∈ [tk, w0, w1, w2, w3, w4, w5, w6], 0 ≤ t ∧ t < 4294967296) (hdl : d.length = dn) (hdc : dn ≤ dc) (hdn : dx = none → dc = 0) (hdr : Row w dx d) :
    Calls Try.prog 24 #[.agg #[.int .i64 op, .bool now, .int .i64 fl, .int .i64 b2, .int .i64 b3, .int .u64 lun, .int .u32 tk, .int .u32 w0, .int .u32 w1, .int .u32 w2, .int .u32 w3, .int .u32 w4, .int .u32 w5, .int .u32 w6, .slice dx dn dc], .agg #[.bool hs, .bool ds, .int .i64 mo]] w fun e w' => ∃ z, e = .returned (.tuple #[z, .int .i64 (putE mo op fl b2 b3 dn)]) ∧ Own w' w.heap.size z (if putE mo op fl b2 b3 dn = 0 then putB hs ds (pdH op now fl b2 b3 dn lun tk w0 w1 w2 w3 w4 w5 w6) d else []) ∧ Below w.heap.size w w' := by
  by_cases hc : okO mo = false ∨ canP op fl b2 b3 = false
  · have e : putE mo op fl b2 b3 dn = 1 := by unfold putE; rcases hc with hc | hc <;> rw [hc] <;> simp
    refine (rPut_arg op fl b2 b3 lun tk w0 w1 w2 w3 w4 w5 w6 now dx dn dc hs ds mo d w hc).mono ?_
    rintro e' w' ⟨rfl, b⟩
    exact ⟨_, by rw [e], by rw [e, if_neg (by decide)]; exact Own.nil _ _, b⟩
  · have ho : okO mo = true := by cases h : okO mo; exact absurd (.inl h) hc; rfl
    have hcp : canP op fl b2 b3 = true := by cases h : canP op fl b2 b3; exact absurd (.inr h) hc; rfl
    by_cases hsz : mo < (dn : Int)
    · have e : putE mo op fl b2 b3 dn = 3 := by unfold putE; rw [ho, hcp]; exact if_pos hsz
      refine (rPut_size op fl b2 b3 lun tk w0 w1 w2 w3 w4 w5 w6 now dx dn dc hs ds mo d w ho hcp hsz).mono ?_
      rintro e' w' ⟨rfl, b⟩
      exact ⟨_, by rw [e], by rw [e, if_neg (by decide)]; exact Own.nil _ _, b⟩
    · have e : putE mo op fl b2 b3 dn = 0 := by unfold putE; rw [ho, hcp]; exact if_neg hsz
      have hmo : 48 ≤ mo ∧ mo ≤ 65536 := of_decide_eq_true ho
      refine (rqPut_yes op fl b2 b3 lun tk w0 w1 w2 w3 w4 w5 w6 now dx dn dc hs ds mo d w ho hcp (by omega) (by omega) htw hdl hdc hdn hdr).mono ?_
      rintro e' w' ⟨z, rfl, o, b⟩
      exact ⟨z, by rw [e], by rw [e, if_pos rfl]; exact o, b⟩
theorem put_len (hs ds : Bool) (mo op fl b2 b3 : Int) (now : Bool) (lun tk w0 w1 w2 w3 w4 w5 w6 : Int) (dn : Nat) (d : List (BitVec 8)) (hdl : d.length = dn) : (if putE mo op fl b2 b3 dn = 0 then putB hs ds (pdH op now fl b2 b3 dn lun tk w0 w1 w2 w3 w4 w5 w6) d else []).length ≤ 1000000 := by
  by_cases h : putE mo op fl b2 b3 dn = 0
  · rw [if_pos h]
    have hd : dn ≤ 65536 := by
      unfold putE at h
      by_cases hq : (okO mo && canP op fl b2 b3) = true
      · rw [if_pos hq] at h
        have hk := Bool.and_eq_true_iff.1 hq
        have hmo : 48 ≤ mo ∧ mo ≤ 65536 := of_decide_eq_true hk.1
        by_cases hm : mo < (dn : Int)
        · rw [if_pos hm] at h; cases h
        · omega
      · rw [if_neg hq] at h; cases h
    rw [putB_len hs ds _ d (by omega), pdH_len]
    have := dgN_le hs
    have := dgN_le (ds && decide (0 < d.length))
    have := pad_body d.length (by omega)
    omega
  · rw [if_neg h]; simp


end Go.Proofs.Ytfcaaljehhibgaa

