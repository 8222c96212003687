/- The walk of ChunkSplits. -/
import Derived.Test.YtgonglbgejaffaaXCpP
namespace Go.Proofs.Ytgonglbgejaffaa
open Go.RowKit Go.Shelf
set_option linter.unusedVariables false
set_option linter.unusedSimpArgs false
set_option maxRecDepth 8000

set_option maxHeartbeats 16000000 in
theorem chunkSplits_walk (id : Int) (a1 : Option Addr) (len1 cap1 : Nat) (l1 : List (BitVec 8)) (size : Int) (a3 : Option Addr) (len3 cap3 : Nat) (ls : List (List (BitVec 8))) (w : World) (hid : -9223372036854775808 ≤ id ∧ id ≤ 9223372036854775807) (A1 : Arg 140737488351232 w a1 len1 cap1 l1) (hsz : -9223372036854775808 ≤ size ∧ size ≤ 9223372036854775807) (B3 : ls.length = len3 ∧ len3 ≤ cap3 ∧ len3 ≤ 140737488355328 ∧ SArgs w a3 ls) :
    Calls Try.prog 3 #[.int .i64 id, .slice a1 len1 cap1, .int .i64 size, .slice a3 len3 cap3] w fun e w' => e = .returned (.bool true) ∧ Below w.heap.size w w' := by
  obtain ⟨hl3, hlc3, hlm3, hS0⟩ := B3
  subst hl3
  have N := Lent_any a1 len1 cap1 l1 w A1
  obtain ⟨hl, hle, hbd, hr, hn⟩ := A1
  subst hl
  have HA : Hid _ := And.intro hsz (And.intro hle (And.intro hr (And.intro hn (And.intro hS0 (show l1.length ≤ 140737488351232 by omega)))))
  clear hsz hle hr hn hS0 hbd hid
  obtain ⟨n, hn⟩ : ∃ n, n = nS id l1.length size := ⟨_, rfl⟩
  obtain ⟨E, hE⟩ : ∃ E, E = splE id l1.length size := ⟨_, rfl⟩
  have HN : Hid _ := And.intro hn hE
  have hn256 : n ≤ 256 := by rw [hn]; exact nS_256 _ _ _
  clear hn hE
  have hee : (E == E) = true := by simp
  go_enter Try.func3, Try.ntmps3
  go_wp2_with fail
  refine N.mono ?_
  rintro r w1 ⟨go, co, rfl, oo, hgo, hco, hcm, b1⟩
  clear N
  have H1 : Hid _ := And.intro oo (And.intro hgo (And.intro hco (And.intro hcm b1)))
  have N := split2_any id (some ⟨go, 0, none⟩) co l1 size w1 HA.out.2.2.2.2.2 HA.out.1 (by omega) (own_rowC oo).frontC (fun e => by cases e)
  rw [← HN.out.1, ← HN.out.2] at N
  clear oo hgo hco hcm b1
  go_wp2_with fail
  refine N.mono ?_
  rintro r w2 ⟨xa, xc, rfl, hx, hxr, b2⟩
  clear N
  have hb2 := below_then H1.out.2.2.2.2 b2
  have N := rsplit2_any id a1 cap1 l1 size w2 HA.out.2.2.2.2.2 HA.out.1 HA.out.2.1 (HA.out.2.2.1.later hb2) HA.out.2.2.2.1
  rw [← HN.out.1, ← HN.out.2] at N
  have H2 : Hid _ := And.intro hx (And.intro hxr b2)
  clear hx hxr b2 hb2
  go_wp2_with fail
  refine N.mono ?_
  rintro r w3 ⟨ya, yc, rfl, hyr, b3⟩
  clear N
  have hb3 := below_then H2.out.2.2 b3
  have N := sameAll_yes7 xa ya xc yc (splL id l1 size.toNat n) w3 (by rw [splL_len]; omega) (H2.out.2.1.later b3) hyr
  rw [splL_len] at N
  have H3 : Hid _ := And.intro (H2.out.1.later b3) hb3
  clear hyr b3 hb3 H2
  go_wp2_with fail
  refine N.mono ?_
  rintro r w4 ⟨rfl, b4⟩
  clear N
  have hb4 := below_then H3.out.2 b4
  have H4 : Hid _ := And.intro (H3.out.1.later b4) hb4
  have hbw4 := below_then H1.out.2.2.2.2 hb4
  have N := Kept_yes go l1.length co a1 cap1 l1 w4 rfl H1.out.2.2.1 HA.out.2.2.2.2.2 (own_rowC (H1.out.1.later hb4)) (HA.out.2.2.1.later hbw4)
  clear b4 hb4 hbw4 H3
  go_wp2_with fail
  refine N.mono ?_
  rintro r _ ⟨rfl, rfl⟩
  clear N
  go_wp2_with fail
  go_loopw [14] (fun iv wr => ∃ k : Nat, k ≤ n ∧ iv = .int .i64 k ∧ SpN wr w1.heap.size xa id l1 size n k ∧ Below w1.heap.size w1 wr) (fun iv _ => n - (intOf iv).toNat)
  case atStart => exact ⟨0, Nat.zero_le _, rfl, H4.out.1, H4.out.2⟩
  case round =>
    clear H4
    obtain ⟨k, hk, rfl, hx, hb⟩ := hrel
    by_cases hlt : k < n
    · have q1 : (k : Int) < (n : Int) := by omega
      obtain ⟨D, v, m, c, rfl, hcell, N⟩ := spoil7_any hx hn256 hlt hb
      clear hx hb
      go_wp2_with fail
      clear hcell
      refine N.mono ?_
      rintro r w5 ⟨rfl, hx, hb⟩
      clear N
      have F : Hid _ := And.intro hx hb
      clear hx hb
      go_wp2
      go_roundw
      case rel => exact ⟨k + 1, by omega, by go_num, F.out⟩
      case measure => simp [intOf]; omega
    · have q1 : ¬ (k : Int) < (n : Int) := by omega
      have hbw := below_then H1.out.2.2.2.2 hb
      have N := Kept_yes go l1.length co a1 cap1 l1 wr rfl H1.out.2.2.1 HA.out.2.2.2.2.2 (own_rowC (H1.out.1.later hb)) (HA.out.2.2.1.later hbw)
      have HB : Hid _ := hbw
      clear hx hb hbw
      by_cases h100 : (100 : Int) < (ls.length : Int)
      · go_wp2_with fail
        refine N.mono ?_
        rintro r w6 ⟨rfl, rfl⟩
        clear N
        have N := known7_any w6
        go_wp2_with fail
        refine N.mono ?_
        rintro r w7 ⟨rfl, b7⟩
        clear N
        have F : Hid _ := below_then HB.out b7
        clear b7
        go_wp2
        go_ret
        exact ⟨rfl, F.out⟩
      · go_wp2_with fail
        refine N.mono ?_
        rintro r w6 ⟨rfl, rfl⟩
        clear N
        have N := cqJoin_any a3 cap3 ls w6 (HA.out.2.2.2.2.1.later HB.out) (by omega)
        obtain ⟨R, hR⟩ : ∃ R, R = jnR ls := ⟨_, rfl⟩
        rw [← hR] at N
        go_wp2_with fail
        refine N.mono ?_
        rintro r w7 ⟨z1, rfl, o1, b7⟩
        clear N
        have hb7 := below_then HB.out b7
        have N := rqJoin_any a3 cap3 ls w7 (HA.out.2.2.2.2.1.later hb7) (by omega)
        rw [← hR] at N
        have H7 : Hid _ := And.intro o1 hb7
        clear hR o1 b7 hb7
        go_wp2_with fail
        refine N.mono ?_
        rintro r w8 ⟨z2, rfl, o2, b8⟩
        clear N
        have hb8 := below_then H7.out.2 b8
        obtain ⟨pa, pc, rfl, -, -, pr, -, -⟩ := (H7.out.1.later b8).open
        obtain ⟨qa, qc, rfl, -, -, qr, -, -⟩ := o2.open
        have e1 := pr.str (jnL ls).length pc rfl
        have e2 := qr.str (jnL ls).length qc rfl
        generalize jnL ls = jl at *
        have N := known7_any w8
        have H8 : Hid _ := hb8
        have hrr : (R == R) = true := by simp
        clear hb8 pr qr o2 b8 H7
        go_wp2_with fail
        refine N.mono ?_
        rintro r w9 ⟨rfl, b9⟩
        clear N
        have F : Hid _ := below_then H8.out b9
        clear b9 H8
        go_wp2
        go_ret
        exact ⟨rfl, F.out⟩
end Go.Proofs.Ytgonglbgejaffaa

