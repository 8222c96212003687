/- The walk of the law on bytes with their length ahead, whole. -/
import Derived.Test.YtkajedabcedifabFieldL4
namespace Go.Proofs.Ytkajedabcedifab
open Go.RowKit

set_option maxHeartbeats 2000000 in
theorem fieldParts_walk (a : Option Addr) (len cap : Nat) (l : List (BitVec 8)) (size : Int) (ap : Option Addr) (plen pcap : Nat) (lp : List (BitVec 8)) (w : World) (A : Arg 1048576 w a len cap l)
    (_hs : -9223372036854775808 ≤ size ∧ size ≤ 9223372036854775807) (P : Arg 1048576 w ap plen pcap lp) :
    Calls Try.prog 6 #[.slice a len cap, .int .i64 size, .slice ap plen pcap] w fun e w' => e = .returned (.bool true) ∧ Below w.heap.size w w' := by
  obtain ⟨hl, hle, hbd, hr, hnil⟩ := A
  obtain ⟨hpl, hple, hpbd, hpr, hpnil⟩ := P
  have A0 : Arg 140737488351232 w a len cap l := ⟨hl, hle, by omega, hr, hnil⟩
  obtain ⟨nl, E1, hnl, hz, ha1, ha2⟩ := adds l len size lp plen hl hpl (by omega)
  obtain ⟨mid, rest, E2, hmid, hrest, hc1, hc2⟩ := cuts l len size hl (by omega)
  have P1 : Hid _ := ha1
  have P2 : Hid _ := ha2
  have C1 : Hid _ := hc1
  have C2 : Hid _ := hc2
  have Z : Hid _ := hz
  clear ha1 ha2 hc1 hc2 hz
  go_enter Try.func6, Try.ntmps6
  go_wp2_with fail
  refine (Lent_any a len cap l w A0).mono ?_
  rintro e w1 ⟨go, co, rfl, hown, hgo, hco, hcm, hb1⟩
  clear A0
  have ho167 : Row w1 (some ⟨go, 0, none⟩) (l ++ [167#8]) := by
    obtain ⟨a', c', hv, -, -, hr', -, -⟩ := hown.open
    rw [Value.slice.injEq] at hv
    rw [hv.1]; exact hr'
  have hol : Row w1 (some ⟨go, 0, none⟩) l := by
    rcases ho167 with h0 | ⟨b', o', hb', hc'⟩
    · simp at h0
    · exact .inr ⟨b', o', hb', fun i hi => by rw [hc' i (by simp; omega)]; unfold bt; rw [List.getD, List.getD, List.getElem?_append_left hi]⟩
  have hr1 := hr.later hb1
  have hp1 := hpr.later hb1
  clear hown hr hpr
  go_wp2_with fail
  refine Calls.mono (P1.out (some ⟨go, 0, none⟩) co ap pcap w1 hol (by omega) (fun h => by cases h) hp1 hple hpnil) ?_
  rintro e w2 ⟨vx, rfl, hox, hb2⟩
  go_wp2_with fail
  refine Calls.mono (P2.out a cap ap pcap w2 (hr1.later hb2) hle hnil (hp1.later hb2) hple hpnil) ?_
  rintro e w3 ⟨vy, rfl, hoy, hb3⟩
  have hox3 := hox.later hb3
  have hb13 := below_then hb2 hb3
  clear P1 P2 hox
  go_wp2_with fail
  refine Calls.mono (C1.out (some ⟨go, 0, none⟩) co w3 (hol.later hb13) (by omega)) ?_
  rintro e w4 ⟨vm, vn, B, rfl, hom, hon, hBB, hlt, hBs, hb4⟩
  go_wp2_with fail
  refine Calls.mono (C2.out a cap w4 (hr1.later (below_then hb13 hb4)) hle) ?_
  rintro e w5 ⟨vq, vr, rfl, hoq, hor, hb5⟩
  clear C1 C2
  have hb35 := below_then hb4 hb5
  have hox5 := hox3.later hb35
  have hoy5 := hoy.later hb35
  have hom5 := hom.later hb5
  have hon5 := hon.later hb5
  have hb15 := below_then hb13 hb35
  obtain ⟨ax, cx, hvx, -, -, rx, -, -⟩ := hox5.open
  obtain ⟨ay, cy, hvy, -, -, ry, -, -⟩ := hoy5.open
  obtain ⟨am, cm, hvm, -, -, rm, -, -⟩ := hom5.open
  obtain ⟨an, cn, hvn, -, -, rn, -, -⟩ := hon5.open
  obtain ⟨aq, cq, hvq, -, -, rq, -, -⟩ := hoq.open
  obtain ⟨ar, cr, hvr, -, -, rr, -, -⟩ := hor.open
  have sx := rx.str nl.length cx rfl
  have sy := ry.str nl.length cy rfl
  have sm := rm.str mid.length cm rfl
  have sn := rn.str rest.length cn rfl
  have sq := rq.str mid.length cq rfl
  have sr := rr.str rest.length cr rfl
  rw [← hvx] at sx
  rw [← hvy] at sy
  rw [← hvm] at sm
  rw [← hvn] at sn
  rw [← hvq] at sq
  rw [← hvr] at sr
  have HX : Hid _ := And.intro hox5 (And.intro hom5 (And.intro hon5 (And.intro hox3 hb35)))
  clear hvy hvm hvn hvq hvr rx ry rm rn rq rr hoy hoy5 hox3 hom hon hoq hor hox5 hom5 hon5 hb4 hb35 hb5 hvx
  go_wp2_with fail
  refine (Kept_yes go len co a cap l w5 hl hco (by omega) (ho167.later hb15) (hr1.later hb15)).mono ?_
  rintro e w' ⟨rfl, hw⟩
  obtain rfl := hw.symm
  clear hw sx sy sm sn sq sr
  go_wp2_with fail
  refine (Spoil_own vm w3.heap.size mid w5 HX.out.2.1 (by omega)).mono ?_
  rintro e w6 ⟨rfl, hg6⟩
  have hon6 : Own w6 B vn rest := by
    obtain ⟨h1, h2 | ⟨g, cp, cur, hv, hg, hh, r⟩⟩ := HX.out.2.2.1
    · exact ⟨h1, .inl h2⟩
    · refine ⟨h1, .inr ⟨g, cp, cur, hv, hg, ?_, r⟩⟩
      have hlt' : g < w5.heap.size := by
        rcases Nat.lt_or_ge g w5.heap.size with h | h
        · exact h
        · rw [Array.getElem?_eq_none h] at hh; cases hh
      rw [hg6.block g hlt' (by intro e; have := hlt g e.symm; omega)]; exact hh
  have hb36 : Below w3.heap.size w3 w6 := HX.out.2.2.2.2.grown hg6 HX.out.2.2.2.2.size (own_block HX.out.2.1)
  clear hg6
  go_wp2_with fail
  refine (Spoil_own vn B rest w6 hon6 (by omega)).mono ?_
  rintro e w7 ⟨rfl, hg7⟩
  have hb37 : Below w3.heap.size w3 w7 := hb36.grown hg7 hb36.size (fun k hk => Nat.le_trans hBB (own_block hon6 k hk))
  clear hg7 hon6 hb36
  have hb17 := below_then hb13 hb37
  have hw7 := below_then hb1 hb17
  have rl7 := hr1.later hb17
  have ro7 := ho167.later hb17
  have rp7 := hp1.later hb17
  have hox7 := Own.later HX.out.2.2.2.1 hb37
  clear HX hb15 hb37 hlt hBs hBB hol hr1 hp1 ho167 hb13 hb17 hb2 hb3 hb1
  by_cases hE : E1 = 0
  · obtain ⟨s, rfl, hs, h6, hf, hnle⟩ := Z.out hE
    subst hE
    have hbl := be_length s (BitVec.ofNat 64 plen) (by omega)
    have hT : nl.length = len + (s + plen) := by rw [hnle, List.length_append, List.length_append, hbl, hl, hpl]
    obtain ⟨gx, cx, cur, hv, hg1, hg2, hh, hcx1, hcx2, hcx3, hcx4⟩ := hox7.block (by omega)
    have hrx : Row w7 (some ⟨gx, 0, none⟩) nl := by
      obtain ⟨a', c', hv', -, -, hr', -, -⟩ := hox7.open
      rw [hv, Value.slice.injEq] at hv'
      rw [hv'.1]; exact hr'
    have hdrop : nl.drop len = be s (BitVec.ofNat 64 plen) ++ lp := by rw [hnle]; exact List.drop_left' hl
    have hrd := hrx.drop len
    rw [hdrop, Nat.zero_add] at hrd
    obtain ⟨hce, hcn⟩ := cut_back s plen lp hs hpl h6 hf
    have hlx : (be s (BitVec.ofNat 64 plen) ++ lp).length = s + plen := by rw [List.length_append, hbl, hpl]
    have hmid2 : ((be s (BitVec.ofNat 64 plen) ++ lp).drop s).take (s + plen - s) = lp := by
      rw [List.drop_left' hbl]
      exact List.take_of_length_le (by omega)
    have hrest2 : (be s (BitVec.ofNat 64 plen) ++ lp).drop (s + plen) = [] := List.drop_of_length_le (by omega)
    generalize be s (BitVec.ofNat 64 plen) ++ lp = lx at *
    rw [hT] at hv hcx1
    have q1 : (len : Int) ≤ (cx : Int) := by omega
    have q2 : ¬ cx = len := by omega
    have q3 : (len : Int) ≤ (len : Int) + ((s : Int) + (plen : Int)) := by omega
    subst hv
    have RX : Hid _ := hrd
    clear hox7 hh hcx4 hcx3 hrx hdrop hnle hrd Z hT hnl
    go_wp2_with fail
    refine (Cut_yes gx len (s + plen) (cx - len) lx s (s + plen) w7 hlx (by omega) (by omega) RX.out hce hcn (by omega) (by omega)).mono ?_
    rintro e w8 ⟨vs, vt, B2, rfl, hos, hot, -, -, -, hb8⟩
    rw [hmid2] at hos
    rw [hrest2] at hot
    obtain ⟨a2, cs, hvs, -, -, rs, -, -⟩ := hos.open
    obtain ⟨at', ct, hvt, -, -, -, -, -⟩ := hot.open
    have ss := rs.str plen cs hpl
    rw [hpl] at hvs
    rw [← hvs] at ss
    have sp := (rp7.later hb8).str plen pcap hpl
    have rl8 := rl7.later hb8
    have ro8 := ro7.later hb8
    have hw8 := below_then hw7 hb8
    subst hvt
    clear hvs rs hos hot RX rl7 ro7 rp7 hb8 hw7 q1 q2 q3
    go_wp2_with fail
    refine (Kept_yes go len co a cap l w8 hl hco (by omega) ro8 rl8).mono ?_
    rintro e w' ⟨rfl, hw⟩
    obtain rfl := hw.symm
    clear hw
    go_wp2_with fail
    refine (known2_any _).mono ?_
    rintro e w9 ⟨rfl, hk⟩
    go_wp2
    go_ret
    exact ⟨rfl, below_then hw8 hk⟩
  · have hE' : (E1 == 0) = false := by simpa using hE
    clear hE Z hox7
    go_wp2_with fail
    refine (Kept_yes go len co a cap l w7 hl hco (by omega) ro7 rl7).mono ?_
    rintro e w' ⟨rfl, hw⟩
    obtain rfl := hw.symm
    clear hw
    go_wp2_with fail
    refine (known2_any _).mono ?_
    rintro e w8 ⟨rfl, hk⟩
    go_wp2
    go_ret
    exact ⟨rfl, below_then hw7 hk⟩
end Go.Proofs.Ytkajedabcedifab
