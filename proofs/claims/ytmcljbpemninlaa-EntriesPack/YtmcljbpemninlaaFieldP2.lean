/- Walks of Cut, and of the document's Add and Cut. -/
import Derived.Test.YtmcljbpemninlaaFieldP
import Derived.Deep.RegionHeldLaw
namespace Go.Proofs.Ytmcljbpemninlaa
open Go.RowKit

theorem cutE_0 {l : List (BitVec 8)} {size : Int} (h : cutE l size = 0) : ∃ s n : Nat, size = s ∧ (s = 1 ∨ s = 2 ∨ s = 4) ∧ n = (numTo l 0 s).toNat ∧ n ≤ 65536 ∧ s + n ≤ l.length ∧ cutN l size = s + n := by
  have h' := h
  unfold cutE at h
  cases hb : lwB size with
  | false => rw [hb] at h; simp at h
  | true =>
    obtain ⟨s, rfl, hs⟩ := lwB_ex hb
    rw [hb] at h
    simp only [Bool.true_eq_false, if_false, Int.toNat_natCast] at h
    by_cases h2 : l.length < s
    · rw [if_pos h2] at h; cases h
    rw [if_neg h2] at h
    by_cases h3 : 65536 < (numTo l 0 s).toNat
    · rw [if_pos h3] at h; cases h
    rw [if_neg h3] at h
    by_cases h4 : l.length < s + (numTo l 0 s).toNat
    · rw [if_pos h4] at h; cases h
    exact ⟨s, _, rfl, hs, rfl, by omega, by omega, by unfold cutN; rw [if_pos h']; simp⟩

theorem Row.takes {w : World} {a : Option Addr} {l : List (BitVec 8)} (h : Row w a l) (k : Nat) : Row w a (l.take k) := by
  rcases h with rfl | ⟨b, off, rfl, hc⟩
  · exact .inl (by simp)
  · refine .inr ⟨b, off, rfl, fun i hi => ?_⟩
    simp at hi
    rw [hc i (by omega)]; unfold bt; rw [List.getD, List.getD, List.getElem?_take, if_pos (by omega)]



theorem Own.lower {w : World} {base base' : Nat} {v : Value} {l : List (BitVec 8)} (h : Own w base v l) (hb : base' ≤ base) : Own w base' v l := by
  obtain ⟨h1, h2 | ⟨g, cap, cur, hv, hg, r⟩⟩ := h
  · exact ⟨h1, .inl h2⟩
  · exact ⟨h1, .inr ⟨g, cap, cur, hv, Nat.le_trans hb hg, r⟩⟩

theorem make_1 (w : World) : (Instr.makeSlice 22 (.int .i64 1) (.int .i64 1)).run Try.prog w = .ok (.slice (some ⟨w.heap.size, 0, none⟩) 1 1) (w.alloc (.cells (Array.replicate 1 (.int .u8 0)) 5)) := by kernel_rfl
set_option maxHeartbeats 800000 in
theorem rAdd_1 (a : Option Addr) (len cap : Nat) (l : List (BitVec 8)) (ap : Option Addr) (plen pcap : Nat) (lp : List (BitVec 8)) (w : World) (hl : l.length = len) (hle : len ≤ cap) (hr : Row w a l) (hn : a = none → cap = 0)
    (hpl : lp.length = plen) (hple : plen ≤ pcap) (hpr : Row w ap lp) (hpn : ap = none → pcap = 0) (hb : len + plen + 8 ≤ 140737488351232) (hp6 : plen ≤ 65536) (hf : fitsB 1 (BitVec.ofNat 64 plen) = true) :
    Calls Try.prog 73 #[.slice a len cap, .int .i64 1, .slice ap plen pcap] w fun e w' => ∃ v, e = .returned (.tuple #[v, .int .i64 0]) ∧ Own w' w.heap.size v (l ++ (be 1 (BitVec.ofNat 64 plen) ++ lp)) ∧ Below w.heap.size w w' := by
  have hu := lenU plen (by omega)
  have t : ¬ (65536 : Int) < (plen : Int) := by omega
  have hmk := make_1
  have hb0 : Below w.heap.size w (w.alloc (.cells (Array.replicate 1 (.int .u8 0)) 5)) := (Below.refl _ _).alloc (Nat.le_refl _) _
  have hrz := Row.newl w (Array.replicate 1 (.int .u8 0)) 5 (0, 0) (List.replicate 1 0#8) rfl
  have hov : over (List.replicate 1 0#8) 0 (be 1 (BitVec.ofNat 64 plen)) = be 1 (BitVec.ofNat 64 plen) := by
    unfold over; rw [be_length _ _ (by omega)]; simp
  have hbl := be_length 1 (BitVec.ofNat 64 plen) (by omega)
  have R : Hid _ := And.intro hb0 (And.intro hrz (And.intro hov hbl))
  clear hb0 hrz hov hbl
  go_enter Try.func73, Try.ntmps73
  go_wp2_with (go_at_call 95; rw [← hu]; refine (fits_any 1 (BitVec.ofNat 64 plen) _ (by omega)).mono ?_; rw [hf]; rintro e w' ⟨rfl, rfl⟩)
  rw [← hu]
  refine (rPut_yes (some ⟨w.heap.size, 0, none⟩) 1 1 (List.replicate 1 0#8) 0 1 (BitVec.ofNat 64 plen) _ (by simp) (Nat.le_refl _) R.out.2.1 (fun h => by cases h) (by omega) (by omega) (by omega) (by omega) hf).mono ?_
  rintro e w1 ⟨v1, rfl, ho1, hb1⟩
  rw [R.out.2.2.1] at ho1
  have hbw1 : Below w.heap.size w w1 := below_then R.out.1 hb1
  obtain ⟨a1, c1, hv1, hle1, hm1, hr1, hn1, -⟩ := ho1.open
  rw [R.out.2.2.2] at hv1 hle1
  rw [hv1]
  have hra := hr.later hbw1
  have hrp := hpr.later hbw1
  have HB : Hid _ := R.out.2.2.2
  clear R hb1 ho1 hmk hv1 hf hu hr hpr
  go_wp2_with (at_builtin; refine wpList_append_bytes _ rfl _ _ rfl w1.heap.size _ [] rfl (Own.nil _ _) a len cap l rfl hl hra hn hle (by simp; omega) (Nat.le_refl _) ?_)
  intro v2 w2 ho2 hg2
  have hb2 : Below w1.heap.size w1 w2 := (Below.refl _ _).grown hg2 (Nat.le_refl _) (by simp [Value.ownBlock])
  have hr1' := hr1.later hb2
  clear hg2
  go_wp2_with (at_builtin; refine wpList_append_bytes _ rfl _ _ rfl w1.heap.size v2 l rfl ho2 a1 1 c1 (be 1 (BitVec.ofNat 64 plen)) rfl HB.out hr1' hn1 hle1 (by omega) hb2.size ?_)
  intro v3 w3 ho3 hg3
  have hb3 : Below w1.heap.size w1 w3 := hb2.grown hg3 hb2.size (own_block ho2)
  have hrp3 := hrp.later hb3
  have hl3 : (l ++ be 1 (BitVec.ofNat 64 plen)).length = len + 1 := by rw [List.length_append, HB.out, hl]
  clear hg3 hr1' hr1 ho2
  go_wp2_with (at_builtin; refine wpList_append_bytes _ rfl _ _ rfl w1.heap.size v3 (l ++ be 1 (BitVec.ofNat 64 plen)) rfl ho3 ap plen pcap lp rfl hpl hrp3 hpn hple (by rw [hl3]; omega) hb3.size ?_)
  intro v4 w4 ho4 hg4
  have F : Hid _ := And.intro (Own.lower ho4 hbw1.size) (below_then hbw1 (hb3.grown hg4 hb3.size (own_block ho3)))
  clear ho4 hg4 hrp3 hrp hra
  go_wp2
  go_ret2
  exact ⟨v4, rfl, F.out.1, F.out.2⟩

theorem make_2 (w : World) : (Instr.makeSlice 22 (.int .i64 2) (.int .i64 2)).run Try.prog w = .ok (.slice (some ⟨w.heap.size, 0, none⟩) 2 2) (w.alloc (.cells (Array.replicate 2 (.int .u8 0)) 5)) := by kernel_rfl
set_option maxHeartbeats 800000 in
theorem rAdd_2 (a : Option Addr) (len cap : Nat) (l : List (BitVec 8)) (ap : Option Addr) (plen pcap : Nat) (lp : List (BitVec 8)) (w : World) (hl : l.length = len) (hle : len ≤ cap) (hr : Row w a l) (hn : a = none → cap = 0)
    (hpl : lp.length = plen) (hple : plen ≤ pcap) (hpr : Row w ap lp) (hpn : ap = none → pcap = 0) (hb : len + plen + 8 ≤ 140737488351232) (hp6 : plen ≤ 65536) (hf : fitsB 2 (BitVec.ofNat 64 plen) = true) :
    Calls Try.prog 73 #[.slice a len cap, .int .i64 2, .slice ap plen pcap] w fun e w' => ∃ v, e = .returned (.tuple #[v, .int .i64 0]) ∧ Own w' w.heap.size v (l ++ (be 2 (BitVec.ofNat 64 plen) ++ lp)) ∧ Below w.heap.size w w' := by
  have hu := lenU plen (by omega)
  have t : ¬ (65536 : Int) < (plen : Int) := by omega
  have hmk := make_2
  have hb0 : Below w.heap.size w (w.alloc (.cells (Array.replicate 2 (.int .u8 0)) 5)) := (Below.refl _ _).alloc (Nat.le_refl _) _
  have hrz := Row.newl w (Array.replicate 2 (.int .u8 0)) 5 (0, 0) (List.replicate 2 0#8) rfl
  have hov : over (List.replicate 2 0#8) 0 (be 2 (BitVec.ofNat 64 plen)) = be 2 (BitVec.ofNat 64 plen) := by
    unfold over; rw [be_length _ _ (by omega)]; simp
  have hbl := be_length 2 (BitVec.ofNat 64 plen) (by omega)
  have R : Hid _ := And.intro hb0 (And.intro hrz (And.intro hov hbl))
  clear hb0 hrz hov hbl
  go_enter Try.func73, Try.ntmps73
  go_wp2_with (go_at_call 95; rw [← hu]; refine (fits_any 2 (BitVec.ofNat 64 plen) _ (by omega)).mono ?_; rw [hf]; rintro e w' ⟨rfl, rfl⟩)
  rw [← hu]
  refine (rPut_yes (some ⟨w.heap.size, 0, none⟩) 2 2 (List.replicate 2 0#8) 0 2 (BitVec.ofNat 64 plen) _ (by simp) (Nat.le_refl _) R.out.2.1 (fun h => by cases h) (by omega) (by omega) (by omega) (by omega) hf).mono ?_
  rintro e w1 ⟨v1, rfl, ho1, hb1⟩
  rw [R.out.2.2.1] at ho1
  have hbw1 : Below w.heap.size w w1 := below_then R.out.1 hb1
  obtain ⟨a1, c1, hv1, hle1, hm1, hr1, hn1, -⟩ := ho1.open
  rw [R.out.2.2.2] at hv1 hle1
  rw [hv1]
  have hra := hr.later hbw1
  have hrp := hpr.later hbw1
  have HB : Hid _ := R.out.2.2.2
  clear R hb1 ho1 hmk hv1 hf hu hr hpr
  go_wp2_with (at_builtin; refine wpList_append_bytes _ rfl _ _ rfl w1.heap.size _ [] rfl (Own.nil _ _) a len cap l rfl hl hra hn hle (by simp; omega) (Nat.le_refl _) ?_)
  intro v2 w2 ho2 hg2
  have hb2 : Below w1.heap.size w1 w2 := (Below.refl _ _).grown hg2 (Nat.le_refl _) (by simp [Value.ownBlock])
  have hr1' := hr1.later hb2
  clear hg2
  go_wp2_with (at_builtin; refine wpList_append_bytes _ rfl _ _ rfl w1.heap.size v2 l rfl ho2 a1 2 c1 (be 2 (BitVec.ofNat 64 plen)) rfl HB.out hr1' hn1 hle1 (by omega) hb2.size ?_)
  intro v3 w3 ho3 hg3
  have hb3 : Below w1.heap.size w1 w3 := hb2.grown hg3 hb2.size (own_block ho2)
  have hrp3 := hrp.later hb3
  have hl3 : (l ++ be 2 (BitVec.ofNat 64 plen)).length = len + 2 := by rw [List.length_append, HB.out, hl]
  clear hg3 hr1' hr1 ho2
  go_wp2_with (at_builtin; refine wpList_append_bytes _ rfl _ _ rfl w1.heap.size v3 (l ++ be 2 (BitVec.ofNat 64 plen)) rfl ho3 ap plen pcap lp rfl hpl hrp3 hpn hple (by rw [hl3]; omega) hb3.size ?_)
  intro v4 w4 ho4 hg4
  have F : Hid _ := And.intro (Own.lower ho4 hbw1.size) (below_then hbw1 (hb3.grown hg4 hb3.size (own_block ho3)))
  clear ho4 hg4 hrp3 hrp hra
  go_wp2
  go_ret2
  exact ⟨v4, rfl, F.out.1, F.out.2⟩

theorem make_4 (w : World) : (Instr.makeSlice 22 (.int .i64 4) (.int .i64 4)).run Try.prog w = .ok (.slice (some ⟨w.heap.size, 0, none⟩) 4 4) (w.alloc (.cells (Array.replicate 4 (.int .u8 0)) 5)) := by kernel_rfl
set_option maxHeartbeats 800000 in
theorem rAdd_4 (a : Option Addr) (len cap : Nat) (l : List (BitVec 8)) (ap : Option Addr) (plen pcap : Nat) (lp : List (BitVec 8)) (w : World) (hl : l.length = len) (hle : len ≤ cap) (hr : Row w a l) (hn : a = none → cap = 0)
    (hpl : lp.length = plen) (hple : plen ≤ pcap) (hpr : Row w ap lp) (hpn : ap = none → pcap = 0) (hb : len + plen + 8 ≤ 140737488351232) (hp6 : plen ≤ 65536) (hf : fitsB 4 (BitVec.ofNat 64 plen) = true) :
    Calls Try.prog 73 #[.slice a len cap, .int .i64 4, .slice ap plen pcap] w fun e w' => ∃ v, e = .returned (.tuple #[v, .int .i64 0]) ∧ Own w' w.heap.size v (l ++ (be 4 (BitVec.ofNat 64 plen) ++ lp)) ∧ Below w.heap.size w w' := by
  have hu := lenU plen (by omega)
  have t : ¬ (65536 : Int) < (plen : Int) := by omega
  have hmk := make_4
  have hb0 : Below w.heap.size w (w.alloc (.cells (Array.replicate 4 (.int .u8 0)) 5)) := (Below.refl _ _).alloc (Nat.le_refl _) _
  have hrz := Row.newl w (Array.replicate 4 (.int .u8 0)) 5 (0, 0) (List.replicate 4 0#8) rfl
  have hov : over (List.replicate 4 0#8) 0 (be 4 (BitVec.ofNat 64 plen)) = be 4 (BitVec.ofNat 64 plen) := by
    unfold over; rw [be_length _ _ (by omega)]; simp
  have hbl := be_length 4 (BitVec.ofNat 64 plen) (by omega)
  have R : Hid _ := And.intro hb0 (And.intro hrz (And.intro hov hbl))
  clear hb0 hrz hov hbl
  go_enter Try.func73, Try.ntmps73
  go_wp2_with (go_at_call 95; rw [← hu]; refine (fits_any 4 (BitVec.ofNat 64 plen) _ (by omega)).mono ?_; rw [hf]; rintro e w' ⟨rfl, rfl⟩)
  rw [← hu]
  refine (rPut_yes (some ⟨w.heap.size, 0, none⟩) 4 4 (List.replicate 4 0#8) 0 4 (BitVec.ofNat 64 plen) _ (by simp) (Nat.le_refl _) R.out.2.1 (fun h => by cases h) (by omega) (by omega) (by omega) (by omega) hf).mono ?_
  rintro e w1 ⟨v1, rfl, ho1, hb1⟩
  rw [R.out.2.2.1] at ho1
  have hbw1 : Below w.heap.size w w1 := below_then R.out.1 hb1
  obtain ⟨a1, c1, hv1, hle1, hm1, hr1, hn1, -⟩ := ho1.open
  rw [R.out.2.2.2] at hv1 hle1
  rw [hv1]
  have hra := hr.later hbw1
  have hrp := hpr.later hbw1
  have HB : Hid _ := R.out.2.2.2
  clear R hb1 ho1 hmk hv1 hf hu hr hpr
  go_wp2_with (at_builtin; refine wpList_append_bytes _ rfl _ _ rfl w1.heap.size _ [] rfl (Own.nil _ _) a len cap l rfl hl hra hn hle (by simp; omega) (Nat.le_refl _) ?_)
  intro v2 w2 ho2 hg2
  have hb2 : Below w1.heap.size w1 w2 := (Below.refl _ _).grown hg2 (Nat.le_refl _) (by simp [Value.ownBlock])
  have hr1' := hr1.later hb2
  clear hg2
  go_wp2_with (at_builtin; refine wpList_append_bytes _ rfl _ _ rfl w1.heap.size v2 l rfl ho2 a1 4 c1 (be 4 (BitVec.ofNat 64 plen)) rfl HB.out hr1' hn1 hle1 (by omega) hb2.size ?_)
  intro v3 w3 ho3 hg3
  have hb3 : Below w1.heap.size w1 w3 := hb2.grown hg3 hb2.size (own_block ho2)
  have hrp3 := hrp.later hb3
  have hl3 : (l ++ be 4 (BitVec.ofNat 64 plen)).length = len + 4 := by rw [List.length_append, HB.out, hl]
  clear hg3 hr1' hr1 ho2
  go_wp2_with (at_builtin; refine wpList_append_bytes _ rfl _ _ rfl w1.heap.size v3 (l ++ be 4 (BitVec.ofNat 64 plen)) rfl ho3 ap plen pcap lp rfl hpl hrp3 hpn hple (by rw [hl3]; omega) hb3.size ?_)
  intro v4 w4 ho4 hg4
  have F : Hid _ := And.intro (Own.lower ho4 hbw1.size) (below_then hbw1 (hb3.grown hg4 hb3.size (own_block ho3)))
  clear ho4 hg4 hrp3 hrp hra
  go_wp2
  go_ret2
  exact ⟨v4, rfl, F.out.1, F.out.2⟩

set_option maxHeartbeats 400000 in
theorem rAdd_no (a : Option Addr) (len cap : Nat) (size : Int) (ap : Option Addr) (plen pcap : Nat) (w : World) (hpl : plen ≤ 140737488355328) (h : addE size plen ≠ 0) :
    Calls Try.prog 73 #[.slice a len cap, .int .i64 size, .slice ap plen pcap] w fun e w' => e = .returned (.tuple #[.slice none 0 0, .int .i64 (addE size plen)]) ∧ w = w' := by
  cases h1 : lwB size with
  | false =>
    have H : Hid (addE size plen = 1) := by show addE size plen = 1; unfold addE; simp [h1]
    unfold lwB at h1
    rw [decide_eq_false_iff_not] at h1
    have t1 : (size == 1) = false := by simp; omega
    have t2 : (size == 2) = false := by simp; omega
    have t3 : (size == 4) = false := by simp; omega
    have t1' : (size != 1) = true := by simp; omega
    have t2' : (size != 2) = true := by simp; omega
    have t3' : (size != 4) = true := by simp; omega
    rw [H.out]
    clear h h1 H
    go_enter Try.func73, Try.ntmps73
    go_wp2
    go_ret2
    exact ⟨rfl, rfl⟩
  | true =>
    obtain ⟨s, rfl, hs⟩ := lwB_ex h1
    have hc : 65536 < plen ∨ fitsB s (BitVec.ofNat 64 plen) = false := by
      unfold addE at h
      simp only [h1, Bool.true_eq_false, if_false, Int.toNat_natCast] at h
      by_cases hc : 65536 < plen ∨ fitsB s (BitVec.ofNat 64 plen) = false
      · exact hc
      · rw [if_neg hc] at h; exact absurd rfl h
    have H : addE s plen = 3 := by
      unfold addE
      simp only [h1, Bool.true_eq_false, if_false, Int.toNat_natCast]
      rw [if_pos hc]
    rw [H]
    have hu := lenU plen hpl
    clear H h h1
    rcases hs with rfl | rfl | rfl
    · by_cases h2 : 65536 < plen
      · have t : (65536 : Int) < (plen : Int) := by omega
        clear hc hu
        go_enter Try.func73, Try.ntmps73
        go_wp2
        go_ret2
        exact ⟨rfl, rfl⟩
      · have t : ¬ (65536 : Int) < (plen : Int) := by omega
        have hf := hc.resolve_left h2
        clear hc
        go_enter Try.func73, Try.ntmps73
        go_wp2_with (go_at_call 95; rw [← hu]; refine (fits_any 1 (BitVec.ofNat 64 plen) _ (by omega)).mono ?_; rw [hf]; rintro e w' ⟨rfl, rfl⟩)
        go_ret2
        exact ⟨rfl, rfl⟩
    · by_cases h2 : 65536 < plen
      · have t : (65536 : Int) < (plen : Int) := by omega
        clear hc hu
        go_enter Try.func73, Try.ntmps73
        go_wp2
        go_ret2
        exact ⟨rfl, rfl⟩
      · have t : ¬ (65536 : Int) < (plen : Int) := by omega
        have hf := hc.resolve_left h2
        clear hc
        go_enter Try.func73, Try.ntmps73
        go_wp2_with (go_at_call 95; rw [← hu]; refine (fits_any 2 (BitVec.ofNat 64 plen) _ (by omega)).mono ?_; rw [hf]; rintro e w' ⟨rfl, rfl⟩)
        go_ret2
        exact ⟨rfl, rfl⟩
    · by_cases h2 : 65536 < plen
      · have t : (65536 : Int) < (plen : Int) := by omega
        clear hc hu
        go_enter Try.func73, Try.ntmps73
        go_wp2
        go_ret2
        exact ⟨rfl, rfl⟩
      · have t : ¬ (65536 : Int) < (plen : Int) := by omega
        have hf := hc.resolve_left h2
        clear hc
        go_enter Try.func73, Try.ntmps73
        go_wp2_with (go_at_call 95; rw [← hu]; refine (fits_any 4 (BitVec.ofNat 64 plen) _ (by omega)).mono ?_; rw [hf]; rintro e w' ⟨rfl, rfl⟩)
        go_ret2
        exact ⟨rfl, rfl⟩
end Go.Proofs.Ytmcljbpemninlaa
