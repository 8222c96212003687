/- The walk of the law on bytes with their length ahead. -/
import Derived.Test.YtkajedabcedifabFieldP3
import Derived.Test.YtkajedabcedifabFieldK
namespace Go.Proofs.Ytkajedabcedifab
open Go.RowKit

/-- both Adds give one answer -/
theorem adds (l : List (BitVec 8)) (len : Nat) (size : Int) (lp : List (BitVec 8)) (plen : Nat) (hl : l.length = len) (hpl : lp.length = plen) (hb : len + plen + 8 ≤ 140737488351232) : ∃ (nl : List (BitVec 8)) (E : Int), nl.length ≤ len + plen + 8 ∧
    (E = 0 → ∃ s : Nat, size = s ∧ (s = 1 ∨ s = 2 ∨ s = 4) ∧ plen ≤ 65536 ∧ fitsB s (BitVec.ofNat 64 plen) = true ∧ nl = l ++ (be s (BitVec.ofNat 64 plen) ++ lp)) ∧
    (∀ a cap ap pcap w, Row w a l → len ≤ cap → (a = none → cap = 0) → Row w ap lp → plen ≤ pcap → (ap = none → pcap = 0) → Calls Try.prog 24 #[.slice a len cap, .int .i64 size, .slice ap plen pcap] w fun e w' => ∃ v, e = .returned (.tuple #[v, .int .i64 E]) ∧ Own w' w.heap.size v nl ∧ Below w.heap.size w w') ∧
    (∀ a cap ap pcap w, Row w a l → len ≤ cap → (a = none → cap = 0) → Row w ap lp → plen ≤ pcap → (ap = none → pcap = 0) → Calls Try.prog 25 #[.slice a len cap, .int .i64 size, .slice ap plen pcap] w fun e w' => ∃ v, e = .returned (.tuple #[v, .int .i64 E]) ∧ Own w' w.heap.size v nl ∧ Below w.heap.size w w') := by
  by_cases h : addE size plen = 0
  · obtain ⟨s, rfl, hs, h6, hf⟩ := addE_0 h
    refine ⟨l ++ (be s (BitVec.ofNat 64 plen) ++ lp), 0, ?_, fun _ => ⟨s, rfl, hs, h6, hf, rfl⟩, fun a cap ap pcap w hr hle hn hpr hple hpn => Add_yes a len cap l s ap plen pcap lp w hl hle hr hn hpl hple hpr hpn hb hs h, fun a cap ap pcap w hr hle hn hpr hple hpn => ?_⟩
    · rw [List.length_append, List.length_append, be_length _ _ (by omega)]; omega
    · rcases hs with rfl | rfl | rfl
      · exact rAdd_1 a len cap l ap plen pcap lp w hl hle hr hn hpl hple hpr hpn hb h6 hf
      · exact rAdd_2 a len cap l ap plen pcap lp w hl hle hr hn hpl hple hpr hpn hb h6 hf
      · exact rAdd_4 a len cap l ap plen pcap lp w hl hle hr hn hpl hple hpr hpn hb h6 hf
  · refine ⟨[], addE size plen, by simp, fun h0 => absurd h0 h, fun a cap ap pcap w _ _ _ _ _ _ => (Add_no a len cap size ap plen pcap w (by omega) h).mono ?_, fun a cap ap pcap w _ _ _ _ _ _ => (rAdd_no a len cap size ap plen pcap w (by omega) h).mono ?_⟩
    · rintro e w' ⟨rfl, rfl⟩; exact ⟨_, rfl, Own.nil _ _, Below.refl _ _⟩
    · rintro e w' ⟨rfl, rfl⟩; exact ⟨_, rfl, Own.nil _ _, Below.refl _ _⟩

/-- both Cuts give one answer -/
theorem cuts (l : List (BitVec 8)) (len : Nat) (size : Int) (hl : l.length = len) (hlen : len ≤ 140737488351232) : ∃ (mid rest : List (BitVec 8)) (E : Int), mid.length ≤ len ∧ rest.length ≤ len ∧
    (∀ a cap w, Row w a l → len ≤ cap → Calls Try.prog 26 #[.slice a len cap, .int .i64 size] w fun e w' => ∃ v1 v2 B, e = .returned (.tuple #[v1, v2, .int .i64 E]) ∧ Own w' w.heap.size v1 mid ∧ Own w' B v2 rest ∧ w.heap.size ≤ B ∧ (∀ k, v1.ownBlock = some k → k < B) ∧ B ≤ w'.heap.size ∧ Below w.heap.size w w') ∧
    (∀ a cap w, Row w a l → len ≤ cap → Calls Try.prog 27 #[.slice a len cap, .int .i64 size] w fun e w' => ∃ v1 v2, e = .returned (.tuple #[v1, v2, .int .i64 E]) ∧ Own w' w.heap.size v1 mid ∧ Own w' w.heap.size v2 rest ∧ Below w.heap.size w w') := by
  by_cases h : cutE l size = 0
  · obtain ⟨s, n, rfl, hs, hn, hn6, hsn, hN⟩ := cutE_0 h
    refine ⟨(l.drop s).take (s + n - s), l.drop (s + n), 0, by simp; omega, by simp; omega, fun a cap w hr hle => ?_, fun a cap w hr hle => ?_⟩
    · rcases id hr with h0 | ⟨b, off, rfl, hc⟩
      · subst h0; simp at hsn; omega
      · exact Cut_yes b off len cap l s (s + n) w hl hle hlen hr h hN (by omega) (by omega)
    · rcases id hr with h0 | ⟨b, off, rfl, hc⟩
      · subst h0; simp at hsn; omega
      · rcases hs with rfl | rfl | rfl
        · exact rCut_1 b off len cap l n (1 + n) w hl hle hlen hr hc hn.symm hn6 rfl (by omega)
        · exact rCut_2 b off len cap l n (2 + n) w hl hle hlen hr hc hn.symm hn6 rfl (by omega)
        · exact rCut_4 b off len cap l n (4 + n) w hl hle hlen hr hc hn.symm hn6 rfl (by omega)
  · refine ⟨[], [], cutE l size, by simp, by simp, fun a cap w hr _ => (Cut_no a len cap l size w hl hlen hr h).mono ?_, fun a cap w hr _ => ?_⟩
    · rintro e w' ⟨rfl, rfl⟩
      exact ⟨_, _, w.heap.size, rfl, Own.nil _ _, Own.nil _ _, Nat.le_refl _, (by intro k hk; simp [Value.ownBlock] at hk), Nat.le_refl _, Below.refl _ _⟩
    · have hx : Calls Try.prog 27 #[.slice a len cap, .int .i64 size] w fun e w' => e = .returned (.tuple #[.slice none 0 0, .slice none 0 0, .int .i64 (cutE l size)]) ∧ w = w' := by
        cases h1 : lwB size with
        | false => exact rCut_arg a len cap l size w h1
        | true =>
          obtain ⟨s, rfl, hs⟩ := lwB_ex h1
          rcases hs with rfl | rfl | rfl
          · exact rCut_no1 a len cap l w hl hlen hr h
          · exact rCut_no2 a len cap l w hl hlen hr h
          · exact rCut_no4 a len cap l w hl hlen hr h
      refine hx.mono ?_
      rintro e w' ⟨rfl, rfl⟩
      exact ⟨_, _, rfl, Own.nil _ _, Own.nil _ _, Below.refl _ _⟩

/-- what was added is cut off -/
theorem cut_back (s plen : Nat) (lp : List (BitVec 8)) (hs : s = 1 ∨ s = 2 ∨ s = 4) (hpl : lp.length = plen) (h6 : plen ≤ 65536) (hf : fitsB s (BitVec.ofNat 64 plen) = true) :
    cutE (be s (BitVec.ofNat 64 plen) ++ lp) s = 0 ∧ cutN (be s (BitVec.ofNat 64 plen) ++ lp) s = s + plen := by
  have hbl := be_length s (BitVec.ofNat 64 plen) (by omega)
  have hnum : (numTo (be s (BitVec.ofNat 64 plen) ++ lp) 0 s).toNat = plen := by
    unfold numTo
    rw [List.drop_zero, List.take_left' hbl, num_be s (by omega) _ hf, BitVec.toNat_ofNat, Nat.mod_eq_of_lt (by omega)]
  have hE : cutE (be s (BitVec.ofNat 64 plen) ++ lp) s = 0 := by
    unfold cutE
    have hb : lwB s = true := by unfold lwB; rw [decide_eq_true_eq]; omega
    rw [hb]
    simp only [Bool.true_eq_false, if_false, Int.toNat_natCast, hnum, List.length_append, hbl, hpl]
    rw [if_neg (by omega), if_neg (by omega), if_neg (by omega)]
  refine ⟨hE, ?_⟩
  unfold cutN
  rw [if_pos hE, Int.toNat_natCast, hnum]
end Go.Proofs.Ytkajedabcedifab
