/- Whether entries can be joined; where to go back to; a log with entries in the place of others. -/
import Derived.Test.YtmcljbpemninlaaEn13
namespace Go.Proofs.Ytmcljbpemninlaa
open Go.RowKit
set_option linter.unusedVariables false
set_option maxRecDepth 20000

/-- can count entries behind a place be joined? -/
def Lm.meetsB (m : Lm) (n t : Int) (c : Nat) : Bool := if n < m.fl then decide ((m.fl : Int) - c < n) else m.holdsB n t
set_option maxHeartbeats 1000000 in
theorem enmeets_any (g : Nat) (m : Lm) (n t : Int) (c : Nat) (w : World) (h : Lg w g m) (hw : m.Wf) (hn : I64 n) (hc : c ≤ 140737488355328) :
    Calls Try.prog 63 #[.pointer (some ⟨g, 0, none⟩), .int .i64 n, .int .i64 t, .int .i64 c] w fun e w' => e = .returned (.bool (m.meetsB n t c)) ∧ Below w.heap.size w w' := by
  have hpl := hw.place
  have HO := enholds_any g m n t w h hw hn
  obtain ⟨a, cc, c0, c1, c2, c3, hcc, hcm, hp⟩ := h.cells
  by_cases h1 : n < m.fl
  · have E : Hid (m.meetsB n t c = decide ((m.fl : Int) - c < n)) := by exact (show m.meetsB n t c = _ from if_pos h1)
    clear h hw hp HO
    unfold I64 at hn
    go_enter Try.func63, Try.ntmps63
    go_wp2
    go_ret
    exact ⟨ret_bool (by rw [E.out]), Below.refl _ _⟩
  · have E : Hid (m.meetsB n t c = m.holdsB n t) := by exact (show m.meetsB n t c = _ from if_neg h1)
    clear h hw hp
    go_enter Try.func63, Try.ntmps63
    go_wp2_with (go_at_call 65; refine HO.mono ?_; rintro e w' ⟨rfl, hb⟩)
    go_ret
    exact ⟨ret_bool E.out.symm, hb⟩

/-- the place to go back to, from the k-th place above the floor -/
def Lm.backK (m : Lm) : Nat → Int
  | 0 => m.fl
  | k + 1 => if m.begB ((m.fl : Int) + (k + 1 : Nat)) = true then (m.fl : Int) + k else m.backK k
def Lm.back (m : Lm) (n : Int) : Int := if (m.top : Int) < n then m.top else if n ≤ m.fl then m.fl else m.backK (n - m.fl).toNat
set_option maxHeartbeats 2000000 in
theorem enback_any (g : Nat) (m : Lm) (n : Int) (w : World) (h : Lg w g m) (hw : m.Wf) (hn : I64 n) :
    Calls Try.prog 64 #[.pointer (some ⟨g, 0, none⟩), .int .i64 n] w fun e w' => e = .returned (.int .i64 (m.back n)) ∧ Below w.heap.size w w' := by
  have hpl := hw.place
  have hfu := hw.full
  have HT := enTop_any g m w h hw
  have HH : Hid _ := And.intro h hw
  have htop : m.top ≤ 1125899906842624 + 4096 := by unfold Lm.top; omega
  have htl : m.top = m.fl + m.l.length := rfl
  by_cases h1 : (m.top : Int) < n
  · have E : Hid (m.back n = m.top) := by exact (show m.back n = _ from if_pos h1)
    clear h hw htl
    go_enter Try.func64, Try.ntmps64
    go_wp2_with (go_at_call 84; refine HT.mono ?_; rintro e w' ⟨rfl, hb⟩)
    go_ret
    exact ⟨ret_int E.out.symm, hb⟩
  · by_cases h2 : n ≤ m.fl
    · have E : Hid (m.back n = m.fl) := by
        have e1 : m.back n = if n ≤ m.fl then (m.fl : Int) else m.backK (n - m.fl).toNat := if_neg h1
        exact e1.trans (if_pos h2)
      clear h hw htl
      go_enter Try.func64, Try.ntmps64
      go_wp2_with fail
      refine HT.mono ?_
      rintro e w1 ⟨rfl, hb⟩
      obtain ⟨a, cc, c0, -⟩ := (HH.out.1.later hb).cells
      have F : Hid _ := hb
      clear hb HT
      go_wp2_with fail
      refine wp_loop_rounds 1 ?_
      rw [rounds_succ]
      go_wp2
      go_ret
      exact ⟨ret_int E.out.symm, F.out⟩
    · obtain ⟨k0, hk0, e0, hk1⟩ : ∃ k : Nat, k ≤ m.l.length ∧ n = (m.fl : Int) + k ∧ 1 ≤ k := ⟨(n - m.fl).toNat, by omega, by omega, by omega⟩
      have E : Hid (m.back n = m.backK k0) := by
        have e1 : m.back n = if n ≤ m.fl then (m.fl : Int) else m.backK (n - m.fl).toNat := if_neg h1
        have e2 : (n - m.fl).toNat = k0 := by omega
        rw [e2] at e1
        exact e1.trans (if_neg h2)
      subst e0
      clear h hw htl h2 hn
      go_enter Try.func64, Try.ntmps64
      go_wp2_with fail
      refine HT.mono ?_
      rintro e w1 ⟨rfl, hb1⟩
      have F1 : Hid _ := hb1
      clear HT hb1
      go_wp2_with fail
      go_loopw [1] (fun iv wr => ∃ k : Nat, k ≤ m.l.length ∧ iv = .int .i64 ((m.fl : Int) + k) ∧ m.backK k = m.backK k0 ∧ Below w.heap.size w wr) (fun iv _ => (intOf iv - m.fl).toNat)
      case atStart => exact ⟨k0, hk0, rfl, rfl, F1.out⟩
      case round =>
        obtain ⟨k, hk, rfl, hm, hbw⟩ := hrel
        obtain ⟨a, cc, c0, -⟩ := (HH.out.1.later hbw).cells
        cases k with
        | zero =>
          have F : Hid _ := And.intro hm hbw
          clear hm hbw
          go_wp2
          go_ret
          exact ⟨ret_int (by rw [E.out, ← F.out.1]; rfl), F.out.2⟩
        | succ k =>
          have HB := enbegins_any g m ((m.fl : Int) + (k + 1 : Nat)) wr (HH.out.1.later hbw) HH.out.2 (by unfold I64; omega) (by omega)
          have hkk : m.backK (k + 1) = if m.begB ((m.fl : Int) + (k + 1 : Nat)) = true then (m.fl : Int) + k else m.backK k := rfl
          cases hbg : m.begB ((m.fl : Int) + (k + 1 : Nat)) with
          | true =>
            rw [hbg] at HB hkk
            rw [if_pos rfl] at hkk
            have F : Hid _ := And.intro (hkk.symm.trans hm) hbw
            clear hm hbw hkk hbg
            go_wp2_with (go_at_call 88; refine HB.mono ?_; rintro e w' ⟨rfl, hb2⟩)
            go_ret
            exact ⟨ret_int (by rw [E.out, ← F.out.1]; omega), below_then F.out.2 hb2⟩
          | false =>
            rw [hbg] at HB hkk
            rw [if_neg (by decide)] at hkk
            have F : Hid _ := And.intro (hkk.symm.trans hm) hbw
            clear hm hbw hkk hbg
            go_wp2_with (go_at_call 88; refine HB.mono ?_; rintro e w' ⟨rfl, hb2⟩)
            go_roundw
            case rel => exact ⟨k, by omega, by go_num, F.out.1, below_then F.out.2 hb2⟩
            case measure => simp [intOf]; omega

theorem Lm.upto_wf {m : Lm} (hw : m.Wf) (k : Nat) : (m.upto k).Wf :=
  ⟨hw.place, hw.term, hw.mask, by unfold Lm.upto; rw [List.length_take]; have := hw.full; omega, fun e he => hw.each e (List.mem_of_mem_take he), by
    unfold Lm.upto
    simp only [List.map_take]
    exact hw.rise.sublist (List.Sublist.cons_cons _ (List.take_sublist _ _))⟩
/-- what comes of entries in the place of all from the k-th one on -/
def ReplR (w w' : World) (m : Lm) (k : Nat) (l : List Ent) (r : Ending) : Prop :=
  (∃ e : Int, (4096 < k + l.length ∨ goodB (m.upto k).tt l = false) ∧ e ≠ 0 ∧ r = .returned (.tuple #[.pointer none, .int .i64 e])) ∨ (k + l.length ≤ 4096 ∧ goodB (m.upto k).tt l = true ∧ ∃ g', r = .returned (.tuple #[.pointer (some ⟨g', 0, none⟩), .int .i64 0]) ∧ w.heap.size ≤ g' ∧ Lg w' g' ((m.upto k).with l))
set_option maxHeartbeats 1000000 in
theorem enreplacing_any (g : Nat) (m : Lm) (n : Int) (k : Nat) (a : Option Addr) (cap : Nat) (l : List Ent) (w : World) (h : Lg w g m) (hw : m.Wf) (hk : k ≤ m.l.length) (hn : n = (m.fl : Int) + k + 1) (hlc : l.length ≤ cap) (hlen : l.length ≤ 140737488355328) (hA : EArgs w a l) :
    Calls Try.prog 66 #[.pointer (some ⟨g, 0, none⟩), .int .i64 n, .slice a l.length cap] w fun r w' => ReplR w w' m k l r ∧ Below w.heap.size w w' := by
  have hpl := hw.place
  have hfu := hw.full
  have HU := enUpto_yes g m (n - 1) k w h hw hk (by omega)
  have hkl : (m.upto k).l.length = k := by unfold Lm.upto; simp; omega
  have q1 : -9223372036854775808 ≤ n ∧ n ≤ 9223372036854775807 := by omega
  have q2 : (m.fl : Int) < n := by omega
  have HH : Hid (m.Wf ∧ EArgs w a l ∧ (m.upto k).l.length = k) := And.intro hw (And.intro hA hkl)
  clear h hw hn hA hkl
  go_enter Try.func66, Try.ntmps66
  go_wp2_with fail
  refine HU.mono ?_
  rintro e w1 ⟨g1, rfl, hg1, L1, hb1⟩
  have hA1 := HH.out.2.1.later hb1
  have hwf := Lm.upto_wf HH.out.1 k
  by_cases hf : 4096 < k + l.length
  · have HW := enWith_full g1 (m.upto k) a l.length cap w1 L1 hwf hlen (by rw [HH.out.2.2]; exact hf)
    clear hA1 hwf L1 HU
    go_wp2_with (go_at_call 61; refine HW.mono ?_; rintro e w' ⟨rfl, rfl⟩)
    go_ret2
    exact ⟨.inl ⟨4, .inl hf, by decide, rfl⟩, hb1⟩
  · have HW := enWith_any g1 (m.upto k) a l.length cap l w1 L1 hwf rfl hlc (by rw [HH.out.2.2]; omega) hA1
    have HX : Hid _ := And.intro hb1 hg1
    clear hA1 hwf L1 HU hb1 hg1
    go_wp2_with fail
    refine HW.mono ?_
    rintro e w2 ⟨(⟨hgd, rfl⟩ | ⟨hgd, g2, rfl, hg2, L2⟩), hb2⟩
    · clear HW
      go_wp2
      go_ret2
      exact ⟨.inl ⟨1, .inr hgd, by decide, rfl⟩, below_then HX.out.1 hb2⟩
    · clear HW
      have F : Hid _ := And.intro L2 hg2
      clear L2 hg2
      go_wp2
      go_ret2
      exact ⟨.inr ⟨by omega, hgd, g2, rfl, by have := HX.out.1.size; have := F.out.2; omega, F.out.1⟩, below_then HX.out.1 hb2⟩
end Go.Proofs.Ytmcljbpemninlaa
