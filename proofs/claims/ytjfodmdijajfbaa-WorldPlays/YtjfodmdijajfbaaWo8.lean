/- Letters that are sent. -/
import Derived.Test.YtjfodmdijajfbaaWo7
namespace Go.Proofs.Ytjfodmdijajfbaa
open Go.RowKit
set_option linter.unusedVariables false
set_option maxRecDepth 4000

def Wm.sendE (m : Wm) (x y : Int) (l : List (BitVec 8)) : Int := if m.cl = true then 5 else if ¬ (hasW m.ck.length x = true ∧ hasW m.ck.length y = true) then 1 else if 65536 < l.length then 3 else if 10000 ≤ m.fl.length then 4 else 0
def Wm.send (m : Wm) (x y : Int) (l : List (BitVec 8)) : Wm := if m.sendE x y l = 0 then { m with fl := m.fl ++ [(x.toNat, y.toNat, l)] } else m
theorem send_wf {m : Wm} (h : m.Wf) (x y : Int) (l : List (BitVec 8)) : (m.send x y l).Wf := by
  unfold Wm.send
  split
  · rename_i he
    unfold Wm.sendE at he
    split at he
    · cases he
    · split at he
      · cases he
      · rename_i h1
        split at he
        · cases he
        · rename_i h2
          split at he
          · cases he
          · rename_i h3
            have h1' : hasW m.ck.length x = true ∧ hasW m.ck.length y = true := Decidable.of_not_not h1
            obtain ⟨a, rfl, ha⟩ := at_ck h1'.1
            obtain ⟨b, rfl, hb⟩ := at_ck h1'.2
            refine ⟨h.one, h.five, by simp; omega, h.mask, ?_, h.rho1, h.rho2, h.late⟩
            intro q hq
            rcases List.mem_append.1 hq with hq | hq
            · exact h.each q hq
            · rw [List.mem_singleton] at hq; subst hq; simp only [Int.toNat_natCast]; exact ⟨ha, hb, by omega⟩
  · exact h

theorem woSend_closed (g : Nat) (p : Wp) (m : Wm) (x y : Int) (v : Value) (w : World) (h : (wo g p m).Ok w) (hc : m.cl = true) :
    Calls Try.prog 15 #[.pointer (some ⟨g, 0, none⟩), .int .i64 x, .int .i64 y, v] w fun e w' => e = .returned (.int .i64 5) ∧ w = w' := by
  obtain ⟨hn, fv, vs, hq, hD⟩ := h.holds
  obtain ⟨-, -, -, -, -, -, -, -, c9⟩ := wo_cells hD
  rw [hc] at c9
  clear hD h hc
  go_enter Try.func15, Try.ntmps15
  go_wp2
  go_ret
  exact ⟨rfl, rfl⟩
set_option maxHeartbeats 1000000 in
theorem woSend_none (g : Nat) (p : Wp) (m : Wm) (x y : Int) (v : Value) (w : World) (h : (wo g p m).Ok w) (hw : m.Wf) (hx : I64 x) (hy : I64 y) (hc : m.cl = false) (hh : ¬ (hasW m.ck.length x = true ∧ hasW m.ck.length y = true)) :
    Calls Try.prog 15 #[.pointer (some ⟨g, 0, none⟩), .int .i64 x, .int .i64 y, v] w fun e w' => e = .returned (.int .i64 1) ∧ w = w' := by
  have HH : Hid _ := fun (i : Int) (hi : I64 i) => wohas_any g p m i w h hw hi
  obtain ⟨hn, fv, vs, hq, hD⟩ := h.holds
  obtain ⟨-, -, -, -, -, -, -, -, c9⟩ := wo_cells hD
  rw [hc] at c9
  clear hD h hc hw
  by_cases ca : hasW m.ck.length x = true
  · have cb : hasW m.ck.length y = false := by cases e : hasW m.ck.length y; rfl; exact absurd ⟨ca, e⟩ hh
    clear hh
    go_enter Try.func15, Try.ntmps15
    go_wp2_with (go_at_call 62; refine (Calls.mono (HH.out _ (by assumption))) ?_; rintro e w' ⟨rfl, rfl⟩)
    go_ret
    exact ⟨rfl, rfl⟩
  · have hf : hasW m.ck.length x = false := by simpa using ca
    clear hh ca
    go_enter Try.func15, Try.ntmps15
    go_wp2_with (go_at_call 62; refine (Calls.mono (HH.out _ (by assumption))) ?_; rintro e w' ⟨rfl, rfl⟩)
    go_ret
    exact ⟨rfl, rfl⟩
set_option maxHeartbeats 1000000 in
theorem woSend_long (g : Nat) (p : Wp) (m : Wm) (x y : Int) (a : Option Addr) (len cap : Nat) (w : World) (h : (wo g p m).Ok w) (hw : m.Wf) (hx : I64 x) (hy : I64 y) (hc : m.cl = false) (ca : hasW m.ck.length x = true) (cb : hasW m.ck.length y = true) (hl : 65536 < len) :
    Calls Try.prog 15 #[.pointer (some ⟨g, 0, none⟩), .int .i64 x, .int .i64 y, .slice a len cap] w fun e w' => e = .returned (.int .i64 3) ∧ w = w' := by
  have HH : Hid _ := fun (i : Int) (hi : I64 i) => wohas_any g p m i w h hw hi
  obtain ⟨hn, fv, vs, hq, hD⟩ := h.holds
  obtain ⟨-, -, -, -, -, -, -, -, c9⟩ := wo_cells hD
  rw [hc] at c9
  have hd : decide ((65536 : Int) < (len : Int)) = true := decide_eq_true (by omega)
  clear hD h hc hw hl
  go_enter Try.func15, Try.ntmps15
  go_wp2_with (go_at_call 62; refine (Calls.mono (HH.out _ (by assumption))) ?_; rintro e w' ⟨rfl, rfl⟩)
  go_ret
  exact ⟨rfl, rfl⟩
set_option maxHeartbeats 2000000 in
theorem woSend_go (g : Nat) (p : Wp) (m : Wm) (x y : Int) (a : Option Addr) (cap : Nat) (l : List (BitVec 8)) (w : World) (h : (wo g p m).Ok w) (hw : m.Wf) (hx : I64 x) (hy : I64 y) (hc : m.cl = false) (ca : hasW m.ck.length x = true) (cb : hasW m.ck.length y = true) (hl : ¬ 65536 < l.length)
    (hle : l.length ≤ cap) (hr : Row w a l) (hn : a = none → cap = 0) :
    Calls Try.prog 15 #[.pointer (some ⟨g, 0, none⟩), .int .i64 x, .int .i64 y, .slice a l.length cap] w fun e w' => ∃ p', e = .returned (.int .i64 (m.sendE x y l)) ∧ Step w w' (wo g p m) (wo g p' (m.send x y l)) := by
  have HH : Hid _ := fun (i : Int) (hi : I64 i) => wohas_any g p m i w h hw hi
  have HC : Hid _ := Clone_any a l.length cap l w rfl hle (by omega) hr hn
  have eE : m.sendE x y l = if 10000 ≤ m.fl.length then 4 else 0 := by
    unfold Wm.sendE
    rw [hc, if_neg (by simp), if_neg (fun e => e ⟨ca, cb⟩), if_neg hl]
  obtain ⟨hnd, fv, vs, hq, hD⟩ := h.holds
  obtain ⟨-, -, -, -, -, -, -, -, c9⟩ := wo_cells hD
  rw [hc] at c9
  have hd : decide ((65536 : Int) < (l.length : Int)) = false := decide_eq_false (by omega)
  obtain ⟨x', rfl, hx'⟩ := at_ck ca
  obtain ⟨y', rfl, hy'⟩ := at_ck cb
  by_cases hf : m.fl.length < 10000
  · rw [if_neg (by omega)] at eE
    have eS : m.send x' y' l = { m with fl := m.fl ++ [(x', y', l)] } := by unfold Wm.send; rw [if_pos eE, Int.toNat_natCast, Int.toNat_natCast]
    rw [eE, eS]
    have HK : Hid _ := And.intro h hf
    clear hD h hc hw hl eE eS hq hr hf
    generalize hll : l.length = len at *
    have HLn : Hid _ := hll
    clear hll
    go_enter Try.func15, Try.ntmps15
    go_wp2_with (go_at_call 62; refine (Calls.mono (HH.out _ (by assumption))) ?_; rintro e w' ⟨rfl, rfl⟩)
    refine (Calls.mono HC.out) ?_
    rintro e w1 ⟨v, rfl, ho, b1⟩
    obtain ⟨h, hf⟩ := HK.out
    have h1 := h.later b1
    obtain ⟨va, vc, rfl, hle1, hm1, hr1, hn1, hg1⟩ := ho.open
    have hlo := World.ownsRow.lt ho
    have hP := wopost_ok g p m x' y' va vc l w1 h1 hf hle1 hr1 hn1 (fun z hz => by
      obtain ⟨gz, rfl, hgz⟩ := hg1 z hz
      subst hz
      refine ⟨(hlo gz rfl).2, fun e => ?_⟩
      have := h.lt gz (.inl e)
      omega)
    have HJ : Hid _ := And.intro h (And.intro b1 hg1)
    have HP : Hid _ := hP
    clear hP HK h h1 ho b1 hr1 hn1 hg1 hlo HC hle1
    generalize l.length = len' at *
    clear HLn
    go_wp2_with fail
    refine (Calls.mono HP.out) ?_
    rintro e w2 ⟨q', rfl, ht, ok2, hwr⟩
    obtain ⟨h, b1, hg1⟩ := HJ.out
    have z1 := b1.size
    have hS : Step w w2 (wo g p m) (wo g ⟨p.c, q', (va.map (·.block)).toList ++ p.V⟩ { m with fl := m.fl ++ [(x', y', l)] }) := by
      refine ⟨((turned_below b1).mono (fun _ h => h.elim)).trans (ht.mono (fun k hk => .inl hk)), ok2, fun k hk => ?_, fun k hk => ?_⟩
      · rcases hwr k hk with e | e
        · exact .inl e
        · exact .inr (by omega)
      · simp only [wo, List.mem_append, Option.mem_toList, Option.map_eq_some_iff] at hk
        rcases hk with ⟨z, hz, rfl⟩ | hk
        · obtain ⟨gz, rfl, hgz⟩ := hg1 z hz
          exact .inr (.inr hgz)
        · exact .inr (.inl hk)
    have HS : Hid _ := hS
    clear hS HJ h b1 hg1 ht ok2 hwr
    go_wp2
    go_ret
    exact ⟨_, rfl, HS.out⟩
  · have hfl : m.fl.length = 10000 := by have := hw.full; omega
    rw [if_pos (by omega)] at eE
    have eS : m.send x' y' l = m := by unfold Wm.send; rw [if_neg (by rw [eE]; decide)]
    rw [eE, eS]
    have HK : Hid _ := And.intro h hfl
    clear hD h hc hw hl eE eS hq hr hf hfl
    generalize hll : l.length = len at *
    have HLn : Hid _ := hll
    clear hll
    go_enter Try.func15, Try.ntmps15
    go_wp2_with (go_at_call 62; refine (Calls.mono (HH.out _ (by assumption))) ?_; rintro e w' ⟨rfl, rfl⟩)
    refine (Calls.mono HC.out) ?_
    rintro e w1 ⟨v, rfl, ho, b1⟩
    obtain ⟨h, hfl⟩ := HK.out
    have h1 := h.later b1
    obtain ⟨va, vc, rfl, -⟩ := ho.open
    have HP : Hid _ := wopost_full g p m x' y' va l.length vc w1 h1 hfl
    have HJ : Hid _ := And.intro h b1
    clear HK h h1 ho b1 HC hfl
    generalize l.length = len' at *
    clear HLn
    go_wp2_with fail
    refine (Calls.mono HP.out) ?_
    rintro e w2 ⟨rfl, b2⟩
    have HS : Hid _ := Step.quiet HJ.out.1 (below_then HJ.out.2 b2)
    clear HJ b2
    go_wp2
    go_ret
    exact ⟨_, rfl, HS.out⟩
theorem woSend_any (g : Nat) (p : Wp) (m : Wm) (x y : Int) (a : Option Addr) (len cap : Nat) (l : List (BitVec 8)) (w : World) (h : (wo g p m).Ok w) (hw : m.Wf) (hx : I64 x) (hy : I64 y) (hl : l.length = len)
    (hle : len ≤ cap) (hr : Row w a l) (hn : a = none → cap = 0) :
    Calls Try.prog 15 #[.pointer (some ⟨g, 0, none⟩), .int .i64 x, .int .i64 y, .slice a len cap] w fun e w' => ∃ p', e = .returned (.int .i64 (m.sendE x y l)) ∧ Step w w' (wo g p m) (wo g p' (m.send x y l)) := by
  subst hl
  by_cases hc : m.cl = true
  · have e1 : m.sendE x y l = 5 := if_pos hc
    have e2 : m.send x y l = m := by unfold Wm.send; rw [if_neg (by rw [e1]; decide)]
    rw [e1, e2]
    exact (woSend_closed g p m x y _ w h hc).mono (fun e w' ⟨h1, h2⟩ => ⟨p, h1, h2 ▸ Step.refl h⟩)
  · have hc' : m.cl = false := by simpa using hc
    by_cases hh : hasW m.ck.length x = true ∧ hasW m.ck.length y = true
    · by_cases hb : 65536 < l.length
      · have e1 : m.sendE x y l = 3 := by unfold Wm.sendE; rw [if_neg hc, if_neg (fun e => e hh), if_pos hb]
        have e2 : m.send x y l = m := by unfold Wm.send; rw [if_neg (by rw [e1]; decide)]
        rw [e1, e2]
        exact (woSend_long g p m x y _ _ _ w h hw hx hy hc' hh.1 hh.2 hb).mono (fun e w' ⟨h1, h2⟩ => ⟨p, h1, h2 ▸ Step.refl h⟩)
      · exact woSend_go g p m x y a cap l w h hw hx hy hc' hh.1 hh.2 hb hle hr hn
    · have e1 : m.sendE x y l = 1 := by unfold Wm.sendE; rw [if_neg hc, if_pos hh]
      have e2 : m.send x y l = m := by unfold Wm.send; rw [if_neg (by rw [e1]; decide)]
      rw [e1, e2]
      exact (woSend_none g p m x y _ w h hw hx hy hc' hh).mono (fun e w' ⟨h1, h2⟩ => ⟨p, h1, h2 ▸ Step.refl h⟩)
end Go.Proofs.Ytjfodmdijajfbaa
