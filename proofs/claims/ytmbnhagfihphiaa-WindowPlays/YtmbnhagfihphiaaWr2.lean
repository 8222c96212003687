/- The document's window: the next one that is told; a command comes. -/
import Derived.Test.YtmbnhagfihphiaaWr1
import Derived.Test.YtmbnhagfihphiaaGs2
import Derived.Test.YtmbnhagfihphiaaDrawE
namespace Go.Proofs.Ytmbnhagfihphiaa
open Go.RowKit
set_option linter.unusedVariables false
set_option linter.unusedSimpArgs false
set_option maxRecDepth 8000

set_option maxHeartbeats 400000 in
theorem rnNext_none (g : Nat) (p : Wq) (m : Wn) (w : World) (h : (rn g p m).Ok w) (h0 : m.wait = []) :
    Calls Try.prog 13 #[.pointer (some ⟨g, 0, none⟩)] w fun e w' => e = .returned (.tuple #[.int .i64 0, .bool false]) ∧ w' = w := by
  obtain ⟨hn, hv, wv, hB, -, hW⟩ := id h.holds
  have c4 := blk_at hB 4
  simp only [List.getElem?_cons_succ, List.getElem?_cons_zero] at c4
  rw [h0] at hW
  obtain ⟨a, c, rfl, -, -, -⟩ := hW.cell kTold_ok
  simp only [List.length_nil] at c4
  clear hB hn hW h h0
  go_enter Try.func13, Try.ntmps13
  go_wp2
  go_ret2
  exact ⟨rfl, rfl⟩
set_option maxHeartbeats 2000000 in
theorem rnNext_some (g : Nat) (p : Wq) (m : Wn) (x : Cm) (r : List Cm) (w : World) (h : (rn g p m).Ok w) (hw : m.Wf) (h0 : m.wait = x :: r) :
    Calls Try.prog 13 #[.pointer (some ⟨g, 0, none⟩)] w fun e w' => e = .returned (.tuple #[.int .i64 x.2.2, .bool true]) ∧ Step w w' (rn g p m) (rn g p m.next) := by
  obtain ⟨hv, wv, A, H⟩ := rn_put h
  have hwt := A.wait
  rw [h0] at hwt
  obtain ⟨b, off, cap, hv2, hcap, hq, hc, T1, T2⟩ := hwt.tail kTold_ok
  have l2 : r.length ≤ 20000 := by have := hw.few; rw [h0] at this; simp at this; omega
  have ew : m.next.wait = r := by unfold Wn.next; rw [h0]; rfl
  have F : ∀ tv, GSl kTold w tv p.2 r → Step w (w.setCell ⟨g, 4, none⟩ tv) (rn g p m) (rn g p m.next) := by
    intro tv ht
    have H2 : RnPut g p p m w w hv wv hv tv m.next.held m.next.wait :=
      ⟨H.ok, H.blk, H.turned, H.held, by rw [ew]; exact ht, H.or1, H.or2, H.ne⟩
    exact H2.done (m' := m.next) (A.blk.set 4 tv) (grown_set _ g 4 tv)
  have HF : Hid _ := And.intro F (And.intro T1 T2)
  have x0 : w.cell? ⟨b, off, none⟩ = some (.int .i64 x.2.2) := hc 0 (by simp [kTold])
  have y4 := blk_at A.blk 4
  have f4 := blk_frozen A.blk 4
  simp only [List.getElem?_cons_succ, List.getElem?_cons_zero] at y4
  rw [hv2] at y4
  have q1 : (1 : Int) ≤ (cap : Int) := by omega
  have q2 : (1 : Int) ≤ (r.length : Int) + 1 := by omega
  have q3 : (r.length : Int) + 1 ≤ (cap : Int) := by omega
  have q4 : ¬ (r.length : Int) + 1 = 0 := by omega
  clear A H hwt hc T1 T2 F h0 ew h hw
  by_cases hc1 : cap = 1
  · subst hc1
    have hr : r = [] := List.eq_nil_of_length_eq_zero (by omega)
    subst hr
    have HT : Hid _ := HF.out.1 _ (HF.out.2.2 rfl)
    clear HF
    go_enter Try.func13, Try.ntmps13
    go_wp2
    go_ret2
    exact ⟨rfl, HT.out⟩
  · have HT : Hid _ := HF.out.1 _ HF.out.2.1
    clear HF
    go_enter Try.func13, Try.ntmps13
    go_wp2
    go_ret2
    exact ⟨rfl, HT.out⟩
theorem rnNext_any (g : Nat) (p : Wq) (m : Wn) (w : World) (h : (rn g p m).Ok w) (hw : m.Wf) :
    Calls Try.prog 13 #[.pointer (some ⟨g, 0, none⟩)] w fun e w' => e = .returned (.tuple #[.int .i64 m.nextI, .bool m.nextB]) ∧ Step w w' (rn g p m) (rn g p m.next) := by
  cases hm : m.wait with
  | nil =>
    have e1 : m.next = m := by unfold Wn.next; rw [hm]; cases m; simp at hm; subst hm; rfl
    have e2 : m.nextI = 0 := by unfold Wn.nextI; rw [hm]; rfl
    have e3 : m.nextB = false := by unfold Wn.nextB; rw [hm]; rfl
    rw [e1, e2, e3]
    exact (rnNext_none g p m w h hm).mono (fun e w' ⟨h1, h2⟩ => ⟨h1, by rw [h2]; exact Step.refl h⟩)
  | cons x r =>
    have e2 : m.nextI = x.2.2 := by unfold Wn.nextI; rw [hm]; rfl
    have e3 : m.nextB = true := by unfold Wn.nextB; rw [hm]; rfl
    rw [e2, e3]
    exact rnNext_some g p m x r w h hw hm
theorem rnDone_any (g : Nat) (p : Wq) (m : Wn) (w : World) (h : (rn g p m).Ok w) (hw : m.Wf) :
    Calls Try.prog 15 #[.pointer (some ⟨g, 0, none⟩)] w fun e w' => e = .returned (.int .i64 m.doneE) ∧ Step w w' (rn g p m) (rn g p m.done) := by
  unfold Wn.doneE
  by_cases h0 : m.busy = 0
  · rw [if_pos h0]
    have e1 : m.done = m := by unfold Wn.done; rw [h0]; cases m; simp at h0; subst h0; rfl
    rw [e1]
    exact (rnDone_no g p m w h h0).mono (fun e w' ⟨h1, h2⟩ => ⟨h1, by rw [h2]; exact Step.refl h⟩)
  · rw [if_neg h0]
    exact rnDone_yes g p m w h hw (by omega)
/-- one more waits -/
theorem rn_tell {g : Nat} {p : Wq} {m m' : Wn} {x : Cm} {w : World} {v : Value} (h : (rn g p m).Ok w) (hx : GAt kTold w v [x]) (hm : m.wait.length ≤ 20000) (e1 : m'.exp = m.exp) (e2 : m'.size = m.size) (e3 : m'.busy = m.busy) (e4 : m'.held = m.held) (e5 : m'.wait = m.wait ++ [x]) :
    ∃ hv wv a' n' c' w' p', RnAt w g p.1 p.2 hv wv m ∧ (Builtin.append_ #[36, 36] 36 #[wv, v]).run Try.prog w = .ok (.slice a' n' c') w' ∧ w.grownBy w' p.2 ∧ Blk w' g 38 [.int .u32 (m.exp.toNat : Int), .int .i64 m.size, .int .i64 m.busy, hv, wv] ∧ p'.1 = p.1 ∧ Step w (w'.setCell ⟨g, 4, none⟩ (.slice a' n' c')) (rn g p m) (rn g p' m') := by
  obtain ⟨hv, wv, A, H⟩ := rn_put h
  obtain ⟨v', w', q', hr, ho, hg, hor⟩ := A.wait.append kTold_ok hx (by simp; omega) 36
  have ap := h.holds.1
  have H2 : RnPut g p (p.1, q') m w w' hv wv hv v' m'.held m'.wait :=
    ⟨H.ok, H.blk, turned_grown hg (fun k e => .inr e), by rw [e4]; exact H.held.same (fun k hk => hg.block k (H.held.lt k hk) (fun e => ap.c k hk e.symm)), by rw [e5]; exact ho, H.or1, hor, fun k h1 h2 => by
      rcases hor k h2 with e | e
      · exact ap.c k h1 e
      · have := H.held.lt k h1; omega⟩
  obtain ⟨a, c, e, _⟩ := ho.cell kTold_ok
  subst e
  refine ⟨hv, wv, a, _, c, w', (p.1, q'), A, hr, hg, H2.blk5, rfl, ?_⟩
  refine H2.done (m' := m') ?_ (grown_set _ g 4 _)
  rw [e1, e2, e3]
  exact H2.blk5.set 4 _
theorem rn_hold {g : Nat} {p : Wq} {m : Wn} {x : Cm} {w : World} {v : Value} (h : (rn g p m).Ok w) (hx : GAt kHeld w v [x]) (hm : m.held.length ≤ 20000) :
    ∃ hv wv a' n' c' w' p', RnAt w g p.1 p.2 hv wv m ∧ (Builtin.append_ #[35, 35] 35 #[hv, v]).run Try.prog w = .ok (.slice a' n' c') w' ∧ Blk w' g 38 [.int .u32 (m.exp.toNat : Int), .int .i64 m.size, .int .i64 m.busy, hv, wv] ∧ Step w (w'.setCell ⟨g, 3, none⟩ (.slice a' n' c')) (rn g p m) (rn g p' (m.hold x)) := by
  obtain ⟨hv, wv, A, H⟩ := rn_put h
  obtain ⟨v', w', q', hr, ho, hg, hor⟩ := A.held.append kHeld_ok hx (by simp; omega) 35
  have ap := h.holds.1
  have H2 : RnPut g p (q', p.2) m w w' hv wv v' wv (m.hold x).held (m.hold x).wait :=
    ⟨H.ok, H.blk, turned_grown hg (fun k e => .inl e), ho, H.wait.same (fun k hk => hg.block k (H.wait.lt k hk) (fun e => ap.c k e.symm hk)), hor, H.or2, fun k h1 h2 => by
      rcases hor k h1 with e | e
      · exact ap.c k e h2
      · have := H.wait.lt k h2; omega⟩
  obtain ⟨a, c, e, _⟩ := ho.cell kHeld_ok
  subst e
  exact ⟨hv, wv, a, _, c, w', (q', p.2), A, hr, H2.blk5, H2.done (m' := m.hold x) (H2.blk5.set 3 _) (grown_set _ g 3 _)⟩
set_option maxHeartbeats 2000000 in
theorem rnCome_now (g : Nat) (p : Wq) (m : Wn) (n : BitVec 32) (id : Int) (w : World) (h : (rn g p m).Ok w) (hw : m.Wf) :
    Calls Try.prog 11 #[.pointer (some ⟨g, 0, none⟩), .int .u32 (n.toNat : Int), .bool true, .int .i64 id] w fun e w' => e = .returned (.int .i64 (m.comeE n true)) ∧ ∃ p', Step w w' (rn g p m) (rn g p' (m.come n id true)) := by
  obtain ⟨hv, wv, A, -⟩ := rn_put h
  have c4 := blk_at A.blk 4
  simp only [List.getElem?_cons_succ, List.getElem?_cons_zero] at c4
  obtain ⟨va, vc, rfl, hvc, -, hcs⟩ := A.wait.cell kTold_ok
  have bn : Below w.heap.size w (w.alloc (.cells #[.int .i64 id, .bool true] 59)) := (Below.refl _ _).alloc (Nat.le_refl _) _
  have s1 := Step.quiet h bn
  obtain ⟨hv1, wv1, a', n', c', w2, p2, A1, hr, -, B2, -, s2⟩ := rn_tell (m' := m.waits [(n, true, id)]) s1.ok (new_one kTold_ok w (n, true, id) [.int .i64 id, .bool true] rfl) (by have := hw.few; omega) rfl rfl rfl rfl rfl
  have e4 : wv1 = .slice va m.wait.length vc := by
    have h1 := A1.blk
    have h2 := A.blk.laterB bn
    unfold Blk at h1 h2
    rw [h1] at h2
    simp at h2
    exact h2.2
  subst e4
  have k4 := blk_at (A.blk.laterB bn) 4
  have t4 := blk_at B2 4
  have f4 := blk_frozen B2 4
  simp only [List.getElem?_cons_succ, List.getElem?_cons_zero] at k4 t4
  have HN : Hid _ := hw.nows
  have hlen : m.wait.length ≤ 10000 := by have := hw.few; omega
  have H64 : Hid _ := hw.now64
  have F : Hid _ := And.intro (s1.trans s2) (And.intro hr (And.intro hcs h))
  clear A A1 bn s1 s2 hr hcs h hw B2
  go_enter Try.func11, Try.ntmps11
  go_wp2_with fail
  go_loopw [9, 10] (fun kv iv wr => ∃ (k : Nat), iv = .int .i64 k ∧ kv = .int .i64 (nowN (m.wait.take k)) ∧ k ≤ m.wait.length ∧ wr = w) (fun _ iv _ => m.wait.length - (intOf iv).toNat)
  case atStart => exact ⟨0, rfl, by simp [nowN], by omega, rfl⟩
  case round =>
    obtain ⟨k, rfl, rfl, hk, hwr⟩ := hrel
    obtain rfl := hwr.symm
    clear hwr
    by_cases hlt : k < m.wait.length
    · obtain ⟨b, off, rfl, -, hc⟩ := F.out.2.2.1 k hlt
      have k1 : w.cell? ⟨b, off + k * 2 + 1, none⟩ = some (.bool m.wait[k].2.1) := hc 1 (by simp [kTold])
      have q1 : (k : Int) < m.wait.length := by omega
      have hsn : nowN (m.wait.take (k + 1)) = nowN (m.wait.take k) + (if m.wait[k].2.1 then 1 else 0) := by rw [List.take_succ_eq_append_getElem hlt, nowN_append, nowN_one]
      have hle : nowN (m.wait.take k) ≤ 10000 := by have := nowN_le (m.wait.take k); rw [List.length_take] at this; omega
      generalize m.wait[k] = x at *
      obtain ⟨xn, xb, xi⟩ := x
      simp only at k1 hsn
      generalize nowN (m.wait.take k) = cz at *
      cases xb
      · have HS : Hid _ := hsn
        clear hc hsn F
        go_wp2
        go_roundw
        case rel => exact ⟨k + 1, by go_num, by rw [HS.out]; simp, by omega, by first | rfl | trivial⟩
        case measure => simp [intOf]; omega
      · have HS : Hid _ := hsn
        have q5 : -9223372036854775808 ≤ (cz : Int) + 1 ∧ (cz : Int) + 1 ≤ 9223372036854775807 := by omega
        clear hc hsn F
        go_wp2
        go_roundw
        case rel => exact ⟨k + 1, by go_num, by rw [HS.out]; simp, by omega, by first | rfl | trivial⟩
        case measure => simp [intOf]; omega
    · have hkl : k = m.wait.length := by omega
      subst hkl
      rw [List.take_length]
      have en : nowN m.wait = m.nows := HN.out.symm
      rw [en]
      by_cases h64 : m.nows = 64
      · have HE : Hid _ := And.intro (show m.comeE n true = 4 by unfold Wn.comeE; rw [if_pos h64]) (show m.come n id true = m by unfold Wn.come; rw [if_pos h64])
        have q1 : (m.nows : Int) = 64 := by omega
        rw [q1]
        have G : Hid _ := F.out.2.2.2
        clear F HN H64 en h64 q1
        go_wp2
        go_ret
        rw [HE.out.1, HE.out.2]
        exact ⟨rfl, _, Step.refl G.out⟩
      · have HE : Hid _ := And.intro (show m.comeE n true = 0 by unfold Wn.comeE; rw [if_neg h64]) (show m.come n id true = m.waits [(n, true, id)] by unfold Wn.come; rw [if_neg h64])
        have q1 : ¬ (64 : Int) ≤ (m.nows : Int) := by have := H64.out; omega
        have G : Hid _ := F.out.1
        have HR : Hid _ := F.out.2.1
        generalize (m.nows : Int) = nz at *
        clear F HN H64 en h64
        go_wp2_with (at_builtin; refine wpList_run_app rfl _ _ 36 36 rfl _ _ rfl rfl HR.out ?_)
        go_wp2
        go_ret
        rw [HE.out.1, HE.out.2]
        exact ⟨rfl, by first | exact ⟨_, G.out⟩ | exact ⟨p2.1, p2.2, G.out⟩⟩
end Go.Proofs.Ytmbnhagfihphiaa
