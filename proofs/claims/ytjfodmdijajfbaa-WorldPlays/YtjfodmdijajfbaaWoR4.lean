/- The document's letters that come, are lost, are doubled. -/
import Derived.Test.YtjfodmdijajfbaaWoR3
namespace Go.Proofs.Ytjfodmdijajfbaa
open Go.RowKit
set_option linter.unusedVariables false
set_option maxRecDepth 4000

theorem rwSend_any (g : Nat) (p : Wp) (m : Wm) (x y : Int) (a : Option Addr) (len cap : Nat) (l : List (BitVec 8)) (w : World) (h : (rw8 g p m).Ok w) (hw : m.Wf) (hx : I64 x) (hy : I64 y) (hl : l.length = len)
    (hle : len ≤ cap) (hr : Row w a l) (hn : a = none → cap = 0) :
    Calls Try.prog 52 #[.pointer (some ⟨g, 0, none⟩), .int .i64 x, .int .i64 y, .slice a len cap] w fun e w' => ∃ p', e = .returned (.int .i64 (m.sendE x y l)) ∧ Step w w' (rw8 g p m) (rw8 g p' (m.send x y l)) := by
  subst hl
  by_cases hc : m.cl = true
  · have e1 : m.sendE x y l = 5 := if_pos hc
    have e2 : m.send x y l = m := by unfold Wm.send; rw [if_neg (by rw [e1]; decide)]
    rw [e1, e2]
    exact (rwSend_closed g p m x y _ w h hc).mono (fun e w' ⟨h1, h2⟩ => ⟨p, h1, h2 ▸ Step.refl h⟩)
  · have hc' : m.cl = false := by simpa using hc
    by_cases hh : hasW m.ck.length x = true ∧ hasW m.ck.length y = true
    · by_cases hb : 65536 < l.length
      · have e1 : m.sendE x y l = 3 := by unfold Wm.sendE; rw [if_neg hc, if_neg (fun e => e hh), if_pos hb]
        have e2 : m.send x y l = m := by unfold Wm.send; rw [if_neg (by rw [e1]; decide)]
        rw [e1, e2]
        exact (rwSend_long g p m x y _ _ _ w h hw hx hy hc' hh.1 hh.2 hb).mono (fun e w' ⟨h1, h2⟩ => ⟨p, h1, h2 ▸ Step.refl h⟩)
      · by_cases hf : m.fl.length < 10000
        · have e1 : m.sendE x y l = 0 := by unfold Wm.sendE; rw [if_neg hc, if_neg (fun e => e hh), if_neg hb, if_neg (by omega)]
          have e2 : m.send x y l = { m with fl := m.fl ++ [(x.toNat, y.toNat, l)] } := by unfold Wm.send; rw [if_pos e1]
          obtain ⟨x', rfl, hx'⟩ := at_ck hh.1
          obtain ⟨y', rfl, hy'⟩ := at_ck hh.2
          rw [e1, e2]
          exact rwSend_ok g p m x' y' a cap l w h hw hx hy hc' hh.1 hh.2 hb hf hle hr hn
        · have hfl : m.fl.length = 10000 := by have := hw.full; omega
          have e1 : m.sendE x y l = 4 := by unfold Wm.sendE; rw [if_neg hc, if_neg (fun e => e hh), if_neg hb, if_pos (by omega)]
          have e2 : m.send x y l = m := by unfold Wm.send; rw [if_neg (by rw [e1]; decide)]
          rw [e1, e2]
          exact (rwSend_full g p m x y _ _ _ w h hw hx hy hc' hh.1 hh.2 hb hfl).mono (fun e w' ⟨h1, h2⟩ => ⟨p, h1, h2 ▸ Step.refl h⟩)
    · have e1 : m.sendE x y l = 1 := by unfold Wm.sendE; rw [if_neg hc, if_pos hh]
      have e2 : m.send x y l = m := by unfold Wm.send; rw [if_neg (by rw [e1]; decide)]
      rw [e1, e2]
      exact (rwSend_none g p m x y _ w h hw hx hy hc' hh).mono (fun e w' ⟨h1, h2⟩ => ⟨p, h1, h2 ▸ Step.refl h⟩)

set_option maxHeartbeats 1000000 in
theorem rwTake_no (g : Nat) (p : Wp) (m : Wm) (k : Int) (w : World) (h : (rw8 g p m).Ok w) (hw : m.Wf) (hk : I64 k) (hn : ¬ (0 ≤ k ∧ k < m.fl.length)) :
    Calls Try.prog 53 #[.pointer (some ⟨g, 0, none⟩), .int .i64 k] w fun e w' => e = .returned (.tuple #[lz, .int .i64 1]) ∧ Below w.heap.size w w' := by
  have b0 : Below w.heap.size w (w.alloc (.cells #[.int .i64 0, .int .i64 0, .slice none 0 0] 51)) := (Below.refl _ _).alloc (Nat.le_refl _) _
  have M0 := Blk.new' w 51 [.int .i64 0, .int .i64 0, .slice none 0 0]
  have hL := rwLook_no g p m k _ (h.later b0) hw hk hn
  unfold lz at hL
  have HL : Hid _ := hL
  have HK : Hid _ := And.intro b0 M0
  clear b0 M0 h hw hn hL
  unfold lz
  go_enter Try.func53, Try.ntmps53
  go_wp2_with fail
  generalize w.alloc (.cells #[.int .i64 0, .int .i64 0, .slice none 0 0] 51) = w0 at *
  refine (Calls.mono HL.out) ?_
  rintro e w1 ⟨rfl, b1⟩
  obtain ⟨b0, M0⟩ := HK.out
  have M1 := M0.laterB b1
  have b2 : Below w1.heap.size w1 (w1.alloc (.cells #[.int .i64 0, .int .i64 0, .slice none 0 0] 51)) := (Below.refl _ _).alloc (Nat.le_refl _) _
  have M2 := M1.laterB b2
  obtain ⟨⟨y0, y1, y2⟩, f0, f1, f2⟩ := wblk3 M2
  have bb := below_then (below_then b0 b1) b2
  have z := bb.size
  have H4 : Hid _ := wset3 M2 (.int .i64 0) (.int .i64 0) (.slice none 0 0) w.heap.size w bb (Nat.le_refl _) z
  clear M0 M1 M2 b0 b1 b2 bb HK HL z
  go_wp2
  generalize (((w1.alloc (.cells #[.int .i64 0, .int .i64 0, .slice none 0 0] 51)).setCell ⟨w.heap.size, 0, none⟩ (.int .i64 0)).setCell ⟨w.heap.size, 1, none⟩ (.int .i64 0)).setCell ⟨w.heap.size, 2, none⟩ (.slice none 0 0) = wf at *
  obtain ⟨⟨q0, q1, q2⟩, -⟩ := wblk3 H4.out.1
  refine bodyPost_ret (v := .tuple #[.agg #[.int .i64 0, .int .i64 0, .slice none 0 0], .int .i64 1]) (by simp [results, Try.results53, go_sem, q0, q1, q2]) rfl ?_
  exact ⟨rfl, H4.out.2⟩

set_option maxHeartbeats 2000000 in
theorem rwTake_apart (g : Nat) (p : Wp) (m : Wm) (k : Nat) (w : World) (h : (rw8 g p m).Ok w) (hw : m.Wf) (hk : k < m.fl.length) (hlo : m.lo ≤ 1000000000) (hap : m.apart (m.fl[k].1 : Nat) (m.fl[k].2.1 : Nat) = true) :
    Calls Try.prog 53 #[.pointer (some ⟨g, 0, none⟩), .int .i64 k] w fun e w' => ∃ q', e = .returned (.tuple #[lz, .int .i64 5]) ∧ Step w w' (rw8 g p m) (rw8 g ⟨p.c, q', p.V⟩ (m.lose k)) := by
  have b0 : Below w.heap.size w (w.alloc (.cells #[.int .i64 0, .int .i64 0, .slice none 0 0] 51)) := (Below.refl _ _).alloc (Nat.le_refl _) _
  have M0 := Blk.new' w 51 [.int .i64 0, .int .i64 0, .slice none 0 0]
  have z0 : (w.alloc (.cells #[.int .i64 0, .int .i64 0, .slice none 0 0] 51)).heap.size = w.heap.size + 1 := by simp
  have HL : Hid _ := rwLook_yes g p m k _ (h.later b0) hw hk
  have hsz := hw.each _ (List.getElem_mem hk)
  have h5 := hw.five
  have hx : I64 ((m.fl[k].1 : Nat) : Int) := by constructor <;> omega
  have hy : I64 ((m.fl[k].2.1 : Nat) : Int) := by constructor <;> omega
  have HA : Hid _ := fun (W : World) (q' : Option Nat) (hW : (rw8 g ⟨p.c, q', p.V⟩ (m.del k)).Ok W) => rwApart_any g ⟨p.c, q', p.V⟩ (m.del k) (m.fl[k].1 : Nat) (m.fl[k].2.1 : Nat) W hW (del_wf hw k) hx hy
  have HZ : Hid _ := fun (W : World) (hW : (rw8 g p m).Ok W) => rwgone_any g p m k W hW hw hk
  rw [show (m.del k).apart (m.fl[k].1 : Nat) (m.fl[k].2.1 : Nat) = true from hap] at HA
  have HK : Hid _ := And.intro h (And.intro b0 (And.intro M0 z0))
  have HT : Hid _ := hlo
  unfold lz
  unfold lv at HL
  generalize m.fl[k].1 = x at *
  generalize m.fl[k].2.1 = y at *
  generalize m.fl[k].2.2 = l at *
  clear b0 M0 h hw hk hlo hap hsz h5 z0
  generalize l.length = len at *
  go_enter Try.func53, Try.ntmps53
  go_wp2_with fail
  generalize w.alloc (.cells #[.int .i64 0, .int .i64 0, .slice none 0 0] 51) = w0 at *
  refine (Calls.mono HL.out) ?_
  rintro e w1 ⟨va, vc, rfl, -, -, -, -, b1⟩
  obtain ⟨h, b0, M0, z0⟩ := HK.out
  have M1 := M0.laterB b1
  have b2 : Below w1.heap.size w1 (w1.alloc (.cells #[.int .i64 x, .int .i64 y, .slice va len vc] 51)) := (Below.refl _ _).alloc (Nat.le_refl _) _
  have M2 := M1.laterB b2
  have N2 := Blk.new' w1 51 [.int .i64 x, .int .i64 y, .slice va len vc]
  have bb := below_then (below_then b0 b1) b2
  have HZ' : Hid _ := HZ.out _ (h.later bb)
  have HJ : Hid _ := And.intro h (And.intro bb (And.intro M2 (And.intro N2 (And.intro z0 (And.intro b1.size b2.size)))))
  clear M0 M1 M2 b0 b1 b2 bb HK HL HZ N2 z0 h
  go_wp2_with fail
  generalize w1.alloc (.cells #[.int .i64 x, .int .i64 y, .slice va len vc] 51) = w2 at *
  refine (Calls.mono HZ'.out) ?_
  rintro e w3 ⟨q', rfl, st⟩
  obtain ⟨h, bb, M2, N2, z0, s1, s2⟩ := HJ.out
  have hnW : w.heap.size ∉ (rw8 g p m).W := fun e => by have := h.lt _ (.inl e); omega
  have hnV : w.heap.size ∉ (rw8 g p m).V := fun e => by have := h.lt _ (.inr e); omega
  have hnW1 : w1.heap.size ∉ (rw8 g p m).W := fun e => by have := h.lt _ (.inl e); omega
  have M3 := M2.step st hnW
  have N3 := N2.step st hnW1
  obtain ⟨⟨n0, n1, -⟩, -⟩ := wblk3 N3
  have HA' : Hid _ := HA.out _ q' st.ok
  have sT := (Step.quiet h bb).trans st
  have HJ2 : Hid _ := And.intro sT M3
  have hsw := st.writes
  have HW' : Hid (w.heap.size ∉ (rw8 g ⟨p.c, q', p.V⟩ (m.del k)).W ∧ w.heap.size ∉ (rw8 g ⟨p.c, q', p.V⟩ (m.del k)).V) := ⟨fun e => by rcases hsw _ e with e | e; exact hnW e; have := M2.lt; omega, hnV⟩
  clear h bb M2 N2 z0 s1 s2 HJ st sT M3 N3 hnW hnV hnW1 hsw HA HZ'
  go_wp2_with fail
  refine (Calls.mono HA'.out) ?_
  rintro e w4 ⟨rfl, b4⟩
  have M4 := HJ2.out.2.laterB b4
  have sT4 := HJ2.out.1.trans (Step.quiet HJ2.out.1.ok b4)
  obtain ⟨hnd, fv, vs, hq, hD⟩ := sT4.ok.holds
  obtain ⟨-, -, -, -, -, -, c6, -⟩ := rw_cells hD
  have f6 := hD.blk.frozen (by simp [maxLen]) 6
  have sT5 := sT4.trans (rw_store (m' := m.lose k) sT4.ok hq hD 6 (.int .i64 (((m.del k).lo : Nat) + 1)) (by simp [Wm.lose, Wm.del]) rfl rfl)
  have hgA : w.heap.size ≠ g := fun e => HW'.out.1 (by simp [rw8, e])
  have M5 : Blk (w4.setCell ⟨g, 6, none⟩ (.int .i64 (((m.del k).lo : Nat) + 1))) w.heap.size 51 [.int .i64 0, .int .i64 0, .slice none 0 0] := by unfold Blk; rw [Below.heap_setCell _ _ _ _ hgA]; exact M4
  obtain ⟨⟨y0, y1, y2⟩, g0, g1, g2⟩ := wblk3 M5
  have H4 : Hid _ := wset3 M5 (.int .i64 0) (.int .i64 0) (.slice none 0 0) 0 w ⟨sT5.turned.os, sT5.turned.tape, sT5.turned.output, sT5.turned.size, fun j hj => by omega⟩ (Nat.zero_le _) (Nat.zero_le _)
  have H5 : Hid _ := step_set3 sT5 w.heap.size M5.lt (Nat.le_refl _) HW'.out.1 HW'.out.2 (.int .i64 0) (.int .i64 0) (.slice none 0 0)
  have p1 : ((m.del k).lo : Int) ≤ 1000000000 := by have := HT.out; show ((m.lo : Nat) : Int) ≤ _; omega
  have p2 : 0 ≤ ((m.del k).lo : Int) := by omega
  generalize ((m.del k).lo : Int) = Z at *
  clear M4 M5 sT4 sT5 hnd hq hD HJ2 HA' b4 n0 n1 HT
  go_wp2
  generalize (((w4.setCell ⟨g, 6, none⟩ (.int .i64 (Z + 1))).setCell ⟨w.heap.size, 0, none⟩ (.int .i64 0)).setCell ⟨w.heap.size, 1, none⟩ (.int .i64 0)).setCell ⟨w.heap.size, 2, none⟩ (.slice none 0 0) = wf at *
  obtain ⟨⟨q0, q1, q2⟩, -⟩ := wblk3 H4.out.1
  refine bodyPost_ret (v := .tuple #[.agg #[.int .i64 0, .int .i64 0, .slice none 0 0], .int .i64 5]) (by simp [results, Try.results53, go_sem, q0, q1, q2]) rfl ?_
  exact ⟨_, rfl, H5.out⟩
set_option maxHeartbeats 2000000 in
theorem rwTake_come (g : Nat) (p : Wp) (m : Wm) (k : Nat) (w : World) (h : (rw8 g p m).Ok w) (hw : m.Wf) (hk : k < m.fl.length) (hlo : m.tk ≤ 1000000000) (hap : m.apart (m.fl[k].1 : Nat) (m.fl[k].2.1 : Nat) = false) :
    Calls Try.prog 53 #[.pointer (some ⟨g, 0, none⟩), .int .i64 k] w fun e w' => ∃ q' a cap, e = .returned (.tuple #[lv m.fl[k].1 m.fl[k].2.1 (.slice a m.fl[k].2.2.length cap), .int .i64 0]) ∧ Row w' a m.fl[k].2.2 ∧ (∀ z, a = some z → z.block ∈ p.V) ∧ Step w w' (rw8 g p m) (rw8 g ⟨p.c, q', p.V⟩ (m.come k)) := by
  have b0 : Below w.heap.size w (w.alloc (.cells #[.int .i64 0, .int .i64 0, .slice none 0 0] 51)) := (Below.refl _ _).alloc (Nat.le_refl _) _
  have M0 := Blk.new' w 51 [.int .i64 0, .int .i64 0, .slice none 0 0]
  have z0 : (w.alloc (.cells #[.int .i64 0, .int .i64 0, .slice none 0 0] 51)).heap.size = w.heap.size + 1 := by simp
  have HL : Hid _ := rwLook_yes g p m k _ (h.later b0) hw hk
  have hsz := hw.each _ (List.getElem_mem hk)
  have h5 := hw.five
  have hx : I64 ((m.fl[k].1 : Nat) : Int) := by constructor <;> omega
  have hy : I64 ((m.fl[k].2.1 : Nat) : Int) := by constructor <;> omega
  have HA : Hid _ := fun (W : World) (q' : Option Nat) (hW : (rw8 g ⟨p.c, q', p.V⟩ (m.del k)).Ok W) => rwApart_any g ⟨p.c, q', p.V⟩ (m.del k) (m.fl[k].1 : Nat) (m.fl[k].2.1 : Nat) W hW (del_wf hw k) hx hy
  have HZ : Hid _ := fun (W : World) (hW : (rw8 g p m).Ok W) => rwgone_any g p m k W hW hw hk
  rw [show (m.del k).apart (m.fl[k].1 : Nat) (m.fl[k].2.1 : Nat) = false from hap] at HA
  have HK : Hid _ := And.intro h (And.intro b0 (And.intro M0 z0))
  have HT : Hid _ := hlo
  unfold lv
  unfold lv at HL
  generalize m.fl[k].1 = x at *
  generalize m.fl[k].2.1 = y at *
  generalize m.fl[k].2.2 = l at *
  clear b0 M0 h hw hk hlo hap hsz h5 z0
  generalize l.length = len at *
  go_enter Try.func53, Try.ntmps53
  go_wp2_with fail
  generalize w.alloc (.cells #[.int .i64 0, .int .i64 0, .slice none 0 0] 51) = w0 at *
  refine (Calls.mono HL.out) ?_
  rintro e w1 ⟨va, vc, rfl, -, hrw, -, hvV, b1⟩
  obtain ⟨h, b0, M0, z0⟩ := HK.out
  have hrw' : Row w va l := hrw.same (fun z hz => (b0.block z.block (h.lt _ (.inr (hvV z hz)))).symm)
  have HRw : Hid _ := And.intro hrw' (And.intro hvV (fun z (hz : va = some z) => And.intro (h.lt _ (.inr (hvV z hz))) (fun e => h.apart _ e (hvV z hz))))
  clear hrw hvV hrw'
  have M1 := M0.laterB b1
  have b2 : Below w1.heap.size w1 (w1.alloc (.cells #[.int .i64 x, .int .i64 y, .slice va len vc] 51)) := (Below.refl _ _).alloc (Nat.le_refl _) _
  have M2 := M1.laterB b2
  have N2 := Blk.new' w1 51 [.int .i64 x, .int .i64 y, .slice va len vc]
  have bb := below_then (below_then b0 b1) b2
  have HZ' : Hid _ := HZ.out _ (h.later bb)
  have HJ : Hid _ := And.intro h (And.intro bb (And.intro M2 (And.intro N2 (And.intro z0 (And.intro b1.size b2.size)))))
  clear M0 M1 M2 b0 b1 b2 bb HK HL HZ N2 z0 h
  go_wp2_with fail
  generalize w1.alloc (.cells #[.int .i64 x, .int .i64 y, .slice va len vc] 51) = w2 at *
  refine (Calls.mono HZ'.out) ?_
  rintro e w3 ⟨q', rfl, st⟩
  obtain ⟨h, bb, M2, N2, z0, s1, s2⟩ := HJ.out
  have hnW : w.heap.size ∉ (rw8 g p m).W := fun e => by have := h.lt _ (.inl e); omega
  have hnV : w.heap.size ∉ (rw8 g p m).V := fun e => by have := h.lt _ (.inr e); omega
  have hnW1 : w1.heap.size ∉ (rw8 g p m).W := fun e => by have := h.lt _ (.inl e); omega
  have M3 := M2.step st hnW
  have N3 := N2.step st hnW1
  obtain ⟨⟨n0, n1, -⟩, -⟩ := wblk3 N3
  have HA' : Hid _ := HA.out _ q' st.ok
  have sT := (Step.quiet h bb).trans st
  have HJ2 : Hid _ := And.intro sT (And.intro M3 N3)
  have HV : Hid _ := h.lt
  have HB0 : Hid _ := bb
  have hsw := st.writes
  have HW' : Hid (w.heap.size ∉ (rw8 g ⟨p.c, q', p.V⟩ (m.del k)).W ∧ w.heap.size ∉ (rw8 g ⟨p.c, q', p.V⟩ (m.del k)).V) := ⟨fun e => by rcases hsw _ e with e | e; exact hnW e; have := M2.lt; omega, hnV⟩
  have HS1 : Hid (w.heap.size < w1.heap.size) := by show _ < _; omega
  clear h bb M2 N2 z0 s1 s2 HJ st sT M3 N3 hnW hnV hnW1 hsw HA HZ'
  go_wp2_with fail
  refine (Calls.mono HA'.out) ?_
  rintro e w4 ⟨rfl, b4⟩
  have M4 := HJ2.out.2.1.laterB b4
  have N4 := HJ2.out.2.2.laterB b4
  have sT4 := HJ2.out.1.trans (Step.quiet HJ2.out.1.ok b4)
  obtain ⟨hnd, fv, vs, hq, hD⟩ := sT4.ok.holds
  obtain ⟨-, -, -, -, -, c6, -⟩ := rw_cells hD
  have f6 := hD.blk.frozen (by simp [maxLen]) 5
  have sT5 := sT4.trans (rw_store (m' := m.come k) sT4.ok hq hD 5 (.int .i64 (((m.del k).tk : Nat) + 1)) (by simp [Wm.come, Wm.del]) rfl rfl)
  have hgA : w.heap.size ≠ g := fun e => HW'.out.1 (by simp [rw8, e])
  have M5 : Blk (w4.setCell ⟨g, 5, none⟩ (.int .i64 (((m.del k).tk : Nat) + 1))) w.heap.size 51 [.int .i64 0, .int .i64 0, .slice none 0 0] := by unfold Blk; rw [Below.heap_setCell _ _ _ _ hgA]; exact M4
  obtain ⟨⟨y0, y1, y2⟩, g0, g1, g2⟩ := wblk3 M5
  have hgB : w1.heap.size ≠ g := fun e => by have := HV.out g (.inl (by simp [rw8])); have := HB0.out.size; have := HS1.out; omega
  have N5 : Blk (w4.setCell ⟨g, 5, none⟩ (.int .i64 (((m.del k).tk : Nat) + 1))) w1.heap.size 51 [.int .i64 x, .int .i64 y, .slice va len vc] := by unfold Blk; rw [Below.heap_setCell _ _ _ _ hgB]; exact N4
  obtain ⟨⟨t0, t1, t2⟩, -⟩ := wblk3 N5
  have H4 : Hid _ := wset3 M5 (.int .i64 x) (.int .i64 y) (.slice va len vc) 0 w ⟨sT5.turned.os, sT5.turned.tape, sT5.turned.output, sT5.turned.size, fun j hj => by omega⟩ (Nat.zero_le _) (Nat.zero_le _)
  have H5 : Hid _ := step_set3 sT5 w.heap.size M5.lt (Nat.le_refl _) HW'.out.1 HW'.out.2 (.int .i64 x) (.int .i64 y) (.slice va len vc)
  have H6 : Hid (Row (((((w4.setCell ⟨g, 5, none⟩ (.int .i64 (((m.del k).tk : Nat) + 1))).setCell ⟨w.heap.size, 0, none⟩ (.int .i64 x)).setCell ⟨w.heap.size, 1, none⟩ (.int .i64 y)).setCell ⟨w.heap.size, 2, none⟩ (.slice va len vc))) va l) := by
    refine Row.same HRw.out.1 (fun z hz => ?_)
    obtain ⟨l1, l2⟩ := HRw.out.2.2 z hz
    rw [wset3_block _ _ _ _ _ _ (by omega)]
    exact sT5.turned.block z.block l1 l2
  have p1 : ((m.del k).tk : Int) ≤ 1000000000 := by have := HT.out; show ((m.tk : Nat) : Int) ≤ _; omega
  have p2 : 0 ≤ ((m.del k).tk : Int) := by omega
  generalize ((m.del k).tk : Int) = Z at *
  clear M4 M5 N4 N5 sT4 sT5 hnd hq hD HJ2 HA' b4 n0 n1 HT HV HB0
  go_wp2
  generalize (((w4.setCell ⟨g, 5, none⟩ (.int .i64 (Z + 1))).setCell ⟨w.heap.size, 0, none⟩ (.int .i64 x)).setCell ⟨w.heap.size, 1, none⟩ (.int .i64 y)).setCell ⟨w.heap.size, 2, none⟩ (.slice va len vc) = wf at *
  obtain ⟨⟨q0, q1, q2⟩, -⟩ := wblk3 H4.out.1
  refine bodyPost_ret (v := .tuple #[.agg #[.int .i64 x, .int .i64 y, .slice va len vc], .int .i64 0]) (by simp [results, Try.results53, go_sem, q0, q1, q2]) rfl ?_
  exact ⟨_, va, vc, rfl, H6.out, HRw.out.2.1, H5.out⟩

set_option maxHeartbeats 1000000 in
theorem rwDrop_no (g : Nat) (p : Wp) (m : Wm) (k : Int) (w : World) (h : (rw8 g p m).Ok w) (hw : m.Wf) (hk : I64 k) (hn : ¬ (0 ≤ k ∧ k < m.fl.length)) :
    Calls Try.prog 54 #[.pointer (some ⟨g, 0, none⟩), .int .i64 k] w fun e w' => e = .returned (.int .i64 1) ∧ Below w.heap.size w w' := by
  have hL := rwLook_no g p m k w h hw hk hn
  unfold lz at hL
  have HL : Hid _ := hL
  clear h hw hn hL
  go_enter Try.func54, Try.ntmps54
  go_wp2_with (go_at_call 58; refine (Calls.mono HL.out) ?_; rintro e w1 ⟨rfl, b1⟩)
  go_ret
  exact ⟨rfl, below_then b1 ((Below.refl _ _).alloc (Nat.le_refl _) _)⟩
set_option maxHeartbeats 1000000 in
theorem rwDrop_yes (g : Nat) (p : Wp) (m : Wm) (k : Nat) (w : World) (h : (rw8 g p m).Ok w) (hw : m.Wf) (hk : k < m.fl.length) (hlo : m.lo ≤ 1000000000) :
    Calls Try.prog 54 #[.pointer (some ⟨g, 0, none⟩), .int .i64 k] w fun e w' => ∃ q', e = .returned (.int .i64 0) ∧ Step w w' (rw8 g p m) (rw8 g ⟨p.c, q', p.V⟩ (m.lose k)) := by
  have HL : Hid _ := rwLook_yes g p m k w h hw hk
  have HZ : Hid _ := fun (W : World) (hW : (rw8 g p m).Ok W) => rwgone_any g p m k W hW hw hk
  have HK : Hid _ := And.intro h hlo
  unfold lv at HL
  generalize m.fl[k].1 = x at *
  generalize m.fl[k].2.1 = y at *
  generalize m.fl[k].2.2 = l at *
  clear h hw hk hlo
  generalize l.length = len at *
  go_enter Try.func54, Try.ntmps54
  go_wp2_with fail
  refine (Calls.mono HL.out) ?_
  rintro e w1 ⟨va, vc, rfl, -, -, -, -, b1⟩
  have b2 : Below w1.heap.size w1 (w1.alloc (.cells #[.int .i64 x, .int .i64 y, .slice va len vc] 51)) := (Below.refl _ _).alloc (Nat.le_refl _) _
  have bb := below_then b1 b2
  have HZ' : Hid _ := HZ.out _ (HK.out.1.later bb)
  have HB : Hid _ := bb
  clear b1 b2 bb HL HZ
  go_wp2_with fail
  generalize w1.alloc (.cells #[.int .i64 x, .int .i64 y, .slice va len vc] 51) = w2 at *
  refine (Calls.mono HZ'.out) ?_
  rintro e w3 ⟨q', rfl, st⟩
  have sT4 := (Step.quiet HK.out.1 HB.out).trans st
  obtain ⟨hnd, fv, vs, hq, hD⟩ := sT4.ok.holds
  obtain ⟨-, -, -, -, -, -, c6, -⟩ := rw_cells hD
  have f6 := hD.blk.frozen (by simp [maxLen]) 6
  have HS : Hid _ := sT4.trans (rw_store (m' := m.lose k) sT4.ok hq hD 6 (.int .i64 (((m.del k).lo : Nat) + 1)) (by simp [Wm.lose, Wm.del]) rfl rfl)
  have p1 : ((m.del k).lo : Int) ≤ 1000000000 := by have := HK.out.2; show ((m.lo : Nat) : Int) ≤ _; omega
  have p2 : 0 ≤ ((m.del k).lo : Int) := by omega
  generalize ((m.del k).lo : Int) = Z at *
  clear sT4 st hnd hq hD HK HB HZ'
  go_wp2
  go_ret
  exact ⟨_, rfl, HS.out⟩
set_option maxHeartbeats 1000000 in
theorem rwDouble_no (g : Nat) (p : Wp) (m : Wm) (k : Int) (w : World) (h : (rw8 g p m).Ok w) (hw : m.Wf) (hk : I64 k) (hn : ¬ (0 ≤ k ∧ k < m.fl.length)) :
    Calls Try.prog 55 #[.pointer (some ⟨g, 0, none⟩), .int .i64 k] w fun e w' => e = .returned (.int .i64 1) ∧ Below w.heap.size w w' := by
  have hL := rwLook_no g p m k w h hw hk hn
  unfold lz at hL
  have HL : Hid _ := hL
  clear h hw hn hL
  go_enter Try.func55, Try.ntmps55
  go_wp2_with (go_at_call 58; refine (Calls.mono HL.out) ?_; rintro e w1 ⟨rfl, b1⟩)
  go_ret
  exact ⟨rfl, below_then b1 ((Below.refl _ _).alloc (Nat.le_refl _) _)⟩
set_option maxRecDepth 200000 in
set_option maxHeartbeats 2000000 in
theorem rwDouble_yes (g : Nat) (p : Wp) (m : Wm) (k : Nat) (w : World) (h : (rw8 g p m).Ok w) (hw : m.Wf) (hk : k < m.fl.length) :
    Calls Try.prog 55 #[.pointer (some ⟨g, 0, none⟩), .int .i64 k] w fun e w' => ∃ p', e = .returned (.int .i64 (if m.fl.length < 10000 then 0 else 4)) ∧ Step w w' (rw8 g p m) (rw8 g p' (if m.fl.length < 10000 then m.twice k else m)) := by
  have HL : Hid _ := rwLook_yes g p m k w h hw hk
  have hfu := hw.full
  have e3 : m.twice k = { m with fl := m.fl ++ [(m.fl[k].1, m.fl[k].2.1, m.fl[k].2.2)] } := by unfold Wm.twice; rw [List.getElem?_eq_getElem hk]; rfl
  rw [e3]
  obtain ⟨hnd, fv, vs, hq, hD⟩ := h.holds
  obtain ⟨-, -, c2, -⟩ := rw_cells hD
  obtain ⟨fa, fc, rfl⟩ := wo_form hD.letters
  have HK : Hid _ := And.intro h (And.intro hq hD)
  unfold lv at HL
  generalize m.fl[k].1 = x at *
  generalize m.fl[k].2.1 = y at *
  generalize m.fl[k].2.2 = l at *
  have hmx : m.fl.length ≤ 1000000 := by omega
  clear h hw hk e3 hq hD hnd
  by_cases hf : m.fl.length < 10000
  · rw [if_pos hf, if_pos hf]
    have hd2 : decide ((10000 : Int) ≤ (m.fl.length : Int)) = false := decide_eq_false (by omega)
    clear hf hfu
    generalize hll : l.length = len at *
    have HLn : Hid _ := hll
    clear hll
    go_enter Try.func55, Try.ntmps55
    go_wp2_with fail
    refine (Calls.mono HL.out) ?_
    rintro e w1 ⟨va, vc, rfl, hlv, hrw, hnv, hvV, b1⟩
    have b2 : Below w1.heap.size w1 (w1.alloc (.cells #[.int .i64 x, .int .i64 y, .slice va len vc] 51)) := (Below.refl _ _).alloc (Nat.le_refl _) _
    have N2 := Blk.new' w1 51 [.int .i64 x, .int .i64 y, .slice va len vc]
    have bb := below_then b1 b2
    obtain ⟨⟨n0, n1, n2⟩, -⟩ := wblk3 N2
    obtain ⟨h, hq, hD⟩ := HK.out
    have h2 := h.later bb
    obtain ⟨hnd2, fv2, vs2, hq2, hD2⟩ := h2.holds
    have cl2 := cell_later bb c2
    have cl2' := (rw_cells hD2).2.2.1
    rw [cl2] at cl2'
    obtain rfl : fv2 = .slice fa m.fl.length fc := by simpa using cl2'.symm
    have hone : LsAt ((va.map (·.block)).toList) (w1.alloc (.cells #[.int .i64 x, .int .i64 y, .slice va len vc] 51)) [((x, y, l) : Lt)] [.int .i64 x, .int .i64 y, .slice va l.length vc] := LsAt.one (x, y, l) va vc (by show l.length ≤ _; rw [HLn.out]; exact hlv) (hrw.later bb) hnv (fun z hz => by subst hz; simp)
    rw [HLn.out] at hone
    have hfar' : ∀ j ∈ (va.map (·.block)).toList, j < (w1.alloc (.cells #[.int .i64 x, .int .i64 y, .slice va len vc] 51)).heap.size ∧ j ∉ (rw8 g p m).W := by
      intro j hj
      simp at hj
      obtain ⟨z, hz, rfl⟩ := hj
      refine ⟨?_, fun e => h.apart _ e (hvV z hz)⟩
      have := h.lt _ (.inr (hvV z hz))
      have := bb.size
      omega
    have HP : Hid _ := And.intro h2 (And.intro hq2 (And.intro hD2 (And.intro hone hfar')))
    have HJ : Hid _ := And.intro h (And.intro bb hvV)
    clear h hq hD b1 b2 N2 bb h2 hnd2 hq2 hD2 cl2' hone hfar' hlv hrw hnv hvV HK HL c2
    go_wp2_with fail
    generalize hwz : w1.alloc (.cells #[.int .i64 x, .int .i64 y, .slice va len vc] 51) = wz at *
    have b1 : Below wz.heap.size wz (wz.drew.alloc (.cells #[.int .i64 x, .int .i64 y, .slice va len vc] 51)) := ((Below.refl _ _).drew).alloc (Nat.le_refl _) _
    have hG4 : Hid _ := And.intro (ownsRow_same HP.out.2.2.1.letters (fun k hk => b1.block k (World.ownsRow.lt HP.out.2.2.1.letters k hk).2)) (And.intro (Blk.new' wz.drew 51 [.int .i64 x, .int .i64 y, .slice va len vc]) b1)
    have t3 : (wz.alloc (.cells #[.int .i64 x, .int .i64 y, .slice va len vc] 51)).cell? ⟨g, 2, none⟩ = some (.slice fa m.fl.length fc) := cell_later ((Below.refl _ _).alloc (Nat.le_refl _) _) cl2
    clear b1 hwz
    go_region_law (refine step_append_rletter rfl (.tmp 26) (.tmp 28) rfl (.slice fa m.fl.length fc) m.fl.length vs2 (by simp [Act.eval]) hG4.out.1 wz.heap.size (.int .i64 x) (.int .i64 y) (.slice va len vc) (by simp [Act.eval]) hG4.out.2.1 rfl rfl rfl hmx ?_; intro gv' w5 hown hg5 hor; obtain ⟨a', c', rfl⟩ := wo_form hown; have W : RPosted wz _ w5 g p m _ _ vs2 _ (x, y, l) _ := ⟨HP.out.1, HP.out.2.1, HP.out.2.2.1, hG4.out.2.2, hown, hg5, hor, HP.out.2.2.2.1, HP.out.2.2.2.2⟩; obtain ⟨cc, cf⟩ := W.cell; have HS : Hid _ := W.done; clear W hown hg5 hor)
    all_goals
      go_wp2
      go_ret
      obtain ⟨h, b2, hvV⟩ := HJ.out
      have s2 := b2.size
      refine ⟨_, rfl, ((turned_below b2).mono (fun _ h => h.elim)).trans (HS.out.1.mono (fun k hk => .inl hk)), HS.out.2.1, fun k hk => ?_, fun k hk => ?_⟩
      · rcases HS.out.2.2 k hk with e | e
        · exact .inl e
        · exact .inr (by omega)
      · simp only [rw8, List.mem_append, Option.mem_toList, Option.map_eq_some_iff] at hk
        rcases hk with ⟨z, hz, rfl⟩ | hk
        · exact .inr (.inl (hvV z hz))
        · exact .inr (.inl hk)
  · rw [if_neg hf, if_neg hf]
    have hfl : m.fl.length = 10000 := by omega
    rw [hfl] at c2
    clear hf hfu hfl hmx
    generalize l.length = len at *
    go_enter Try.func55, Try.ntmps55
    go_wp2_with fail
    refine (Calls.mono HL.out) ?_
    rintro e w1 ⟨va, vc, rfl, -, -, -, -, b1⟩
    have b2 : Below w1.heap.size w1 (w1.alloc (.cells #[.int .i64 x, .int .i64 y, .slice va len vc] 51)) := (Below.refl _ _).alloc (Nat.le_refl _) _
    have bb := below_then b1 b2
    have cl2 := cell_later bb c2
    have HS : Hid _ := Step.quiet HK.out.1 bb
    clear b1 b2 bb HK HL c2
    go_wp2
    go_ret
    exact ⟨p, rfl, HS.out⟩
end Go.Proofs.Ytjfodmdijajfbaa
