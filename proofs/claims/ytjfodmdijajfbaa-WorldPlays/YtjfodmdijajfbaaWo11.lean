/- Letters that come. -/
import Derived.Test.YtjfodmdijajfbaaWo10
namespace Go.Proofs.Ytjfodmdijajfbaa
open Go.RowKit
set_option linter.unusedVariables false
set_option maxRecDepth 4000

def lz : Value := .agg #[.int .i64 0, .int .i64 0, .slice none 0 0]
set_option maxHeartbeats 1000000 in
theorem woTake_no (g : Nat) (p : Wp) (m : Wm) (k : Int) (w : World) (h : (wo g p m).Ok w) (hw : m.Wf) (hk : I64 k) (hn : ¬ (0 ≤ k ∧ k < m.fl.length)) :
    Calls Try.prog 16 #[.pointer (some ⟨g, 0, none⟩), .int .i64 k] w fun e w' => e = .returned (.tuple #[lz, .int .i64 1]) ∧ Below w.heap.size w w' := by
  have b0 : Below w.heap.size w (w.alloc (.cells #[.int .i64 0, .int .i64 0, .slice none 0 0] 41)) := (Below.refl _ _).alloc (Nat.le_refl _) _
  have M0 := Blk.new' w 41 [.int .i64 0, .int .i64 0, .slice none 0 0]
  have HL : Hid _ := woLook_no g p m k _ (h.later b0) hw hk hn
  have HK : Hid _ := And.intro b0 M0
  clear b0 M0 h hw hn
  unfold lz
  go_enter Try.func16, Try.ntmps16
  go_wp2_with fail
  generalize w.alloc (.cells #[.int .i64 0, .int .i64 0, .slice none 0 0] 41) = w0 at *
  refine (Calls.mono HL.out) ?_
  rintro e w1 ⟨rfl, b1⟩
  obtain ⟨b0, M0⟩ := HK.out
  have M1 := M0.laterB b1
  have b2 : Below w1.heap.size w1 (w1.alloc (.cells #[.int .i64 0, .int .i64 0, .slice none 0 0] 41)) := (Below.refl _ _).alloc (Nat.le_refl _) _
  have M2 := M1.laterB b2
  obtain ⟨⟨y0, y1, y2⟩, f0, f1, f2⟩ := wblk3 M2
  have bb := below_then (below_then b0 b1) b2
  have z := bb.size
  have H4 : Hid _ := wset3 M2 (.int .i64 0) (.int .i64 0) (.slice none 0 0) w.heap.size w bb (Nat.le_refl _) z
  clear M0 M1 M2 b0 b1 b2 bb HK HL z
  go_wp2
  generalize (((w1.alloc (.cells #[.int .i64 0, .int .i64 0, .slice none 0 0] 41)).setCell ⟨w.heap.size, 0, none⟩ (.int .i64 0)).setCell ⟨w.heap.size, 1, none⟩ (.int .i64 0)).setCell ⟨w.heap.size, 2, none⟩ (.slice none 0 0) = wf at *
  obtain ⟨⟨q0, q1, q2⟩, -⟩ := wblk3 H4.out.1
  refine bodyPost_ret (v := .tuple #[.agg #[.int .i64 0, .int .i64 0, .slice none 0 0], .int .i64 1]) (by simp [results, Try.results16, go_sem, q0, q1, q2]) rfl ?_
  exact ⟨rfl, H4.out.2⟩

theorem step_set3 {w w' : World} {o o' : Ob} (s : Step w w' o o') (g : Nat) (hg : g < w'.heap.size) (hn : w.heap.size ≤ g) (hW : g ∉ o'.W) (hV : g ∉ o'.V) (x y z : Value) :
    Step w (((w'.setCell ⟨g, 0, none⟩ x).setCell ⟨g, 1, none⟩ y).setCell ⟨g, 2, none⟩ z) o o' := by
  have hb := wset3_block w' g x y z
  have hz : (((w'.setCell ⟨g, 0, none⟩ x).setCell ⟨g, 1, none⟩ y).setCell ⟨g, 2, none⟩ z).heap.size = w'.heap.size := by simp [World.setCell]
  refine ⟨⟨s.turned.os, s.turned.tape, s.turned.output, by have := s.turned.size; omega, fun k hk hn' => ?_⟩, ⟨s.ok.stable _ _ (fun k hk => hb k (fun e => ?_)) s.ok.holds, fun k hk => by rw [hz]; exact s.ok.lt k hk, s.ok.apart, s.ok.stable⟩, s.writes, s.reads⟩
  · rw [hb k (by omega)]; exact s.turned.block k hk hn'
  · subst e; rcases hk with hk | hk; exact hW hk; exact hV hk

set_option maxHeartbeats 2000000 in
theorem woTake_apart (g : Nat) (p : Wp) (m : Wm) (k : Nat) (w : World) (h : (wo g p m).Ok w) (hw : m.Wf) (hk : k < m.fl.length) (hlo : m.lo ≤ 1000000000) (hap : m.apart (m.fl[k].1 : Nat) (m.fl[k].2.1 : Nat) = true) :
    Calls Try.prog 16 #[.pointer (some ⟨g, 0, none⟩), .int .i64 k] w fun e w' => e = .returned (.tuple #[lz, .int .i64 5]) ∧ Step w w' (wo g p m) (wo g p (m.lose k)) := by
  have b0 : Below w.heap.size w (w.alloc (.cells #[.int .i64 0, .int .i64 0, .slice none 0 0] 41)) := (Below.refl _ _).alloc (Nat.le_refl _) _
  have M0 := Blk.new' w 41 [.int .i64 0, .int .i64 0, .slice none 0 0]
  have z0 : (w.alloc (.cells #[.int .i64 0, .int .i64 0, .slice none 0 0] 41)).heap.size = w.heap.size + 1 := by simp
  have HL : Hid _ := woLook_yes g p m k _ (h.later b0) hw hk
  have hsz := hw.each _ (List.getElem_mem hk)
  have h5 := hw.five
  have hx : I64 ((m.fl[k].1 : Nat) : Int) := by constructor <;> omega
  have hy : I64 ((m.fl[k].2.1 : Nat) : Int) := by constructor <;> omega
  have HA : Hid _ := fun (W : World) (hW : (wo g p m).Ok W) => woApart_any g p m (m.fl[k].1 : Nat) (m.fl[k].2.1 : Nat) W hW hw hx hy
  have HZ : Hid _ := fun (W : World) (hW : (wo g p m).Ok W) => wolose_any g p m k W hW hw hk hlo
  rw [hap] at HA
  have HK : Hid _ := And.intro h (And.intro b0 (And.intro M0 z0))
  unfold lz
  unfold lv at HL
  generalize m.fl[k].1 = x at *
  generalize m.fl[k].2.1 = y at *
  generalize m.fl[k].2.2 = l at *
  clear b0 M0 h hw hk hlo hap hsz h5 z0
  go_enter Try.func16, Try.ntmps16
  go_wp2_with fail
  generalize w.alloc (.cells #[.int .i64 0, .int .i64 0, .slice none 0 0] 41) = w0 at *
  refine (Calls.mono HL.out) ?_
  rintro e w1 ⟨v, rfl, ho, b1⟩
  obtain ⟨va, vc, rfl, -⟩ := ho.open
  generalize l.length = len at *
  obtain ⟨h, b0, M0, z0⟩ := HK.out
  have M1 := M0.laterB b1
  have b2 : Below w1.heap.size w1 (w1.alloc (.cells #[.int .i64 x, .int .i64 y, .slice va len vc] 41)) := (Below.refl _ _).alloc (Nat.le_refl _) _
  have M2 := M1.laterB b2
  have N2 := Blk.new' w1 41 [.int .i64 x, .int .i64 y, .slice va len vc]
  obtain ⟨⟨n0, n1, -⟩, -⟩ := wblk3 N2
  have bb := below_then (below_then b0 b1) b2
  have hA := HA.out _ (h.later bb)
  have hZ := HZ.out _ (h.later bb)
  have HA' : Hid _ := And.intro hA hZ
  have HJ : Hid _ := And.intro h (And.intro bb (And.intro M2 (And.intro z0 (And.intro b1.size b2.size))))
  clear M0 M1 M2 b0 b1 b2 bb HK HL HA HZ hA hZ N2 z0 h ho
  go_wp2_with fail
  generalize w1.alloc (.cells #[.int .i64 x, .int .i64 y, .slice va len vc] 41) = w2 at *
  refine (Calls.mono HA'.out.1) ?_
  rintro e w2' ⟨rfl, rfl⟩
  have HZ' : Hid _ := HA'.out.2
  clear HA' n0 n1
  go_wp2_with fail
  refine (Calls.mono HZ'.out) ?_
  rintro e w3 ⟨rfl, st⟩
  obtain ⟨h, bb, M2, z0, s1, s2⟩ := HJ.out
  have hnW : w.heap.size ∉ (wo g p m).W := fun e => by have := h.lt _ (.inl e); omega
  have hnV : w.heap.size ∉ (wo g p m).V := fun e => by have := h.lt _ (.inr e); omega
  have M3 := M2.step st hnW
  obtain ⟨⟨y0, y1, y2⟩, f0, f1, f2⟩ := wblk3 M3
  have sT := (Step.quiet h bb).trans st
  have H4 : Hid _ := wset3 M3 (.int .i64 0) (.int .i64 0) (.slice none 0 0) 0 w ⟨sT.turned.os, sT.turned.tape, sT.turned.output, sT.turned.size, fun j hj => by omega⟩ (Nat.zero_le _) (Nat.zero_le _)
  have H5 : Hid _ := step_set3 sT w.heap.size M3.lt (Nat.le_refl _) hnW hnV (.int .i64 0) (.int .i64 0) (.slice none 0 0)
  clear h bb M2 z0 s1 s2 HJ st sT M3 HZ' hnW hnV
  go_wp2
  generalize ((w3.setCell ⟨w.heap.size, 0, none⟩ (.int .i64 0)).setCell ⟨w.heap.size, 1, none⟩ (.int .i64 0)).setCell ⟨w.heap.size, 2, none⟩ (.slice none 0 0) = wf at *
  obtain ⟨⟨q0, q1, q2⟩, -⟩ := wblk3 H4.out.1
  refine bodyPost_ret (v := .tuple #[.agg #[.int .i64 0, .int .i64 0, .slice none 0 0], .int .i64 5]) (by simp [results, Try.results16, go_sem, q0, q1, q2]) rfl ?_
  exact ⟨rfl, H5.out⟩

set_option maxHeartbeats 2000000 in
theorem woTake_come (g : Nat) (p : Wp) (m : Wm) (k : Nat) (w : World) (h : (wo g p m).Ok w) (hw : m.Wf) (hk : k < m.fl.length) (htk : m.tk ≤ 1000000000) (hap : m.apart (m.fl[k].1 : Nat) (m.fl[k].2.1 : Nat) = false) :
    Calls Try.prog 16 #[.pointer (some ⟨g, 0, none⟩), .int .i64 k] w fun e w' => ∃ v, e = .returned (.tuple #[lv m.fl[k].1 m.fl[k].2.1 v, .int .i64 0]) ∧ Own w' w.heap.size v m.fl[k].2.2 ∧ Step w w' (wo g p m) (wo g p (m.come k)) := by
  have b0 : Below w.heap.size w (w.alloc (.cells #[.int .i64 0, .int .i64 0, .slice none 0 0] 41)) := (Below.refl _ _).alloc (Nat.le_refl _) _
  have M0 := Blk.new' w 41 [.int .i64 0, .int .i64 0, .slice none 0 0]
  have z0 : (w.alloc (.cells #[.int .i64 0, .int .i64 0, .slice none 0 0] 41)).heap.size = w.heap.size + 1 := by simp
  have HL : Hid _ := woLook_yes g p m k _ (h.later b0) hw hk
  have hsz := hw.each _ (List.getElem_mem hk)
  have h5 := hw.five
  have hx : I64 ((m.fl[k].1 : Nat) : Int) := by constructor <;> omega
  have hy : I64 ((m.fl[k].2.1 : Nat) : Int) := by constructor <;> omega
  have HA : Hid _ := fun (W : World) (hW : (wo g p m).Ok W) => woApart_any g p m (m.fl[k].1 : Nat) (m.fl[k].2.1 : Nat) W hW hw hx hy
  have HZ : Hid _ := fun (W : World) (hW : (wo g p m).Ok W) => woremove_any g p m k W hW hw hk
  have HT : Hid _ := htk
  rw [hap] at HA
  have HK : Hid _ := And.intro h (And.intro b0 (And.intro M0 z0))
  unfold lv
  unfold lv at HL
  generalize m.fl[k].1 = x at *
  generalize m.fl[k].2.1 = y at *
  generalize m.fl[k].2.2 = l at *
  clear b0 M0 h hw hk htk hap hsz h5 z0
  go_enter Try.func16, Try.ntmps16
  go_wp2_with fail
  generalize w.alloc (.cells #[.int .i64 0, .int .i64 0, .slice none 0 0] 41) = w0 at *
  refine (Calls.mono HL.out) ?_
  rintro e w1 ⟨v, rfl, ho, b1⟩
  obtain ⟨va, vc, rfl, -⟩ := ho.open
  generalize hln : l.length = len at *
  have HLn : Hid _ := hln
  clear hln
  obtain ⟨h, b0, M0, z0⟩ := HK.out
  have M1 := M0.laterB b1
  have b2 : Below w1.heap.size w1 (w1.alloc (.cells #[.int .i64 x, .int .i64 y, .slice va len vc] 41)) := (Below.refl _ _).alloc (Nat.le_refl _) _
  have M2 := M1.laterB b2
  have N2 := Blk.new' w1 41 [.int .i64 x, .int .i64 y, .slice va len vc]
  obtain ⟨⟨n0, n1, -⟩, -⟩ := wblk3 N2
  have bb := below_then (below_then b0 b1) b2
  have hA := HA.out _ (h.later bb)
  have hZ := HZ.out _ (h.later bb)
  have HA' : Hid _ := And.intro hA hZ
  have HJ : Hid _ := And.intro h (And.intro bb (And.intro M2 (And.intro N2 (And.intro (ho.later b2) (And.intro z0 (And.intro b1.size b2.size))))))
  clear M0 M1 M2 b0 b1 b2 bb HK HL HA HZ hA hZ N2 z0 h ho
  go_wp2_with fail
  generalize w1.alloc (.cells #[.int .i64 x, .int .i64 y, .slice va len vc] 41) = w2 at *
  refine (Calls.mono HA'.out.1) ?_
  rintro e w2' ⟨rfl, rfl⟩
  have HZ' : Hid _ := HA'.out.2
  clear HA' n0 n1
  go_wp2_with fail
  refine (Calls.mono HZ'.out) ?_
  rintro e w3 ⟨rfl, st⟩
  obtain ⟨hnd, fv, vs, hq, hD⟩ := st.ok.holds
  obtain ⟨-, -, -, -, c4, -⟩ := wo_cells hD
  have f4 := hD.blk.frozen (by simp [maxLen]) 4
  have HAd : Hid _ := atAdd_any g 4 ((m.del k).tk : Nat) w3 c4 f4 (by have := HT.out; show _ ≤ ((m.tk : Nat) : Int) ∧ ((m.tk : Nat) : Int) ≤ _; omega)
  have st2 := st.trans (wo_store (m' := m.come k) st.ok hq hD 4 (.int .i64 (((m.del k).tk : Nat) + 1)) (by simp [Wm.come, Wm.del]) rfl rfl)
  have HS2 : Hid _ := st2
  clear st st2 hD hq hnd c4 f4 HZ'
  go_wp2_with fail
  refine (Calls.mono HAd.out) ?_
  rintro e w4 ⟨rfl, hw4⟩
  rw [hw4] at HS2
  obtain ⟨h, bb, M2, N2, ho, z0, s1, s2⟩ := HJ.out
  have st := HS2.out
  have hnW : w.heap.size ∉ (wo g p m).W := fun e => by have := h.lt _ (.inl e); omega
  have hnV : w.heap.size ∉ (wo g p m).V := fun e => by have := h.lt _ (.inr e); omega
  have hnW1 : w1.heap.size ∉ (wo g p m).W := fun e => by have := h.lt _ (.inl e); omega
  have M3 := M2.step st hnW
  have N3 := N2.step st hnW1
  obtain ⟨⟨y0, y1, y2⟩, f0, f1, f2⟩ := wblk3 M3
  obtain ⟨⟨p0, p1, p2⟩, -⟩ := wblk3 N3
  have sT := (Step.quiet h bb).trans st
  have hlo := World.ownsRow.lt ho
  have ho3 := ho.turned st.turned (fun j hj e => by have := h.lt _ (.inl e); have := (hlo j hj).1; omega)
  have H4 : Hid _ := wset3 M3 (.int .i64 x) (.int .i64 y) (.slice va len vc) 0 w ⟨sT.turned.os, sT.turned.tape, sT.turned.output, sT.turned.size, fun j hj => by omega⟩ (Nat.zero_le _) (Nat.zero_le _)
  have H5 : Hid _ := step_set3 sT w.heap.size M3.lt (Nat.le_refl _) hnW hnV (.int .i64 x) (.int .i64 y) (.slice va len vc)
  have H6 : Hid _ := (ho3.same (fun j hj => wset3_block w4 w.heap.size (.int .i64 x) (.int .i64 y) (.slice va len vc) j (by have := (hlo j hj).1; omega))).low (show w.heap.size ≤ w0.heap.size by omega)
  clear h bb M2 N2 ho z0 s1 s2 HJ st sT M3 N3 hnW hnV hnW1 ho3 hlo HS2 HAd hw4
  go_wp2
  generalize ((w4.setCell ⟨w.heap.size, 0, none⟩ (.int .i64 x)).setCell ⟨w.heap.size, 1, none⟩ (.int .i64 y)).setCell ⟨w.heap.size, 2, none⟩ (.slice va len vc) = wf at *
  obtain ⟨⟨q0, q1, q2⟩, -⟩ := wblk3 H4.out.1
  refine bodyPost_ret (v := .tuple #[.agg #[.int .i64 x, .int .i64 y, .slice va len vc], .int .i64 0]) (by simp [results, Try.results16, go_sem, q0, q1, q2]) rfl ?_
  exact ⟨_, rfl, H6.out, H5.out⟩
end Go.Proofs.Ytjfodmdijajfbaa
