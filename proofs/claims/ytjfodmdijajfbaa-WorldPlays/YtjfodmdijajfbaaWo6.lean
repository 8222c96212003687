/- Letters that are looked at. -/
import Derived.Test.YtjfodmdijajfbaaWo5
namespace Go.Proofs.Ytjfodmdijajfbaa
open Go.RowKit
set_option linter.unusedVariables false
set_option maxRecDepth 4000

theorem wo_letter {w : World} {g c : Nat} {V : List Nat} {fv : Value} {vs : List Value} {m : Wm} (h : WoAt w g c V fv vs m) (k : Nat) (hk : k < m.fl.length) :
    ∃ qb qc a cap, fv = .slice (some ⟨qb, 0, none⟩) m.fl.length qc ∧ m.fl.length ≤ qc ∧ w.cell? ⟨qb, k * 3, none⟩ = some (.int .i64 (m.fl[k].1 : Nat)) ∧ w.cell? ⟨qb, k * 3 + 1, none⟩ = some (.int .i64 (m.fl[k].2.1 : Nat)) ∧ w.cell? ⟨qb, k * 3 + 2, none⟩ = some (.slice a m.fl[k].2.2.length cap) ∧
      m.fl[k].2.2.length ≤ cap ∧ Row w a m.fl[k].2.2 ∧ (a = none → cap = 0) ∧ ∀ y, a = some y → y.block ∈ V := by
  obtain ⟨a, cap, e0, e1, e2, r1, r2, r3, r4⟩ := h.each.get k hk
  have hl := h.each.length
  have hL := h.letters
  obtain ⟨h1, ⟨h2, h3⟩ | ⟨qb, qc, cur, rfl, hb, hh, hc, hm, hs, ht⟩⟩ := id hL
  · omega
  · have f : ∀ i, i < m.fl.length * 3 → w.cell? ⟨qb, i, none⟩ = vs[i]? := fun i hi => World.ownsRow.cellAt hL i hi
    exact ⟨qb, qc, a, cap, rfl, hc, (f _ (by omega)).trans e0, (f _ (by omega)).trans e1, (f _ (by omega)).trans e2, r1, r2, r3, r4⟩

def lv (x y : Nat) (v : Value) : Value := .agg #[.int .i64 x, .int .i64 y, v]
set_option maxHeartbeats 1000000 in
theorem woLook_no (g : Nat) (p : Wp) (m : Wm) (k : Int) (w : World) (h : (wo g p m).Ok w) (hw : m.Wf) (hk : I64 k) (hn : ¬ (0 ≤ k ∧ k < m.fl.length)) :
    Calls Try.prog 19 #[.pointer (some ⟨g, 0, none⟩), .int .i64 k] w fun e w' => e = .returned (.tuple #[.agg #[.int .i64 0, .int .i64 0, .slice none 0 0], .int .i64 1]) ∧ Below w.heap.size w w' := by
  have M0 := Blk.new' w 41 [.int .i64 0, .int .i64 0, .slice none 0 0]
  have b0 : Below w.heap.size w (w.alloc (.cells #[.int .i64 0, .int .i64 0, .slice none 0 0] 41)) := (Below.refl _ _).alloc (Nat.le_refl _) _
  have hL := woletter_any g p m k _ (h.later b0) hw hk
  rw [show m.letE k = 1 from if_neg hn] at hL
  have HL : Hid _ := hL
  have H1 : Hid _ := b0
  clear M0 b0 hL h hw hn
  go_enter Try.func19, Try.ntmps19
  go_wp2_with (go_at_call 69; refine (Calls.mono HL.out) ?_; rintro e w' ⟨rfl, rfl⟩)
  refine bodyPost_ret (v := .tuple #[.agg #[.int .i64 0, .int .i64 0, .slice none 0 0], .int .i64 1]) (by simp [results, Try.results19, go_sem]) rfl ?_
  exact ⟨rfl, H1.out⟩
set_option maxHeartbeats 1000000 in
theorem woLook_yes (g : Nat) (p : Wp) (m : Wm) (k : Nat) (w : World) (h : (wo g p m).Ok w) (hw : m.Wf) (hk : k < m.fl.length) :
    Calls Try.prog 19 #[.pointer (some ⟨g, 0, none⟩), .int .i64 k] w fun e w' => ∃ v, e = .returned (.tuple #[lv m.fl[k].1 m.fl[k].2.1 v, .int .i64 0]) ∧ Own w' w.heap.size v m.fl[k].2.2 ∧ Below w.heap.size w w' := by
  have M0 := Blk.new' w 41 [.int .i64 0, .int .i64 0, .slice none 0 0]
  have b0 : Below w.heap.size w (w.alloc (.cells #[.int .i64 0, .int .i64 0, .slice none 0 0] 41)) := (Below.refl _ _).alloc (Nat.le_refl _) _
  have h0 := h.later b0
  have hfu := hw.full
  have hL := woletter_any g p m k _ h0 hw (by constructor <;> omega)
  rw [show m.letE k = 0 from if_pos (by omega)] at hL
  have HL : Hid _ := hL
  obtain ⟨hn, fv, vs, hq, hD⟩ := h0.holds
  obtain ⟨c0, -⟩ := wo_cells hD
  obtain ⟨qb, qc, a, cap, rfl, hqc, e0, e1, e2, r1, r2, r3, r4⟩ := wo_letter hD k hk
  have hsz := (hw.each _ (List.getElem_mem hk)).2.2
  have HC : Hid _ := woclone_any (m.fl[k].1 : Nat) (m.fl[k].2.1 : Nat) a m.fl[k].2.2.length cap m.fl[k].2.2 _ rfl r1 hsz r2 r3
  have q1 : (k : Int) < (m.fl.length : Int) := by omega
  have z0 : (w.alloc (.cells #[.int .i64 0, .int .i64 0, .slice none 0 0] 41)).heap.size = w.heap.size + 1 := by simp
  have K : Hid _ := And.intro M0 (And.intro b0 z0)
  unfold lv
  generalize m.fl[k].1 = x at *
  generalize m.fl[k].2.1 = y at *
  generalize m.fl[k].2.2 = l at *
  generalize hll : l.length = len at *
  have HLn : Hid _ := hll
  clear hll M0 b0 hL h hw hn hD h0 r1 r2 r3 r4 hsz hq z0
  go_enter Try.func19, Try.ntmps19
  go_wp2_with (go_at_call 69; refine (Calls.mono HL.out) ?_; rintro e w' ⟨rfl, rfl⟩)
  refine (Calls.mono HC.out) ?_
  rintro e w2 ⟨v, rfl, ho, b2⟩
  obtain ⟨M0, b0, z0⟩ := K.out
  generalize w.alloc (.cells #[.int .i64 0, .int .i64 0, .slice none 0 0] 41) = w1 at *
  have N0 := M0.laterB b2
  obtain ⟨⟨j0, j1, j2⟩, f0, f1, f2⟩ := wblk3 N0
  have bb := below_then b0 b2
  have zz := b2.size
  obtain ⟨va, vc, rfl, -⟩ := ho.open
  rw [HLn.out] at *
  have H4 : Hid _ := wset3 N0 (.int .i64 x) (.int .i64 y) (.slice va len vc) w.heap.size w bb (Nat.le_refl _) (by omega)
  have H5 : Hid _ := fun (j : Nat) (hj : j ≠ w.heap.size) => wset3_block w2 w.heap.size (.int .i64 x) (.int .i64 y) (.slice va len vc) j hj
  have H6 : Hid _ := And.intro ho (And.intro zz z0)
  clear N0 M0 bb b2 b0 ho HC K zz z0 HL c0 e0 e1 e2
  go_wp2
  generalize ((w2.setCell ⟨w.heap.size, 0, none⟩ (.int .i64 x)).setCell ⟨w.heap.size, 1, none⟩ (.int .i64 y)).setCell ⟨w.heap.size, 2, none⟩ (.slice va len vc) = wf at *
  obtain ⟨⟨q0, q1, q2⟩, -⟩ := wblk3 H4.out.1
  refine bodyPost_ret (v := .tuple #[.agg #[.int .i64 x, .int .i64 y, .slice va len vc], .int .i64 0]) (by simp [results, Try.results19, go_sem, q0, q1, q2]) rfl ?_
  have hlo := World.ownsRow.lt H6.out.1
  refine ⟨_, rfl, (H6.out.1.same (fun j hj => H5.out j ?_)).low (by have := H6.out.2; omega), H4.out.2⟩
  have := (hlo j hj).1
  have := H6.out.2
  omega
end Go.Proofs.Ytjfodmdijajfbaa
