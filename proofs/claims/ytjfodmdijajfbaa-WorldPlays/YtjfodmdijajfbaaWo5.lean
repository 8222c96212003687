/- What is counted; letters that are looked at. -/
import Derived.Test.YtjfodmdijajfbaaWo4
import Derived.Test.YtjfodmdijajfbaaDkW5
namespace Go.Proofs.Ytjfodmdijajfbaa
open Go.RowKit
set_option linter.unusedVariables false
set_option maxRecDepth 4000

theorem wset3 {w : World} {g : Nat} {T : TypeId} {a b c : Value} (M : Blk w g T [a, b, c]) (x y z : Value) (B : Nat) (W0 : World) (hb : Below B W0 w) (hB : B ≤ g) (hs : B ≤ w.heap.size) :
    Blk (((w.setCell ⟨g, 0, none⟩ x).setCell ⟨g, 1, none⟩ y).setCell ⟨g, 2, none⟩ z) g T [x, y, z] ∧ Below B W0 (((w.setCell ⟨g, 0, none⟩ x).setCell ⟨g, 1, none⟩ y).setCell ⟨g, 2, none⟩ z) :=
  ⟨by simpa using ((M.set 0 x).set 1 y).set 2 z, (((hb.trans (grown_below (grown_set w g 0 _) _ hB hs)).trans (grown_below (grown_set _ g 1 _) _ hB (by simpa [World.setCell] using hs))).trans (grown_below (grown_set _ g 2 _) _ hB (by simpa [World.setCell] using hs)))⟩
theorem wset3_block (w : World) (g : Nat) (x y z : Value) (k : Nat) (h : k ≠ g) : (((w.setCell ⟨g, 0, none⟩ x).setCell ⟨g, 1, none⟩ y).setCell ⟨g, 2, none⟩ z).heap[k]? = w.heap[k]? := by
  rw [Below.heap_setCell _ _ _ _ h, Below.heap_setCell _ _ _ _ h, Below.heap_setCell _ _ _ _ h]
theorem wblk3 {w : World} {g : Nat} {T : TypeId} {a b c : Value} (M : Blk w g T [a, b, c]) : (w.cell? ⟨g, 0, none⟩ = some a ∧ w.cell? ⟨g, 1, none⟩ = some b ∧ w.cell? ⟨g, 2, none⟩ = some c) ∧ w.frozen? ⟨g, 0, none⟩ = false ∧ w.frozen? ⟨g, 1, none⟩ = false ∧ w.frozen? ⟨g, 2, none⟩ = false :=
  ⟨⟨M.cell (by simp [maxLen]) 0 (by simp), M.cell (by simp [maxLen]) 1 (by simp), M.cell (by simp [maxLen]) 2 (by simp)⟩, M.frozen (by simp [maxLen]) 0, M.frozen (by simp [maxLen]) 1, M.frozen (by simp [maxLen]) 2⟩

theorem atAdd_any (g i : Nat) (x : Int) (w : World) (hc : w.cell? ⟨g, i, none⟩ = some (.int .i64 x)) (hz : w.frozen? ⟨g, i, none⟩ = false) (hx : 0 ≤ x ∧ x ≤ 1000000000) :
    Calls Try.prog 67 #[.pointer (some ⟨g, i, none⟩), .int .i64 1] w fun e w' => e = .returned (.int .i64 (x + 1)) ∧ w.setCell ⟨g, i, none⟩ (.int .i64 (x + 1)) = w' := by
  have hadd := run_call_add (P := Try.prog) Try.func96 (by kernel_rfl) (by kernel_rfl) (by kernel_rfl) .i64 (by kernel_rfl) (y := 1) (s := x + 1) hc hz (by
    have e : IntKind.i64.wrap (x + 1) = x + 1 := by rw [IntKind.wrap_i64]; omega
    simp [go_sem, e])
  go_enter Try.func67, Try.ntmps67
  go_wp2
  go_ret
  exact ⟨rfl, rfl⟩
theorem atLoad_any (g i : Nat) (x : Int) (w : World) (hc : w.cell? ⟨g, i, none⟩ = some (.int .i64 x)) :
    Calls Try.prog 72 #[.pointer (some ⟨g, i, none⟩)] w fun e w' => e = .returned (.int .i64 x) ∧ w = w' := by
  have hl := run_call_load (P := Try.prog) Try.func97 (by kernel_rfl) (by kernel_rfl) (by kernel_rfl) .i64 (by kernel_rfl) hc
  go_enter Try.func72, Try.ntmps72
  go_wp2
  go_ret
  exact ⟨rfl, rfl⟩
theorem woTaken_any (g : Nat) (p : Wp) (m : Wm) (w : World) (h : (wo g p m).Ok w) :
    Calls Try.prog 28 #[.pointer (some ⟨g, 0, none⟩)] w fun e w' => e = .returned (.int .i64 m.tk) ∧ w = w' := by
  obtain ⟨hn, fv, vs, hq, hD⟩ := h.holds
  obtain ⟨-, -, -, -, c4, -⟩ := wo_cells hD
  have HL : Hid _ := atLoad_any g 4 m.tk w c4
  clear hD h c4
  go_enter Try.func28, Try.ntmps28
  go_wp2_with (go_at_call 72; refine (Calls.mono HL.out) ?_; rintro e w' ⟨rfl, rfl⟩)
  go_ret
  exact ⟨rfl, rfl⟩
theorem woLost_any (g : Nat) (p : Wp) (m : Wm) (w : World) (h : (wo g p m).Ok w) :
    Calls Try.prog 29 #[.pointer (some ⟨g, 0, none⟩)] w fun e w' => e = .returned (.int .i64 m.lo) ∧ w = w' := by
  obtain ⟨hn, fv, vs, hq, hD⟩ := h.holds
  obtain ⟨-, -, -, -, -, c4, -⟩ := wo_cells hD
  have HL : Hid _ := atLoad_any g 5 m.lo w c4
  clear hD h c4
  go_enter Try.func29, Try.ntmps29
  go_wp2_with (go_at_call 72; refine (Calls.mono HL.out) ?_; rintro e w' ⟨rfl, rfl⟩)
  go_ret
  exact ⟨rfl, rfl⟩
theorem wo_form {w : World} {base size n : Nat} {e : TypeId} {v : Value} {xs : List Value} (h : w.ownsRow base e size v n xs) : ∃ a c, v = .slice a n c := by
  obtain ⟨_, ⟨h1, h2⟩ | ⟨g, cap, cur, h1, _⟩⟩ := h
  · exact ⟨_, _, h2 ▸ h1⟩
  · exact ⟨_, _, h1⟩
theorem woLen_any (g : Nat) (p : Wp) (m : Wm) (w : World) (h : (wo g p m).Ok w) (hw : m.Wf) :
    Calls Try.prog 27 #[.pointer (some ⟨g, 0, none⟩)] w fun e w' => e = .returned (.int .i64 (m.fl.length : Nat)) ∧ w = w' := by
  obtain ⟨hn, fv, vs, hq, hD⟩ := h.holds
  obtain ⟨c0, -⟩ := wo_cells hD
  obtain ⟨a, c, rfl⟩ := wo_form hD.letters
  have := hw.full
  clear hD h hw
  go_enter Try.func27, Try.ntmps27
  go_wp2
  go_ret
  exact ⟨rfl, rfl⟩
/-- is there such a letter? -/
def Wm.letE (m : Wm) (k : Int) : Int := if 0 ≤ k ∧ k < m.fl.length then 0 else 1
theorem woletter_any (g : Nat) (p : Wp) (m : Wm) (k : Int) (w : World) (h : (wo g p m).Ok w) (hw : m.Wf) (hk : I64 k) :
    Calls Try.prog 69 #[.pointer (some ⟨g, 0, none⟩), .int .i64 k] w fun e w' => e = .returned (.int .i64 (m.letE k)) ∧ w = w' := by
  obtain ⟨hn, fv, vs, hq, hD⟩ := h.holds
  obtain ⟨c0, -⟩ := wo_cells hD
  obtain ⟨a, c, rfl⟩ := wo_form hD.letters
  have := hw.full
  clear hD h hw
  unfold Wm.letE
  by_cases h0 : 0 ≤ k
  · by_cases h1 : k < (m.fl.length : Int)
    · rw [if_pos ⟨h0, h1⟩]
      go_enter Try.func69, Try.ntmps69
      go_wp2
      go_ret
      exact ⟨rfl, rfl⟩
    · rw [if_neg (fun e => h1 e.2)]
      go_enter Try.func69, Try.ntmps69
      go_wp2
      go_ret
      exact ⟨rfl, rfl⟩
  · rw [if_neg (fun e => h0 e.1)]
    go_enter Try.func69, Try.ntmps69
    go_wp2
    go_ret
    exact ⟨rfl, rfl⟩

set_option maxHeartbeats 1000000 in
theorem woclone_any (x y : Int) (a : Option Addr) (len cap : Nat) (l : List (BitVec 8)) (w : World) (hl : l.length = len) (hle : len ≤ cap) (hm : len ≤ 65536) (hr : Row w a l) (hn : a = none → cap = 0) :
    Calls Try.prog 70 #[.agg #[.int .i64 x, .int .i64 y, .slice a len cap]] w fun e w' => ∃ v, e = .returned (.agg #[.int .i64 x, .int .i64 y, v]) ∧ Own w' w.heap.size v l ∧ Below w.heap.size w w' := by
  subst hl
  generalize hlen : l.length = len at *
  have HLn : Hid _ := hlen
  clear hlen
  have M0 := Blk.new' w 41 [.int .i64 x, .int .i64 y, .slice a len cap]
  have b0 : Below w.heap.size w (w.alloc (.cells #[.int .i64 x, .int .i64 y, .slice a len cap] 41)) := (Below.refl _ _).alloc (Nat.le_refl _) _
  have z0 : (w.alloc (.cells #[.int .i64 x, .int .i64 y, .slice a len cap] 41)).heap.size = w.heap.size + 1 := by simp
  have M1 := Blk.new' (w.alloc (.cells #[.int .i64 x, .int .i64 y, .slice a len cap] 41)) 41 [.int .i64 0, .int .i64 0, .slice none 0 0]
  have b1 : Below (w.alloc (.cells #[.int .i64 x, .int .i64 y, .slice a len cap] 41)).heap.size (w.alloc (.cells #[.int .i64 x, .int .i64 y, .slice a len cap] 41)) ((w.alloc (.cells #[.int .i64 x, .int .i64 y, .slice a len cap] 41)).alloc (.cells #[.int .i64 0, .int .i64 0, .slice none 0 0] 41)) := (Below.refl _ _).alloc (Nat.le_refl _) _
  rw [z0] at M1
  have M0' := M0.laterB b1
  have bb := below_then b0 b1
  have z1 : ((w.alloc (.cells #[.int .i64 x, .int .i64 y, .slice a len cap] 41)).alloc (.cells #[.int .i64 0, .int .i64 0, .slice none 0 0] 41)).heap.size = w.heap.size + 2 := by simp
  obtain ⟨⟨k0, k1, k2⟩, -⟩ := wblk3 M0'
  have HC : Hid _ := Clone_any a len cap l _ HLn.out hle (by omega) (hr.later bb) hn
  have K : Hid _ := And.intro M0' (And.intro M1 (And.intro bb z1))
  clear M0 M1 b0 b1 z0 M0' bb hr z1
  go_enter Try.func70, Try.ntmps70
  go_wp2_with fail
  generalize (w.alloc (.cells #[.int .i64 x, .int .i64 y, .slice a len cap] 41)).alloc (.cells #[.int .i64 0, .int .i64 0, .slice none 0 0] 41) = w1 at *
  refine (Calls.mono HC.out) ?_
  rintro e w2 ⟨v, rfl, ho, b2⟩
  obtain ⟨M0, M1, bb, z1⟩ := K.out
  have N0 := M0.laterB b2
  have N1 := M1.laterB b2
  obtain ⟨⟨j0, j1, j2⟩, -, -, f2⟩ := wblk3 N0
  have zz := b2.size
  have B3 := N0.set 2 v
  simp only [List.set_cons_succ, List.set_cons_zero] at B3
  have hS : ∀ k, k ≠ w.heap.size → (w2.setCell ⟨w.heap.size, 2, none⟩ v).heap[k]? = w2.heap[k]? := fun k hk => Below.heap_setCell _ _ _ _ hk
  have N1' : Blk (w2.setCell ⟨w.heap.size, 2, none⟩ v) (w.heap.size + 1) 41 [.int .i64 0, .int .i64 0, .slice none 0 0] := by unfold Blk; rw [hS _ (by omega)]; exact N1
  have b3 : Below w.heap.size w (w2.setCell ⟨w.heap.size, 2, none⟩ v) := (below_then bb b2).trans (grown_below (grown_set w2 w.heap.size 2 v) _ (Nat.le_refl _) (by omega))
  have z3 : (w2.setCell ⟨w.heap.size, 2, none⟩ v).heap.size = w2.heap.size := by simp [World.setCell]
  have ho3 : Own (w2.setCell ⟨w.heap.size, 2, none⟩ v) w.heap.size v l := by
    have h0 := World.ownsRow.lt ho
    exact (ho.same (fun k hk => hS k (by have := (h0 k hk).1; omega))).low (by omega)
  obtain ⟨va, vc, rfl, -⟩ := ho.open
  rw [HLn.out] at *
  obtain ⟨⟨p0, p1, p2⟩, -⟩ := wblk3 B3
  obtain ⟨⟨y0, y1, y2⟩, g0, g1, g2⟩ := wblk3 N1'
  have H4 : Hid _ := wset3 N1' (.int .i64 x) (.int .i64 y) (.slice va len vc) w.heap.size w b3 (by omega) (by omega)
  have H5 : Hid _ := fun (k : Nat) (hk : k ≠ w.heap.size + 1) => wset3_block (w2.setCell ⟨w.heap.size, 2, none⟩ (.slice va len vc)) (w.heap.size + 1) (.int .i64 x) (.int .i64 y) (.slice va len vc) k hk
  have H6 : Hid _ := And.intro ho (And.intro ho3 (And.intro zz z1))
  clear N1' B3 b3 ho3 hS N0 N1 M0 M1 bb b2 ho HC K zz z1
  go_wp2
  generalize (((w2.setCell ⟨w.heap.size, 2, none⟩ (.slice va len vc)).setCell ⟨w.heap.size + 1, 0, none⟩ (.int .i64 x)).setCell ⟨w.heap.size + 1, 1, none⟩ (.int .i64 y)).setCell ⟨w.heap.size + 1, 2, none⟩ (.slice va len vc) = wf at *
  obtain ⟨⟨q0, q1, q2⟩, -⟩ := wblk3 H4.out.1
  refine bodyPost_ret (v := .agg #[.int .i64 x, .int .i64 y, .slice va len vc]) (by simp [results, Try.results70, go_sem, q0, q1, q2]) rfl ?_
  refine ⟨_, rfl, H6.out.2.1.same (fun k hk => H5.out k ?_), H4.out.2⟩
  have := (World.ownsRow.lt H6.out.1 k hk).1
  have := H6.out.2.2
  omega
end Go.Proofs.Ytjfodmdijajfbaa
