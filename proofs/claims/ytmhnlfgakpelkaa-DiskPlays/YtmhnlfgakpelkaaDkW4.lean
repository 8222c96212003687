/- A disk in memory; the calls that change little. -/
import Derived.Test.YtmhnlfgakpelkaaDkW3
import Derived.Laws.MakeOwn
namespace Go.Proofs.Ytmhnlfgakpelkaa
open Go.RowKit
set_option linter.unusedVariables false

/-- groups as cells -/
def GsAt (V : List Nat) (w : World) : List (Nat × List (BitVec 8)) → List Value → Prop
  | [], [] => True
  | g :: gs, x :: u :: vs => x = .int .i64 g.1 ∧ (∃ a cap, u = .slice a g.2.length cap ∧ g.2.length ≤ cap ∧ Row w a g.2 ∧ ∀ y, a = some y → y.block ∈ V) ∧ GsAt V w gs vs
  | _, _ => False
theorem GsAt.get {V : List Nat} {w : World} {gs : List (Nat × List (BitVec 8))} {vs : List Value} (h : GsAt V w gs vs) (i : Nat) (hi : i < gs.length) :
    ∃ a cap, vs[i * 2]? = some (.int .i64 gs[i].1) ∧ vs[i * 2 + 1]? = some (.slice a gs[i].2.length cap) ∧ gs[i].2.length ≤ cap ∧ Row w a gs[i].2 ∧ ∀ y, a = some y → y.block ∈ V := by
  induction gs generalizing vs i with
  | nil => simp at hi
  | cons g gs ih =>
    match vs, h with
    | x :: u :: vs, ⟨h1, ⟨a, cap, h2, h3, h4, h5⟩, h6⟩ =>
      cases i with
      | zero => subst h1; subst h2; exact ⟨a, cap, rfl, rfl, h3, h4, h5⟩
      | succ i =>
        obtain ⟨a, cap, k1, k2, k3⟩ := ih h6 i (by simpa using hi)
        refine ⟨a, cap, ?_, ?_, k3⟩
        · rw [show (i + 1) * 2 = i * 2 + 1 + 1 by omega]; simpa using k1
        · rw [show (i + 1) * 2 + 1 = i * 2 + 1 + 1 + 1 by omega]; simpa using k2
theorem GsAt.snoc {V : List Nat} {w : World} {gs : List (Nat × List (BitVec 8))} {vs : List Value} (h : GsAt V w gs vs) (g : Nat × List (BitVec 8)) (a : Option Addr) (cap : Nat) (h1 : g.2.length ≤ cap) (h2 : Row w a g.2) (h3 : ∀ y, a = some y → y.block ∈ V) :
    GsAt V w (gs ++ [g]) (vs ++ [.int .i64 g.1, .slice a g.2.length cap]) := by
  induction gs generalizing vs with
  | nil =>
    match vs, h with
    | [], _ => exact ⟨rfl, ⟨a, cap, rfl, h1, h2, h3⟩, trivial⟩
  | cons g' gs ih =>
    match vs, h with
    | x :: u :: vs, ⟨k1, k2, k3⟩ => exact ⟨k1, k2, ih k3⟩
theorem Row.same {w w' : World} {a : Option Addr} {l : List (BitVec 8)} (h : Row w a l) (hb : ∀ y, a = some y → w'.heap[y.block]? = w.heap[y.block]?) : Row w' a l := by
  rcases h with h | ⟨b, off, rfl, hc⟩
  · exact .inl h
  · exact .inr ⟨b, off, rfl, fun i hi => (World.cell?_of_block (w := w) (a := ⟨b, off + i, none⟩) (hb ⟨b, off, none⟩ rfl)).trans (hc i hi)⟩
theorem GsAt.same {V : List Nat} {w w' : World} {gs : List (Nat × List (BitVec 8))} {vs : List Value} (h : GsAt V w gs vs) (hb : ∀ k ∈ V, w'.heap[k]? = w.heap[k]?) : GsAt V w' gs vs := by
  induction gs generalizing vs with
  | nil => match vs, h with | [], _ => trivial
  | cons g gs ih =>
    match vs, h with
    | x :: u :: vs, ⟨k1, ⟨a, cap, h2, h3, h4, h5⟩, k3⟩ => exact ⟨k1, ⟨a, cap, h2, h3, h4.same (fun y hy => hb _ (h5 y hy)), h5⟩, ih k3⟩
theorem GsAt.mono {V V' : List Nat} {w : World} {gs : List (Nat × List (BitVec 8))} {vs : List Value} (h : GsAt V w gs vs) (hb : ∀ k ∈ V, k ∈ V') : GsAt V' w gs vs := by
  induction gs generalizing vs with
  | nil => match vs, h with | [], _ => trivial
  | cons g gs ih =>
    match vs, h with
    | x :: u :: vs, ⟨k1, ⟨a, cap, h2, h3, h4, h5⟩, k3⟩ => exact ⟨k1, ⟨a, cap, h2, h3, h4, fun y hy => hb _ (h5 y hy)⟩, ih k3⟩
theorem ownsRow_same {w w' : World} {base size n : Nat} {e : TypeId} {v : Value} {xs : List Value} (h : w.ownsRow base e size v n xs) (hb : ∀ k, v.ownBlock = some k → w'.heap[k]? = w.heap[k]?) : w'.ownsRow base e size v n xs := by
  obtain ⟨h1, h2 | ⟨g, cap, cur, rfl, hg, hh, r⟩⟩ := h
  · exact ⟨h1, .inl h2⟩
  · exact ⟨h1, .inr ⟨g, cap, cur, rfl, hg, by rw [hb g rfl]; exact hh, r⟩⟩

structure DkAt (w : World) (g s m : Nat) (V : List Nat) (cs cm : Nat) (gv : Value) (vs : List Value) (d : Dm) : Prop where
  blk : Blk w g 65 [.slice (some ⟨s, 0, none⟩) d.safe.length cs, .slice (some ⟨m, 0, none⟩) d.safe.length cm, gv, .bool d.bad, .bool d.gone]
  safe : Own w 0 (.slice (some ⟨s, 0, none⟩) d.safe.length cs) d.safe
  now : Own w 0 (.slice (some ⟨m, 0, none⟩) d.safe.length cm) (nowOf d.safe d.gs)
  groups : w.ownsRow 0 68 2 gv d.gs.length vs
  each : GsAt V w d.gs vs
/-- a disk's places: its safe bytes, those that are read, its groups, the groups' bytes -/
structure Pl where
  s : Nat
  m : Nat
  q : Option Nat
  V : List Nat
/-- the disk at block g -/
def dk (g : Nat) (p : Pl) (d : Dm) : Ob :=
  ⟨g :: p.s :: p.m :: p.q.toList, p.V, fun w => (g :: p.s :: p.m :: p.q.toList).Nodup ∧ ∃ cs cm gv vs, gv.ownBlock = p.q ∧ DkAt w g p.s p.m p.V cs cm gv vs d⟩
theorem dk_stable (g : Nat) (p : Pl) (d : Dm) (w1 w2 : World) (hb : ∀ k, k ∈ (dk g p d).W ∨ k ∈ (dk g p d).V → w2.heap[k]? = w1.heap[k]?) (h : (dk g p d).P w1) : (dk g p d).P w2 := by
  obtain ⟨hn, cs, cm, gv, vs, hq, h1, h2, h3, h4, h5⟩ := h
  refine ⟨hn, cs, cm, gv, vs, hq, ?_, h2.same ?_, h3.same ?_, ownsRow_same h4 ?_, h5.same ?_⟩
  · unfold Blk at *; rw [hb g (.inl (by simp [dk]))]; exact h1
  · intro k hk; cases hk; exact hb _ (.inl (by simp [dk]))
  · intro k hk; cases hk; exact hb _ (.inl (by simp [dk]))
  · intro k hk; exact hb _ (.inl (by rw [hq] at hk; simp [dk, hk]))
  · intro k hk; exact hb _ (.inr hk)
theorem dk_ok {g : Nat} {p : Pl} {d : Dm} {w : World} (h : (dk g p d).P w) (hl : ∀ k, k ∈ g :: p.s :: p.m :: p.q.toList ∨ k ∈ p.V → k < w.heap.size) (ha : ∀ k ∈ g :: p.s :: p.m :: p.q.toList, k ∉ p.V) : (dk g p d).Ok w :=
  ⟨h, hl, ha, dk_stable g p d⟩
/-- how many sectors there are -/
def Dm.n (d : Dm) : Nat := d.safe.length / 256
theorem Dm.Wf.len {d : Dm} (h : d.Wf) : d.safe.length = d.n * 256 ∧ 1 ≤ d.n ∧ d.n ≤ 4096 := by
  obtain ⟨n, h1, h2, h3⟩ := h.size
  unfold Dm.n; omega
theorem Dm.Wf.now {d : Dm} (h : d.Wf) : (nowOf d.safe d.gs).length = d.safe.length := nowOf_length h.fits

set_option maxHeartbeats 400000 in
theorem Size_any (g : Nat) (p : Pl) (d : Dm) (w : World) (h : (dk g p d).Ok w) (hw : d.Wf) :
    Calls Try.prog 28 #[.pointer (some ⟨g, 0, none⟩)] w fun e w' => e = .returned (.int .i64 (d.n : Nat)) ∧ w = w' := by
  obtain ⟨hn, cs, cm, gv, vs, hq, h⟩ := h.holds
  have c1 := h.blk.cell (by simp [maxLen]) 1 (by simp)
  simp only [List.getElem?_cons_succ, List.getElem?_cons_zero] at c1
  obtain ⟨e1, e2, e3⟩ := hw.len
  have H : Hid ((d.safe.length : Int) / 256 = ((d.n : Nat) : Int)) := by show _ = _; omega
  have hl : (d.safe.length : Int) ≤ 1048576 := by omega
  clear h hw e1
  go_enter Try.func28, Try.ntmps28
  go_wp2
  go_ret
  exact ⟨ret_int H.out, rfl⟩

/-- are these sectors there? -/
def hasB (n : Nat) (a k : Int) : Bool := decide (1 ≤ k ∧ k ≤ n ∧ 0 ≤ a ∧ a ≤ n - k)
set_option maxHeartbeats 400000 in
theorem has_any (g : Nat) (p : Pl) (d : Dm) (a k : Int) (w : World) (h : (dk g p d).Ok w) (hw : d.Wf) (ha : -9223372036854775808 ≤ a ∧ a ≤ 9223372036854775807) (hk : -9223372036854775808 ≤ k ∧ k ≤ 9223372036854775807) :
    Calls Try.prog 40 #[.pointer (some ⟨g, 0, none⟩), .int .i64 a, .int .i64 k] w fun e w' => e = .returned (.bool (hasB d.n a k)) ∧ w = w' := by
  obtain ⟨e1, e2, e3⟩ := hw.len
  have hN : (d.n : Int) ≤ 4096 := by omega
  have H : Hid _ := And.intro h hw
  have HB : Hid (hasB d.n a k = decide (1 ≤ k ∧ k ≤ d.n ∧ 0 ≤ a ∧ a ≤ d.n - k)) := rfl
  clear h hw e1
  by_cases c1 : 1 ≤ k
  · by_cases c2 : k ≤ (d.n : Int)
    · by_cases c3 : 0 ≤ a
      · by_cases c4 : a ≤ (d.n : Int) - k
        · go_enter Try.func40, Try.ntmps40
          go_wp2_with (go_at_call 28; refine (Size_any g p d _ H.out.1 H.out.2).mono ?_; rintro e w' ⟨rfl, rfl⟩)
          go_ret
          exact ⟨ret_bool (by rw [HB.out]; first | (refine decide_eq_decide.2 ?_; omega) | (refine (decide_eq_true ?_).symm; omega)), rfl⟩
        · go_enter Try.func40, Try.ntmps40
          go_wp2_with (go_at_call 28; refine (Size_any g p d _ H.out.1 H.out.2).mono ?_; rintro e w' ⟨rfl, rfl⟩)
          go_ret
          exact ⟨ret_bool (by rw [HB.out]; first | (refine decide_eq_decide.2 ?_; omega) | (refine (decide_eq_false ?_).symm; omega)), rfl⟩
      · go_enter Try.func40, Try.ntmps40
        go_wp2_with (go_at_call 28; refine (Size_any g p d _ H.out.1 H.out.2).mono ?_; rintro e w' ⟨rfl, rfl⟩)
        go_ret
        exact ⟨ret_bool (by rw [HB.out]; first | (refine decide_eq_decide.2 ?_; omega) | (refine (decide_eq_false ?_).symm; omega)), rfl⟩
    · go_enter Try.func40, Try.ntmps40
      go_wp2_with (go_at_call 28; refine (Size_any g p d _ H.out.1 H.out.2).mono ?_; rintro e w' ⟨rfl, rfl⟩)
      go_ret
      exact ⟨ret_bool (by rw [HB.out]; first | (refine decide_eq_decide.2 ?_; omega) | (refine (decide_eq_false ?_).symm; omega)), rfl⟩
  · go_enter Try.func40, Try.ntmps40
    go_wp2_with (go_at_call 28; refine (Size_any g p d _ H.out.1 H.out.2).mono ?_; rintro e w' ⟨rfl, rfl⟩)
    go_ret
    exact ⟨ret_bool (by rw [HB.out]; first | (refine decide_eq_decide.2 ?_; omega) | (refine (decide_eq_false ?_).symm; omega)), rfl⟩
end Go.Proofs.Ytmhnlfgakpelkaa
