/- The document's disk in memory. -/
import Derived.Test.YtmhnlfgakpelkaaDkR1
namespace Go.Proofs.Ytmhnlfgakpelkaa
open Go.RowKit
set_option linter.unusedVariables false

/-- the document's groups as cells -/
def RgAt (V : List Nat) (w : World) : List (Nat × List (BitVec 8)) → List Value → Prop
  | [], [] => True
  | g :: gs, x :: u :: vs => x = .int .i64 g.1 ∧ (∃ ws, w.ownsRow 0 22 1 u (secs g.2.length) ws ∧ SsAt V w (chs g.2 (secs g.2.length)) ws ∧ ∀ k, u.ownBlock = some k → k ∈ V) ∧ RgAt V w gs vs
  | _, _ => False
theorem RgAt.get {V : List Nat} {w : World} {gs : List (Nat × List (BitVec 8))} {vs : List Value} (h : RgAt V w gs vs) (i : Nat) (hi : i < gs.length) :
    ∃ u ws, vs[i * 2]? = some (.int .i64 gs[i].1) ∧ vs[i * 2 + 1]? = some u ∧ w.ownsRow 0 22 1 u (secs gs[i].2.length) ws ∧ SsAt V w (chs gs[i].2 (secs gs[i].2.length)) ws ∧ ∀ k, u.ownBlock = some k → k ∈ V := by
  induction gs generalizing vs i with
  | nil => simp at hi
  | cons g gs ih =>
    match vs, h with
    | x :: u :: vs, ⟨h1, ⟨ws, h2, h3, h4⟩, h6⟩ =>
      cases i with
      | zero => subst h1; exact ⟨u, ws, rfl, rfl, h2, h3, h4⟩
      | succ i =>
        obtain ⟨u', ws', k1, k2, k3⟩ := ih h6 i (by simpa using hi)
        refine ⟨u', ws', ?_, ?_, k3⟩
        · rw [show (i + 1) * 2 = i * 2 + 1 + 1 by omega]; simpa using k1
        · rw [show (i + 1) * 2 + 1 = i * 2 + 1 + 1 + 1 by omega]; simpa using k2
theorem RgAt.snoc {V : List Nat} {w : World} {gs : List (Nat × List (BitVec 8))} {vs : List Value} (h : RgAt V w gs vs) (g : Nat × List (BitVec 8)) (u : Value) (ws : List Value) (h1 : w.ownsRow 0 22 1 u (secs g.2.length) ws) (h2 : SsAt V w (chs g.2 (secs g.2.length)) ws) (h3 : ∀ k, u.ownBlock = some k → k ∈ V) :
    RgAt V w (gs ++ [g]) (vs ++ [.int .i64 g.1, u]) := by
  induction gs generalizing vs with
  | nil => match vs, h with | [], _ => exact ⟨rfl, ⟨ws, h1, h2, h3⟩, trivial⟩
  | cons g' gs ih => match vs, h with | x :: u' :: vs, ⟨k1, k2, k3⟩ => exact ⟨k1, k2, ih k3⟩
theorem RgAt.same {V V' : List Nat} {w w' : World} {gs : List (Nat × List (BitVec 8))} {vs : List Value} (h : RgAt V w gs vs) (hb : ∀ k ∈ V, w'.heap[k]? = w.heap[k]?) (hV : ∀ k ∈ V, k ∈ V') : RgAt V' w' gs vs := by
  induction gs generalizing vs with
  | nil => match vs, h with | [], _ => trivial
  | cons g gs ih =>
    match vs, h with
    | x :: u :: vs, ⟨k1, ⟨ws, h2, h3, h4⟩, k3⟩ => exact ⟨k1, ⟨ws, ownsRow_same h2 (fun k hk => hb k (h4 k hk)), h3.same hb hV, fun k hk => hV k (h4 k hk)⟩, ih k3⟩

structure RdkAt (w : World) (g : Nat) (V : List Nat) (sv lv : Value) (S : List (List (BitVec 8))) (vs ls : List Value) (d : Dm) : Prop where
  blk : Blk w g 39 [sv, lv, .bool d.bad, .bool d.gone]
  safe : w.ownsRow 0 22 1 sv S.length vs
  secs : SsAt V w S vs
  join : S.flatten = d.safe
  each : ∀ s ∈ S, s.length = 256
  groups : w.ownsRow 0 73 2 lv d.gs.length ls
  held : RgAt V w d.gs ls
/-- the document's disk at block g: the blocks of its sectors' row and of its groups, what it only reads -/
def rdk (g : Nat) (q r : Option Nat) (V : List Nat) (d : Dm) : Ob :=
  ⟨g :: (q.toList ++ r.toList), V, fun w => (g :: (q.toList ++ r.toList)).Nodup ∧ ∃ sv lv S vs ls, sv.ownBlock = q ∧ lv.ownBlock = r ∧ RdkAt w g V sv lv S vs ls d⟩
theorem rdk_ok {g : Nat} {q r : Option Nat} {V : List Nat} {d : Dm} {w : World} (h : (rdk g q r V d).P w) (hl : ∀ k, k ∈ g :: (q.toList ++ r.toList) ∨ k ∈ V → k < w.heap.size) (ha : ∀ k ∈ g :: (q.toList ++ r.toList), k ∉ V) : (rdk g q r V d).Ok w := by
  refine ⟨h, hl, ha, fun w1 w2 hs h => ?_⟩
  obtain ⟨hn, sv, lv, S, vs, ls, hq, hr, h1, h2, h3, h4, h5, h6, h7⟩ := h
  refine ⟨hn, sv, lv, S, vs, ls, hq, hr, ?_, ownsRow_same h2 (fun k hk => ?_), h3.same (fun k hk => hs k (.inr hk)) (fun k hk => hk), h4, h5, ownsRow_same h6 (fun k hk => ?_), h7.same (fun k hk => hs k (.inr hk)) (fun k hk => hk)⟩
  · unfold Blk at *; rw [hs g (.inl (by simp [rdk]))]; exact h1
  · exact hs k (.inl (by rw [hq] at hk; simp [rdk, hk]))
  · exact hs k (.inl (by rw [hr] at hk; simp [rdk, hk]))
theorem flat_len {S : List (List (BitVec 8))} (h : ∀ s ∈ S, s.length = 256) : S.flatten.length = S.length * 256 := by
  induction S with
  | nil => rfl
  | cons s S ih => rw [List.flatten_cons, List.length_append, ih (fun x hx => h x (List.mem_cons_of_mem _ hx)), h s (by simp), List.length_cons]; omega
theorem RdkAt.count {w : World} {g : Nat} {V : List Nat} {sv lv : Value} {S : List (List (BitVec 8))} {vs ls : List Value} {d : Dm} (h : RdkAt w g V sv lv S vs ls d) (hw : d.Wf) : S.length = d.n := by
  have h1 := flat_len h.each
  rw [h.join] at h1
  have := hw.len
  omega

set_option maxHeartbeats 400000 in
theorem rImage_any (g : Nat) (q r : Option Nat) (V : List Nat) (d : Dm) (w : World) (h : (rdk g q r V d).Ok w) (hw : d.Wf) :
    Calls Try.prog 37 #[.pointer (some ⟨g, 0, none⟩)] w fun e w' => ∃ v, e = .returned v ∧ Own w' w.heap.size v d.safe ∧ Below w.heap.size w w' := by
  obtain ⟨hn, sv, lv, S, vs, ls, hq, hr, hD⟩ := h.holds
  have c0 := hD.blk.cell (by simp [maxLen]) 0 (by simp)
  simp only [List.getElem?_cons_zero] at c0
  have hc := hD.count hw
  have hlen := hw.len
  have HJ := rjoined_any sv V S vs w hD.safe hD.secs (fun k hk => h.lt k (.inr hk)) (by omega) (by rw [hD.join]; omega) hD.each
  rw [hD.join] at HJ
  have HJ' : Hid _ := HJ
  clear HJ h hw hD hc hlen hn hq hr
  go_enter Try.func37, Try.ntmps37
  go_wp2_with (go_at_call 46; refine (Calls.mono HJ'.out) ?_; rintro e w' ⟨v, rfl, ho, hb⟩)
  go_ret
  exact ⟨v, rfl, ho, hb⟩

set_option maxHeartbeats 400000 in
theorem rthere_any (g : Nat) (q r : Option Nat) (V : List Nat) (d : Dm) (a k : Int) (w : World) (h : (rdk g q r V d).Ok w) (hw : d.Wf) (ha : -9223372036854775808 ≤ a ∧ a ≤ 9223372036854775807) (hk : -9223372036854775808 ≤ k ∧ k ≤ 9223372036854775807) :
    Calls Try.prog 45 #[.pointer (some ⟨g, 0, none⟩), .int .i64 a, .int .i64 k] w fun e w' => e = .returned (.bool (hasB d.n a k)) ∧ Below w.heap.size w w' := by
  obtain ⟨hn, sv, lv, S, vs, ls, hq, hr, hD⟩ := h.holds
  have c0 := hD.blk.cell (by simp [maxLen]) 0 (by simp)
  simp only [List.getElem?_cons_zero] at c0
  obtain ⟨qa, qc, hsv⟩ := own_form hD.safe
  rw [hsv, hD.count hw] at c0
  obtain ⟨e1, e2, e3⟩ := hw.len
  have hN : (d.n : Int) ≤ 4096 := by omega
  have HB : Hid (hasB d.n a k = decide (1 ≤ k ∧ k ≤ d.n ∧ 0 ≤ a ∧ a ≤ d.n - k)) := rfl
  clear h hw hD hn hq hr hsv e1
  by_cases c1 : 0 ≤ a
  · by_cases c2 : 1 ≤ k
    · by_cases c3 : k ≤ (d.n : Int)
      · by_cases c4 : a ≤ (d.n : Int) - k
        all_goals
          go_enter Try.func45, Try.ntmps45
          go_wp2
          go_ret
          exact ⟨ret_bool (by rw [HB.out]; first | (refine decide_eq_decide.2 ?_; omega) | (refine (decide_eq_true ?_).symm; omega) | (refine (decide_eq_false ?_).symm; omega)), Below.refl _ _⟩
      · go_enter Try.func45, Try.ntmps45
        go_wp2
        go_ret
        exact ⟨ret_bool (by rw [HB.out]; first | (refine decide_eq_decide.2 ?_; omega) | (refine (decide_eq_false ?_).symm; omega)), Below.refl _ _⟩
    · go_enter Try.func45, Try.ntmps45
      go_wp2
      go_ret
      exact ⟨ret_bool (by rw [HB.out]; first | (refine decide_eq_decide.2 ?_; omega) | (refine (decide_eq_false ?_).symm; omega)), Below.refl _ _⟩
  · go_enter Try.func45, Try.ntmps45
    go_wp2
    go_ret
    exact ⟨ret_bool (by rw [HB.out]; first | (refine decide_eq_decide.2 ?_; omega) | (refine (decide_eq_false ?_).symm; omega)), Below.refl _ _⟩
end Go.Proofs.Ytmhnlfgakpelkaa
