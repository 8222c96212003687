/- Entries that are joined to a log. -/
import Derived.Test.YtmcljbpemninlaaEn14
namespace Go.Proofs.Ytmcljbpemninlaa
open Go.RowKit
set_option linter.unusedVariables false
set_option maxRecDepth 20000

theorem eset5 {w : World} {g : Nat} {T : TypeId} {a b c d e : Value} (M : Blk w g T [a, b, c, d, e]) (x y z u v : Value) (B : Nat) (W0 : World) (hb : Below B W0 w) (hB : B ≤ g) (hs : B ≤ w.heap.size) :
    Blk (((((w.setCell ⟨g, 0, none⟩ x).setCell ⟨g, 1, none⟩ y).setCell ⟨g, 2, none⟩ z).setCell ⟨g, 3, none⟩ u).setCell ⟨g, 4, none⟩ v) g T [x, y, z, u, v] ∧ Below B W0 (((((w.setCell ⟨g, 0, none⟩ x).setCell ⟨g, 1, none⟩ y).setCell ⟨g, 2, none⟩ z).setCell ⟨g, 3, none⟩ u).setCell ⟨g, 4, none⟩ v) :=
  ⟨by simpa using ((((M.set 0 x).set 1 y).set 2 z).set 3 u).set 4 v, (((((hb.trans (grown_below (grown_set w g 0 _) _ hB hs)).trans (grown_below (grown_set _ g 1 _) _ hB (by simpa [World.setCell] using hs))).trans (grown_below (grown_set _ g 2 _) _ hB (by simpa [World.setCell] using hs))).trans (grown_below (grown_set _ g 3 _) _ hB (by simpa [World.setCell] using hs))).trans (grown_below (grown_set _ g 4 _) _ hB (by simpa [World.setCell] using hs)))⟩
theorem eset5_size (w : World) (g : Nat) (x y z u v : Value) : (((((w.setCell ⟨g, 0, none⟩ x).setCell ⟨g, 1, none⟩ y).setCell ⟨g, 2, none⟩ z).setCell ⟨g, 3, none⟩ u).setCell ⟨g, 4, none⟩ v).heap.size = w.heap.size := by simp [World.setCell]
theorem eset5_block (w : World) (g : Nat) (x y z u v : Value) (k : Nat) (h : k ≠ g) : (((((w.setCell ⟨g, 0, none⟩ x).setCell ⟨g, 1, none⟩ y).setCell ⟨g, 2, none⟩ z).setCell ⟨g, 3, none⟩ u).setCell ⟨g, 4, none⟩ v).heap[k]? = w.heap[k]? := by
  rw [Below.heap_setCell _ _ _ _ h, Below.heap_setCell _ _ _ _ h, Below.heap_setCell _ _ _ _ h, Below.heap_setCell _ _ _ _ h, Below.heap_setCell _ _ _ _ h]
theorem eblk5 {w : World} {g : Nat} {T : TypeId} {a b c d e : Value} (M : Blk w g T [a, b, c, d, e]) : (w.cell? ⟨g, 0, none⟩ = some a ∧ w.cell? ⟨g, 1, none⟩ = some b ∧ w.cell? ⟨g, 2, none⟩ = some c ∧ w.cell? ⟨g, 3, none⟩ = some d ∧ w.cell? ⟨g, 4, none⟩ = some e) ∧ w.frozen? ⟨g, 0, none⟩ = false ∧ w.frozen? ⟨g, 1, none⟩ = false ∧ w.frozen? ⟨g, 2, none⟩ = false ∧ w.frozen? ⟨g, 3, none⟩ = false ∧ w.frozen? ⟨g, 4, none⟩ = false :=
  ⟨⟨M.cell (by simp [maxLen]) 0 (by simp), M.cell (by simp [maxLen]) 1 (by simp), M.cell (by simp [maxLen]) 2 (by simp), M.cell (by simp [maxLen]) 3 (by simp), M.cell (by simp [maxLen]) 4 (by simp)⟩, M.frozen (by simp [maxLen]) 0, M.frozen (by simp [maxLen]) 1, M.frozen (by simp [maxLen]) 2, M.frozen (by simp [maxLen]) 3, M.frozen (by simp [maxLen]) 4⟩
/-- a log stays where a block of an answer turns -/
theorem Lg.stay {w w' : World} {g : Nat} {m : Lm} (h : Lg w g m) (q : Nat) (T : TypeId) (B : Blk w q T [.pointer none, .bool false, .int .i64 0, .int .i64 0, .int .i64 0]) (hg : g ≠ q) (hb : ∀ k, k ≠ q → w'.heap[k]? = w.heap[k]?) : Lg w' g m := by
  obtain ⟨a, c, h1, h2, h3, h4⟩ := h
  refine ⟨a, c, by unfold Blk at *; rw [hb g hg]; exact h1, h2, h3, ?_⟩
  rcases h4 with h4 | ⟨b, off, rfl, h4⟩
  · exact .inl h4
  · by_cases hl : m.l = []
    · exact .inl hl
    · have hpos : 0 < m.l.length := List.length_pos_iff.2 hl
      have hbq : b ≠ q := by
        rintro rfl
        have h0 := h4 0 hpos
        rw [cell_of_row w b _ _ _ _ B] at h0
        have hj : off + 0 = off := rfl
        rw [hj] at h0
        have key : ∀ v : Value, v = pv m.l[0] → (∃ t u, v = .iface t u) := by
          rintro v rfl
          rcases pv_forms m.l[0] with ⟨k, e⟩ | ⟨k, s, e⟩
          · exact ⟨_, _, e⟩
          · exact ⟨_, _, e⟩
        match off, h0 with
        | 0, h0 => simp at h0; obtain ⟨t, u, e⟩ := key _ h0; cases e
        | 1, h0 => simp at h0; obtain ⟨t, u, e⟩ := key _ h0; cases e
        | 2, h0 => simp at h0; obtain ⟨t, u, e⟩ := key _ h0; cases e
        | 3, h0 => simp at h0; obtain ⟨t, u, e⟩ := key _ h0; cases e
        | 4, h0 => simp at h0; obtain ⟨t, u, e⟩ := key _ h0; cases e
        | k + 5, h0 => simp at h0
      exact .inr ⟨b, off, rfl, fun i hi => (World.cell?_of_block (w := w) (a := ⟨b, off + i, none⟩) (hb b hbq)).trans (h4 i hi)⟩
/-- what Join answers -/
def joV (p : Option Nat) (yes : Bool) (en fr bk : Int) : Value := .agg #[.pointer (p.map fun g => ⟨g, 0, none⟩), .bool yes, .int .i64 en, .int .i64 fr, .int .i64 bk]
/-- how many entries behind the place p stand there already -/
def Lm.skip (m : Lm) : Int → List Ent → Nat
  | _, [] => 0
  | p, e :: r => if m.holdsB (p + 1) e.2.1 = true then m.skip (p + 1) r + 1 else 0
theorem Lm.skip_le (m : Lm) (p : Int) (l : List Ent) : m.skip p l ≤ l.length := by
  induction l generalizing p with
  | nil => exact Nat.le_refl _
  | cons e l ih => unfold Lm.skip; split; have := ih (p + 1); simp; omega; simp
/-- how many of l lie at or below the floor -/
def Lm.low (m : Lm) (n : Int) : Nat := (m.fl - n).toNat
/-- how many of l are passed over -/
def Lm.pass (m : Lm) (n : Int) (l : List Ent) : Nat := m.low n + m.skip (n + m.low n) (l.drop (m.low n))
/-- what is left of the log, and what comes behind it -/
def Lm.joined (m : Lm) (n : Int) (l : List Ent) : Lm := (m.upto (n + m.pass n l - m.fl).toNat).with (l.drop (m.pass n l))
def Lm.fits (m : Lm) (n : Int) (l : List Ent) : Prop := (n + m.pass n l - m.fl).toNat + (l.drop (m.pass n l)).length ≤ 4096 ∧ goodB (m.upto (n + m.pass n l - m.fl).toNat).tt (l.drop (m.pass n l)) = true
def JoinR (w w' : World) (g : Nat) (m : Lm) (n t : Int) (l : List Ent) (r : Ending) : Prop :=
  (m.meetsB n t l.length = false ∧ r = .returned (joV none false 0 0 (m.back n))) ∨
  (m.meetsB n t l.length = true ∧ m.pass n l = l.length ∧ r = .returned (joV (some g) true (n + l.length) 0 0)) ∨
  (m.meetsB n t l.length = true ∧ m.pass n l < l.length ∧ ¬ m.fits n l ∧ r = .returned (joV none false 0 0 (n + m.pass n l))) ∨
  (m.meetsB n t l.length = true ∧ m.pass n l < l.length ∧ m.fits n l ∧ ∃ g', r = .returned (joV (some g') true (n + l.length) (n + m.pass n l + 1) 0) ∧ w.heap.size ≤ g' ∧ Lg w' g' (m.joined n l))
theorem EArgs.drop {w : World} {x : Addr} {l : List Ent} (h : EArgs w (some x) l) (j : Nat) : EArgs w (some (x.add (j * 3))) (l.drop j) := by
  rcases h with h | ⟨p, off, e, h⟩
  · exact .inl (by rw [h]; simp)
  · cases e
    have e2 : (⟨p, off, none⟩ : Addr).add (j * 3) = ⟨p, off + j * 3, none⟩ := by unfold Addr.add; split <;> simp_all
    refine .inr ⟨p, off + j * 3, by rw [e2], fun i hi => ?_⟩
    rw [List.length_drop] at hi
    obtain ⟨h1, h2, ⟨y, c, h3, h4⟩, h5, h6, h7⟩ := h (j + i) (by omega)
    rw [List.getElem_drop]
    have e3 : off + j * 3 + i * 3 = off + (j + i) * 3 := by omega
    exact ⟨by rw [e3]; exact h1, by rw [e3]; exact h2, ⟨y, c, by rw [e3]; exact h3, h4⟩, h5, h6, h7⟩
theorem meets_bd {m : Lm} (hw : m.Wf) {n t : Int} {c : Nat} (hc : c ≤ 140737488355328) (h : m.meetsB n t c = true) : (m.fl : Int) - c ≤ n ∧ n ≤ (m.fl : Int) + m.l.length ∧ (m.low n < c ∨ m.low n = 0) := by
  unfold Lm.low
  by_cases h1 : n < m.fl
  · have e : m.meetsB n t c = decide ((m.fl : Int) - c < n) := if_pos h1
    rw [e] at h
    have := of_decide_eq_true h
    omega
  · have e : m.meetsB n t c = m.holdsB n t := if_neg h1
    rw [e] at h
    unfold Lm.holdsB at h
    rw [Bool.and_eq_true] at h
    have := of_decide_eq_true h.1
    omega
theorem holds_has {m : Lm} {n t : Int} (h : m.holdsB n t = true) : (m.fl : Int) ≤ n ∧ n ≤ (m.fl : Int) + m.l.length := by
  unfold Lm.holdsB at h
  rw [Bool.and_eq_true] at h
  exact of_decide_eq_true h.1
set_option maxHeartbeats 400000 in
theorem enJoin_nil (n t : Int) (a : Option Addr) (len cap : Nat) (w : World) :
    Calls Try.prog 37 #[.pointer none, .int .i64 n, .int .i64 t, .slice a len cap] w fun r w' => r = .returned (joV none false 0 0 0) ∧ Below w.heap.size w w' := by
  have A1 : Below w.heap.size w (w.alloc (.cells #[.pointer none, .bool false, .int .i64 0, .int .i64 0, .int .i64 0] 72)) := (Below.refl _ _).alloc (Nat.le_refl _) _
  have B1 : Blk (w.alloc (.cells #[.pointer none, .bool false, .int .i64 0, .int .i64 0, .int .i64 0] 72)) w.heap.size 72 [.pointer none, .bool false, .int .i64 0, .int .i64 0, .int .i64 0] := Blk.new' w _ _
  obtain ⟨y0, y1, y2, y3, y4⟩ := (eblk5 B1).1
  have F : Hid _ := And.intro A1 (And.intro y0 (And.intro y1 (And.intro y2 (And.intro y3 y4))))
  clear A1 B1 y0 y1 y2 y3 y4
  go_enter Try.func37, Try.ntmps37
  go_wp2
  obtain ⟨A1, y0, y1, y2, y3, y4⟩ := F.out
  generalize w.alloc (.cells #[.pointer none, .bool false, .int .i64 0, .int .i64 0, .int .i64 0] 72) = w1 at *
  refine bodyPost_ret (v := joV none false 0 0 0) (by simp [results, Try.results37, go_sem, y0, y1, y2, y3, y4, joV]) rfl ?_
  exact ⟨rfl, A1⟩
end Go.Proofs.Ytmcljbpemninlaa
