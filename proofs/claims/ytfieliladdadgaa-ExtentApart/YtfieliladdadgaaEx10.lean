/- Several changes, wholly or not at all. -/
import Derived.Test.YtfieliladdadgaaEx9
namespace Go.Proofs.Ytfieliladdadgaa
open Go.RowKit Go.MapKept Go.ChangeMaps
set_option linter.unusedVariables false
set_option maxRecDepth 4000

/-- changes as they lie in memory -/
structure CAt (W : World) (p off i : Nat) (r : Int × List (BitVec 8)) : Prop where
  num : I64 r.1
  lba : W.cell? ⟨p, off + i * 2, none⟩ = some (.int .i64 r.1)
  data : ∃ x c, W.cell? ⟨p, off + i * 2 + 1, none⟩ = some (.slice x r.2.length c) ∧ Row W x r.2
  len : r.2.length ≤ 140737488355328
def CArgs (W : World) (a : Option Addr) (l : List (Int × List (BitVec 8))) : Prop := l = [] ∨ ∃ p off, a = some ⟨p, off, none⟩ ∧ ∀ i (hi : i < l.length), CAt W p off i l[i]
theorem cell_lt {W : World} {y o : Nat} {v : Value} (hc : W.cell? ⟨y, o, none⟩ = some v) : y < W.heap.size := by
  rcases Nat.lt_or_ge y W.heap.size with h | h
  · exact h
  · simp [World.cell?, Array.getElem?_eq_none h] at hc
theorem CAt.turned {W W' : World} {p off i : Nat} {r : Int × List (BitVec 8)} {g b : Nat} {m : Im} (h : CAt W p off i r) (hok : (im g b m).Ok W) (ht : Turned (· ∈ (im g b m).W) W W') : CAt W' p off i r := by
  have hp := cells_not_map hok h.lba
  have hb : W'.heap[p]? = W.heap[p]? := ht.block p (cell_lt h.lba) (by simp [im]; exact hp)
  obtain ⟨x, c, h1, h2⟩ := h.data
  refine ⟨h.num, (World.cell?_of_block (w := W) (a := ⟨p, off + i * 2, none⟩) hb).trans h.lba, ⟨x, c, (World.cell?_of_block (w := W) (a := ⟨p, off + i * 2 + 1, none⟩) hb).trans h1, ?_⟩, h.len⟩
  rcases h2 with e | ⟨y, o, rfl, hc⟩
  · exact .inl e
  · by_cases hl : r.2.length = 0
    · exact .inl (List.eq_nil_of_length_eq_zero hl)
    · have h0 := hc 0 (by omega)
      exact Row.same (.inr ⟨y, o, rfl, hc⟩) (fun z hz => by cases hz; exact ht.block y (cell_lt h0) (by simp [im]; exact cells_not_map hok h0))
theorem CArgs.turned {W W' : World} {a : Option Addr} {l : List (Int × List (BitVec 8))} {g b : Nat} {m : Im} (h : CArgs W a l) (hok : (im g b m).Ok W) (ht : Turned (· ∈ (im g b m).W) W W') : CArgs W' a l := by
  rcases h with h | ⟨p, off, rfl, h⟩
  · exact .inl h
  · exact .inr ⟨p, off, rfl, fun i hi => (h i hi).turned hok ht⟩
def canAll (n : Nat) (l : List (Int × List (BitVec 8))) : Bool := l.all (fun r => canB n r.1 r.2.length)
def chAll (m : Im) (l : List (Int × List (BitVec 8))) : Im := l.foldl (fun m r => chI m r.1.toNat r.2) m
theorem chAll_n (m : Im) (l : List (Int × List (BitVec 8))) : (chAll m l).n = m.n := by
  unfold chAll
  induction l generalizing m with
  | nil => rfl
  | cons r l ih => exact ih (chI m r.1.toNat r.2)
theorem chAll_snoc (m : Im) (l : List (Int × List (BitVec 8))) (r : Int × List (BitVec 8)) : chAll m (l ++ [r]) = chI (chAll m l) r.1.toNat r.2 := by unfold chAll; rw [List.foldl_append]; rfl
theorem canB_yes {n : Nat} {a : Int} {len : Nat} (h : canB n a len = true) : ∃ x : Nat, a = x ∧ x < n ∧ (len = 0 ∨ len = 64) := by
  unfold canB at h
  rw [Bool.and_eq_true] at h
  obtain ⟨x, y, hx, hy, hxy⟩ := spansB_yes h.1
  refine ⟨x, hx, by omega, ?_⟩
  have := h.2
  simp at this
  exact this
/-- one change that can be -/
theorem change_any (g b : Nat) (m : Im) (r : Int × List (BitVec 8)) (x : Option Addr) (cap : Nat) (w : World) (h : (im g b m).Ok w) (hw : m.Wf) (hc : canB m.n r.1 r.2.length = true) (hr : Row w x r.2) :
    Calls Try.prog 29 #[.pointer (some ⟨g, 0, none⟩), .agg #[.int .i64 r.1, .slice x r.2.length cap]] w fun e w' => e = .returned (.tuple #[]) ∧ Step w w' (im g b m) (im g b (chI m r.1.toNat r.2)) := by
  obtain ⟨q, hq, hqn, h0⟩ := canB_yes hc
  have hm := hw.most
  obtain ⟨ra, rl⟩ := r
  simp only at hq h0 hr ⊢
  subst hq
  rw [Int.toNat_natCast]
  rcases h0 with h0 | h0
  · exact change_none g b m q x rl.length cap rl w h (by omega) rfl h0 hr
  · exact change_some g b m q x rl.length cap rl w h (by omega) rfl h0 hr
theorem chI_wf {m : Im} (h : m.Wf) {r : Int × List (BitVec 8)} (hc : canB m.n r.1 r.2.length = true) : (chI m r.1.toNat r.2).Wf := by
  obtain ⟨q, hq, hqn, h0⟩ := canB_yes hc
  unfold chI
  refine putI_wf h (by rw [hq, Int.toNat_natCast]; exact hqn) (fun l hl => ?_)
  split at hl
  · cases hl
  · rename_i hne
    cases hl
    rcases h0 with h0 | h0
    · exact absurd (List.eq_nil_of_length_eq_zero h0) hne
    · exact h0
theorem chAll_wf {m : Im} (h : m.Wf) {l : List (Int × List (BitVec 8))} (hc : canAll m.n l = true) : (chAll m l).Wf := by
  unfold chAll
  induction l generalizing m with
  | nil => exact h
  | cons r l ih =>
    unfold canAll at hc
    rw [List.all_cons, Bool.and_eq_true] at hc
    exact ih (chI_wf h hc.1) hc.2
end Go.Proofs.Ytfieliladdadgaa
