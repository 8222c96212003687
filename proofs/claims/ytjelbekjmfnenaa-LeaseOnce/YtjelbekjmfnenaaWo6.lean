/- Letters that are looked at. -/
import Derived.Test.YtjelbekjmfnenaaWo5
namespace Go.Proofs.Ytjelbekjmfnenaa
open Go.RowKit
set_option linter.unusedVariables false
set_option maxRecDepth 4000

theorem wo_letter {w : World} {g c : Nat} {V : List Nat} {fv : Value} {vs : List Value} {m : Wm} (h : WoAt w g c V fv vs m) (k : Nat) (hk : k < m.fl.length) :
    ∃ qb qc a cap, fv = .slice (some ⟨qb, 0, none⟩) m.fl.length qc ∧ m.fl.length ≤ qc ∧ w.cell? ⟨qb, k * 3, none⟩ = some (.int .i64 (m.fl[k].1 : Nat)) ∧ w.cell? ⟨qb, k * 3 + 1, none⟩ = some (.int .i64 (m.fl[k].2.1 : Nat)) ∧ w.cell? ⟨qb, k * 3 + 2, none⟩ = some (.slice a m.fl[k].2.2.length cap) ∧
      m.fl[k].2.2.length ≤ cap ∧ Row w a m.fl[k].2.2 ∧ (a = none → cap = 0) ∧ ∀ y, a = some y → y.block ∈ V := by
  obtain ⟨a, cap, e0, e1, e2, r1, r2, r3, r4⟩ := h.each.get k hk
  have hl := h.each.length
  have hL := h.letters
  obtain ⟨h1, ⟨h2, h3⟩ | ⟨qb, qc, cur, rfl, hb, hh, hc, hm, hs, ht⟩⟩ := id hL
  · omega
  · have f : ∀ i, i < m.fl.length * 3 → w.cell? ⟨qb, i, none⟩ = vs[i]? := fun i hi => World.ownsRow.cellAt hL i hi
    exact ⟨qb, qc, a, cap, rfl, hc, (f _ (by omega)).trans e0, (f _ (by omega)).trans e1, (f _ (by omega)).trans e2, r1, r2, r3, r4⟩

def lv (x y : Nat) (v : Value) : Value := .agg #[.int .i64 x, .int .i64 y, v]


end Go.Proofs.Ytjelbekjmfnenaa
