/- What is counted; letters that are looked at. -/
import Derived.Test.YtligmiajlbjecaaDoorXWo1
import Derived.Test.YtligmiajlbjecaaDoorXDkW4
import Derived.Maps.AppendAt
namespace Go.Proofs.YtligmiajlbjecaaDoor
open Go.RowKit
set_option linter.unusedVariables false
set_option maxRecDepth 4000

theorem wset3 {w : World} {g : Nat} {T : TypeId} {a b c : Value} (M : Blk w g T [a, b, c]) (x y z : Value) (B : Nat) (W0 : World) (hb : Below B W0 w) (hB : B ≤ g) (hs : B ≤ w.heap.size) :
    Blk (((w.setCell ⟨g, 0, none⟩ x).setCell ⟨g, 1, none⟩ y).setCell ⟨g, 2, none⟩ z) g T [x, y, z] ∧ Below B W0 (((w.setCell ⟨g, 0, none⟩ x).setCell ⟨g, 1, none⟩ y).setCell ⟨g, 2, none⟩ z) :=
  ⟨by simpa using ((M.set 0 x).set 1 y).set 2 z, (((hb.trans (grown_below (grown_set w g 0 _) _ hB hs)).trans (grown_below (grown_set _ g 1 _) _ hB (by simpa [World.setCell] using hs))).trans (grown_below (grown_set _ g 2 _) _ hB (by simpa [World.setCell] using hs)))⟩
theorem wset3_block (w : World) (g : Nat) (x y z : Value) (k : Nat) (h : k ≠ g) : (((w.setCell ⟨g, 0, none⟩ x).setCell ⟨g, 1, none⟩ y).setCell ⟨g, 2, none⟩ z).heap[k]? = w.heap[k]? := by
  rw [Below.heap_setCell _ _ _ _ h, Below.heap_setCell _ _ _ _ h, Below.heap_setCell _ _ _ _ h]
theorem wblk3 {w : World} {g : Nat} {T : TypeId} {a b c : Value} (M : Blk w g T [a, b, c]) : (w.cell? ⟨g, 0, none⟩ = some a ∧ w.cell? ⟨g, 1, none⟩ = some b ∧ w.cell? ⟨g, 2, none⟩ = some c) ∧ w.frozen? ⟨g, 0, none⟩ = false ∧ w.frozen? ⟨g, 1, none⟩ = false ∧ w.frozen? ⟨g, 2, none⟩ = false :=
  ⟨⟨M.cell (by simp [maxLen]) 0 (by simp), M.cell (by simp [maxLen]) 1 (by simp), M.cell (by simp [maxLen]) 2 (by simp)⟩, M.frozen (by simp [maxLen]) 0, M.frozen (by simp [maxLen]) 1, M.frozen (by simp [maxLen]) 2⟩





theorem wo_form {w : World} {base size n : Nat} {e : TypeId} {v : Value} {xs : List Value} (h : w.ownsRow base e size v n xs) : ∃ a c, v = .slice a n c := by
  obtain ⟨_, ⟨h1, h2⟩ | ⟨g, cap, cur, h1, _⟩⟩ := h
  · exact ⟨_, _, h2 ▸ h1⟩
  · exact ⟨_, _, h1⟩

/-- is there such a letter? -/
def Wm.letE (m : Wm) (k : Int) : Int := if 0 ≤ k ∧ k < m.fl.length then 0 else 1


end Go.Proofs.YtligmiajlbjecaaDoor

/- Letters that are looked at. -/
namespace Go.Proofs.YtligmiajlbjecaaDoor
open Go.RowKit
set_option linter.unusedVariables false
set_option maxRecDepth 4000


def lv (x y : Nat) (v : Value) : Value := .agg #[.int .i64 x, .int .i64 y, v]


end Go.Proofs.YtligmiajlbjecaaDoor

/- Letters that are sent, and doubled. -/
namespace Go.Proofs.YtligmiajlbjecaaDoor
open Go.RowKit
set_option linter.unusedVariables false
set_option maxRecDepth 4000




section
variable {w w2 w5 : World} {g : Nat} {p : Wp} {m : Wm} {fv fv' : Value} {vs us : List Value} {l : Lt} {ks : List Nat}




end



end Go.Proofs.YtligmiajlbjecaaDoor
