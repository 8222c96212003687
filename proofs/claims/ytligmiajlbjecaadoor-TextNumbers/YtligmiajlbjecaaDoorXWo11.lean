/- Letters that come. -/
import Derived.Test.YtligmiajlbjecaaDoorXWo10
namespace Go.Proofs.YtligmiajlbjecaaDoor
open Go.RowKit
set_option linter.unusedVariables false
set_option maxRecDepth 4000

def lz : Value := .agg #[.int .i64 0, .int .i64 0, .slice none 0 0]

theorem step_set3 {w w' : World} {o o' : Ob} (s : Step w w' o o') (g : Nat) (hg : g < w'.heap.size) (hn : w.heap.size ≤ g) (hW : g ∉ o'.W) (hV : g ∉ o'.V) (x y z : Value) :
    Step w (((w'.setCell ⟨g, 0, none⟩ x).setCell ⟨g, 1, none⟩ y).setCell ⟨g, 2, none⟩ z) o o' := by
  have hb := wset3_block w' g x y z
  have hz : (((w'.setCell ⟨g, 0, none⟩ x).setCell ⟨g, 1, none⟩ y).setCell ⟨g, 2, none⟩ z).heap.size = w'.heap.size := by simp [World.setCell]
  refine ⟨⟨s.turned.os, s.turned.tape, s.turned.output, by have := s.turned.size; omega, fun k hk hn' => ?_⟩, ⟨s.ok.stable _ _ (fun k hk => hb k (fun e => ?_)) s.ok.holds, fun k hk => by rw [hz]; exact s.ok.lt k hk, s.ok.apart, s.ok.stable⟩, s.writes, s.reads⟩
  · rw [hb k (by omega)]; exact s.turned.block k hk hn'
  · subst e; rcases hk with hk | hk; exact hW hk; exact hV hk



end Go.Proofs.YtligmiajlbjecaaDoor

