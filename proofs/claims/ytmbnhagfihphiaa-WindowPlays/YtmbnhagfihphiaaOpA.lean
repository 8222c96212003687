/- Bytes within what came in. -/
import Derived.Test.YtmbnhagfihphiaaWrap
import Derived.Test.YtmbnhagfihphiaaMp
import Derived.Deep.SlicePairs
namespace Go.Proofs.Ytmbnhagfihphiaa
open Go.ChangeShapes Go.WideShapes Go.ChangeAt Go.RowKit Go.Deep
set_option linter.unusedVariables false
set_option maxRecDepth 100000


theorem opn_add (b off i : Nat) : (⟨b, off, none⟩ : Addr).add i = ⟨b, off + i, none⟩ := by unfold Addr.add; split <;> simp_all
theorem opn_weights {H : Type} {P : Program} {e : TypeId} {l : List (DataW H)} {d : DataW H} (h : d ∈ l) : ∀ n ∈ d.weights P e, n ∈ DataW.weightsAll P e l := by
  induction l with
  | nil => cases h
  | cons x r ih =>
    intro n hn
    rw [DataW.weightsAll]
    rcases List.mem_cons.1 h with e | e
    · subst e; exact List.mem_append_left _ hn
    · exact List.mem_append_right _ (ih e n hn)
/-- bytes that came in within something -/
structure DatOk (W : World) (x : Option Addr) (l : List (BitVec 8)) (c : Nat) : Prop where
  row : Row W x l
  le : l.length ≤ c
  nil : x = none → c = 0
  most : l.length ≤ 140737488351232
theorem DatOk.later {w w' : World} {x : Option Addr} {l : List (BitVec 8)} {c : Nat} (h : DatOk w x l c) (hb : Below w.heap.size w w') : DatOk w' x l c := ⟨h.row.later hb, h.le, h.nil, h.most⟩

end Go.Proofs.Ytmbnhagfihphiaa
