/- One entry that came in. -/
import Derived.Test.YtgjcgnmomdanaaaXEnA
namespace Go.Proofs.Ytgjcgnmomdanaaa
open Go.ChangeShapes Go.WideShapes Go.ChangeAt Go.RowKit Go.Deep
set_option linter.unusedVariables false
set_option maxRecDepth 100000

theorem open_ent {H : Type} {enc : TypeId × Value → H} {W : World} {r : Reach} {b0 : Nat} {v : Value} {d : DataW H} {p : List MemPlace} {ts : List TypeId} {ds : List (DataW H)} {j : Nat}
    (hv : Value.okWide Try.prog W r b0 49 v) (h : DataW.Trod enc Try.prog W 0 (fun _ => true) true 49 v d p)
    (hsz : (DataW.weightsEach Try.prog ts ds).all (· ≤ reachBytes) = true) (ht : ts[j]? = some 49) (hd : ds[j]? = some d) :
    ∃ (k t : Int) (l : List (BitVec 8)) (x : Option Addr) (c : Nat), v = .agg #[.int .i64 k, .int .i64 t, .slice x l.length c] ∧ I64 k ∧ I64 t ∧ Row W x l ∧ l.length ≤ c ∧ (x = none → c = 0) ∧ l.length ≤ 140737488351232 := by
  obtain ⟨f0, f1, f2, hu, _⟩ := under_ent
  obtain ⟨cs, rfl, hcs⟩ := okWide_struct hu hv
  obtain ⟨fuel, hf⟩ := h
  rw [cells_ent] at hcs
  obtain ⟨e, x, c, he, hO⟩ := open_ent_cells (cs := cs.toList) (by simpa using hcs) hf (fun m hm => by
    have := List.all_eq_true.1 hsz _ (DataW.weights_mem_each ht hd _ hm)
    simpa using this)
  exact ⟨e.1, e.2.1, e.2.2, x, c, by rw [← he], hO⟩
end Go.Proofs.Ytgjcgnmomdanaaa

