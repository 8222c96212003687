/- The bytes of an operation are no longer than what an argument reaches. -/
import Derived.Test.YtkajedabcedifabFieldOps
import Derived.SizedLaws
namespace Go.Proofs.Ytkajedabcedifab
open Go.ChangeShapes Go.WideShapes Go.ChangeAt Go.RowKit Go.Deep

theorem all_weights {H : Type} {P : Program} {e : TypeId} {l : List (DataW H)} {d : DataW H} (h : d ∈ l) : ∀ n ∈ d.weights P e, n ∈ DataW.weightsAll P e l := by
  induction l with
  | nil => cases h
  | cons x r ih =>
    intro n hn
    rw [DataW.weightsAll]
    rcases List.mem_cons.1 h with e | e
    · subst e; exact List.mem_append_left _ hn
    · exact List.mem_append_right _ (ih e n hn)

theorem open_ops_sized {H : Type} {enc : TypeId × Value → H} {W : World} {r : Reach} {b0 : Nat} {v : Value} {d : DataW H} {p : List MemPlace} {ts : List TypeId} {ds : List (DataW H)} {j : Nat}
    (hv : Value.okWide Try.prog W r b0 49 v) (h : DataW.Trod enc Try.prog W 0 (fun _ => true) true 49 v d p)
    (hsz : (DataW.weightsEach Try.prog ts ds).all (· ≤ reachBytes) = true) (ht : ts[j]? = some 49) (hd : ds[j]? = some d) :
    ∃ a len cap, v = .slice a len cap ∧ Ops (fun u => ∃ ap lp cp l, u = .slice ap lp cp ∧ Arg 140737488351232 W ap lp cp l) W a len cap := by
  obtain ⟨a, len, cap, rfl, ho⟩ := open_ops hv h
  obtain ⟨f0, f1, f2, f3, hu, _, _, ⟨_, _, _, u3⟩⟩ := under_op
  refine ⟨a, len, cap, rfl, ho.mono ?_⟩
  rintro u ⟨ap, lp, cp, l, dP, es, sp, e, rfl, he, ⟨d0, d1, d2, rfl⟩, rfl, hA, hP⟩
  refine ⟨ap, lp, cp, l, rfl, hA _ ?_⟩
  rcases hP with ⟨_, rfl⟩ | ⟨es', sp', rfl, rfl⟩
  · omega
  · have m1 : (es'.length + sp'.length) * 1 ∈ DataW.weights Try.prog 22 (DataW.slice es' sp') := by
      simp [DataW.weights, Try.underlying22, bytes_u8]
    have m2 : (es'.length + sp'.length) * 1 ∈ DataW.weights Try.prog 56 (DataW.agg [d0, d1, d2, DataW.slice es' sp']) := by
      rw [DataW.weights, hu]
      exact DataW.weights_mem_each (j := 3) (t := 22) (by simp [u3]) (by rfl) _ m1
    have m3 : (es'.length + sp'.length) * 1 ∈ DataW.weights Try.prog 49 (DataW.slice es sp) := by
      rw [DataW.weights, Try.underlying49]
      exact List.mem_cons_of_mem _ (List.mem_append_left _ (all_weights he _ m2))
    have m4 := List.all_eq_true.1 hsz _ (DataW.weights_mem_each ht hd _ m3)
    have m5 : (es'.length + sp'.length) * 1 ≤ reachBytes := by simpa using m4
    unfold reachBytes at m5
    omega
end Go.Proofs.Ytkajedabcedifab
