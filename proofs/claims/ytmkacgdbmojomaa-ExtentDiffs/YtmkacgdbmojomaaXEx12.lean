/- Blocks held against each other. -/
import Derived.Test.YtmkacgdbmojomaaXEx2
import Derived.ChangeKeysEq
namespace Go.Proofs.Ytmkacgdbmojomaa
open Go.RowKit Go.MapKept Go.ChangeMaps
set_option linter.unusedVariables false
set_option maxRecDepth 4000

theorem eqItems_blk (a b : List (BitVec 8)) (w : World) : ∀ (L : List Nat), (∀ i ∈ L, i < a.length ∧ i < b.length) →
    (Op.eqItems 9999 5 1 (vals a).toArray (vals b).toArray L).run Try.prog w = .ok (L.all (fun i => decide (bt a i = bt b i))) w
  | [], _ => rfl
  | i :: L, h => by
    obtain ⟨h1, h2⟩ := h i (by simp)
    have p1 : (part 5 (vals a).toArray (i * 1)).run Try.prog w = .ok (.int .u8 (bt a i)) w := run_part_plain w plain_u8 (by rw [Nat.mul_one]; simpa using vals_at a i h1)
    have p2 : (part 5 (vals b).toArray (i * 1)).run Try.prog w = .ok (.int .u8 (bt b i)) w := run_part_plain w plain_u8 (by rw [Nat.mul_one]; simpa using vals_at b i h2)
    have he := run_equalIn_int (P := Try.prog) w 9998 5 .u8 .u8 (bt a i) (bt b i) Try.underlying5
    have ih := eqItems_blk a b w L (fun j hj => h j (List.mem_cons_of_mem _ hj))
    simp only [Op.eqItems, Sem.run_bind, p1, p2, he, Result.andThen_ok, List.all_cons]
    by_cases e : bt a i = bt b i
    · simp [e, ih]
    · have : (bt a i == bt b i) = false := by simpa using e
      simp [this, e]
theorem bt_ext {a b : List (BitVec 8)} (hl : a.length = b.length) (h : ∀ i, i < a.length → bt a i = bt b i) : a = b := by
  apply List.ext_getElem hl
  intro i h1 h2
  have := h i h1
  unfold bt at this
  rw [List.getD, List.getD, List.getElem?_eq_getElem h1, List.getElem?_eq_getElem h2] at this
  simp only [Option.getD_some] at this
  exact BitVec.eq_of_toNat_eq (by omega)
theorem equal_blk (a b : List (BitVec 8)) (ha : a.length = 64) (hb : b.length = 64) (w : World) :
    (Op.equalIn 10000 77 (arrV a) (arrV b)).run Try.prog w = .ok (decide (a = b)) w := by
  obtain ⟨i, hi, -, -, -⟩ := info_parts info_u8
  unfold arrV
  rw [run_equalIn_array w 9999 (e := 5) (n := 64) (i := i) _ _ und_blk hi, cells_u8, eqItems_blk a b w (List.range 64) (fun i hi => by have := List.mem_range.1 hi; omega)]
  congr 1
  rw [Bool.eq_iff_iff, List.all_eq_true]
  simp only [decide_eq_true_eq, List.mem_range]
  exact ⟨fun h => bt_ext (by omega) (fun i hi => h i (by omega)), fun h i _ => by rw [h]⟩
end Go.Proofs.Ytmkacgdbmojomaa

