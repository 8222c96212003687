/- A command is taken out of a slice. -/
import Derived.Test.YtligmiajlbjecaaDoorXWd2
namespace Go.Proofs.YtligmiajlbjecaaDoor
open Go.RowKit
set_option linter.unusedVariables false
set_option linter.unusedSimpArgs false
set_option maxRecDepth 4000

/-- an append with room -/
theorem room_run {α : Type} {K : Kd α} {w : World} {m : List α} (hK : K.Ok) (b off cap : Nat) (cur : List Value) (l : List α) (hB : Blk w b K.E cur) (hfit : off + cap * K.s ≤ cur.length) (h7 : (cur.drop off).take (l.length * K.s) = K.cs l)
    (ad : Addr) (c : Nat) (hnews : ∀ j u, (K.cs m)[j]? = some u → w.cell? (ad.add j) = some u) (hroom : l.length + m.length ≤ cap) (ty : TypeId) :
    ∃ w' cur', (Builtin.append_ #[K.T, K.T] ty #[.slice (some ⟨b, off, none⟩) l.length cap, .slice (some ad) m.length c]).run Tryd.prog w = .ok (.slice (some ⟨b, off, none⟩) (l.length + m.length) cap) w' ∧ Blk w' b K.E cur' ∧ cur'.length = cur.length ∧ (cur'.drop off).take ((l.length + m.length) * K.s) = K.cs (l ++ m) ∧ w.grownBy w' (some b) := by
  obtain ⟨i0, hi, hz0, hz1, hz2⟩ := info_parts hK.info
  have hln := Kd.cs_length hK m
  have hf : off + l.length * K.s + (K.cs m).length ≤ cur.length := by
    have : (l.length + m.length) * K.s ≤ cap * K.s := Nat.mul_le_mul_right _ hroom
    rw [Nat.add_mul] at this; omega
  have hr := run_append_room_cells (P := Tryd.prog) w K.T ty K.E i0 hK.und hi b off l.length cap ad m.length c (K.cs m) (by rw [hz1]; exact hln) hnews (Kd.cs_one hK m) hroom
    (fun j hj => by rw [hz1, blk_at hB, List.getElem?_eq_getElem (by omega)]; rfl) (fun j hj => blk_frozen hB _)
  rw [hz1] at hr
  obtain ⟨B1, g1⟩ := Blk.setCells (K.cs m) (off + l.length * K.s) w cur hB hf
  refine ⟨_, _, hr, B1, length_splice _ _ _ (by omega), ?_, g1⟩
  have := splice_mid h7 (Kd.cs_length hK l) (D := K.cs m) (by omega)
  rw [hln, ← Nat.add_mul] at this
  rw [this, Kd.cs_append]


theorem splice_front {cur D : List Value} {off n p : Nat} (h : off + n ≤ p) (hp : p ≤ cur.length) : ((splice cur p D).drop off).take n = (cur.drop off).take n := by
  apply List.ext_getElem?
  intro i
  rw [List.getElem?_take, List.getElem?_take]
  by_cases hi : i < n
  · rw [if_pos hi, if_pos hi, List.getElem?_drop, List.getElem?_drop]
    unfold splice
    rw [List.getElem?_append_left (by rw [List.length_take]; omega), List.getElem?_take, if_pos (by omega)]
  · rw [if_neg hi, if_neg hi]

end Go.Proofs.YtligmiajlbjecaaDoor

