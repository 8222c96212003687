/- Which pieces are there behind an Add; Id. -/
import Derived.Test.YtdagekciipfnoaaXCk19
namespace Go.Proofs.Ytdagekciipfnoaa
open Go.RowKit Go.Shelf
set_option linter.unusedVariables false
set_option linter.unusedSimpArgs false
set_option maxRecDepth 4000

/-- which pieces are there -/
def th (m : CR) : List Bool := m.ps.map Option.isSome
theorem th_len (m : CR) : (th m).length = m.ps.length := by unfold th; rw [List.length_map]
theorem th_setPc (m : CR) (i : Nat) (d : List (BitVec 8)) (hi : i < m.ps.length) : th (setPc m i d) = (th m).set i true := by
  unfold th setPc
  split
  · show (m.ps.set i (some d)).map Option.isSome = _
    rw [List.map_set]; rfl
  · next hne =>
    refine List.ext_getElem (by simp) (fun j h1 h2 => ?_)
    rw [List.length_map] at h1
    by_cases hij : i = j
    · subst hij
      rw [List.getElem_set_self, List.getElem_map]
      cases hq : m.ps[i] with
      | some _ => rfl
      | none => exact absurd (by rw [List.getElem?_eq_getElem h1, hq]) hne
    · rw [List.getElem_set_ne hij]
theorem addP_th {m : CR} {id : Int} {b : List (BitVec 8)} {s : Nat} (h : GI m id b s) (i : Nat) (hi : i < npc b.length s) : th (addP m id b s i) = (th m).set i true := by
  have hn : ¬ m.id < id := by rw [h.id]; omega
  unfold addP gm
  rw [if_neg hn]
  exact th_setPc m i _ (by rw [h.len]; exact hi)
theorem addP_th0 {m : CR} {id : Int} {b : List (BitVec 8)} {s : Nat} (h : m.id < id) (i : Nat) (hi : i < npc b.length s) : th (addP m id b s i) = (List.replicate (npc b.length s) false).set i true := by
  unfold addP gm
  rw [if_pos h]
  refine (th_setPc _ i _ (by simp [begM]; exact hi)).trans ?_
  unfold th begM
  simp
/-- the first k are there -/
def Fst (m : CR) (k : Nat) : Prop := ∀ i, i < k → (th m)[i]? = some true
theorem Fst.succ {m : CR} {id : Int} {b : List (BitVec 8)} {s k : Nat} (h : (k = 0 ∧ m.id < id) ∨ (GI m id b s ∧ Fst m k)) (hk : k < npc b.length s) : GI (addP m id b s k) id b s ∧ Fst (addP m id b s k) (k + 1) := by
  refine ⟨addP_GI (h.imp And.right And.left) k, fun i hi => ?_⟩
  rcases h with ⟨rfl, h⟩ | ⟨h, hf⟩
  · obtain rfl : i = 0 := by omega
    rw [addP_th0 h 0 hk, List.getElem?_set_self (by simp; exact hk)]
  · rw [addP_th h k hk]
    by_cases e : k = i
    · subst e
      rw [List.getElem?_set_self (by rw [th_len, h.len]; exact hk)]
    · rw [List.getElem?_set_ne e]
      exact hf i (by omega)
theorem Fst.all {m : CR} (h : Fst m m.ps.length) : (m.ps.map Option.isSome).any (fun b => !b) = false := by
  rw [List.any_eq_false]
  intro x hx
  obtain ⟨i, hi, rfl⟩ := List.getElem_of_mem hx
  rw [List.length_map] at hi
  have := h i hi
  unfold th at this
  rw [List.getElem?_eq_getElem (by rw [List.length_map]; exact hi)] at this
  injection this with e
  rw [e]; decide
theorem crId_any (p : CPl) (m : CR) (w : World) (h : (crOb p m).Ok w) : Calls Try.prog 15 #[.pointer (some ⟨p.g, 0, none⟩)] w fun e w' => e = .returned (.int .i64 m.id) ∧ w = w' := by
  have y0 := blk_at h.holds.blk 0
  simp only [List.getElem?_cons_zero, List.getElem?_cons_succ] at y0
  generalize p.g = g at *
  clear h
  go_enter Try.func15, Try.ntmps15
  go_wp2
  go_ret
  exact ⟨rfl, rfl⟩
theorem wholeZ {B : Nat} {rest : List Ob} {w : World} {p : CPl} {m : CR} {id : Int} {b : List (BitVec 8)} {s : Nat} (hI : Img id b s) (Z : Sep B (crOb p m :: rest) w) (hG : GI m id b s) (hF : Fst m (npc b.length s)) :
    Calls Try.prog 13 #[.pointer (some ⟨p.g, 0, none⟩)] w fun e w' => ∃ z, e = .returned (.tuple #[z, .bool true]) ∧ Own w' w.heap.size z b ∧ Below w.heap.size w w' := by
  have hx : (m.ps.map Option.isSome).any (fun b => !b) = false := Fst.all (by rw [hG.len]; exact hF)
  have hfl := hG.whole hI.s1 hx
  have h1 := npc_1 b.length s
  have := hI.pos
  have h := whole_yes p m w Z.head (by rw [hG.id]; omega) (by rw [hG.len]; omega) (by rw [hG.len]; exact hI.n) (Nat.le_trans (hG.lenOf_le hI.s1) hI.bl) hx (by rw [hfl]; exact hG.sum)
  rw [hfl] at h
  exact h
end Go.Proofs.Ytdagekciipfnoaa

