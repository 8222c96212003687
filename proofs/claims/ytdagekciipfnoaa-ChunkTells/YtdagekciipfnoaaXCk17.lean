/- The pieces of an image in memory, beside a reader. -/
import Derived.Test.YtdagekciipfnoaaXCk16
namespace Go.Proofs.Ytdagekciipfnoaa
open Go.RowKit Go.Shelf
set_option linter.unusedVariables false
set_option linter.unusedSimpArgs false
set_option maxRecDepth 4000

structure PcsL (w : World) (D : Nat) (vs : List Value) (ls : List (List (BitVec 8))) : Prop where
  blk : Blk w D 22 vs
  len : vs.length = ls.length
  each : ∀ i (h : i < ls.length), ∃ v, vs[i]? = some v ∧ Own w 0 v ls[i]
/-- pieces that are only read -/
def pcsOb (D : Nat) (vs : List Value) (ls : List (List (BitVec 8))) : Ob := ⟨[], D :: vs.filterMap (·.ownBlock), fun w => PcsL w D vs ls⟩
theorem PcsL.mem {w : World} {D : Nat} {vs : List Value} {ls : List (List (BitVec 8))} (h : PcsL w D vs ls) {k : Nat} (hk : k ∈ D :: vs.filterMap (·.ownBlock)) : k < w.heap.size := by
  rcases List.mem_cons.1 hk with rfl | hk
  · exact h.blk.lt
  · obtain ⟨v, hv, e⟩ := List.mem_filterMap.1 hk
    obtain ⟨i, hi, rfl⟩ := List.getElem_of_mem hv
    obtain ⟨u, hu, ho⟩ := h.each i (by rw [← h.len]; exact hi)
    rw [List.getElem?_eq_getElem hi] at hu
    cases hu
    exact (World.ownsRow.lt ho k e).2
theorem pcsOb_ok {w : World} {D : Nat} {vs : List Value} {ls : List (List (BitVec 8))} (h : PcsL w D vs ls) : (pcsOb D vs ls).Ok w := by
  refine ⟨h, fun k hk => ?_, (fun k hk => by cases hk), fun w1 w2 hs h => ⟨?_, h.len, fun i hi => ?_⟩⟩
  · rcases hk with hk | hk
    · cases hk
    · exact h.mem hk
  · have := h.blk
    unfold Blk at *
    rw [hs D (.inr (by simp [pcsOb]))]; exact this
  · obtain ⟨v, hv, ho⟩ := h.each i hi
    exact ⟨v, hv, Own.same ho (fun k hk => hs k (.inr (List.mem_cons_of_mem _ (List.mem_filterMap.2 ⟨v, List.mem_of_getElem? hv, hk⟩))))⟩
theorem Pcs.ob {w : World} {base D : Nat} {vs : List Value} {ls : List (List (BitVec 8))} (h : Pcs w base D vs ls) (hl : vs.length = ls.length) : (pcsOb D vs ls).Ok w :=
  pcsOb_ok ⟨h.blk, hl, fun i hi => by obtain ⟨v, e, ho⟩ := h.each i hi; exact ⟨v, e, ho.lower (Nat.zero_le _)⟩⟩
theorem splL_at {id : Int} {b : List (BitVec 8)} {s n i : Nat} (h : i < (splL id b s n).length) : (splL id b s n)[i] = pieceI id b s i := by
  have : (splL id b s n)[i]? = some (pieceI id b s i) := by
    have hi : i < n := by unfold splL at h; simpa using h
    unfold splL; rw [List.getElem?_map, List.getElem?_range hi]; rfl
  rw [List.getElem?_eq_getElem h] at this
  exact Option.some.inj this
theorem splL_len {id : Int} {b : List (BitVec 8)} {s n : Nat} : (splL id b s n).length = n := by unfold splL; simp
/-- the piece i, where it lies -/
theorem pcs_at {w : World} {D : Nat} {vs : List Value} {id : Int} {b : List (BitVec 8)} {s n : Nat} (h : (pcsOb D vs (splL id b s n)).Ok w) (i : Nat) (hi : i < n) : ∃ v, vs[i]? = some v ∧ w.cell? ⟨D, i, none⟩ = some v ∧ Own w 0 v (pieceI id b s i) := by
  obtain ⟨v, hv, ho⟩ := h.holds.each i (by rw [splL_len]; exact hi)
  rw [splL_at] at ho
  exact ⟨v, hv, by rw [blk_at h.holds.blk i]; exact hv, ho⟩
/-- a piece is added -/
theorem addZ {B : Nat} {rest : List Ob} {w : World} {p : CPl} {m : CR} {D : Nat} {vs : List Value} {id : Int} {b : List (BitVec 8)} {s : Nat} (hI : Img id b s) (Z : Sep B (crOb p m :: pcsOb D vs (splL id b s (npc b.length s)) :: rest) w) (i : Nat) (hi : i < npc b.length s) (v : Value) (hv : vs[i]? = some v) (hm : m.id < id ∨ GI m id b s) (had : m.ad ≤ 1000000000) :
    Calls Try.prog 12 #[.pointer (some ⟨p.g, 0, none⟩), v] w fun e w' => e = .returned (.int .i64 0) ∧ ∃ p', p'.g = p.g ∧ Sep B (crOb p' (addP m id b s i) :: pcsOb D vs (splL id b s (npc b.length s)) :: rest) w' ∧ Below B w w' := by
  obtain ⟨u, hu, -, ho⟩ := pcs_at (D := D) (vs := vs) (id := id) (b := b) (s := s) (Z.each _ (List.mem_cons_of_mem _ (List.mem_cons_self ..))) i hi
  rw [hv] at hu
  cases hu
  refine (addPiece_any p m id b s i 0 v w hI hi ho Z.head hm had).mono ?_
  rintro e w' ⟨rfl, p', q1, st⟩
  exact ⟨rfl, p', q1, Z.step st, Z.below st⟩
/-- a new reader beside pieces -/
theorem newZ {B : Nat} {l : List Ob} {w : World} (Z : Sep B l w) : Calls Try.prog 10 #[] w fun e w' => ∃ p, e = .returned (.pointer (some ⟨p.g, 0, none⟩)) ∧ Sep B (crOb p ⟨0, 0, [], 0⟩ :: l) w' ∧ Below w.heap.size w w' := by
  refine (crNew_any w).mono ?_
  rintro e w' ⟨rfl, hok, hb⟩
  refine ⟨⟨w.heap.size, 0, 0, []⟩, rfl, Z.fresh hb hok (fun k hk => ?_), hb⟩
  rcases hk with hk | hk
  · simp [crOb] at hk; omega
  · cases hk
def abc : List (BitVec 8) := [97#8, 98#8, 99#8, 100#8, 101#8]
theorem abc_img : Img 1 abc 2 := ⟨by decide, by decide, by decide, by decide, by decide⟩
theorem own7_strs {w : World} {base : Nat} {v : Value} {l : List (BitVec 8)} (h : Own w base v l) : ∃ a len cap, v = .slice a len cap ∧ ∀ X, Below w.heap.size w X → (convert 22 9 (.slice a len cap)).run Try.prog X = .ok (.string (str l)) X := by
  obtain ⟨a, cap, hv, _, _, hr, _, _⟩ := h.open
  exact ⟨a, _, cap, hv, fun X hX => (hr.later hX).str _ _ rfl⟩
theorem abc_str : str abc = { data := #[97, 98, 99, 100, 101] } := by decide +kernel
def kn1 : CR := addP ⟨0, 0, [], 0⟩ 1 abc 2 2
def kn2 : CR := addP kn1 1 abc 2 0
def kn3 : CR := addP kn2 1 abc 2 1
theorem kn1_GI : GI kn1 1 abc 2 := addP_GI (.inl (by decide)) _
theorem kn2_GI : GI kn2 1 abc 2 := addP_GI (.inr kn1_GI) _
theorem kn3_GI : GI kn3 1 abc 2 := addP_GI (.inr kn2_GI) _
theorem kn2_mis : mis (kn2.ps.map Option.isSome) kn2.ps.length = [1] := by rfl
theorem kn3_all : (kn3.ps.map Option.isSome).any (fun b => !b) = false := by rfl
theorem kn_ad : kn1.ad = 1 ∧ kn2.ad = 2 := ⟨rfl, rfl⟩
end Go.Proofs.Ytdagekciipfnoaa

