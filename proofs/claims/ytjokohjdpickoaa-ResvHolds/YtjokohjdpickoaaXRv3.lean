/- Arrays of sixteen numbers as values; the registrants as a function that is ranged over. -/
import Derived.Test.YtjokohjdpickoaaXRv1
import Derived.Test.YtjokohjdpickoaaXEx1
import Derived.ChangeKeysEq
import Derived.RangeFuncNested
import Derived.RangeFuncBound
import Derived.RangeFuncCalls
import Derived.RangeFuncLeaves
import Derived.Shelf.Abstract
import Derived.Shelf.RegionOpen
import Derived.OwnWalkIn
import Derived.TacticsInMore
import Derived.LoopNIn
import Derived.LoopIn
namespace Go.Proofs.Ytjokohjdpickoaa
open Go.RowKit Go.Shelf
set_option linter.unusedVariables false
set_option linter.unusedSimpArgs false
set_option maxRecDepth 4000
attribute [local go_sem] Oper.semAt_some

def ivs (k : IntKind) (l : List Int) : List Value := l.map (Value.int k)
def av (k : IntKind) (l : List Int) : Value := .agg (ivs k l).toArray
def z16 : List Int := [0, 0, 0, 0, 0, 0, 0, 0, 0, 0, 0, 0, 0, 0, 0, 0]
theorem ivs_len (k : IntKind) (l : List Int) : (ivs k l).length = l.length := by unfold ivs; rw [List.length_map]
theorem ivs_at (k : IntKind) (l : List Int) (i : Nat) (h : i < l.length) : (ivs k l)[i]? = some (.int k l[i]) := by unfold ivs; rw [List.getElem?_map, List.getElem?_eq_getElem h]; rfl
theorem load_arr {T E : TypeId} {k : IntKind} (hs : (Try.prog.info? T).map (·.size) = some 16) (hu : Try.prog.underlying T = some (.array 16 E)) {w : World} {c off : Nat} {l : List Int} (hl : l.length = 16) (hc : ∀ j (h : j < l.length), w.cell? ⟨c, off + j, none⟩ = some (.int k l[j])) :
    (Instr.loadAt T (.pointer (some ⟨c, off, none⟩))).run Try.prog w = .ok (av k l) w := by
  have h2 : (loadCells ⟨c, off, none⟩ (ivs k l).length).run Try.prog w = .ok (ivs k l).toArray w := run_loadCells_list (P := Try.prog) w ⟨c, off, none⟩ (ivs k l) (fun j v hj => by
    have hadd : (⟨c, off, none⟩ : Addr).add j = ⟨c, off + j, none⟩ := by unfold Addr.add; split <;> simp_all
    have hjl : j < l.length := by
      rcases Nat.lt_or_ge j l.length with h | h
      · exact h
      · rw [List.getElem?_eq_none (by rw [ivs_len]; exact h)] at hj; cases hj
    rw [hadd, hc j hjl, ← ivs_at k l j hjl, hj])
  rw [ivs_len, hl] at h2
  obtain ⟨i, hi, hz⟩ := Option.map_eq_some_iff.1 hs
  have hagg : (isAgg T).run Try.prog w = .ok true w := by
    unfold isAgg
    rw [Sem.run_bind, run_underlying hu w]
    rfl
  simp [Instr.loadAt, Instr.sureAddr, loadVar, Sem.run_bind, hagg, sizeOf, typeInfo, hi, hz, h2, av]
theorem size_ks : (Try.prog.info? 61).map (·.size) = some 16 := by kernel_rfl
theorem und_ks : Try.prog.underlying 61 = some (.array 16 32) := by kernel_rfl
theorem size_cd : (Try.prog.info? 84).map (·.size) = some 16 := by kernel_rfl
theorem und_cd : Try.prog.underlying 84 = some (.array 16 3) := by kernel_rfl
/-- a new variable whose cells are stored anew -/
theorem setRow_new16 (w : World) (old cs : Array Value) (t : TypeId) : (w.alloc (.cells old t)).setRow w.heap.size cs = w.alloc (.cells cs t) := by
  unfold World.setRow World.alloc
  simp only [World.mk.injEq, and_true]
  apply Array.ext
  · simp
  · intro i h1 h2
    simp only [Array.getElem_modify, Array.getElem_push]
    split
    · rename_i hi; subst hi; simp
    · rename_i hi
      have : i < w.heap.size := by simp at h2; omega
      simp [this]
theorem store_arr {T : TypeId} {k : IntKind} (hs : (Try.prog.info? T).map (·.size) = some 16) (w : World) (old : List Value) (ho : old.length = 16) (l : List Int) (hl : l.length = 16) :
    (Instr.storeAt T (.pointer (some ⟨w.heap.size, 0, none⟩)) (av k l)).run Try.prog (w.alloc (.cells old.toArray T)) = .ok () (w.alloc (.cells (ivs k l).toArray T)) := by
  have h := run_storeVar_row (P := Try.prog) (w.alloc (.cells old.toArray T)) w.heap.size T T old.toArray (ivs k l).toArray (MapKept.heap_alloc w _).1 (by rw [hs]; simp [ivs_len, hl]) (by simp [ivs_len, hl, ho]) (by
    rw [Array.all_eq_true_iff_forall_mem]
    intro x hx
    have hx' : x ∈ ivs k l := by simpa using hx
    unfold ivs at hx'
    obtain ⟨y, _, rfl⟩ := List.mem_map.1 hx'
    rfl)
  simp only [Instr.storeAt, Instr.sureAddr, Sem.run_bind, Sem.run_pure, Result.andThen_ok, av, h, setRow_new16]
theorem ks_cells {m : Rs} (h : m.Wf) {w : World} {g : Nat} (hB : Blk w g 63 (rsC m)) : ∀ j (hj : j < m.ks.length), w.cell? ⟨g, 19 + j, none⟩ = some (.int .u64 m.ks[j]) := fun j hj => by
  rw [h.key hB j (by rw [← h.kl]; exact hj), List.getD, List.getElem?_eq_getElem hj]; rfl
set_option maxHeartbeats 2000000 in
theorem Regs_any (g : Nat) (m : Rs) (w : World) (h : (rv g m).Ok w) :
    Calls Try.prog 17 #[.pointer (some ⟨g, 0, none⟩)] w fun e w' => e = .returned (.func (.func 34) #[] #[.pointer (some ⟨w.heap.size, 0, none⟩)]) ∧ Blk w' w.heap.size 61 (ivs .u64 m.ks) ∧ Below w.heap.size w w' := by
  obtain ⟨hB, hW⟩ := h.holds
  have b1 : Below w.heap.size w (w.alloc (.cells (ivs .u64 z16).toArray 61)) := (Below.refl _ _).alloc (Nat.le_refl _) _
  have hld := load_arr size_ks und_ks hW.kl (ks_cells hW (hB.laterB b1))
  have hst := store_arr (k := .u64) size_ks w (ivs .u64 z16) rfl m.ks hW.kl
  have F : Hid _ := And.intro (Blk.new' w 61 (ivs .u64 m.ks)) ((Below.refl w.heap.size w).alloc (Nat.le_refl _) (.cells (ivs .u64 m.ks).toArray 61))
  clear b1 h hB hW
  simp only [ivs, z16, List.map_cons, List.map_nil] at hld hst
  go_enter Try.func17, Try.ntmps17
  go_wp2_with (first | (refine wpList_value rfl (exec_load rfl rfl hld) ?_) | (refine wpList_skip rfl (exec_store rfl rfl rfl hst) ?_))
  go_ret
  exact ⟨rfl, F.out.1, F.out.2⟩
end Go.Proofs.Ytjokohjdpickoaa

