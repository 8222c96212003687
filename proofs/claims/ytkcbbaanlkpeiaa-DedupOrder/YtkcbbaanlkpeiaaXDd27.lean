/- A table as bytes. -/
import Derived.Test.YtkcbbaanlkpeiaaXDd25
import Derived.Test.YtkcbbaanlkpeiaaXEx1
import Derived.Deep.CutRange
namespace Go.Proofs.Ytkcbbaanlkpeiaa
open Go.RowKit
set_option linter.unusedVariables false
set_option linter.unusedSimpArgs false
set_option maxRecDepth 4000

/-- a writer, and blocks that stay as they are -/
structure KW (w W : World) (g : Nat) (v : Value) (L : List (BitVec 8)) (bs : List (Nat × Nat × List Value)) : Prop where
  wr : WrAt W w.heap.size g 111 v L 0
  bl : Below w.heap.size w W
  bx : ∀ b ∈ bs, Blk W b.1 b.2.1 b.2.2
  ne : ∀ b ∈ bs, b.1 ≠ g ∧ ∀ j, v.ownBlock = some j → j ≠ b.1
theorem KW.step {w W W' : World} {g : Nat} {v v' : Value} {L L' : List (BitVec 8)} {bs : List (Nat × Nat × List Value)} (h : KW w W g v L bs) (hw : WrAt W' w.heap.size g 111 v' L' 0) (hn : Newer W v v') (ht : Turned (Mine g v) W W') : KW w W' g v' L' bs := by
  refine ⟨hw, h.bl.trans (wrAt_below h.wr ht), fun b hb => ?_, fun b hb => ⟨(h.ne b hb).1, fun j hj => ?_⟩⟩
  · refine (h.bx b hb).turned ht ?_
    rintro (e | e)
    · exact (h.ne b hb).1 e
    · exact (h.ne b hb).2 _ e rfl
  · rcases hn j hj with e | e
    · exact (h.ne b hb).2 j e
    · have := (h.bx b hb).lt; omega
theorem KW.later {w W W' : World} {g : Nat} {v : Value} {L : List (BitVec 8)} {bs : List (Nat × Nat × List Value)} (h : KW w W g v L bs) (hb : Below W.heap.size W W') : KW w W' g v L bs :=
  ⟨h.wr.stays (turned_below hb) (fun e => e) (fun _ _ e => e), below_then h.bl hb, fun b hbm => (h.bx b hbm).laterB hb, h.ne⟩
theorem KW.less {w W : World} {g : Nat} {v : Value} {L : List (BitVec 8)} {bs bs' : List (Nat × Nat × List Value)} (h : KW w W g v L bs) (hs : ∀ b ∈ bs', b ∈ bs) : KW w W g v L bs' :=
  ⟨h.wr, h.bl, fun b hb => h.bx b (hs b hb), fun b hb => h.ne b (hs b hb)⟩
theorem KW.own {w W : World} {g : Nat} {v : Value} {L : List (BitVec 8)} {bs : List (Nat × Nat × List Value)} (h : KW w W g v L bs) : ∀ j, v.ownBlock = some j → w.heap.size ≤ j ∧ j < W.heap.size := fun j hj => by obtain ⟨_, ho, -⟩ := h.wr.own; exact World.ownsRow.lt ho j hj
/-- a block more -/
theorem KW.new {w W : World} {g : Nat} {v : Value} {L : List (BitVec 8)} {bs : List (Nat × Nat × List Value)} (h : KW w W g v L bs) (T : Nat) (xs : List Value) : KW w (W.alloc (.cells xs.toArray T)) g v L ((W.heap.size, T, xs) :: bs) := by
  have hb : Below W.heap.size W (W.alloc (.cells xs.toArray T)) := (Below.refl _ _).alloc (Nat.le_refl _) _
  have h1 := h.later hb
  have hg := h.wr.blk.lt
  refine ⟨h1.wr, h1.bl, fun b hbm => ?_, fun b hbm => ?_⟩
  · rcases List.mem_cons.1 hbm with rfl | hbm
    · exact Blk.new' W T xs
    · exact h1.bx b hbm
  · rcases List.mem_cons.1 hbm with rfl | hbm
    · exact ⟨by simp only; omega, fun j hj e => by have := (h.own j hj).2; simp only at e; omega⟩
    · exact h1.ne b hbm
theorem wrNum_8 (L : List (BitVec 8)) (n : Int) : wrNum L 0 8 n = (L ++ be 8 (BitVec.ofInt 64 n), 0) := by
  unfold wrNum
  have : wnE 8 n = 0 := by unfold wnE widthB; simp
  rw [if_pos rfl, if_pos this]
  rfl
theorem addE_2m (n : Nat) (h : n ≤ 65535) : addE 2 n = 0 := by
  unfold addE
  rw [if_neg (by decide), if_neg]
  rintro (h1 | h1)
  · omega
  · have h2 : fitsB 2 (BitVec.ofNat 64 n) = true := by
      unfold fitsB
      rw [decide_eq_true_eq, BitVec.toNat_ofNat, Nat.mod_eq_of_lt (by omega)]
      exact Nat.div_eq_of_lt (by omega)
    have h3 : fitsB 2 (BitVec.ofNat 64 n) = false := h1
    rw [h2] at h3
    cases h3
theorem wrBytes_2m {l : List (BitVec 8)} (h : l.length ≤ 65535) (L : List (BitVec 8)) : wrBytes L 0 2 l = (L ++ (be 2 (BitVec.ofNat 64 l.length) ++ l), 0) := by
  unfold wrBytes
  rw [if_pos rfl, if_pos (addE_2m l.length h)]
  rfl
/-- a string's bytes -/
def bsOf (s : ByteArray) : List (BitVec 8) := s.data.toList.map (fun u => BitVec.ofNat 8 u.toNat)
theorem bsOf_str (l : List (BitVec 8)) : bsOf (str l) = l := by
  unfold bsOf str
  rw [strOfNums_data, List.map_map, List.map_map]
  conv => rhs; rw [← List.map_id l]
  apply List.map_congr_left
  intro c _
  simp only [Function.comp, Int.toNat_natCast, UInt8.toNat_ofNat', id]
  apply BitVec.eq_of_toNat_eq
  rw [BitVec.toNat_ofNat]
  have := c.isLt
  omega
/-- an answer's bytes within a table -/
def anB (a : An) : List (BitVec 8) := be 8 (BitVec.ofInt 64 a.2.1) ++ (be 2 (BitVec.ofNat 64 (bsOf a.2.2).length) ++ bsOf a.2.2)
def nexB (m : Int × List An) : List (BitVec 8) := be 1 (BitVec.ofInt 64 m.2.length) ++ be 8 (BitVec.ofInt 64 m.1) ++ m.2.flatMap anB
def tbB (ms : Ms) : List (BitVec 8) := ms.flatMap nexB
theorem anB_len {a : An} (h : ∃ bs : List (BitVec 8), a.2.2 = str bs ∧ bs.length ≤ 5000) : (anB a).length ≤ 5010 := by
  obtain ⟨bs, e, hl⟩ := h
  unfold anB
  rw [e, bsOf_str]
  simp only [List.length_append, be_length _ _ (show 8 ≤ 8 by omega), be_length _ _ (show 2 ≤ 8 by omega)]
  omega
theorem ans_len {l : List An} (h : ∀ a ∈ l, ∃ bs : List (BitVec 8), a.2.2 = str bs ∧ bs.length ≤ 5000) : (l.flatMap anB).length ≤ l.length * 5010 := by
  induction l with
  | nil => simp
  | cons a l ih =>
    rw [List.flatMap_cons, List.length_append, List.length_cons]
    have h1 := anB_len (h a (by simp))
    have h2 := ih (fun b hb => h b (by simp [hb]))
    omega
theorem nex_len {m : Int × List An} (h : ∀ a ∈ m.2, ∃ bs : List (BitVec 8), a.2.2 = str bs ∧ bs.length ≤ 5000) (hl : m.2.length ≤ 64) : (nexB m).length ≤ 400000 := by
  unfold nexB
  have := ans_len h
  simp only [List.length_append, be_length _ _ (show 8 ≤ 8 by omega), be_length _ _ (show 1 ≤ 8 by omega)]
  omega
theorem tb_len {ms : Ms} (h : ∀ m ∈ ms, (∀ a ∈ m.2, ∃ bs : List (BitVec 8), a.2.2 = str bs ∧ bs.length ≤ 5000) ∧ m.2.length ≤ 64) : (tbB ms).length ≤ ms.length * 400000 := by
  induction ms with
  | nil => simp [tbB]
  | cons m l ih =>
    unfold tbB at *
    rw [List.flatMap_cons, List.length_append, List.length_cons]
    have h1 := nex_len (h m (by simp)).1 (h m (by simp)).2
    have h2 := ih (fun b hb => h b (by simp [hb]))
    omega
theorem size_tab : (Try.prog.info? 60).map (·.size) = some 32 := by kernel_rfl
theorem load_tab {w : World} {g : Nat} {fs : List Nx} (h : Blk w g 62 (tcells fs)) (hl : fs.length = 16) : (Instr.loadAt 60 (.pointer (some ⟨g, 0, none⟩))).run Try.prog w = .ok (.agg (tcells fs).toArray) w := by
  have h2 : (loadCells ⟨g, 0, none⟩ (tcells fs).length).run Try.prog w = .ok (tcells fs).toArray w := run_loadCells_list (P := Try.prog) w ⟨g, 0, none⟩ (tcells fs) (fun j v hj => by
    rw [Addr.add_lit, Nat.zero_add, blk_at h, hj])
  rw [tcells_length, hl] at h2
  obtain ⟨i, hi, hz⟩ := Option.map_eq_some_iff.1 size_tab
  have hagg : (isAgg 60).run Try.prog w = .ok true w := by
    unfold isAgg
    rw [Sem.run_bind, run_underlying Try.underlying60 w]
    rfl
  simp [Instr.loadAt, Instr.sureAddr, loadVar, Sem.run_bind, hagg, sizeOf, typeInfo, hi, hz, h2]
theorem size_mem : (Try.prog.info? 59).map (·.size) = some 2 := by kernel_rfl
theorem index_tab {w : World} {fs : List Nx} {k : Nat} {fl : Int} {v : Value} {l : List An} (hk : k < 16) (hf : fs[k]? = some (fl, v, l)) : (Instr.index 60 (.agg (tcells fs).toArray) (.int .i64 k)).run Try.prog w = .ok (.agg #[.int .i64 fl, v]) w := by
  obtain ⟨i, hi, hz⟩ := Option.map_eq_some_iff.1 size_mem
  have h1 := (tcells_at fs k).1
  have h2 := (tcells_at fs k).2
  rw [hf] at h1 h2
  have hagg : ∀ w, (isAgg 59).run Try.prog w = .ok true w := fun w => by
    unfold isAgg
    rw [Sem.run_bind, run_underlying Try.underlying59 w]
    rfl
  have hkk : (k : Int) < 16 := by omega
  have hx : List.take 2 (List.drop (k * 2) (tcells fs)) = [.int .i64 fl, v] := by
    have hl : k * 2 + 1 < (tcells fs).length := by
      rcases Nat.lt_or_ge (k * 2 + 1) (tcells fs).length with q | q
      · exact q
      · rw [List.getElem?_eq_none q] at h2; cases h2
    rw [List.getElem?_eq_getElem (by omega)] at h1
    rw [List.getElem?_eq_getElem hl] at h2
    simp only [Option.map_some, Option.some.injEq] at h1 h2
    rw [List.drop_eq_getElem_cons (by omega), List.drop_eq_getElem_cons hl, h1, h2]
    rfl
  simp [Instr.index, asIntOf, run_underlying Try.underlying60, part, sizeOf, typeInfo, hi, hz, hagg, hkk]
  rw [if_pos hk, hx]
end Go.Proofs.Ytkcbbaanlkpeiaa

