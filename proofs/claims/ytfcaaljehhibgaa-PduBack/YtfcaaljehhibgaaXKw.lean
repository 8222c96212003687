/- A writer, and blocks that stay; numbers of two, four and eight bytes. (As in Dd27, for texts that have no dedup.) -/
import Derived.Test.YtfcaaljehhibgaaXFieldX1
import Derived.Test.YtfcaaljehhibgaaXWo5
import Derived.Test.YtfcaaljehhibgaaXMp
namespace Go.Proofs.Ytfcaaljehhibgaa
open Go.RowKit
set_option linter.unusedVariables false
set_option maxRecDepth 4000

theorem wrAt_below {w w' : World} {base g T : Nat} {v : Value} {L : List (BitVec 8)} {E : Int} (h : WrAt w base g T v L E) (ht : Turned (Mine g v) w w') : Below base w w' :=
  ht.below base h.base_w (fun k hk => by
    rcases hk with rfl | hk
    · exact h.base_g
    · obtain ⟨l, ho, -⟩ := h.own; exact (World.ownsRow.lt ho k hk).1)
/-- a writer, and blocks that stay as they are -/
structure KW (w W : World) (g : Nat) (v : Value) (L : List (BitVec 8)) (bs : List (Nat × Nat × List Value)) : Prop where
  wr : WrAt W w.heap.size g 113 v L 0
  bl : Below w.heap.size w W
  bx : ∀ b ∈ bs, Blk W b.1 b.2.1 b.2.2
  ne : ∀ b ∈ bs, b.1 ≠ g ∧ ∀ j, v.ownBlock = some j → j ≠ b.1
theorem KW.step {w W W' : World} {g : Nat} {v v' : Value} {L L' : List (BitVec 8)} {bs : List (Nat × Nat × List Value)} (h : KW w W g v L bs) (hw : WrAt W' w.heap.size g 113 v' L' 0) (hn : Newer W v v') (ht : Turned (Mine g v) W W') : KW w W' g v' L' bs := by
  refine ⟨hw, h.bl.trans (wrAt_below h.wr ht), fun b hb => ?_, fun b hb => ⟨(h.ne b hb).1, fun j hj => ?_⟩⟩
  · refine (h.bx b hb).turned ht ?_
    rintro (e | e)
    · exact (h.ne b hb).1 e
    · exact (h.ne b hb).2 _ e rfl
  · rcases hn j hj with e | e
    · exact (h.ne b hb).2 j e
    · have := (h.bx b hb).lt; omega
theorem KW.later {w W W' : World} {g : Nat} {v : Value} {L : List (BitVec 8)} {bs : List (Nat × Nat × List Value)} (h : KW w W g v L bs) (hb : Below W.heap.size W W') : KW w W' g v L bs :=
  ⟨h.wr.stays (turned_below hb) (fun e => e) (fun _ _ e => e), below_then h.bl hb, fun b hbm => (h.bx b hbm).laterB hb, h.ne⟩
theorem KW.less {w W : World} {g : Nat} {v : Value} {L : List (BitVec 8)} {bs bs' : List (Nat × Nat × List Value)} (h : KW w W g v L bs) (hs : ∀ b ∈ bs', b ∈ bs) : KW w W g v L bs' :=
  ⟨h.wr, h.bl, fun b hb => h.bx b (hs b hb), fun b hb => h.ne b (hs b hb)⟩
theorem KW.own {w W : World} {g : Nat} {v : Value} {L : List (BitVec 8)} {bs : List (Nat × Nat × List Value)} (h : KW w W g v L bs) : ∀ j, v.ownBlock = some j → w.heap.size ≤ j ∧ j < W.heap.size := fun j hj => by obtain ⟨_, ho, -⟩ := h.wr.own; exact World.ownsRow.lt ho j hj
/-- a block more -/
theorem KW.new {w W : World} {g : Nat} {v : Value} {L : List (BitVec 8)} {bs : List (Nat × Nat × List Value)} (h : KW w W g v L bs) (T : Nat) (xs : List Value) : KW w (W.alloc (.cells xs.toArray T)) g v L ((W.heap.size, T, xs) :: bs) := by
  have hb : Below W.heap.size W (W.alloc (.cells xs.toArray T)) := (Below.refl _ _).alloc (Nat.le_refl _) _
  have h1 := h.later hb
  have hg := h.wr.blk.lt
  refine ⟨h1.wr, h1.bl, fun b hbm => ?_, fun b hbm => ?_⟩
  · rcases List.mem_cons.1 hbm with rfl | hbm
    · exact Blk.new' W T xs
    · exact h1.bx b hbm
  · rcases List.mem_cons.1 hbm with rfl | hbm
    · exact ⟨by simp only; omega, fun j hj e => by have := (h.own j hj).2; simp only at e; omega⟩
    · exact h1.ne b hbm
theorem wrNum_8 (L : List (BitVec 8)) (n : Int) : wrNum L 0 8 n = (L ++ be 8 (BitVec.ofInt 64 n), 0) := by
  unfold wrNum
  have : wnE 8 n = 0 := by unfold wnE widthB; simp
  rw [if_pos rfl, if_pos this]
  rfl
theorem wrNum_2 (L : List (BitVec 8)) (n : Int) (h : 0 ≤ n ∧ n ≤ 65535) : wrNum L 0 2 n = (L ++ be 2 (BitVec.ofInt 64 n), 0) := by
  unfold wrNum
  have : wnE 2 n = 0 := by unfold wnE widthB; simp; omega
  rw [if_pos rfl, if_pos this]
  rfl
theorem wrNum_4 (L : List (BitVec 8)) (n : Int) (h : 0 ≤ n ∧ n ≤ 4294967295) : wrNum L 0 4 n = (L ++ be 4 (BitVec.ofInt 64 n), 0) := by
  unfold wrNum
  have : wnE 4 n = 0 := by unfold wnE widthB; simp; omega
  rw [if_pos rfl, if_pos this]
  rfl
theorem addE_2m (n : Nat) (h : n ≤ 65535) : addE 2 n = 0 := by
  unfold addE
  rw [if_neg (by decide), if_neg]
  rintro (h1 | h1)
  · omega
  · have h2 : fitsB 2 (BitVec.ofNat 64 n) = true := by
      unfold fitsB
      rw [decide_eq_true_eq, BitVec.toNat_ofNat, Nat.mod_eq_of_lt (by omega)]
      exact Nat.div_eq_of_lt (by omega)
    have h3 : fitsB 2 (BitVec.ofNat 64 n) = false := h1
    rw [h2] at h3
    cases h3
theorem wrBytes_2m {l : List (BitVec 8)} (h : l.length ≤ 65535) (L : List (BitVec 8)) : wrBytes L 0 2 l = (L ++ (be 2 (BitVec.ofNat 64 l.length) ++ l), 0) := by
  unfold wrBytes
  rw [if_pos rfl, if_pos (addE_2m l.length h)]
  rfl
end Go.Proofs.Ytfcaaljehhibgaa

