/- What both readers do together: helpers for the walk. -/
import Derived.Test.YtgonglbgejaffaaXCpC
import Derived.Test.YtgonglbgejaffaaXCpO
import Derived.Test.YtgonglbgejaffaaXCk16
namespace Go.Proofs.Ytgonglbgejaffaa
open Go.RowKit
set_option linter.unusedVariables false
set_option linter.unusedSimpArgs false
set_option maxRecDepth 4000

theorem Row.frontC {W : World} {a : Option Addr} {l y : List (BitVec 8)} (h : Row W a (l ++ y)) : Row W a l := by
  rcases h with h | ⟨b, off, rfl, hc⟩
  · exact .inl (List.append_eq_nil_iff.1 h).1
  · refine .inr ⟨b, off, rfl, fun i hi => ?_⟩
    rw [hc i (by rw [List.length_append]; omega)]
    simp [bt, List.getElem?_append_left hi]
/-- a block of which nothing is said -/
def anyC (k : List Nat) : Ob := ⟨k, [], fun _ => True⟩
theorem spoiltC {w w' : World} {v : Value} {base : Nat} {l : List (BitVec 8)} (h : Own w base v l) (hg : w.grownBy w' v.ownBlock) : Step w w' (byOb v base l) (anyC v.ownBlock.toList) := by
  have hlt := World.ownsRow.lt h
  refine ⟨turned_grown hg (fun j hj => by simp [byOb, hj]), ⟨trivial, fun j hj => ?_, fun j _ hj => ?_, fun _ _ _ _ => trivial⟩, fun j hj => .inl hj, fun j hj => ?_⟩
  · rcases hj with hj | hj
    · have hj' : j ∈ v.ownBlock.toList := hj
      rw [Option.mem_toList] at hj'
      exact Nat.lt_of_lt_of_le (hlt j hj').2 hg.size
    · cases hj
  · cases hj
  · cases hj
theorem own_rowC {w : World} {lg n c base : Nat} {l : List (BitVec 8)} (h : Own w base (.slice (some ⟨lg, 0, none⟩) n c) l) : Row w (some ⟨lg, 0, none⟩) l := by
  obtain ⟨a', c', hv, -, -, hr, -, -⟩ := h.open
  simp only [Value.slice.injEq] at hv
  obtain ⟨rfl, -, rfl⟩ := hv
  exact hr
theorem Spoil_lentC (lg n c : Nat) {base : Nat} (l : List (BitVec 8)) (w : World) (h : Own w base (.slice (some ⟨lg, 0, none⟩) (n + 1) c) (l ++ [167#8])) (hc : n + 1 ≤ c) (hm : n ≤ 140737488351232) :
    Calls Try.prog 10 #[.slice (some ⟨lg, 0, none⟩) n c] w fun e w' => e = .returned (.tuple #[]) ∧ w.grownBy w' (some lg) := by
  obtain ⟨h1, h2 | ⟨g, cap, cur, hv, hb, hh, hcc, hmx, hs, ht⟩⟩ := h
  · obtain ⟨h3, _⟩ := h2; cases h3
  · simp only [Value.slice.injEq, Option.some.injEq, Addr.mk.injEq] at hv
    obtain ⟨⟨rfl, -, -⟩, -, rfl⟩ := hv
    exact Spoil_some lg 0 n c 5 cur.toList w (by unfold Blk; simpa using hh) (by simp; omega) (by simp; omega) (by omega) hm
theorem adM_z {m : CR} (h : CRw m) (hz : m.id = 0 → m.ps.length = 0) (cl : Bool) (l : List (BitVec 8)) : (adM m cl l).id = 0 → (adM m cl l).ps.length = 0 := by
  unfold adM
  split
  · rename_i h0
    have hE : dcE l = 0 := by
      have h1 := h0.2
      unfold adE at h1
      rw [h0.1, if_neg (by decide)] at h1
      split at h1
      · assumption
      · rename_i h2; exact absurd h1 h2
    obtain ⟨id, i, cnt, s, d, hR, h1, h2, h3, h4⟩ := dcR_bd hE
    rw [hR]
    show (addM (setPc (if m.id < id then begM m id s cnt else m) (i : Int).toNat d)).id = 0 → _
    have hs : ∀ (c : CR) (j : Nat), (addM (setPc c j d)).id = c.id := fun c j => by unfold setPc; split <;> rfl
    rw [hs]
    by_cases c1 : m.id < id
    · rw [if_pos c1]
      intro e
      have e' : id = 0 := e
      omega
    · rw [if_neg c1]
      intro e
      have := h.lo
      omega
  · exact hz
/-- what stands between two rounds of ChunkAdds -/
def AdI (B : Nat) (w wr : World) (g q0 : Nat) (shut : Int) (k : Nat) : Prop := ∃ (p : CQl) (q : RQl) (m : CR), p.g = g ∧ q.g = q0 ∧ p.cl = q.cl ∧ (p.cl = true → shut < (k : Int)) ∧ CRw m ∧ (m.id = 0 → m.ps.length = 0) ∧ m.ad ≤ (k : Int) ∧ Sep B [cqOb p m, rqOb q m] wr ∧ Below B w wr
theorem rq0_ok (w : World) : (rqOb ⟨w.heap.size, 0, 0, [], false⟩ cr0).Ok (w.alloc (.cells #[.int .i64 0, .int .u32 0, .slice none 0 0, .slice none 0 0, .int .i64 0, .bool false] 41)) := by
  refine rqOb_ok ⟨Blk.new' w _ [.int .i64 0, .int .u32 0, .slice none 0 0, .slice none 0 0, .int .i64 0, .bool false], fun h0 => absurd rfl h0, fun h0 => absurd rfl h0, rfl, fun i o hi => ?_, Int.le_refl _⟩
  cases hi
theorem rqShut_step {w : World} {q : RQl} {m : CR} (h : (rqOb q m).Ok w) : Step w (w.setCell ⟨q.g, 5, none⟩ (.bool true)) (rqOb q m) (rqOb ⟨q.g, q.t, q.d, q.vs, true⟩ m) := by
  have hP := h.holds
  have u := turned_set w q.g 5 (.bool true)
  have hg : q.g ∈ (rqOb q m).W := mem_rqW.2 (.inl rfl)
  refine ⟨u.mono (fun k e => by rw [e]; exact hg), rqOb_ok ⟨?_, fun e => ?_, fun e => ?_, hP.len, fun j o hj => ?_, hP.ad⟩, fun k hk => .inl hk, fun k hk => .inr (.inl hk)⟩
  · exact hP.blk.set 5 _
  · exact (hP.there e).turned u (blk_ne (hP.there e) hP.blk (by decide))
  · exact (hP.data e).turned u (blk_ne (hP.data e) hP.blk (by decide))
  · obtain ⟨v, hv, ho⟩ := hP.each j o hj
    exact ⟨v, hv, ho.turned u (own_apart ho hP.blk (by decide))⟩
end Go.Proofs.Ytgonglbgejaffaa

