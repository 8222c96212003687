/- Runs as a function that is ranged over; a block that is written. -/
import Derived.RangeFuncNested
import Derived.RangeFuncBound
import Derived.RangeFuncCalls
import Derived.RangeFuncLeaves
import Derived.Shelf.Abstract
import Derived.Shelf.RegionOpen
import Derived.OwnWalkIn
import Derived.TacticsInMore
import Derived.LoopNIn
import Derived.LoopIn
import Derived.Test.YtmkacgdbmojomaaXEx3
namespace Go.Proofs.Ytmkacgdbmojomaa
open Go.RowKit Go.MapKept Go.ChangeMaps Go.Shelf
set_option linter.unusedVariables false
set_option maxRecDepth 4000
attribute [local go_sem] Oper.semAt_some

set_option maxHeartbeats 1000000 in
theorem Runs_any (g b : Nat) (m : Im) (w : World) (h : (im g b m).Ok w) (hw : m.Wf) :
    Calls Try.prog 33 #[.pointer (some ⟨g, 0, none⟩)] w fun e w' => ∃ c v, e = .returned (.func (.func 66) #[] #[.pointer (some ⟨c, 0, none⟩)]) ∧ w.heap.size ≤ c ∧ Blk w' c 109 [v] ∧ RsOwn w' w.heap.size v (rnN m m.n) ∧ Below w.heap.size w w' := by
  have HR := runs_any g b m w h hw
  clear h hw
  go_enter Try.func33, Try.ntmps33
  go_wp2_with fail
  refine HR.mono ?_
  rintro e w1 ⟨v, rfl, ho, hb⟩
  obtain ⟨a, cap, rfl, hcap, hor⟩ := ho.open
  clear hor
  have B2 : Blk (w1.alloc (.cells #[.slice a (rnN m m.n).length cap] 109)) w1.heap.size 109 [.slice a (rnN m m.n).length cap] := Blk.new' w1 _ _
  have b2 : Below w1.heap.size w1 (w1.alloc (.cells #[.slice a (rnN m m.n).length cap] 109)) := (Below.refl _ _).alloc (Nat.le_refl _) _
  have F : Hid _ := And.intro B2 (And.intro (ho.later b2) (And.intro (below_then hb b2) hb.size))
  clear B2 b2 ho hb HR
  go_wp2
  go_ret
  exact ⟨_, _, rfl, F.out.2.2.2, F.out.1, F.out.2.1, F.out.2.2.1⟩

/-- a run whose blocks are among the first 256 -/
abbrev Run := { r : Nat × Nat // r.1 + r.2 ≤ 256 }
def encR (r : Run) : Array Value := #[.int .i64 (r.1.1 : Int), .int .i64 (r.1.2 : Int)]
/-- these blocks lie as they lay -/
def KeepB (bs : List Nat) (W W' : World) : Prop := ∀ k ∈ bs, W'.heap[k]? = W.heap[k]?
theorem KeepB.t {bs : List Nat} {A B C : World} (h : KeepB bs A B) (k : KeepB bs B C) : KeepB bs A C := fun i hi => (k i hi).trans (h i hi)

set_option maxHeartbeats 2000000 in
theorem seq_stops (n : Nat) (hn : 1 ≤ n) (c : Nat) (a : Option Addr) (cap : Nat) (l : List (Nat × Nat)) (w : World) (hl : ∀ r ∈ l, r.1 + r.2 ≤ 256) (hlen : l.length ≤ 256) (hB : Blk w c 109 [.slice a l.length cap]) (hR : RsOwn w 0 (.slice a l.length cap) l) :
    SeqStopsK Fence.wide n Try.prog 66 #[.pointer (some ⟨c, 0, none⟩)] encR (KeepB (c :: (Value.slice a l.length cap).ownBlock.toList)) (fun ys => ys.map (·.1) = l) (fun _ => True) l.length w := fun y J Jx W hW hJ _ hY h0 => by
  have hB' : Blk W c 109 [.slice a l.length cap] := hB.laterB hW
  have hR' : RsOwn W 0 (.slice a l.length cap) l := hR.later hW
  clear hB hR hW
  have c0 := hB'.cell (by simp [maxLen]) 0 (by simp)
  simp only [List.getElem?_cons_zero] at c0
  have hlt256 : (l.length : Int) ≤ 256 := by omega
  have hcap : l.length ≤ cap := by
    obtain ⟨a', cap', e, h1, _⟩ := hR'.open
    simp only [Value.slice.injEq] at e
    omega
  have HX : Hid _ := And.intro hB' hR'
  clear hB' hR'
  refine callsIn_of_wp Try.func66 rfl trivial ?_ rfl
  simp only [Try.ntmps66, List.size_toArray, List.length_cons, List.length_nil, Nat.reduceAdd, Nat.reduceSub, Array.replicate_succ, Array.replicate_zero, List.push_toArray, List.append_toArray, List.nil_append, List.cons_append]
  gi_wp2
  gi_loopw [7] (fun i wr => ∃ (k : Nat) (pre : List Run), k ≤ l.length ∧ i = .int .i64 k ∧ pre.map (·.1) = l.take k ∧ J pre wr ∧ KeepB (c :: (Value.slice a l.length cap).ownBlock.toList) W wr) (fun i _ => l.length - (intOf i).toNat)
  case atStart => exact ⟨0, [], Nat.zero_le _, rfl, rfl, h0, fun _ _ => rfl⟩
  case round =>
    obtain ⟨k, pre, hk, rfl, hpre, hJs, hkp⟩ := hrel
    by_cases hlt : k < l.length
    · obtain ⟨a', cap', e, h1, rfl | ⟨gv, ea, hbg, hgl, cur, hh, hcc, hcm, ht⟩⟩ := HX.out.2.open
      · simp at hlt
      simp only [Value.slice.injEq] at e
      obtain ⟨rfl, -, rfl⟩ := e
      subst ea
      have hh' : wr.heap[gv]? = some (.cells cur 112) := (hkp gv (by simp [Value.ownBlock])).trans hh
      obtain ⟨d0, d1⟩ := runs_cell hh' ht k hlt
      have q1 : (k : Int) < (l.length : Int) := by omega
      have hlk := hl l[k] (List.getElem_mem hlt)
      have htk : l.take (k + 1) = l.take k ++ [l[k]] := (List.take_append_getElem hlt).symm
      generalize l[k] = r at *
      obtain ⟨rf, rc⟩ := r
      simp only at d0 d1 hlk
      have hpl : pre.length < l.length := by
        have := congrArg List.length hpre
        simp at this; omega
      have bq : KeepB (c :: (Value.slice (some ⟨gv, 0, none⟩) l.length cap).ownBlock.toList) wr (wr.alloc (.cells #[.int .i64 (rf : Int), .int .i64 (rc : Int)] 112)) := by
        intro q hq
        refine Below.heap_alloc _ _ _ ?_
        have hq' : q = c ∨ q = gv := by simpa [Value.ownBlock] using hq
        have e1 : wr.heap[c]? = W.heap[c]? := hkp c (by simp)
        rcases hq' with rfl | rfl
        · have := HX.out.1
          unfold Blk at this
          rw [← e1] at this
          exact (Array.getElem?_eq_some_iff.1 this).1
        · exact (Array.getElem?_eq_some_iff.1 hh').1
      obtain ⟨fn, tmps, assign, body, hy, hRd⟩ := hY pre ⟨(rf, rc), hlk⟩ (wr.alloc (.cells #[.int .i64 (rf : Int), .int .i64 (rc : Int)] 112)) (hJ pre wr _ none hJs (World.grownBy_alloc wr _ none) (fun r e => by cases e)) hpl
      unfold encR at hy
      dsimp only at hy
      have hcell := box_cells wr (.int .i64 (rf : Int)) (.int .i64 (rc : Int)) 112
      obtain ⟨e0, e1⟩ := hcell
      have H1 : Hid _ := And.intro hpre (And.intro hkp (And.intro bq htk))
      clear hpre hkp bq htk hh hh' ht hcc HX
      gi_wp2
      refine hRd.mono ?_
      rintro e W3 (⟨rfl, hJ3, hk3⟩ | ⟨rfl, hJx3⟩)
      · clear e0 e1 d0 d1
        gi_wp2
        go_roundw
        case rel =>
          refine ⟨k + 1, pre ++ [⟨(rf, rc), hlk⟩], by omega, by go_num, ?_, hJ3, H1.out.2.1.t (H1.out.2.2.1.t hk3)⟩
          rw [List.map_append, H1.out.1, H1.out.2.2.2]; rfl
        case measure => simp [intOf]; omega
      · gi_wp2
        refine bodyPost_ret (results_none rfl _ _ _) rfl ?_
        exact ⟨⟨_, rfl⟩, .inr ⟨_, trivial, hJx3⟩⟩
    · obtain rfl : k = l.length := by omega
      clear HX
      gi_wp2
      go_end0
      exact ⟨⟨_, rfl⟩, .inl ⟨pre, by rw [hpre, List.take_length], hJs⟩⟩
end Go.Proofs.Ytmkacgdbmojomaa

