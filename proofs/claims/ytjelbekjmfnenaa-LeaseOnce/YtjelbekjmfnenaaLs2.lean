/- The last round that is not above one. -/
import Derived.Test.YtjelbekjmfnenaaLs1
namespace Go.Proofs.Ytjelbekjmfnenaa
open Go.RowKit Go.Shelf
set_option linter.unusedVariables false
set_option maxRecDepth 4000
attribute [local go_sem] Oper.semAt_some

def encS (x : Int × Int × Int) : Array Value := #[.int .i64 x.1, .agg #[.int .i64 x.2.1, .int .i64 x.2.2]]
/-- the last pair whose number is not above r; (0, 0), if there is none -/
def lastOf (l : List (Int × Int)) (r : Int) : Int × Int := (l.reverse.find? (fun s => decide (s.1 ≤ r))).getD (0, 0)

set_option maxHeartbeats 2000000 in
theorem back_stops (n : Nat) (hn : 1 ≤ n) (c : Nat) (v : Value) (l : List (Int × Int)) (w : World) (hB : Blk w c 66 [v]) (ho : PrOwn 72 w v l) (hl : l.length ≤ 1000) :
    SeqStopsK Fence.wide n Try.prog 60 #[.pointer (some ⟨c, 0, none⟩)] encS (KeepL (c :: v.ownBlock.toList)) (fun ys => ys.map (·.2) = l.reverse) (fun ys => ys.map (·.2) <+: l.reverse) l.length w := fun y J Jx W hW hJ _ hY h0 => by
  have hB' : Blk W c 66 [v] := hB.laterB hW
  have ho' : PrOwn 72 W v l := ho.later hW
  have cc := hB'.cell (by simp [maxLen]) 0 (by simp)
  simp only [List.getElem?_cons_zero] at cc
  obtain ⟨va, vc, hv, hvc, hcs⟩ := ho'.open
  have HX : Hid _ := And.intro hB' ho'
  have HV : Hid _ := hv
  clear hB ho hW hB' ho' hcs
  rw [hv] at cc
  refine callsIn_of_wp Try.func60 rfl trivial ?_ rfl
  simp only [Try.ntmps60, List.size_toArray, List.length_cons, List.length_nil, Nat.reduceAdd, Nat.reduceSub, Array.replicate_succ, Array.replicate_zero, List.push_toArray, List.append_toArray, List.nil_append, List.cons_append]
  gi_wp2
  gi_loopw [3] (fun iv wr => ∃ (j : Nat) (pre : List (Int × Int × Int)), j ≤ l.length ∧ iv = .int .i64 ((j : Int) - 1) ∧ pre.length + j = l.length ∧ pre.map (·.2) = l.reverse.take pre.length ∧ J pre wr ∧ KeepL (c :: v.ownBlock.toList) W wr) (fun iv _ => (intOf iv + 1).toNat)
  case atStart => exact ⟨l.length, [], Nat.le_refl _, by go_num, by simp, by simp, h0, fun _ _ => rfl⟩
  case round =>
    obtain ⟨j, pre, hj, rfl, hpl, hpm, hJk, hKk⟩ := hrel
    cases j with
    | zero =>
      have hS : pre.map (·.2) = l.reverse := by rw [hpm, List.take_of_length_le (by simp; omega)]
      have G : Hid _ := And.intro hS hJk
      clear hS hJk hpm hKk
      rw [show (((0 : Nat) : Int) - 1) = -1 from rfl]
      gi_wp2
      go_end0
      exact ⟨⟨_, rfl⟩, .inl ⟨_, G.out.1, G.out.2⟩⟩
    | succ j =>
      rw [show (((j + 1 : Nat) : Int) - 1) = (j : Int) by omega]
      have hB1 : Blk wr c 66 [v] := by have := HX.out.1; unfold Blk at *; rw [hKk c (by simp)]; exact this
      have ho1 : PrOwn 72 wr v l := HX.out.2.same (fun k hk => hKk k (by simp [hk]))
      have c1 := hB1.cell (by simp [maxLen]) 0 (by simp)
      simp only [List.getElem?_cons_zero] at c1
      obtain ⟨va', vc', hv', hvc', hcs⟩ := ho1.open
      have hjl : j < l.length := by omega
      obtain ⟨b, hb, hob, k1, k2⟩ := hcs j hjl
      subst hb
      have e0 : va = some ⟨b, 0, none⟩ := by have := HV.out; rw [hv'] at this; cases this; rfl
      subst e0
      rw [hv] at c1
      have hrv : pre.map (·.2) ++ [l[j]] = l.reverse.take (pre.length + 1) := by
        rw [List.take_succ_eq_append_getElem (by simp; omega), ← hpm]
        congr 2
        rw [List.getElem_reverse]
        congr 1; omega
      obtain ⟨fn, tmps, assign, body, hy, hRd⟩ := hY pre ((j : Int), l[j]) wr hJk (by omega)
      unfold encS at hy
      dsimp only at hy
      have q1 : (j : Int) < (l.length : Int) := by omega
      have q2 : (0 : Int) ≤ (j : Int) := by omega
      generalize l[j] = x at *
      have G : Hid _ := And.intro hKk (And.intro hrv hpl)
      clear hKk hrv hpl hpm hJk hB1 ho1 hcs hj
      gi_wp2
      refine hRd.mono ?_
      rintro e W5 (⟨rfl, hJ5, hk5⟩ | ⟨rfl, hJx5⟩)
      · obtain ⟨hKk, hrv, hpl⟩ := G.out
        have R : Hid _ := And.intro hJ5 (KeepL.t hKk hk5)
        have R2 : Hid _ := And.intro hrv hpl
        clear hJ5 hk5 hKk hrv hpl G
        gi_wp2
        go_roundw
        case rel => exact ⟨j, _, by omega, by go_num, by have := R2.out.2; simp; omega, by have := R2.out.1; simpa using this, R.out.1, R.out.2⟩
        case measure => simp [intOf]
      · have R : Hid _ := G.out.2.1
        clear G
        gi_wp2
        refine bodyPost_ret (results_none rfl _ _ _) rfl ?_
        exact ⟨⟨_, rfl⟩, .inr ⟨_, by rw [List.map_append, List.map_cons, List.map_nil, R.out]; exact List.take_prefix _ _, hJx5⟩⟩

set_option maxHeartbeats 400000 in
theorem back_any (va : Option Addr) (vn vc : Nat) (w : World) :
    Calls Try.prog 57 #[.slice va vn vc] w fun e w' => ∃ c, e = .returned (.func (.func 60) #[] #[.pointer (some ⟨c, 0, none⟩)]) ∧ w.heap.size ≤ c ∧ Blk w' c 66 [.slice va vn vc] ∧ Below w.heap.size w w' := by
  have B2 : Blk (w.alloc (.cells #[.slice va vn vc] 66)) w.heap.size 66 [.slice va vn vc] := Blk.new' w _ _
  have b2 : Below w.heap.size w (w.alloc (.cells #[.slice va vn vc] 66)) := (Below.refl _ _).alloc (Nat.le_refl _) _
  have F : Hid _ := And.intro B2 b2
  clear B2 b2
  go_enter Try.func57, Try.ntmps57
  go_wp2
  go_ret
  exact ⟨_, rfl, Nat.le_refl _, F.out.1, F.out.2⟩
set_option maxHeartbeats 400000 in
theorem upTo1_any (a b r : Int) (rb : Nat) (w : World) (hB : w.cell? ⟨rb, 0, none⟩ = some (.int .i64 r)) :
    Calls Try.prog 50 #[.agg #[.int .i64 a, .int .i64 b], .pointer (some ⟨rb, 0, none⟩)] w fun e w' => e = .returned (.bool (decide (a ≤ r))) ∧ Below w.heap.size w w' := by
  have b2 : Below w.heap.size w (w.alloc (.cells #[.int .i64 a, .int .i64 b] 72)) := (Below.refl _ _).alloc (Nat.le_refl _) _
  have M := Blk.new' w 72 [.int .i64 a, .int .i64 b]
  have k0 := blk_at M 0
  simp at k0
  have k1 := cell_later b2 hB
  have F : Hid _ := b2
  clear b2 M hB
  by_cases hab : a ≤ r
  · rw [decide_eq_true hab]
    go_enter Try.func50, Try.ntmps50
    go_wp2
    go_ret
    exact ⟨by simp_all, F.out⟩
  · rw [decide_eq_false hab]
    go_enter Try.func50, Try.ntmps50
    go_wp2
    go_ret
    exact ⟨by simp_all, F.out⟩
end Go.Proofs.Ytjelbekjmfnenaa
