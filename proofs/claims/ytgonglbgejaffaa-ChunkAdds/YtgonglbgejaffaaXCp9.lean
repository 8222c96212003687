/- The document's reader of pieces. -/
import Derived.Test.YtgonglbgejaffaaXCp8
import Derived.Test.YtgonglbgejaffaaXSumRef
import Derived.Test.YtgonglbgejaffaaXFieldP2
namespace Go.Proofs.Ytgonglbgejaffaa
open Go.RowKit
set_option linter.unusedVariables false
set_option linter.unusedSimpArgs false
set_option maxRecDepth 4000

structure RQl where
  g : Nat
  t : Nat
  d : Nat
  vs : List Value
  cl : Bool
def RQl.tv (p : RQl) (n : Nat) : Value := if n = 0 then .slice none 0 0 else .slice (some ⟨p.t, 0, none⟩) n n
def RQl.dv (p : RQl) (n : Nat) : Value := if n = 0 then .slice none 0 0 else .slice (some ⟨p.d, 0, none⟩) n n
structure RqP (w : World) (p : RQl) (m : CR) : Prop where
  blk : Blk w p.g 41 [.int .i64 m.id, .int .u32 m.s, p.tv m.ps.length, p.dv m.ps.length, .int .i64 m.ad, .bool p.cl]
  there : m.ps.length ≠ 0 → Blk w p.t 4 (m.ps.map isB)
  data : m.ps.length ≠ 0 → Blk w p.d 22 p.vs
  len : p.vs.length = m.ps.length
  each : ∀ (i : Nat) (o : Option (List (BitVec 8))), m.ps[i]? = some o → ∃ v, p.vs[i]? = some v ∧ Own w 0 v (o.getD [])
  ad : 0 ≤ m.ad
def rqW (p : RQl) (n : Nat) : List Nat := p.g :: (if n = 0 then [] else [p.t, p.d])
def rqOb (p : RQl) (m : CR) : Ob := ⟨rqW p m.ps.length, p.vs.filterMap (·.ownBlock), fun w => RqP w p m⟩
theorem mem_rqW {p : RQl} {n : Nat} {k : Nat} : k ∈ rqW p n ↔ k = p.g ∨ (n ≠ 0 ∧ k = p.t) ∨ (n ≠ 0 ∧ k = p.d) := by
  unfold rqW
  by_cases h0 : n = 0
  · rw [if_pos h0]; simp [h0]
  · rw [if_neg h0]; simp [h0]
theorem rqOb_stable (p : RQl) (m : CR) (w1 w2 : World) (hb : ∀ k, k ∈ (rqOb p m).W ∨ k ∈ (rqOb p m).V → w2.heap[k]? = w1.heap[k]?) (h : (rqOb p m).P w1) : (rqOb p m).P w2 := by
  have hB : ∀ k, k ∈ (rqOb p m).W → ∀ T xs, Blk w1 k T xs → Blk w2 k T xs := fun k hk T xs h1 => by unfold Blk at *; rw [hb k (.inl hk)]; exact h1
  refine ⟨hB _ (mem_rqW.2 (.inl rfl)) _ _ h.blk, fun h0 => hB _ (mem_rqW.2 (.inr (.inl ⟨h0, rfl⟩))) _ _ (h.there h0), fun h0 => hB _ (mem_rqW.2 (.inr (.inr ⟨h0, rfl⟩))) _ _ (h.data h0), h.len, fun i o hi => ?_, h.ad⟩
  obtain ⟨v, hv, hl⟩ := h.each i o hi
  exact ⟨v, hv, Own.same hl (fun k hk => hb k (.inr (List.mem_filterMap.2 ⟨v, List.mem_of_getElem? hv, hk⟩)))⟩
theorem RqP.vs_own {w : World} {p : RQl} {m : CR} (h : RqP w p m) {k : Nat} (hk : k ∈ p.vs.filterMap (·.ownBlock)) : ∃ v l, Own w 0 v l ∧ v.ownBlock = some k := by
  obtain ⟨v, hv, e⟩ := List.mem_filterMap.1 hk
  obtain ⟨i, hi, rfl⟩ := List.getElem_of_mem hv
  have hi2 : i < m.ps.length := by rw [← h.len]; exact hi
  obtain ⟨u, hu, ho⟩ := h.each i m.ps[i] (List.getElem?_eq_getElem hi2)
  rw [List.getElem?_eq_getElem hi] at hu
  cases hu
  exact ⟨_, _, ho, e⟩
theorem RqP.mem_W {w : World} {p : RQl} {m : CR} (h : RqP w p m) {k : Nat} (hk : k ∈ (rqOb p m).W) : ∃ T xs, Blk w k T xs ∧ T ≠ 5 := by
  rcases mem_rqW.1 hk with rfl | ⟨h0, rfl⟩ | ⟨h0, rfl⟩
  · exact ⟨_, _, h.blk, by decide⟩
  · exact ⟨_, _, h.there h0, by decide⟩
  · exact ⟨_, _, h.data h0, by decide⟩
theorem rqOb_ok {w : World} {p : RQl} {m : CR} (h : RqP w p m) : (rqOb p m).Ok w := by
  refine ⟨h, fun k hk => ?_, fun k hk hv => ?_, rqOb_stable p m⟩
  · rcases hk with hk | hk
    · obtain ⟨T, xs, hb, -⟩ := h.mem_W hk
      exact hb.lt
    · obtain ⟨v, l, ho, e⟩ := h.vs_own hk
      exact (World.ownsRow.lt ho k e).2
  · obtain ⟨T, xs, hb, hT⟩ := h.mem_W hk
    obtain ⟨v, l, ho, e⟩ := h.vs_own hv
    exact own_apart ho hb hT k e rfl
theorem rq_notW {w : World} {p : RQl} {m : CR} {b : Nat} {v : Value} {l : List (BitVec 8)} (h : RqP w p m) (ho : Own w b v l) : ∀ k, v.ownBlock = some k → k ∉ (rqOb p m).W := fun k e hk => by
  obtain ⟨T, xs, hb, hT⟩ := h.mem_W hk
  exact own_apart ho hb hT k e rfl
theorem rtv_is (p : RQl) (n : Nat) : ∃ ta, p.tv n = .slice ta n n := by
  unfold RQl.tv
  split
  · rename_i h; subst h; exact ⟨_, rfl⟩
  · exact ⟨_, rfl⟩
theorem rdv_is (p : RQl) (n : Nat) : ∃ ta, p.dv n = .slice ta n n := by
  unfold RQl.dv
  split
  · rename_i h; subst h; exact ⟨_, rfl⟩
  · exact ⟨_, rfl⟩
theorem right7_any (id : Int) (w : World) : Calls Try.prog 30 #[.int .i64 id] w fun e w' => e = .returned (.bool (idB id)) ∧ w = w' := by
  unfold idB
  by_cases h1 : 1 ≤ id
  · by_cases h2 : id ≤ 1152921504606846976
    · rw [decide_eq_true ⟨h1, h2⟩]
      go_enter Try.func30, Try.ntmps30
      go_wp2
      go_ret
      exact ⟨by first | rfl | simp [h2], rfl⟩
    · rw [decide_eq_false (fun e => h2 e.2)]
      go_enter Try.func30, Try.ntmps30
      go_wp2
      go_ret
      exact ⟨by first | rfl | simp [h2] | (simp; omega), rfl⟩
  · rw [decide_eq_false (fun e => h1 e.1)]
    go_enter Try.func30, Try.ntmps30
    go_wp2
    go_ret
    exact ⟨by first | rfl | simp [h1] | (simp; omega), rfl⟩
/-- what stands in memory behind a piece more, raw -/
theorem rq_put {w u wf : World} {p : RQl} {m : CR} {i : Nat} {d : List (BitVec 8)} {v : Value} (h : (rqOb p m).Ok w) (hb : Below w.heap.size w u) (hsi : m.ps[i]? = some none) (ho : Own u w.heap.size v d)
    (hG : Blk wf p.g 41 [.int .i64 m.id, .int .u32 m.s, p.tv m.ps.length, p.dv m.ps.length, .int .i64 (m.ad + 1), .bool p.cl])
    (hT : Blk wf p.t 4 ((m.ps.map isB).set i (.bool true))) (hD : Blk wf p.d 22 (p.vs.set i v)) (ht : Turned (fun k => k = p.g ∨ k = p.t ∨ k = p.d) u wf) :
    ∃ p', p'.g = p.g ∧ p'.cl = p.cl ∧ Step w wf (rqOb p m) (rqOb p' (addM (setPc m i d))) := by
  have hi : i < m.ps.length := (List.getElem?_eq_some_iff.1 hsi).1
  have hne : m.ps.length ≠ 0 := by omega
  have hM : setPc m i d = { m with ps := m.ps.set i (some d) } := by unfold setPc; rw [hsi]
  have hP := (h.later hb).holds
  have hT2 : Turned (· ∈ (rqOb p m).W) u wf := ht.mono (fun k e => mem_rqW.2 (e.imp (fun e => e) (fun e => e.imp (fun e => ⟨hne, e⟩) (fun e => ⟨hne, e⟩))))
  refine ⟨⟨p.g, p.t, p.d, p.vs.set i v, p.cl⟩, rfl, rfl, (tnd6 hb).trans (hT2.mono (fun k e => .inl e)), rqOb_ok ?_, fun k hk => ?_, fun k hk => ?_⟩
  · rw [hM]
    refine ⟨?_, fun _ => ?_, fun _ => hD, ?_, fun j o hj => ?_, by have := hP.ad; show 0 ≤ m.ad + 1; omega⟩
    · show Blk wf p.g _ [_, _, RQl.tv _ (m.ps.set i (some d)).length, RQl.dv _ (m.ps.set i (some d)).length, _, _]
      rw [List.length_set]
      exact hG
    · show Blk wf p.t _ ((m.ps.set i (some d)).map isB)
      rw [List.map_set]
      exact hT
    · show (p.vs.set i v).length = (m.ps.set i (some d)).length
      rw [List.length_set, List.length_set]; exact hP.len
    · have hj' : (m.ps.set i (some d))[j]? = some o := hj
      by_cases hij : i = j
      · subst hij
        rw [List.getElem?_set_self hi] at hj'
        cases hj'
        exact ⟨_, List.getElem?_set_self (by rw [hP.len]; exact hi), (ho.lower (Nat.zero_le _)).turned hT2 (rq_notW hP ho)⟩
      · rw [List.getElem?_set_ne hij] at hj'
        obtain ⟨x, hx, hxo⟩ := hP.each j o hj'
        exact ⟨x, by show (p.vs.set i v)[j]? = _; rw [List.getElem?_set_ne hij]; exact hx, hxo.turned hT2 (rq_notW hP hxo)⟩
  · left
    rw [hM] at hk
    have hk' : k ∈ rqW p (m.ps.set i (some d)).length := hk
    rw [List.length_set] at hk'
    exact hk'
  · obtain ⟨x, hx, e⟩ := List.mem_filterMap.1 hk
    have hx' : x ∈ p.vs.set i v := hx
    rcases List.mem_or_eq_of_mem_set hx' with hx' | rfl
    · exact .inr (.inl (List.mem_filterMap.2 ⟨x, hx', e⟩))
    · exact .inr (.inr (World.ownsRow.lt ho k e).1)
end Go.Proofs.Ytgonglbgejaffaa

