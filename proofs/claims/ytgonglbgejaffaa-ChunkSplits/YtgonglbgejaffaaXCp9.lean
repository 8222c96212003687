/- The document's reader of pieces. -/
import Derived.Test.YtgonglbgejaffaaXCp6
import Derived.Test.YtgonglbgejaffaaXSumRef
import Derived.Test.YtgonglbgejaffaaXFieldP2
namespace Go.Proofs.Ytgonglbgejaffaa
open Go.RowKit
set_option linter.unusedVariables false
set_option linter.unusedSimpArgs false
set_option maxRecDepth 4000

structure RQl where
  g : Nat
  t : Nat
  d : Nat
  vs : List Value
  cl : Bool
def RQl.tv (p : RQl) (n : Nat) : Value := if n = 0 then .slice none 0 0 else .slice (some ⟨p.t, 0, none⟩) n n
def RQl.dv (p : RQl) (n : Nat) : Value := if n = 0 then .slice none 0 0 else .slice (some ⟨p.d, 0, none⟩) n n
structure RqP (w : World) (p : RQl) (m : CR) : Prop where
  blk : Blk w p.g 41 [.int .i64 m.id, .int .u32 m.s, p.tv m.ps.length, p.dv m.ps.length, .int .i64 m.ad, .bool p.cl]
  there : m.ps.length ≠ 0 → Blk w p.t 4 (m.ps.map isB)
  data : m.ps.length ≠ 0 → Blk w p.d 22 p.vs
  len : p.vs.length = m.ps.length
  each : ∀ (i : Nat) (o : Option (List (BitVec 8))), m.ps[i]? = some o → ∃ v, p.vs[i]? = some v ∧ Own w 0 v (o.getD [])
  ad : 0 ≤ m.ad
def rqW (p : RQl) (n : Nat) : List Nat := p.g :: (if n = 0 then [] else [p.t, p.d])
def rqOb (p : RQl) (m : CR) : Ob := ⟨rqW p m.ps.length, p.vs.filterMap (·.ownBlock), fun w => RqP w p m⟩
theorem mem_rqW {p : RQl} {n : Nat} {k : Nat} : k ∈ rqW p n ↔ k = p.g ∨ (n ≠ 0 ∧ k = p.t) ∨ (n ≠ 0 ∧ k = p.d) := by
  unfold rqW
  by_cases h0 : n = 0
  · rw [if_pos h0]; simp [h0]
  · rw [if_neg h0]; simp [h0]
theorem rqOb_stable (p : RQl) (m : CR) (w1 w2 : World) (hb : ∀ k, k ∈ (rqOb p m).W ∨ k ∈ (rqOb p m).V → w2.heap[k]? = w1.heap[k]?) (h : (rqOb p m).P w1) : (rqOb p m).P w2 := by
  have hB : ∀ k, k ∈ (rqOb p m).W → ∀ T xs, Blk w1 k T xs → Blk w2 k T xs := fun k hk T xs h1 => by unfold Blk at *; rw [hb k (.inl hk)]; exact h1
  refine ⟨hB _ (mem_rqW.2 (.inl rfl)) _ _ h.blk, fun h0 => hB _ (mem_rqW.2 (.inr (.inl ⟨h0, rfl⟩))) _ _ (h.there h0), fun h0 => hB _ (mem_rqW.2 (.inr (.inr ⟨h0, rfl⟩))) _ _ (h.data h0), h.len, fun i o hi => ?_, h.ad⟩
  obtain ⟨v, hv, hl⟩ := h.each i o hi
  exact ⟨v, hv, Own.same hl (fun k hk => hb k (.inr (List.mem_filterMap.2 ⟨v, List.mem_of_getElem? hv, hk⟩)))⟩
theorem RqP.vs_own {w : World} {p : RQl} {m : CR} (h : RqP w p m) {k : Nat} (hk : k ∈ p.vs.filterMap (·.ownBlock)) : ∃ v l, Own w 0 v l ∧ v.ownBlock = some k := by
  obtain ⟨v, hv, e⟩ := List.mem_filterMap.1 hk
  obtain ⟨i, hi, rfl⟩ := List.getElem_of_mem hv
  have hi2 : i < m.ps.length := by rw [← h.len]; exact hi
  obtain ⟨u, hu, ho⟩ := h.each i m.ps[i] (List.getElem?_eq_getElem hi2)
  rw [List.getElem?_eq_getElem hi] at hu
  cases hu
  exact ⟨_, _, ho, e⟩
theorem RqP.mem_W {w : World} {p : RQl} {m : CR} (h : RqP w p m) {k : Nat} (hk : k ∈ (rqOb p m).W) : ∃ T xs, Blk w k T xs ∧ T ≠ 5 := by
  rcases mem_rqW.1 hk with rfl | ⟨h0, rfl⟩ | ⟨h0, rfl⟩
  · exact ⟨_, _, h.blk, by decide⟩
  · exact ⟨_, _, h.there h0, by decide⟩
  · exact ⟨_, _, h.data h0, by decide⟩
theorem rqOb_ok {w : World} {p : RQl} {m : CR} (h : RqP w p m) : (rqOb p m).Ok w := by
  refine ⟨h, fun k hk => ?_, fun k hk hv => ?_, rqOb_stable p m⟩
  · rcases hk with hk | hk
    · obtain ⟨T, xs, hb, -⟩ := h.mem_W hk
      exact hb.lt
    · obtain ⟨v, l, ho, e⟩ := h.vs_own hk
      exact (World.ownsRow.lt ho k e).2
  · obtain ⟨T, xs, hb, hT⟩ := h.mem_W hk
    obtain ⟨v, l, ho, e⟩ := h.vs_own hv
    exact own_apart ho hb hT k e rfl
theorem rq_notW {w : World} {p : RQl} {m : CR} {b : Nat} {v : Value} {l : List (BitVec 8)} (h : RqP w p m) (ho : Own w b v l) : ∀ k, v.ownBlock = some k → k ∉ (rqOb p m).W := fun k e hk => by
  obtain ⟨T, xs, hb, hT⟩ := h.mem_W hk
  exact own_apart ho hb hT k e rfl
theorem rtv_is (p : RQl) (n : Nat) : ∃ ta, p.tv n = .slice ta n n := by
  unfold RQl.tv
  split
  · rename_i h; subst h; exact ⟨_, rfl⟩
  · exact ⟨_, rfl⟩
theorem rdv_is (p : RQl) (n : Nat) : ∃ ta, p.dv n = .slice ta n n := by
  unfold RQl.dv
  split
  · rename_i h; subst h; exact ⟨_, rfl⟩
  · exact ⟨_, rfl⟩
theorem right7_any (id : Int) (w : World) : Calls Try.prog 30 #[.int .i64 id] w fun e w' => e = .returned (.bool (idB id)) ∧ w = w' := by
  unfold idB
  by_cases h1 : 1 ≤ id
  · by_cases h2 : id ≤ 1152921504606846976
    · rw [decide_eq_true ⟨h1, h2⟩]
      go_enter Try.func30, Try.ntmps30
      go_wp2
      go_ret
      exact ⟨by first | rfl | simp [h2], rfl⟩
    · rw [decide_eq_false (fun e => h2 e.2)]
      go_enter Try.func30, Try.ntmps30
      go_wp2
      go_ret
      exact ⟨by first | rfl | simp [h2] | (simp; omega), rfl⟩
  · rw [decide_eq_false (fun e => h1 e.1)]
    go_enter Try.func30, Try.ntmps30
    go_wp2
    go_ret
    exact ⟨by first | rfl | simp [h1] | (simp; omega), rfl⟩
/-- what stands in memory behind a piece more, raw -/
theorem rq_put {w u wf : World} {p : RQl} {m : CR} {i : Nat} {d : List (BitVec 8)} {v : Value} (h : (rqOb p m).Ok w) (hb : Below w.heap.size w u) (hsi : m.ps[i]? = some none) (ho : Own u w.heap.size v d)
    (hG : Blk wf p.g 41 [.int .i64 m.id, .int .u32 m.s, p.tv m.ps.length, p.dv m.ps.length, .int .i64 (m.ad + 1), .bool p.cl])
    (hT : Blk wf p.t 4 ((m.ps.map isB).set i (.bool true))) (hD : Blk wf p.d 22 (p.vs.set i v)) (ht : Turned (fun k => k = p.g ∨ k = p.t ∨ k = p.d) u wf) :
    ∃ p', p'.g = p.g ∧ p'.cl = p.cl ∧ Step w wf (rqOb p m) (rqOb p' (addM (setPc m i d))) := by
  have hi : i < m.ps.length := (List.getElem?_eq_some_iff.1 hsi).1
  have hne : m.ps.length ≠ 0 := by omega
  have hM : setPc m i d = { m with ps := m.ps.set i (some d) } := by unfold setPc; rw [hsi]
  have hP := (h.later hb).holds
  have hT2 : Turned (· ∈ (rqOb p m).W) u wf := ht.mono (fun k e => mem_rqW.2 (e.imp (fun e => e) (fun e => e.imp (fun e => ⟨hne, e⟩) (fun e => ⟨hne, e⟩))))
  refine ⟨⟨p.g, p.t, p.d, p.vs.set i v, p.cl⟩, rfl, rfl, (tnd6 hb).trans (hT2.mono (fun k e => .inl e)), rqOb_ok ?_, fun k hk => ?_, fun k hk => ?_⟩
  · rw [hM]
    refine ⟨?_, fun _ => ?_, fun _ => hD, ?_, fun j o hj => ?_, by have := hP.ad; show 0 ≤ m.ad + 1; omega⟩
    · show Blk wf p.g _ [_, _, RQl.tv _ (m.ps.set i (some d)).length, RQl.dv _ (m.ps.set i (some d)).length, _, _]
      rw [List.length_set]
      exact hG
    · show Blk wf p.t _ ((m.ps.set i (some d)).map isB)
      rw [List.map_set]
      exact hT
    · show (p.vs.set i v).length = (m.ps.set i (some d)).length
      rw [List.length_set, List.length_set]; exact hP.len
    · have hj' : (m.ps.set i (some d))[j]? = some o := hj
      by_cases hij : i = j
      · subst hij
        rw [List.getElem?_set_self hi] at hj'
        cases hj'
        exact ⟨_, List.getElem?_set_self (by rw [hP.len]; exact hi), (ho.lower (Nat.zero_le _)).turned hT2 (rq_notW hP ho)⟩
      · rw [List.getElem?_set_ne hij] at hj'
        obtain ⟨x, hx, hxo⟩ := hP.each j o hj'
        exact ⟨x, by show (p.vs.set i v)[j]? = _; rw [List.getElem?_set_ne hij]; exact hx, hxo.turned hT2 (rq_notW hP hxo)⟩
  · left
    rw [hM] at hk
    have hk' : k ∈ rqW p (m.ps.set i (some d)).length := hk
    rw [List.length_set] at hk'
    exact hk'
  · obtain ⟨x, hx, e⟩ := List.mem_filterMap.1 hk
    have hx' : x ∈ p.vs.set i v := hx
    rcases List.mem_or_eq_of_mem_set hx' with hx' | rfl
    · exact .inr (.inl (List.mem_filterMap.2 ⟨x, hx', e⟩))
    · exact .inr (.inr (World.ownsRow.lt ho k e).1)
end Go.Proofs.Ytgonglbgejaffaa

/- The document's Add. -/
namespace Go.Proofs.Ytgonglbgejaffaa
open Go.RowKit
set_option linter.unusedVariables false
set_option linter.unusedSimpArgs false
set_option maxRecDepth 4000

/-- what is read of a piece that can be -/
theorem dc_good {l : List (BitVec 8)} {id s : Int} {i cnt : Nat} {d : List (BitVec 8)} (h : dcE l = 0) (hR : dcR l = (id, (i : Int), (cnt : Int), s, d)) :
    dc7 l = 0 ∧ (dc6 l).2.2 = ((Crc.sum (l.take (l.length - 4))).toNat : Int) ∧ (dc1 l).2.2 = id ∧ (dc2 l).2.2 = (i : Int) ∧ (dc3 l).2.2 = (cnt : Int) ∧ (dc4 l).2.2 = s ∧ (dc5 l).2.2 = d ∧ idB id = true ∧ (0 ≤ s ∧ s ≤ 4294967295) ∧ i < cnt ∧ cnt ≤ 256 ∧ d.length ≤ 4096 := by
  have hR2 : dcR l = ((dc1 l).2.2, (dc2 l).2.2, (dc3 l).2.2, (dc4 l).2.2, (dc5 l).2.2) := by unfold dcR; rw [if_pos h]
  rw [hR2] at hR
  simp only [Prod.mk.injEq] at hR
  obtain ⟨r1, r2, r3, r4, r5⟩ := hR
  have hh := h
  unfold dcE at hh
  split at hh
  · rename_i h7
    split at hh
    · rename_i h6
      split at hh
      · rename_i hc
        rw [r1, r2, r3, r5] at hc
        unfold canC at hc
        simp only [Bool.and_eq_true, decide_eq_true_eq] at hc
        obtain ⟨c1, c2, c3, c4⟩ := hc
        have hs := rd4_bd (dc3 l).1 (dc3 l).2.1
        have hs2 : 0 ≤ (dc4 l).2.2 ∧ (dc4 l).2.2 ≤ 4294967295 := hs
        rw [r4] at hs2
        exact ⟨h7, h6, r1, r2, r3, r4, r5, c1, hs2, by omega, by omega, c4⟩
      · exact absurd hh (by decide)
    · exact absurd hh (by decide)
  · rename_i h7; exact absurd hh h7
theorem rq_put2 {w0 u wf : World} {p : RQl} {o : Ob} {m : CR} {i : Nat} {d : List (BitVec 8)} {v : Value} (h : (rqOb p m).Ok u) (hsi : m.ps[i]? = some none) (ho : Own u w0.heap.size v d) (h0 : Step w0 u o (rqOb p m))
    (hG : Blk wf p.g 41 [.int .i64 m.id, .int .u32 m.s, p.tv m.ps.length, p.dv m.ps.length, .int .i64 (m.ad + 1), .bool p.cl])
    (hT : Blk wf p.t 4 ((m.ps.map isB).set i (.bool true))) (hD : Blk wf p.d 22 (p.vs.set i v)) (ht : Turned (fun k => k = p.g ∨ k = p.t ∨ k = p.d) u wf) :
    ∃ p', p'.g = p.g ∧ p'.cl = p.cl ∧ Step w0 wf o (rqOb p' (addM (setPc m i d))) := by
  have hi : i < m.ps.length := (List.getElem?_eq_some_iff.1 hsi).1
  have hne : m.ps.length ≠ 0 := by omega
  have hM : setPc m i d = { m with ps := m.ps.set i (some d) } := by unfold setPc; rw [hsi]
  have hP := h.holds
  have hT2 : Turned (· ∈ (rqOb p m).W) u wf := ht.mono (fun k e => mem_rqW.2 (e.imp (fun e => e) (fun e => e.imp (fun e => ⟨hne, e⟩) (fun e => ⟨hne, e⟩))))
  have hW : ∀ k ∈ (rqOb ⟨p.g, p.t, p.d, p.vs.set i v, p.cl⟩ (addM (setPc m i d))).W, k ∈ (rqOb p m).W := fun k hk => by
    rw [hM] at hk
    have hk' : k ∈ rqW p (m.ps.set i (some d)).length := hk
    rw [List.length_set] at hk'
    exact hk'
  refine ⟨⟨p.g, p.t, p.d, p.vs.set i v, p.cl⟩, rfl, rfl, h0.turned.trans (hT2.mono (fun k e => h0.writes k e)), rqOb_ok ?_, fun k hk => h0.writes k (hW k hk), fun k hk => ?_⟩
  · rw [hM]
    refine ⟨?_, fun _ => ?_, fun _ => hD, ?_, fun j o hj => ?_, by have := hP.ad; show 0 ≤ m.ad + 1; omega⟩
    · show Blk wf p.g _ [_, _, RQl.tv _ (m.ps.set i (some d)).length, RQl.dv _ (m.ps.set i (some d)).length, _, _]
      rw [List.length_set]
      exact hG
    · show Blk wf p.t _ ((m.ps.set i (some d)).map isB)
      rw [List.map_set]
      exact hT
    · show (p.vs.set i v).length = (m.ps.set i (some d)).length
      rw [List.length_set, List.length_set]; exact hP.len
    · have hj' : (m.ps.set i (some d))[j]? = some o := hj
      by_cases hij : i = j
      · subst hij
        rw [List.getElem?_set_self hi] at hj'
        cases hj'
        exact ⟨_, List.getElem?_set_self (by rw [hP.len]; exact hi), (ho.lower (Nat.zero_le _)).turned hT2 (rq_notW hP ho)⟩
      · rw [List.getElem?_set_ne hij] at hj'
        obtain ⟨x, hx, hxo⟩ := hP.each j o hj'
        exact ⟨x, by show (p.vs.set i v)[j]? = _; rw [List.getElem?_set_ne hij]; exact hx, hxo.turned hT2 (rq_notW hP hxo)⟩
  · obtain ⟨x, hx, e⟩ := List.mem_filterMap.1 hk
    have hx' : x ∈ p.vs.set i v := hx
    rcases List.mem_or_eq_of_mem_set hx' with hx' | rfl
    · exact h0.reads k (List.mem_filterMap.2 ⟨x, hx', e⟩)
    · exact .inr (.inr (World.ownsRow.lt ho k e).1)
theorem rqAdd_closed (a : Option Addr) (len cap : Nat) (p : RQl) (m : CR) (w : World) (h : (rqOb p m).Ok w) (hcl : p.cl = true) : Calls Try.prog 17 #[.pointer (some ⟨p.g, 0, none⟩), .slice a len cap] w fun e w' => e = .returned (.int .i64 5) ∧ w = w' := by
  have hG := h.holds.blk
  rw [hcl] at hG
  have y9 := blk_at hG 5
  simp only [List.getElem?_cons_zero, List.getElem?_cons_succ] at y9
  clear hG h
  go_enter Try.func17, Try.ntmps17
  go_wp2
  go_ret
  exact ⟨rfl, rfl⟩
set_option maxHeartbeats 8000000 in
theorem rqAdd_err (a : Option Addr) (cap : Nat) (l : List (BitVec 8)) (p : RQl) (m : CR) (w : World) (h : (rqOb p m).Ok w) (hcl : p.cl = false) (hle : l.length ≤ cap) (hr : Row w a l) (hn : a = none → cap = 0) (hlen : l.length ≤ 140737488351232) (hE : dcE l ≠ 0) : Calls Try.prog 17 #[.pointer (some ⟨p.g, 0, none⟩), .slice a l.length cap] w fun e w' => e = .returned (.int .i64 (dcE l)) ∧ Below w.heap.size w w' := by
  have hG := h.holds.blk
  rw [hcl] at hG
  have y5 := blk_at hG 5
  simp only [List.getElem?_cons_zero, List.getElem?_cons_succ] at y5
  have N := Of_any a l.length cap l w rfl hle hr hn hlen
  have HR : Hid (Row w a l) := hr
  clear hG hr
  go_enter Try.func17, Try.ntmps17
  go_wp2_with fail
  clear y5
  refine N.mono ?_
  rintro r w1 ⟨g, rfl, hg, hrd, b1⟩
  have G1 : Hid (Below w.heap.size w w1 ∧ Rd w1 [] g 104 l 0 ∧ w.heap.size ≤ g ∧ g < w1.heap.size) := ⟨b1, hrd [] (fun k hk => by cases hk), hg, (hrd [] (fun k hk => by cases hk)).blt⟩
  clear N hrd b1 hg
  have N : Calls Try.prog 40 #[.pointer (some ⟨g, 0, none⟩), .int .i64 8] w1 fun e w' => e = .returned (.int .i64 (dc1 l).2.2) ∧ Rd w' [] g 104 (dc1 l).1 (dc1 l).2.1 ∧ w1.grownBy w' (some g) := rNum_any [] g (l) (0) 8 w1 G1.out.2.1
  obtain ⟨K1, hK1⟩ : ∃ X, X = (dc1 l).2.2 := ⟨_, rfl⟩
  rw [← hK1] at N
  have HK1 : Hid (K1 = (dc1 l).2.2) := hK1
  clear hK1
  go_wp2_with fail
  refine N.mono ?_
  rintro r w2 ⟨rfl, R, g2⟩
  have G2 : Hid (Below w.heap.size w w2 ∧ Rd w2 [] g 104 (dc1 l).1 (dc1 l).2.1 ∧ w.heap.size ≤ g ∧ g < w2.heap.size) := ⟨G1.out.1.trans (grown_below g2 _ G1.out.2.2.1 G1.out.1.size), R, G1.out.2.2.1, R.blt⟩
  clear N R g2 G1
  have N : Calls Try.prog 40 #[.pointer (some ⟨g, 0, none⟩), .int .i64 2] w2 fun e w' => e = .returned (.int .i64 (dc2 l).2.2) ∧ Rd w' [] g 104 (dc2 l).1 (dc2 l).2.1 ∧ w2.grownBy w' (some g) := rNum_any [] g ((dc1 l).1) ((dc1 l).2.1) 2 w2 G2.out.2.1
  obtain ⟨K2, hK2⟩ : ∃ X, X = (dc2 l).2.2 := ⟨_, rfl⟩
  rw [← hK2] at N
  have HK2 : Hid (K2 = (dc2 l).2.2) := hK2
  clear hK2
  go_wp2_with fail
  refine N.mono ?_
  rintro r w3 ⟨rfl, R, g3⟩
  have G3 : Hid (Below w.heap.size w w3 ∧ Rd w3 [] g 104 (dc2 l).1 (dc2 l).2.1 ∧ w.heap.size ≤ g ∧ g < w3.heap.size) := ⟨G2.out.1.trans (grown_below g3 _ G2.out.2.2.1 G2.out.1.size), R, G2.out.2.2.1, R.blt⟩
  clear N R g3 G2
  have N : Calls Try.prog 40 #[.pointer (some ⟨g, 0, none⟩), .int .i64 2] w3 fun e w' => e = .returned (.int .i64 (dc3 l).2.2) ∧ Rd w' [] g 104 (dc3 l).1 (dc3 l).2.1 ∧ w3.grownBy w' (some g) := rNum_any [] g ((dc2 l).1) ((dc2 l).2.1) 2 w3 G3.out.2.1
  obtain ⟨K3, hK3⟩ : ∃ X, X = (dc3 l).2.2 := ⟨_, rfl⟩
  rw [← hK3] at N
  have HK3 : Hid (K3 = (dc3 l).2.2) := hK3
  clear hK3
  go_wp2_with fail
  refine N.mono ?_
  rintro r w4 ⟨rfl, R, g4⟩
  have G4 : Hid (Below w.heap.size w w4 ∧ Rd w4 [] g 104 (dc3 l).1 (dc3 l).2.1 ∧ w.heap.size ≤ g ∧ g < w4.heap.size) := ⟨G3.out.1.trans (grown_below g4 _ G3.out.2.2.1 G3.out.1.size), R, G3.out.2.2.1, R.blt⟩
  clear N R g4 G3
  have N : Calls Try.prog 40 #[.pointer (some ⟨g, 0, none⟩), .int .i64 4] w4 fun e w' => e = .returned (.int .i64 (dc4 l).2.2) ∧ Rd w' [] g 104 (dc4 l).1 (dc4 l).2.1 ∧ w4.grownBy w' (some g) := rNum_any [] g ((dc3 l).1) ((dc3 l).2.1) 4 w4 G4.out.2.1
  obtain ⟨K4, hK4⟩ : ∃ X, X = (dc4 l).2.2 := ⟨_, rfl⟩
  rw [← hK4] at N
  have HK4 : Hid (K4 = (dc4 l).2.2) := hK4
  clear hK4
  go_wp2_with fail
  refine N.mono ?_
  rintro r w5 ⟨rfl, R, g5⟩
  have G5 : Hid (Below w.heap.size w w5 ∧ Rd w5 [] g 104 (dc4 l).1 (dc4 l).2.1 ∧ w.heap.size ≤ g ∧ g < w5.heap.size) := ⟨G4.out.1.trans (grown_below g5 _ G4.out.2.2.1 G4.out.1.size), R, G4.out.2.2.1, R.blt⟩
  clear N R g5 G4
  have N : Calls Try.prog 41 #[.pointer (some ⟨g, 0, none⟩), .int .i64 2] w5 fun e w' => ∃ v, e = .returned v ∧ Own w' w5.heap.size v (dc5 l).2.2 ∧ Rd w' [] g 104 (dc5 l).1 (dc5 l).2.1 ∧ w5.grownBy w' (some g) := rBytes_any [] g (dc4 l).1 (dc4 l).2.1 2 w5 G5.out.2.1 (fun k hk => by cases hk)
  have hCl := (dc5_le l).2
  obtain ⟨C, hC⟩ : ∃ X, X = (dc5 l).2.2 := ⟨_, rfl⟩
  rw [← hC] at N hCl
  have HC : Hid (C = (dc5 l).2.2) := hC
  clear hC
  go_wp2_with fail
  refine N.mono ?_
  rintro r w6 ⟨v, rfl, oV, R, g6⟩
  have G6 : Hid (Below w.heap.size w w6 ∧ Rd w6 [] g 104 (dc5 l).1 (dc5 l).2.1 ∧ w.heap.size ≤ g ∧ g < w5.heap.size ∧ w.heap.size ≤ w5.heap.size ∧ Own w6 w5.heap.size v C) := ⟨G5.out.1.trans (grown_below g6 _ G5.out.2.2.1 G5.out.1.size), R, G5.out.2.2.1, G5.out.2.2.2, G5.out.1.size, oV⟩
  clear N R g6 G5 oV
  have N : Calls Try.prog 40 #[.pointer (some ⟨g, 0, none⟩), .int .i64 4] w6 fun e w' => e = .returned (.int .i64 (dc6 l).2.2) ∧ Rd w' [] g 104 (dc6 l).1 (dc6 l).2.1 ∧ w6.grownBy w' (some g) := rNum_any [] g (dc5 l).1 (dc5 l).2.1 4 w6 G6.out.2.1
  obtain ⟨S6, hS6⟩ : ∃ X, X = (dc6 l).2.2 := ⟨_, rfl⟩
  rw [← hS6] at N
  have HS6 : Hid (S6 = (dc6 l).2.2) := hS6
  clear hS6
  go_wp2_with fail
  refine N.mono ?_
  rintro r w7 ⟨rfl, R, g7⟩
  have G7 : Hid (Below w.heap.size w w7 ∧ Rd w7 [] g 104 (dc6 l).1 (dc6 l).2.1 ∧ Own w7 w.heap.size v C) := ⟨G6.out.1.trans (grown_below g7 _ G6.out.2.2.1 G6.out.1.size), R, (G6.out.2.2.2.2.2.keep g7 (fun k hk e => by have h1 := (World.ownsRow.lt G6.out.2.2.2.2.2 k hk).1; have h2 := G6.out.2.2.2.1; have h3 := Option.some.inj e; omega)).lower G6.out.2.2.2.2.1⟩
  clear N R g7 G6
  have N : Calls Try.prog 42 #[.pointer (some ⟨g, 0, none⟩)] w7 fun e w' => e = .returned (.int .i64 (dc7 l)) ∧ w7 = w' := rEnd_any [] g (dc6 l).1 (dc6 l).2.1 w7 G7.out.2.1
  obtain ⟨E7, hE7⟩ : ∃ X, X = dc7 l := ⟨_, rfl⟩
  rw [← hE7] at N
  have HE7 : Hid (E7 = dc7 l) := hE7
  clear hE7
  obtain ⟨x, xc, rfl, hxc, -, hxr, hxn, -⟩ := G7.out.2.2.open
  have GX : Hid _ := And.intro hxc (And.intro hxr hxn)
  clear hxc hxr hxn
  go_wp2_with fail
  refine N.mono ?_
  rintro r _ ⟨rfl, rfl⟩
  clear N
  by_cases e0 : E7 = 0
  · have e7 : dc7 l = 0 := by rw [← HE7.out]; exact e0
    have q0 : (E7 == 0) = true := by rw [beq_iff_eq]; exact e0
    clear e0
    have h4 := dc7_len e7
    have NS : Hid (Calls Try.prog 32 #[.slice a (l.length - 4) cap] w7 fun e w'' => e = .returned (.int .u32 ((Crc.sum (l.take (l.length - 4))).toNat : Int)) ∧ w7 = w'') := rsum_any a (l.length - 4) cap (l.take (l.length - 4)) w7 (by rw [List.length_take]; omega) (by unfold maxLen; omega) ((HR.out.later G7.out.1).takes (l.length - 4))
    have hQ := (Crc.sum (l.take (l.length - 4))).isLt
    obtain ⟨Q, hQe⟩ : ∃ Q : Int, Q = ((Crc.sum (l.take (l.length - 4))).toNat : Int) := ⟨_, rfl⟩
    rw [← hQe] at NS
    have hQ1 : 0 ≤ Q ∧ Q ≤ 4294967295 := by omega
    have HQ : Hid _ := hQe
    have q1 : (4 : Int) ≤ (l.length : Int) := by omega
    have q2 : (l.length : Int) ≤ 140737488351232 := by omega
    have q3 : (l.length : Int) - 4 ≤ (cap : Int) := by omega
    have q4 : ((l.length : Int) - 4).toNat = l.length - 4 := by omega
    have q5 : (0 : Int) ≤ (l.length : Int) - 4 := by omega
    clear hQ hQe h4
    by_cases es : S6 = Q
    · have es' : (S6 == Q) = true := by rw [beq_iff_eq]; exact es
      have hES : dcE l = if canC K1 K2 K3 C.length = true then 0 else 1 := by unfold dcE; rw [if_pos e7, ← HS6.out, ← HQ.out, if_pos es, ← HK1.out, ← HK2.out, ← HK3.out, ← HC.out]
      have hcc : canC K1 K2 K3 C.length = false := by
        cases hc : canC K1 K2 K3 C.length with
        | false => rfl
        | true => rw [hc, if_pos rfl] at hES; exact absurd hES hE
      have hE1 : dcE l = 1 := by rw [hES, hcc]; rfl
      have HE1 : Hid _ := hE1
      have k2 : 0 ≤ K2 := by rw [HK2.out]; exact (rd2_lo _ _).1
      have HF : Hid (Below w.heap.size w w7) := G7.out.1
      have NR : Hid _ := right7_any K1 w7
      clear hES hE1 hE es
      unfold canC at hcc
      generalize idB K1 = ib at *
      clear HK1 HK2 HK3 HK4 HC HS6 HE7 G7 GX
      have hcs : ib = false ∨ (ib = true ∧ K3 < 1) ∨ (ib = true ∧ 1 ≤ K3 ∧ 256 < K3) ∨ (ib = true ∧ 1 ≤ K3 ∧ K3 ≤ 256 ∧ K3 ≤ K2) ∨ (ib = true ∧ 1 ≤ K3 ∧ K3 ≤ 256 ∧ K2 < K3 ∧ 4096 < C.length) := by
        cases ib with
        | false => exact .inl rfl
        | true =>
          simp only [Bool.true_and, Bool.and_eq_false_iff, decide_eq_false_iff_not] at hcc
          by_cases a1 : K3 < 1
          · exact .inr (.inl ⟨rfl, a1⟩)
          by_cases a2 : 256 < K3
          · exact .inr (.inr (.inl ⟨rfl, by omega, a2⟩))
          by_cases a3 : K3 ≤ K2
          · exact .inr (.inr (.inr (.inl ⟨rfl, by omega, by omega, a3⟩)))
          · exact .inr (.inr (.inr (.inr ⟨rfl, by omega, by omega, by omega, by omega⟩)))
      clear hcc
      go_wp2_with fail
      refine (Calls.mono NS.out) ?_
      rintro e _ ⟨rfl, rfl⟩
      go_upto_region 15 with fail
      rcases hcs with rfl | ⟨rfl, a1⟩ | ⟨rfl, a1, a2⟩ | ⟨rfl, a1, a2, a3⟩ | ⟨rfl, a1, a2, a3, a4⟩
      all_goals
        go_wp2_with fail
        refine (Calls.mono NR.out) ?_
        rintro e _ ⟨rfl, rfl⟩
        try (have a5 : (4096 : Int) < (C.length : Int) := by omega)
        try (have a6 : ¬ (K3 ≤ K2) := by omega)
        try (have a7 : ¬ (256 < K3) := by omega)
        try (have a8 : ¬ (K3 < 1) := by omega)
        go_wp2
        go_ret
        exact ⟨by rw [HE1.out]; try rfl, HF.out⟩
    · have hE1 : dcE l = 12 := by unfold dcE; rw [if_pos e7, ← HS6.out, ← HQ.out, if_neg es]
      have HE1 : Hid _ := hE1
      have es' : (S6 == Q) = false := by rw [beq_eq_false_iff_ne]; exact es
      have HF : Hid (Below w.heap.size w w7) := G7.out.1
      clear hE1 hE es G7 GX
      go_wp2_with fail
      refine (Calls.mono NS.out) ?_
      rintro e _ ⟨rfl, rfl⟩
      go_wp2
      go_ret
      exact ⟨by rw [HE1.out]; try rfl, HF.out⟩
  · have hE1 : dcE l = E7 := by unfold dcE; rw [← HE7.out, if_neg e0]
    have HE1 : Hid _ := hE1
    have q0 : (E7 == 0) = false := by rw [beq_eq_false_iff_ne]; exact e0
    have HF : Hid (Below w.heap.size w w7) := G7.out.1
    clear hE1 hE G7 GX
    go_wp2
    go_ret
    exact ⟨by rw [HE1.out]; try rfl, HF.out⟩
set_option maxHeartbeats 8000000 in
theorem rqAdd_old (a : Option Addr) (cap : Nat) (l : List (BitVec 8)) (p : RQl) (m : CR) (w : World) (h : (rqOb p m).Ok w) (hcl : p.cl = false) (hle : l.length ≤ cap) (hr : Row w a l) (hn : a = none → cap = 0) (hlen : l.length ≤ 140737488351232) (hE : dcE l = 0) (id s : Int) (i cnt : Nat) (d : List (BitVec 8)) (hR : dcR l = (id, (i : Int), (cnt : Int), s, d)) (hid : id < m.id) : Calls Try.prog 17 #[.pointer (some ⟨p.g, 0, none⟩), .slice a l.length cap] w fun e w' => e = .returned (.int .i64 5) ∧ Below w.heap.size w w' := by
  obtain ⟨e7, e6, e1, e2, e3, e4, e5, hid0, hsb, hic, hc2, hd⟩ := dc_good hE hR
  have HE9 : Hid _ := And.intro e7 e6
  have hG := h.holds.blk
  rw [hcl] at hG
  have y5 := blk_at hG 5
  simp only [List.getElem?_cons_zero, List.getElem?_cons_succ] at y5
  have N := Of_any a l.length cap l w rfl hle hr hn hlen
  have HR : Hid (Row w a l) := hr
  clear hG hr
  go_enter Try.func17, Try.ntmps17
  go_wp2_with fail
  clear y5
  refine N.mono ?_
  rintro r w1 ⟨g, rfl, hg, hrd, b1⟩
  have G1 : Hid (Below w.heap.size w w1 ∧ Rd w1 [] g 104 l 0 ∧ w.heap.size ≤ g ∧ g < w1.heap.size) := ⟨b1, hrd [] (fun k hk => by cases hk), hg, (hrd [] (fun k hk => by cases hk)).blt⟩
  clear N hrd b1 hg
  have N : Calls Try.prog 40 #[.pointer (some ⟨g, 0, none⟩), .int .i64 8] w1 fun e w' => e = .returned (.int .i64 (dc1 l).2.2) ∧ Rd w' [] g 104 (dc1 l).1 (dc1 l).2.1 ∧ w1.grownBy w' (some g) := rNum_any [] g (l) (0) 8 w1 G1.out.2.1
  rw [e1] at N
  go_wp2_with fail
  refine N.mono ?_
  rintro r w2 ⟨rfl, R, g2⟩
  have G2 : Hid (Below w.heap.size w w2 ∧ Rd w2 [] g 104 (dc1 l).1 (dc1 l).2.1 ∧ w.heap.size ≤ g ∧ g < w2.heap.size) := ⟨G1.out.1.trans (grown_below g2 _ G1.out.2.2.1 G1.out.1.size), R, G1.out.2.2.1, R.blt⟩
  clear N R g2 G1
  have N : Calls Try.prog 40 #[.pointer (some ⟨g, 0, none⟩), .int .i64 2] w2 fun e w' => e = .returned (.int .i64 (dc2 l).2.2) ∧ Rd w' [] g 104 (dc2 l).1 (dc2 l).2.1 ∧ w2.grownBy w' (some g) := rNum_any [] g ((dc1 l).1) ((dc1 l).2.1) 2 w2 G2.out.2.1
  rw [e2] at N
  go_wp2_with fail
  refine N.mono ?_
  rintro r w3 ⟨rfl, R, g3⟩
  have G3 : Hid (Below w.heap.size w w3 ∧ Rd w3 [] g 104 (dc2 l).1 (dc2 l).2.1 ∧ w.heap.size ≤ g ∧ g < w3.heap.size) := ⟨G2.out.1.trans (grown_below g3 _ G2.out.2.2.1 G2.out.1.size), R, G2.out.2.2.1, R.blt⟩
  clear N R g3 G2
  have N : Calls Try.prog 40 #[.pointer (some ⟨g, 0, none⟩), .int .i64 2] w3 fun e w' => e = .returned (.int .i64 (dc3 l).2.2) ∧ Rd w' [] g 104 (dc3 l).1 (dc3 l).2.1 ∧ w3.grownBy w' (some g) := rNum_any [] g ((dc2 l).1) ((dc2 l).2.1) 2 w3 G3.out.2.1
  rw [e3] at N
  go_wp2_with fail
  refine N.mono ?_
  rintro r w4 ⟨rfl, R, g4⟩
  have G4 : Hid (Below w.heap.size w w4 ∧ Rd w4 [] g 104 (dc3 l).1 (dc3 l).2.1 ∧ w.heap.size ≤ g ∧ g < w4.heap.size) := ⟨G3.out.1.trans (grown_below g4 _ G3.out.2.2.1 G3.out.1.size), R, G3.out.2.2.1, R.blt⟩
  clear N R g4 G3
  have N : Calls Try.prog 40 #[.pointer (some ⟨g, 0, none⟩), .int .i64 4] w4 fun e w' => e = .returned (.int .i64 (dc4 l).2.2) ∧ Rd w' [] g 104 (dc4 l).1 (dc4 l).2.1 ∧ w4.grownBy w' (some g) := rNum_any [] g ((dc3 l).1) ((dc3 l).2.1) 4 w4 G4.out.2.1
  rw [e4] at N
  go_wp2_with fail
  refine N.mono ?_
  rintro r w5 ⟨rfl, R, g5⟩
  have G5 : Hid (Below w.heap.size w w5 ∧ Rd w5 [] g 104 (dc4 l).1 (dc4 l).2.1 ∧ w.heap.size ≤ g ∧ g < w5.heap.size) := ⟨G4.out.1.trans (grown_below g5 _ G4.out.2.2.1 G4.out.1.size), R, G4.out.2.2.1, R.blt⟩
  clear N R g5 G4
  have N : Calls Try.prog 41 #[.pointer (some ⟨g, 0, none⟩), .int .i64 2] w5 fun e w' => ∃ v, e = .returned v ∧ Own w' w5.heap.size v (dc5 l).2.2 ∧ Rd w' [] g 104 (dc5 l).1 (dc5 l).2.1 ∧ w5.grownBy w' (some g) := rBytes_any [] g (dc4 l).1 (dc4 l).2.1 2 w5 G5.out.2.1 (fun k hk => by cases hk)
  have hCl := (dc5_le l).2
  rw [e5] at N hCl
  go_wp2_with fail
  refine N.mono ?_
  rintro r w6 ⟨v, rfl, oV, R, g6⟩
  have G6 : Hid (Below w.heap.size w w6 ∧ Rd w6 [] g 104 (dc5 l).1 (dc5 l).2.1 ∧ w.heap.size ≤ g ∧ g < w5.heap.size ∧ w.heap.size ≤ w5.heap.size ∧ Own w6 w5.heap.size v d) := ⟨G5.out.1.trans (grown_below g6 _ G5.out.2.2.1 G5.out.1.size), R, G5.out.2.2.1, G5.out.2.2.2, G5.out.1.size, oV⟩
  clear N R g6 G5 oV
  have N : Calls Try.prog 40 #[.pointer (some ⟨g, 0, none⟩), .int .i64 4] w6 fun e w' => e = .returned (.int .i64 (dc6 l).2.2) ∧ Rd w' [] g 104 (dc6 l).1 (dc6 l).2.1 ∧ w6.grownBy w' (some g) := rNum_any [] g (dc5 l).1 (dc5 l).2.1 4 w6 G6.out.2.1
  rw [e6] at N
  obtain ⟨Q, hQe⟩ : ∃ Q : Int, Q = ((Crc.sum (l.take (l.length - 4))).toNat : Int) := ⟨_, rfl⟩
  rw [← hQe] at N
  have HQ0 : Hid _ := hQe
  clear hQe
  go_wp2_with fail
  refine N.mono ?_
  rintro r w7 ⟨rfl, R, g7⟩
  have G7 : Hid (Below w.heap.size w w7 ∧ Rd w7 [] g 104 (dc6 l).1 (dc6 l).2.1 ∧ Own w7 w.heap.size v d) := ⟨G6.out.1.trans (grown_below g7 _ G6.out.2.2.1 G6.out.1.size), R, (G6.out.2.2.2.2.2.keep g7 (fun k hk e => by have h1 := (World.ownsRow.lt G6.out.2.2.2.2.2 k hk).1; have h2 := G6.out.2.2.2.1; have h3 := Option.some.inj e; omega)).lower G6.out.2.2.2.2.1⟩
  clear N R g7 G6
  have N : Calls Try.prog 42 #[.pointer (some ⟨g, 0, none⟩)] w7 fun e w' => e = .returned (.int .i64 (dc7 l)) ∧ w7 = w' := rEnd_any [] g (dc6 l).1 (dc6 l).2.1 w7 G7.out.2.1
  rw [e7] at N
  obtain ⟨x, xc, rfl, hxc, -, hxr, hxn, -⟩ := G7.out.2.2.open
  have GX : Hid _ := And.intro hxc (And.intro hxr hxn)
  clear hxc hxr hxn
  go_wp2_with fail
  refine N.mono ?_
  rintro r _ ⟨rfl, rfl⟩
  clear N
  have h4 := dc7_len e7
  have NS : Hid (Calls Try.prog 32 #[.slice a (l.length - 4) cap] w7 fun e w'' => e = .returned (.int .u32 ((Crc.sum (l.take (l.length - 4))).toNat : Int)) ∧ w7 = w'') := rsum_any a (l.length - 4) cap (l.take (l.length - 4)) w7 (by rw [List.length_take]; omega) (by unfold maxLen; omega) ((HR.out.later G7.out.1).takes (l.length - 4))
  have hQ := (Crc.sum (l.take (l.length - 4))).isLt
  have hQe := HQ0.out
  rw [← hQe] at NS
  have hQ1 : 0 ≤ Q ∧ Q ≤ 4294967295 := by omega
  have HQ : Hid _ := hQe
  have q1 : (4 : Int) ≤ (l.length : Int) := by omega
  have q2 : (l.length : Int) ≤ 140737488351232 := by omega
  have q3 : (l.length : Int) - 4 ≤ (cap : Int) := by omega
  have q4 : ((l.length : Int) - 4).toNat = l.length - 4 := by omega
  have q5 : (0 : Int) ≤ (l.length : Int) - 4 := by omega
  clear hQ hQe h4
  have NR : Hid _ := right7_any id w7
  rw [hid0] at NR
  have HF : Hid (Below w.heap.size w w7 ∧ Own w7 w.heap.size (.slice x d.length xc) d) := ⟨G7.out.1, G7.out.2.2⟩
  clear G7 GX e1 e2 e3 e4 e5 e6 e7 hE hR hCl
  go_wp2_with fail
  refine (Calls.mono NS.out) ?_
  rintro e _ ⟨rfl, rfl⟩
  clear NS q1 q2 q3 q4 q5
  obtain ⟨hQ2, hQ3⟩ := hQ1
  have j1 : ¬ ((cnt : Int) < 1) := by omega
  have j2 : ¬ ((256 : Int) < (cnt : Int)) := by omega
  have j3 : ¬ ((cnt : Int) ≤ (i : Int)) := by omega
  have j4 : ¬ ((4096 : Int) < (d.length : Int)) := by omega
  go_wp2_with fail
  refine (Calls.mono NR.out) ?_
  rintro e _ ⟨rfl, rfl⟩
  clear NR
  have hG := (h.later HF.out.1).holds.blk
  rw [hcl] at hG
  obtain ⟨ta, hta⟩ := rtv_is p m.ps.length
  obtain ⟨da, hda⟩ := rdv_is p m.ps.length
  have y0 := blk_at hG 0
  simp only [List.getElem?_cons_zero, List.getElem?_cons_succ] at y0
  clear hG hta hda h
  generalize m.id = mid at *
  generalize p.g = gg at *
  go_wp2
  go_ret
  exact ⟨rfl, HF.out.1⟩
set_option maxHeartbeats 8000000 in
theorem rqAdd_form (a : Option Addr) (cap : Nat) (l : List (BitVec 8)) (p : RQl) (m : CR) (w : World) (h : (rqOb p m).Ok w) (hcl : p.cl = false) (hle : l.length ≤ cap) (hr : Row w a l) (hn : a = none → cap = 0) (hlen : l.length ≤ 140737488351232) (hE : dcE l = 0) (id s : Int) (i cnt : Nat) (d : List (BitVec 8)) (hR : dcR l = (id, (i : Int), (cnt : Int), s, d)) (hid : m.id = id) (hne : ¬ (m.ps.length = cnt ∧ m.s = s)) : Calls Try.prog 17 #[.pointer (some ⟨p.g, 0, none⟩), .slice a l.length cap] w fun e w' => e = .returned (.int .i64 11) ∧ Below w.heap.size w w' := by
  obtain ⟨e7, e6, e1, e2, e3, e4, e5, hid0, hsb, hic, hc2, hd⟩ := dc_good hE hR
  have HE9 : Hid _ := And.intro e7 e6
  have hG := h.holds.blk
  rw [hcl] at hG
  have y5 := blk_at hG 5
  simp only [List.getElem?_cons_zero, List.getElem?_cons_succ] at y5
  have N := Of_any a l.length cap l w rfl hle hr hn hlen
  have HR : Hid (Row w a l) := hr
  clear hG hr
  go_enter Try.func17, Try.ntmps17
  go_wp2_with fail
  clear y5
  refine N.mono ?_
  rintro r w1 ⟨g, rfl, hg, hrd, b1⟩
  have G1 : Hid (Below w.heap.size w w1 ∧ Rd w1 [] g 104 l 0 ∧ w.heap.size ≤ g ∧ g < w1.heap.size) := ⟨b1, hrd [] (fun k hk => by cases hk), hg, (hrd [] (fun k hk => by cases hk)).blt⟩
  clear N hrd b1 hg
  have N : Calls Try.prog 40 #[.pointer (some ⟨g, 0, none⟩), .int .i64 8] w1 fun e w' => e = .returned (.int .i64 (dc1 l).2.2) ∧ Rd w' [] g 104 (dc1 l).1 (dc1 l).2.1 ∧ w1.grownBy w' (some g) := rNum_any [] g (l) (0) 8 w1 G1.out.2.1
  rw [e1] at N
  go_wp2_with fail
  refine N.mono ?_
  rintro r w2 ⟨rfl, R, g2⟩
  have G2 : Hid (Below w.heap.size w w2 ∧ Rd w2 [] g 104 (dc1 l).1 (dc1 l).2.1 ∧ w.heap.size ≤ g ∧ g < w2.heap.size) := ⟨G1.out.1.trans (grown_below g2 _ G1.out.2.2.1 G1.out.1.size), R, G1.out.2.2.1, R.blt⟩
  clear N R g2 G1
  have N : Calls Try.prog 40 #[.pointer (some ⟨g, 0, none⟩), .int .i64 2] w2 fun e w' => e = .returned (.int .i64 (dc2 l).2.2) ∧ Rd w' [] g 104 (dc2 l).1 (dc2 l).2.1 ∧ w2.grownBy w' (some g) := rNum_any [] g ((dc1 l).1) ((dc1 l).2.1) 2 w2 G2.out.2.1
  rw [e2] at N
  go_wp2_with fail
  refine N.mono ?_
  rintro r w3 ⟨rfl, R, g3⟩
  have G3 : Hid (Below w.heap.size w w3 ∧ Rd w3 [] g 104 (dc2 l).1 (dc2 l).2.1 ∧ w.heap.size ≤ g ∧ g < w3.heap.size) := ⟨G2.out.1.trans (grown_below g3 _ G2.out.2.2.1 G2.out.1.size), R, G2.out.2.2.1, R.blt⟩
  clear N R g3 G2
  have N : Calls Try.prog 40 #[.pointer (some ⟨g, 0, none⟩), .int .i64 2] w3 fun e w' => e = .returned (.int .i64 (dc3 l).2.2) ∧ Rd w' [] g 104 (dc3 l).1 (dc3 l).2.1 ∧ w3.grownBy w' (some g) := rNum_any [] g ((dc2 l).1) ((dc2 l).2.1) 2 w3 G3.out.2.1
  rw [e3] at N
  go_wp2_with fail
  refine N.mono ?_
  rintro r w4 ⟨rfl, R, g4⟩
  have G4 : Hid (Below w.heap.size w w4 ∧ Rd w4 [] g 104 (dc3 l).1 (dc3 l).2.1 ∧ w.heap.size ≤ g ∧ g < w4.heap.size) := ⟨G3.out.1.trans (grown_below g4 _ G3.out.2.2.1 G3.out.1.size), R, G3.out.2.2.1, R.blt⟩
  clear N R g4 G3
  have N : Calls Try.prog 40 #[.pointer (some ⟨g, 0, none⟩), .int .i64 4] w4 fun e w' => e = .returned (.int .i64 (dc4 l).2.2) ∧ Rd w' [] g 104 (dc4 l).1 (dc4 l).2.1 ∧ w4.grownBy w' (some g) := rNum_any [] g ((dc3 l).1) ((dc3 l).2.1) 4 w4 G4.out.2.1
  rw [e4] at N
  go_wp2_with fail
  refine N.mono ?_
  rintro r w5 ⟨rfl, R, g5⟩
  have G5 : Hid (Below w.heap.size w w5 ∧ Rd w5 [] g 104 (dc4 l).1 (dc4 l).2.1 ∧ w.heap.size ≤ g ∧ g < w5.heap.size) := ⟨G4.out.1.trans (grown_below g5 _ G4.out.2.2.1 G4.out.1.size), R, G4.out.2.2.1, R.blt⟩
  clear N R g5 G4
  have N : Calls Try.prog 41 #[.pointer (some ⟨g, 0, none⟩), .int .i64 2] w5 fun e w' => ∃ v, e = .returned v ∧ Own w' w5.heap.size v (dc5 l).2.2 ∧ Rd w' [] g 104 (dc5 l).1 (dc5 l).2.1 ∧ w5.grownBy w' (some g) := rBytes_any [] g (dc4 l).1 (dc4 l).2.1 2 w5 G5.out.2.1 (fun k hk => by cases hk)
  have hCl := (dc5_le l).2
  rw [e5] at N hCl
  go_wp2_with fail
  refine N.mono ?_
  rintro r w6 ⟨v, rfl, oV, R, g6⟩
  have G6 : Hid (Below w.heap.size w w6 ∧ Rd w6 [] g 104 (dc5 l).1 (dc5 l).2.1 ∧ w.heap.size ≤ g ∧ g < w5.heap.size ∧ w.heap.size ≤ w5.heap.size ∧ Own w6 w5.heap.size v d) := ⟨G5.out.1.trans (grown_below g6 _ G5.out.2.2.1 G5.out.1.size), R, G5.out.2.2.1, G5.out.2.2.2, G5.out.1.size, oV⟩
  clear N R g6 G5 oV
  have N : Calls Try.prog 40 #[.pointer (some ⟨g, 0, none⟩), .int .i64 4] w6 fun e w' => e = .returned (.int .i64 (dc6 l).2.2) ∧ Rd w' [] g 104 (dc6 l).1 (dc6 l).2.1 ∧ w6.grownBy w' (some g) := rNum_any [] g (dc5 l).1 (dc5 l).2.1 4 w6 G6.out.2.1
  rw [e6] at N
  obtain ⟨Q, hQe⟩ : ∃ Q : Int, Q = ((Crc.sum (l.take (l.length - 4))).toNat : Int) := ⟨_, rfl⟩
  rw [← hQe] at N
  have HQ0 : Hid _ := hQe
  clear hQe
  go_wp2_with fail
  refine N.mono ?_
  rintro r w7 ⟨rfl, R, g7⟩
  have G7 : Hid (Below w.heap.size w w7 ∧ Rd w7 [] g 104 (dc6 l).1 (dc6 l).2.1 ∧ Own w7 w.heap.size v d) := ⟨G6.out.1.trans (grown_below g7 _ G6.out.2.2.1 G6.out.1.size), R, (G6.out.2.2.2.2.2.keep g7 (fun k hk e => by have h1 := (World.ownsRow.lt G6.out.2.2.2.2.2 k hk).1; have h2 := G6.out.2.2.2.1; have h3 := Option.some.inj e; omega)).lower G6.out.2.2.2.2.1⟩
  clear N R g7 G6
  have N : Calls Try.prog 42 #[.pointer (some ⟨g, 0, none⟩)] w7 fun e w' => e = .returned (.int .i64 (dc7 l)) ∧ w7 = w' := rEnd_any [] g (dc6 l).1 (dc6 l).2.1 w7 G7.out.2.1
  rw [e7] at N
  obtain ⟨x, xc, rfl, hxc, -, hxr, hxn, -⟩ := G7.out.2.2.open
  have GX : Hid _ := And.intro hxc (And.intro hxr hxn)
  clear hxc hxr hxn
  go_wp2_with fail
  refine N.mono ?_
  rintro r _ ⟨rfl, rfl⟩
  clear N
  have h4 := dc7_len e7
  have NS : Hid (Calls Try.prog 32 #[.slice a (l.length - 4) cap] w7 fun e w'' => e = .returned (.int .u32 ((Crc.sum (l.take (l.length - 4))).toNat : Int)) ∧ w7 = w'') := rsum_any a (l.length - 4) cap (l.take (l.length - 4)) w7 (by rw [List.length_take]; omega) (by unfold maxLen; omega) ((HR.out.later G7.out.1).takes (l.length - 4))
  have hQ := (Crc.sum (l.take (l.length - 4))).isLt
  have hQe := HQ0.out
  rw [← hQe] at NS
  have hQ1 : 0 ≤ Q ∧ Q ≤ 4294967295 := by omega
  have HQ : Hid _ := hQe
  have q1 : (4 : Int) ≤ (l.length : Int) := by omega
  have q2 : (l.length : Int) ≤ 140737488351232 := by omega
  have q3 : (l.length : Int) - 4 ≤ (cap : Int) := by omega
  have q4 : ((l.length : Int) - 4).toNat = l.length - 4 := by omega
  have q5 : (0 : Int) ≤ (l.length : Int) - 4 := by omega
  clear hQ hQe h4
  have NR : Hid _ := right7_any id w7
  rw [hid0] at NR
  have HF : Hid (Below w.heap.size w w7 ∧ Own w7 w.heap.size (.slice x d.length xc) d) := ⟨G7.out.1, G7.out.2.2⟩
  clear G7 GX e1 e2 e3 e4 e5 e6 e7 hE hR hCl
  go_wp2_with fail
  refine (Calls.mono NS.out) ?_
  rintro e _ ⟨rfl, rfl⟩
  clear NS q1 q2 q3 q4 q5
  obtain ⟨hQ2, hQ3⟩ := hQ1
  have j1 : ¬ ((cnt : Int) < 1) := by omega
  have j2 : ¬ ((256 : Int) < (cnt : Int)) := by omega
  have j3 : ¬ ((cnt : Int) ≤ (i : Int)) := by omega
  have j4 : ¬ ((4096 : Int) < (d.length : Int)) := by omega
  go_wp2_with fail
  refine (Calls.mono NR.out) ?_
  rintro e _ ⟨rfl, rfl⟩
  clear NR
  have hG := (h.later HF.out.1).holds.blk
  rw [hcl] at hG
  obtain ⟨ta, hta⟩ := rtv_is p m.ps.length
  obtain ⟨da, hda⟩ := rdv_is p m.ps.length
  rw [hda, hid] at hG
  have y0 := blk_at hG 0
  have y1 := blk_at hG 1
  have y3 := blk_at hG 3
  simp only [List.getElem?_cons_zero, List.getElem?_cons_succ] at y0 y1 y3
  clear hG hta hda h hid
  generalize p.g = gg at *
  by_cases hN : m.ps.length = cnt
  · have hs : ¬ m.s = s := fun e => hne ⟨hN, e⟩
    rw [hN] at y3
    clear hne hN
    generalize m.s = ms at *
    have hs2 : (ms == s) = false := by rw [beq_eq_false_iff_ne]; exact hs
    go_wp2
    go_ret
    exact ⟨rfl, HF.out.1⟩
  · clear hne
    generalize m.ps.length = N at *
    generalize m.s = ms at *
    have hN2 : ¬ (N : Int) = (cnt : Int) := by omega
    have hN3 : ((N : Int) == (cnt : Int)) = false := by rw [beq_eq_false_iff_ne]; omega
    have hN4 : (N == cnt) = false := by rw [beq_eq_false_iff_ne]; exact hN
    have hN5 : (N != cnt) = true := by rw [bne_iff_ne]; exact hN
    have hN6 : ((N : Int) != (cnt : Int)) = true := by rw [bne_iff_ne]; exact hN2
    go_wp2
    go_ret
    exact ⟨rfl, HF.out.1⟩
set_option maxHeartbeats 8000000 in
theorem rqAdd_same (a : Option Addr) (cap : Nat) (l : List (BitVec 8)) (p : RQl) (m : CR) (w : World) (h : (rqOb p m).Ok w) (hcl : p.cl = false) (hle : l.length ≤ cap) (hr : Row w a l) (hn : a = none → cap = 0) (hlen : l.length ≤ 140737488351232) (hE : dcE l = 0) (id s : Int) (i cnt : Nat) (d : List (BitVec 8)) (hR : dcR l = (id, (i : Int), (cnt : Int), s, d)) (hid : m.id = id) (hs : m.s = s) (hps : m.ps.length = cnt) (hadm : m.ad ≤ 1000000000) :
    Calls Try.prog 17 #[.pointer (some ⟨p.g, 0, none⟩), .slice a l.length cap] w fun e w' => e = .returned (.int .i64 0) ∧ ∃ p', p'.g = p.g ∧ p'.cl = p.cl ∧ Step w w' (rqOb p m) (rqOb p' (addM (setPc m i d))) := by
  obtain ⟨e7, e6, e1, e2, e3, e4, e5, hid0, hsb, hic, hc2, hd⟩ := dc_good hE hR
  have HE9 : Hid _ := And.intro e7 e6
  have hG := h.holds.blk
  rw [hcl] at hG
  have y5 := blk_at hG 5
  simp only [List.getElem?_cons_zero, List.getElem?_cons_succ] at y5
  have N := Of_any a l.length cap l w rfl hle hr hn hlen
  have HR : Hid (Row w a l) := hr
  clear hG hr
  go_enter Try.func17, Try.ntmps17
  go_wp2_with fail
  clear y5
  refine N.mono ?_
  rintro r w1 ⟨g, rfl, hg, hrd, b1⟩
  have G1 : Hid (Below w.heap.size w w1 ∧ Rd w1 [] g 104 l 0 ∧ w.heap.size ≤ g ∧ g < w1.heap.size) := ⟨b1, hrd [] (fun k hk => by cases hk), hg, (hrd [] (fun k hk => by cases hk)).blt⟩
  clear N hrd b1 hg
  have N : Calls Try.prog 40 #[.pointer (some ⟨g, 0, none⟩), .int .i64 8] w1 fun e w' => e = .returned (.int .i64 (dc1 l).2.2) ∧ Rd w' [] g 104 (dc1 l).1 (dc1 l).2.1 ∧ w1.grownBy w' (some g) := rNum_any [] g (l) (0) 8 w1 G1.out.2.1
  rw [e1] at N
  go_wp2_with fail
  refine N.mono ?_
  rintro r w2 ⟨rfl, R, g2⟩
  have G2 : Hid (Below w.heap.size w w2 ∧ Rd w2 [] g 104 (dc1 l).1 (dc1 l).2.1 ∧ w.heap.size ≤ g ∧ g < w2.heap.size) := ⟨G1.out.1.trans (grown_below g2 _ G1.out.2.2.1 G1.out.1.size), R, G1.out.2.2.1, R.blt⟩
  clear N R g2 G1
  have N : Calls Try.prog 40 #[.pointer (some ⟨g, 0, none⟩), .int .i64 2] w2 fun e w' => e = .returned (.int .i64 (dc2 l).2.2) ∧ Rd w' [] g 104 (dc2 l).1 (dc2 l).2.1 ∧ w2.grownBy w' (some g) := rNum_any [] g ((dc1 l).1) ((dc1 l).2.1) 2 w2 G2.out.2.1
  rw [e2] at N
  go_wp2_with fail
  refine N.mono ?_
  rintro r w3 ⟨rfl, R, g3⟩
  have G3 : Hid (Below w.heap.size w w3 ∧ Rd w3 [] g 104 (dc2 l).1 (dc2 l).2.1 ∧ w.heap.size ≤ g ∧ g < w3.heap.size) := ⟨G2.out.1.trans (grown_below g3 _ G2.out.2.2.1 G2.out.1.size), R, G2.out.2.2.1, R.blt⟩
  clear N R g3 G2
  have N : Calls Try.prog 40 #[.pointer (some ⟨g, 0, none⟩), .int .i64 2] w3 fun e w' => e = .returned (.int .i64 (dc3 l).2.2) ∧ Rd w' [] g 104 (dc3 l).1 (dc3 l).2.1 ∧ w3.grownBy w' (some g) := rNum_any [] g ((dc2 l).1) ((dc2 l).2.1) 2 w3 G3.out.2.1
  rw [e3] at N
  go_wp2_with fail
  refine N.mono ?_
  rintro r w4 ⟨rfl, R, g4⟩
  have G4 : Hid (Below w.heap.size w w4 ∧ Rd w4 [] g 104 (dc3 l).1 (dc3 l).2.1 ∧ w.heap.size ≤ g ∧ g < w4.heap.size) := ⟨G3.out.1.trans (grown_below g4 _ G3.out.2.2.1 G3.out.1.size), R, G3.out.2.2.1, R.blt⟩
  clear N R g4 G3
  have N : Calls Try.prog 40 #[.pointer (some ⟨g, 0, none⟩), .int .i64 4] w4 fun e w' => e = .returned (.int .i64 (dc4 l).2.2) ∧ Rd w' [] g 104 (dc4 l).1 (dc4 l).2.1 ∧ w4.grownBy w' (some g) := rNum_any [] g ((dc3 l).1) ((dc3 l).2.1) 4 w4 G4.out.2.1
  rw [e4] at N
  go_wp2_with fail
  refine N.mono ?_
  rintro r w5 ⟨rfl, R, g5⟩
  have G5 : Hid (Below w.heap.size w w5 ∧ Rd w5 [] g 104 (dc4 l).1 (dc4 l).2.1 ∧ w.heap.size ≤ g ∧ g < w5.heap.size) := ⟨G4.out.1.trans (grown_below g5 _ G4.out.2.2.1 G4.out.1.size), R, G4.out.2.2.1, R.blt⟩
  clear N R g5 G4
  have N : Calls Try.prog 41 #[.pointer (some ⟨g, 0, none⟩), .int .i64 2] w5 fun e w' => ∃ v, e = .returned v ∧ Own w' w5.heap.size v (dc5 l).2.2 ∧ Rd w' [] g 104 (dc5 l).1 (dc5 l).2.1 ∧ w5.grownBy w' (some g) := rBytes_any [] g (dc4 l).1 (dc4 l).2.1 2 w5 G5.out.2.1 (fun k hk => by cases hk)
  have hCl := (dc5_le l).2
  rw [e5] at N hCl
  go_wp2_with fail
  refine N.mono ?_
  rintro r w6 ⟨v, rfl, oV, R, g6⟩
  have G6 : Hid (Below w.heap.size w w6 ∧ Rd w6 [] g 104 (dc5 l).1 (dc5 l).2.1 ∧ w.heap.size ≤ g ∧ g < w5.heap.size ∧ w.heap.size ≤ w5.heap.size ∧ Own w6 w5.heap.size v d) := ⟨G5.out.1.trans (grown_below g6 _ G5.out.2.2.1 G5.out.1.size), R, G5.out.2.2.1, G5.out.2.2.2, G5.out.1.size, oV⟩
  clear N R g6 G5 oV
  have N : Calls Try.prog 40 #[.pointer (some ⟨g, 0, none⟩), .int .i64 4] w6 fun e w' => e = .returned (.int .i64 (dc6 l).2.2) ∧ Rd w' [] g 104 (dc6 l).1 (dc6 l).2.1 ∧ w6.grownBy w' (some g) := rNum_any [] g (dc5 l).1 (dc5 l).2.1 4 w6 G6.out.2.1
  rw [e6] at N
  obtain ⟨Q, hQe⟩ : ∃ Q : Int, Q = ((Crc.sum (l.take (l.length - 4))).toNat : Int) := ⟨_, rfl⟩
  rw [← hQe] at N
  have HQ0 : Hid _ := hQe
  clear hQe
  go_wp2_with fail
  refine N.mono ?_
  rintro r w7 ⟨rfl, R, g7⟩
  have G7 : Hid (Below w.heap.size w w7 ∧ Rd w7 [] g 104 (dc6 l).1 (dc6 l).2.1 ∧ Own w7 w.heap.size v d) := ⟨G6.out.1.trans (grown_below g7 _ G6.out.2.2.1 G6.out.1.size), R, (G6.out.2.2.2.2.2.keep g7 (fun k hk e => by have h1 := (World.ownsRow.lt G6.out.2.2.2.2.2 k hk).1; have h2 := G6.out.2.2.2.1; have h3 := Option.some.inj e; omega)).lower G6.out.2.2.2.2.1⟩
  clear N R g7 G6
  have N : Calls Try.prog 42 #[.pointer (some ⟨g, 0, none⟩)] w7 fun e w' => e = .returned (.int .i64 (dc7 l)) ∧ w7 = w' := rEnd_any [] g (dc6 l).1 (dc6 l).2.1 w7 G7.out.2.1
  rw [e7] at N
  obtain ⟨x, xc, rfl, hxc, -, hxr, hxn, -⟩ := G7.out.2.2.open
  have GX : Hid _ := And.intro hxc (And.intro hxr hxn)
  clear hxc hxr hxn
  go_wp2_with fail
  refine N.mono ?_
  rintro r _ ⟨rfl, rfl⟩
  clear N
  have h4 := dc7_len e7
  have NS : Hid (Calls Try.prog 32 #[.slice a (l.length - 4) cap] w7 fun e w'' => e = .returned (.int .u32 ((Crc.sum (l.take (l.length - 4))).toNat : Int)) ∧ w7 = w'') := rsum_any a (l.length - 4) cap (l.take (l.length - 4)) w7 (by rw [List.length_take]; omega) (by unfold maxLen; omega) ((HR.out.later G7.out.1).takes (l.length - 4))
  have hQ := (Crc.sum (l.take (l.length - 4))).isLt
  have hQe := HQ0.out
  rw [← hQe] at NS
  have hQ1 : 0 ≤ Q ∧ Q ≤ 4294967295 := by omega
  have HQ : Hid _ := hQe
  have q1 : (4 : Int) ≤ (l.length : Int) := by omega
  have q2 : (l.length : Int) ≤ 140737488351232 := by omega
  have q3 : (l.length : Int) - 4 ≤ (cap : Int) := by omega
  have q4 : ((l.length : Int) - 4).toNat = l.length - 4 := by omega
  have q5 : (0 : Int) ≤ (l.length : Int) - 4 := by omega
  clear hQ hQe h4
  have NR : Hid _ := right7_any id w7
  rw [hid0] at NR
  have HF : Hid (Below w.heap.size w w7 ∧ Own w7 w.heap.size (.slice x d.length xc) d) := ⟨G7.out.1, G7.out.2.2⟩
  clear G7 GX e1 e2 e3 e4 e5 e6 e7 hE hR hCl
  go_wp2_with fail
  refine (Calls.mono NS.out) ?_
  rintro e _ ⟨rfl, rfl⟩
  clear NS q1 q2 q3 q4 q5
  obtain ⟨hQ2, hQ3⟩ := hQ1
  have j1 : ¬ ((cnt : Int) < 1) := by omega
  have j2 : ¬ ((256 : Int) < (cnt : Int)) := by omega
  have j3 : ¬ ((cnt : Int) ≤ (i : Int)) := by omega
  have j4 : ¬ ((4096 : Int) < (d.length : Int)) := by omega
  go_wp2_with fail
  refine (Calls.mono NR.out) ?_
  rintro e _ ⟨rfl, rfl⟩
  clear NR
  have hG := (h.later HF.out.1).holds.blk
  rw [hcl] at hG
  obtain ⟨ta, hta⟩ := rtv_is p m.ps.length
  obtain ⟨da, hda⟩ := rdv_is p m.ps.length
  clear hta hda ta da
  have hP := (h.later HF.out.1).holds
  have hne : m.ps.length ≠ 0 := by omega
  have hT := hP.there hne
  have hD := hP.data hne
  have hlen2 := hP.len
  unfold RQl.tv RQl.dv at hG
  rw [if_neg hne, if_neg hne, hid, hs, hps] at hG
  have y0 := blk_at hG 0
  have y1 := blk_at hG 1
  have y2 := blk_at hG 2
  have y3 := blk_at hG 3
  have y4 := blk_at hG 4
  have f4 := blk_frozen hG 4
  have x1 := blk_at hT i
  have x2 := blk_frozen hT i
  have x3 := blk_at hD i
  have x4 := blk_frozen hD i
  have hbi : (m.ps.map isB)[i]? = some (isB m.ps[i]) := by rw [List.getElem?_map, List.getElem?_eq_getElem (by omega)]; rfl
  obtain ⟨vi, hvi⟩ : ∃ vi, p.vs[i]? = some vi := ⟨_, List.getElem?_eq_getElem (by omega)⟩
  rw [hbi] at x1
  rw [hvi] at x3
  simp only [List.getElem?_cons_zero, List.getElem?_cons_succ] at y0 y1 y2 y3 y4
  have hadn := hP.ad
  have HS : Hid ((rqOb p m).Ok w ∧ m.id = id ∧ m.s = s ∧ m.ps.length = cnt ∧ p.cl = false) := ⟨h, hid, hs, hps, hcl⟩
  have HB : Hid _ := And.intro hG (And.intro hT hD)
  cases hpi : m.ps[i] with
  | some d0 =>
    have hM : setPc m i d = m := by unfold setPc; rw [List.getElem?_eq_getElem (by omega), hpi]
    rw [hpi] at x1
    have x1' : w7.cell? ⟨p.t, i, none⟩ = some (.bool true) := x1
    have F : Hid (∃ p', p'.g = p.g ∧ p'.cl = p.cl ∧ Step w (w7.setCell ⟨p.g, 4, none⟩ (.int .i64 (m.ad + 1))) (rqOb p m) (rqOb p' (addM (setPc m i d)))) := by
      rw [hM]
      have u := turned_set w7 p.g 4 (.int .i64 (m.ad + 1))
      have hg : p.g ∈ (rqOb p m).W := mem_rqW.2 (.inl rfl)
      have hk := h.later HF.out.1
      refine ⟨p, rfl, rfl, (tnd6 HF.out.1).trans (u.mono (fun k e => .inl (by rw [e]; exact hg))), rqOb_ok ⟨?_, fun e => ?_, fun e => ?_, hP.len, fun j o hj => ?_, by show 0 ≤ m.ad + 1; omega⟩, fun k hk => .inl hk, fun k hk => .inr (.inl hk)⟩
      · exact hP.blk.set 4 _
      · exact (hP.there e).turned u (blk_ne (hP.there e) hP.blk (by decide))
      · exact (hP.data e).turned u (blk_ne (hP.data e) hP.blk (by decide))
      · obtain ⟨v, hv, ho⟩ := hP.each j o hj
        exact ⟨v, hv, ho.turned u (own_apart ho hP.blk (by decide))⟩
    clear hG hT hD x1 x3 x4 hbi hvi hP h hid hs hps hcl HB HS hpi hM hlen2
    generalize m.ad = ad at *
    generalize p.t = t at *
    generalize p.d = dd at *
    generalize hgg : p.g = gg at *
    have HGG : Hid _ := hgg
    clear hgg
    go_wp2
    go_ret
    have hgg := HGG.out
    subst hgg
    exact ⟨rfl, F.out⟩
  | none =>
    have hsi : m.ps[i]? = some none := by rw [List.getElem?_eq_getElem (by omega), hpi]
    rw [hpi] at x1
    have x1' : w7.cell? ⟨p.t, i, none⟩ = some (.bool false) := x1
    have n1 : ¬ p.t = p.g := blk_ne hT hG (by decide)
    have n2 : ¬ p.d = p.g := blk_ne hD hG (by decide)
    have n3 : ¬ p.d = p.t := blk_ne hD hT (by decide)
    have F : Hid (∃ p', p'.g = p.g ∧ p'.cl = p.cl ∧ Step w (((w7.setCell ⟨p.t, i, none⟩ (.bool true)).setCell ⟨p.d, i, none⟩ (.slice x d.length xc)).setCell ⟨p.g, 4, none⟩ (.int .i64 (m.ad + 1))) (rqOb p m) (rqOb p' (addM (setPc m i d)))) := by
      have u1 := turned_set w7 p.t i (.bool true)
      have u2 := turned_set (w7.setCell ⟨p.t, i, none⟩ (.bool true)) p.d i (.slice x d.length xc)
      have u3 := turned_set ((w7.setCell ⟨p.t, i, none⟩ (.bool true)).setCell ⟨p.d, i, none⟩ (.slice x d.length xc)) p.g 4 (.int .i64 (m.ad + 1))
      have B := (((hP.blk.turned u1 (fun e => n1 e.symm)).turned u2 (fun e => n2 e.symm)).set 4 (.int .i64 (m.ad + 1)))
      exact rq_put h HF.out.1 hsi HF.out.2 B ((((hP.there hne).set i (.bool true)).turned u2 (fun e => n3 e.symm)).turned u3 n1) ((((hP.data hne).turned u1 n3).set i (.slice x d.length xc)).turned u3 n2)
        ((u1.mono (R' := fun k => k = p.g ∨ k = p.t ∨ k = p.d) (fun k e => .inr (.inl e))).trans (((u2.mono (R' := fun k => k = p.g ∨ k = p.t ∨ k = p.d) (fun k e => .inr (.inr e))).trans (u3.mono (fun k e => .inl (.inl e)))).mono (fun k e => .inl e)))
    clear hG hT hD x1 hbi hvi hP h hid hs hps hcl HB HS hpi hsi hlen2
    generalize m.ad = ad at *
    generalize p.t = t at *
    generalize p.d = dd at *
    generalize hgg : p.g = gg at *
    have HGG : Hid _ := hgg
    clear hgg
    go_wp2
    go_ret
    have hgg := HGG.out
    subst hgg
    exact ⟨rfl, F.out⟩
set_option maxHeartbeats 8000000 in
theorem rqAdd_new (a : Option Addr) (cap : Nat) (l : List (BitVec 8)) (p : RQl) (m : CR) (w : World) (h : (rqOb p m).Ok w) (hcl : p.cl = false) (hle : l.length ≤ cap) (hr : Row w a l) (hn : a = none → cap = 0) (hlen : l.length ≤ 140737488351232) (hE : dcE l = 0) (id s : Int) (i cnt : Nat) (d : List (BitVec 8)) (hR : dcR l = (id, (i : Int), (cnt : Int), s, d)) (hid : m.id < id) (hadm : m.ad ≤ 1000000000) :
    Calls Try.prog 17 #[.pointer (some ⟨p.g, 0, none⟩), .slice a l.length cap] w fun e w' => e = .returned (.int .i64 0) ∧ ∃ p', p'.g = p.g ∧ p'.cl = p.cl ∧ Step w w' (rqOb p m) (rqOb p' (addM (setPc (begM m id s cnt) i d))) := by
  obtain ⟨e7, e6, e1, e2, e3, e4, e5, hid0, hsb, hic, hc2, hd⟩ := dc_good hE hR
  have HE9 : Hid _ := And.intro e7 e6
  have hG := h.holds.blk
  rw [hcl] at hG
  have y5 := blk_at hG 5
  simp only [List.getElem?_cons_zero, List.getElem?_cons_succ] at y5
  have N := Of_any a l.length cap l w rfl hle hr hn hlen
  have HR : Hid (Row w a l) := hr
  clear hG hr
  go_enter Try.func17, Try.ntmps17
  go_wp2_with fail
  clear y5
  refine N.mono ?_
  rintro r w1 ⟨g, rfl, hg, hrd, b1⟩
  have G1 : Hid (Below w.heap.size w w1 ∧ Rd w1 [] g 104 l 0 ∧ w.heap.size ≤ g ∧ g < w1.heap.size) := ⟨b1, hrd [] (fun k hk => by cases hk), hg, (hrd [] (fun k hk => by cases hk)).blt⟩
  clear N hrd b1 hg
  have N : Calls Try.prog 40 #[.pointer (some ⟨g, 0, none⟩), .int .i64 8] w1 fun e w' => e = .returned (.int .i64 (dc1 l).2.2) ∧ Rd w' [] g 104 (dc1 l).1 (dc1 l).2.1 ∧ w1.grownBy w' (some g) := rNum_any [] g (l) (0) 8 w1 G1.out.2.1
  rw [e1] at N
  go_wp2_with fail
  refine N.mono ?_
  rintro r w2 ⟨rfl, R, g2⟩
  have G2 : Hid (Below w.heap.size w w2 ∧ Rd w2 [] g 104 (dc1 l).1 (dc1 l).2.1 ∧ w.heap.size ≤ g ∧ g < w2.heap.size) := ⟨G1.out.1.trans (grown_below g2 _ G1.out.2.2.1 G1.out.1.size), R, G1.out.2.2.1, R.blt⟩
  clear N R g2 G1
  have N : Calls Try.prog 40 #[.pointer (some ⟨g, 0, none⟩), .int .i64 2] w2 fun e w' => e = .returned (.int .i64 (dc2 l).2.2) ∧ Rd w' [] g 104 (dc2 l).1 (dc2 l).2.1 ∧ w2.grownBy w' (some g) := rNum_any [] g ((dc1 l).1) ((dc1 l).2.1) 2 w2 G2.out.2.1
  rw [e2] at N
  go_wp2_with fail
  refine N.mono ?_
  rintro r w3 ⟨rfl, R, g3⟩
  have G3 : Hid (Below w.heap.size w w3 ∧ Rd w3 [] g 104 (dc2 l).1 (dc2 l).2.1 ∧ w.heap.size ≤ g ∧ g < w3.heap.size) := ⟨G2.out.1.trans (grown_below g3 _ G2.out.2.2.1 G2.out.1.size), R, G2.out.2.2.1, R.blt⟩
  clear N R g3 G2
  have N : Calls Try.prog 40 #[.pointer (some ⟨g, 0, none⟩), .int .i64 2] w3 fun e w' => e = .returned (.int .i64 (dc3 l).2.2) ∧ Rd w' [] g 104 (dc3 l).1 (dc3 l).2.1 ∧ w3.grownBy w' (some g) := rNum_any [] g ((dc2 l).1) ((dc2 l).2.1) 2 w3 G3.out.2.1
  rw [e3] at N
  go_wp2_with fail
  refine N.mono ?_
  rintro r w4 ⟨rfl, R, g4⟩
  have G4 : Hid (Below w.heap.size w w4 ∧ Rd w4 [] g 104 (dc3 l).1 (dc3 l).2.1 ∧ w.heap.size ≤ g ∧ g < w4.heap.size) := ⟨G3.out.1.trans (grown_below g4 _ G3.out.2.2.1 G3.out.1.size), R, G3.out.2.2.1, R.blt⟩
  clear N R g4 G3
  have N : Calls Try.prog 40 #[.pointer (some ⟨g, 0, none⟩), .int .i64 4] w4 fun e w' => e = .returned (.int .i64 (dc4 l).2.2) ∧ Rd w' [] g 104 (dc4 l).1 (dc4 l).2.1 ∧ w4.grownBy w' (some g) := rNum_any [] g ((dc3 l).1) ((dc3 l).2.1) 4 w4 G4.out.2.1
  rw [e4] at N
  go_wp2_with fail
  refine N.mono ?_
  rintro r w5 ⟨rfl, R, g5⟩
  have G5 : Hid (Below w.heap.size w w5 ∧ Rd w5 [] g 104 (dc4 l).1 (dc4 l).2.1 ∧ w.heap.size ≤ g ∧ g < w5.heap.size) := ⟨G4.out.1.trans (grown_below g5 _ G4.out.2.2.1 G4.out.1.size), R, G4.out.2.2.1, R.blt⟩
  clear N R g5 G4
  have N : Calls Try.prog 41 #[.pointer (some ⟨g, 0, none⟩), .int .i64 2] w5 fun e w' => ∃ v, e = .returned v ∧ Own w' w5.heap.size v (dc5 l).2.2 ∧ Rd w' [] g 104 (dc5 l).1 (dc5 l).2.1 ∧ w5.grownBy w' (some g) := rBytes_any [] g (dc4 l).1 (dc4 l).2.1 2 w5 G5.out.2.1 (fun k hk => by cases hk)
  have hCl := (dc5_le l).2
  rw [e5] at N hCl
  go_wp2_with fail
  refine N.mono ?_
  rintro r w6 ⟨v, rfl, oV, R, g6⟩
  have G6 : Hid (Below w.heap.size w w6 ∧ Rd w6 [] g 104 (dc5 l).1 (dc5 l).2.1 ∧ w.heap.size ≤ g ∧ g < w5.heap.size ∧ w.heap.size ≤ w5.heap.size ∧ Own w6 w5.heap.size v d) := ⟨G5.out.1.trans (grown_below g6 _ G5.out.2.2.1 G5.out.1.size), R, G5.out.2.2.1, G5.out.2.2.2, G5.out.1.size, oV⟩
  clear N R g6 G5 oV
  have N : Calls Try.prog 40 #[.pointer (some ⟨g, 0, none⟩), .int .i64 4] w6 fun e w' => e = .returned (.int .i64 (dc6 l).2.2) ∧ Rd w' [] g 104 (dc6 l).1 (dc6 l).2.1 ∧ w6.grownBy w' (some g) := rNum_any [] g (dc5 l).1 (dc5 l).2.1 4 w6 G6.out.2.1
  rw [e6] at N
  obtain ⟨Q, hQe⟩ : ∃ Q : Int, Q = ((Crc.sum (l.take (l.length - 4))).toNat : Int) := ⟨_, rfl⟩
  rw [← hQe] at N
  have HQ0 : Hid _ := hQe
  clear hQe
  go_wp2_with fail
  refine N.mono ?_
  rintro r w7 ⟨rfl, R, g7⟩
  have G7 : Hid (Below w.heap.size w w7 ∧ Rd w7 [] g 104 (dc6 l).1 (dc6 l).2.1 ∧ Own w7 w.heap.size v d) := ⟨G6.out.1.trans (grown_below g7 _ G6.out.2.2.1 G6.out.1.size), R, (G6.out.2.2.2.2.2.keep g7 (fun k hk e => by have h1 := (World.ownsRow.lt G6.out.2.2.2.2.2 k hk).1; have h2 := G6.out.2.2.2.1; have h3 := Option.some.inj e; omega)).lower G6.out.2.2.2.2.1⟩
  clear N R g7 G6
  have N : Calls Try.prog 42 #[.pointer (some ⟨g, 0, none⟩)] w7 fun e w' => e = .returned (.int .i64 (dc7 l)) ∧ w7 = w' := rEnd_any [] g (dc6 l).1 (dc6 l).2.1 w7 G7.out.2.1
  rw [e7] at N
  obtain ⟨x, xc, rfl, hxc, -, hxr, hxn, -⟩ := G7.out.2.2.open
  have GX : Hid _ := And.intro hxc (And.intro hxr hxn)
  clear hxc hxr hxn
  go_wp2_with fail
  refine N.mono ?_
  rintro r _ ⟨rfl, rfl⟩
  clear N
  have h4 := dc7_len e7
  have NS : Hid (Calls Try.prog 32 #[.slice a (l.length - 4) cap] w7 fun e w'' => e = .returned (.int .u32 ((Crc.sum (l.take (l.length - 4))).toNat : Int)) ∧ w7 = w'') := rsum_any a (l.length - 4) cap (l.take (l.length - 4)) w7 (by rw [List.length_take]; omega) (by unfold maxLen; omega) ((HR.out.later G7.out.1).takes (l.length - 4))
  have hQ := (Crc.sum (l.take (l.length - 4))).isLt
  have hQe := HQ0.out
  rw [← hQe] at NS
  have hQ1 : 0 ≤ Q ∧ Q ≤ 4294967295 := by omega
  have HQ : Hid _ := hQe
  have q1 : (4 : Int) ≤ (l.length : Int) := by omega
  have q2 : (l.length : Int) ≤ 140737488351232 := by omega
  have q3 : (l.length : Int) - 4 ≤ (cap : Int) := by omega
  have q4 : ((l.length : Int) - 4).toNat = l.length - 4 := by omega
  have q5 : (0 : Int) ≤ (l.length : Int) - 4 := by omega
  clear hQ hQe h4
  have NR : Hid _ := right7_any id w7
  rw [hid0] at NR
  have HF : Hid (Below w.heap.size w w7 ∧ Own w7 w.heap.size (.slice x d.length xc) d) := ⟨G7.out.1, G7.out.2.2⟩
  clear G7 GX e1 e2 e3 e4 e5 e6 e7 hE hR hCl
  go_wp2_with fail
  refine (Calls.mono NS.out) ?_
  rintro e _ ⟨rfl, rfl⟩
  clear NS q1 q2 q3 q4 q5
  obtain ⟨hQ2, hQ3⟩ := hQ1
  have j1 : ¬ ((cnt : Int) < 1) := by omega
  have j2 : ¬ ((256 : Int) < (cnt : Int)) := by omega
  have j3 : ¬ ((cnt : Int) ≤ (i : Int)) := by omega
  have j4 : ¬ ((4096 : Int) < (d.length : Int)) := by omega
  go_wp2_with fail
  refine (Calls.mono NR.out) ?_
  rintro e _ ⟨rfl, rfl⟩
  clear NR
  have hG := (h.later HF.out.1).holds.blk
  rw [hcl] at hG
  obtain ⟨ta, hta⟩ := rtv_is p m.ps.length
  obtain ⟨da, hda⟩ := rdv_is p m.ps.length
  clear hta hda ta da
  have hP := (h.later HF.out.1).holds
  have hadn := hP.ad
  have y0 := blk_at hG 0
  have f0 := blk_frozen hG 0
  have f1 := blk_frozen hG 1
  have y1 := blk_at hG 1
  simp only [List.getElem?_cons_zero, List.getElem?_cons_succ] at y0 y1
  have HX : Hid ((rqOb p m).Ok w ∧ p.cl = false) := ⟨h, hcl⟩
  have HG0 : Hid _ := And.intro hG trivial
  have HI : Hid _ := And.intro hid hadn
  go_upto_region 20 with fail
  clear y0 y1 f0 f1 hG hP
  have G8 : Hid (Blk ((w7.setCell ⟨p.g, 0, none⟩ (.int .i64 id)).setCell ⟨p.g, 1, none⟩ (.int .u32 s)) p.g 41 [.int .i64 id, .int .u32 s, p.tv m.ps.length, p.dv m.ps.length, .int .i64 m.ad, .bool false] ∧ Turned (fun k => k = p.g) w7 ((w7.setCell ⟨p.g, 0, none⟩ (.int .i64 id)).setCell ⟨p.g, 1, none⟩ (.int .u32 s))) := by
    have u1 := turned_set w7 p.g 0 (.int .i64 id)
    have u2 := turned_set (w7.setCell ⟨p.g, 0, none⟩ (.int .i64 id)) p.g 1 (.int .u32 s)
    exact ⟨(HG0.out.1.set 0 (.int .i64 id)).set 1 (.int .u32 s), u1.trans (u2.mono (fun k e => .inl e))⟩
  generalize (w7.setCell ⟨p.g, 0, none⟩ (.int .i64 id)).setCell ⟨p.g, 1, none⟩ (.int .u32 s) = w8 at *
  have b9 : Below w8.heap.size w8 (w8.alloc (.cells (madeCells #[.bool false] cnt) 4)) := (Below.refl _ _).alloc (Nat.le_refl _) _
  have e1 := made_bools w8 cnt
  have m1 := make_bools cnt (by omega) w8
  have hG9 := G8.out.1.laterB b9
  have n1 : ¬ (w8.heap.size = p.g) := blk_ne e1 hG9 (by decide)
  have y2 := blk_at hG9 2
  have f2 := blk_frozen hG9 2
  simp only [List.getElem?_cons_zero, List.getElem?_cons_succ] at y2
  have u9 := turned_set (w8.alloc (.cells (madeCells #[.bool false] cnt) 4)) p.g 2 (.slice (some ⟨w8.heap.size, 0, none⟩) cnt cnt)
  have hG10 := hG9.set 2 (.slice (some ⟨w8.heap.size, 0, none⟩) cnt cnt)
  have e10 := e1.turned u9 n1
  have G10 : Hid (Blk ((w8.alloc (.cells (madeCells #[.bool false] cnt) 4)).setCell ⟨p.g, 2, none⟩ (.slice (some ⟨w8.heap.size, 0, none⟩) cnt cnt)) p.g 41 [.int .i64 id, .int .u32 s, .slice (some ⟨w8.heap.size, 0, none⟩) cnt cnt, p.dv m.ps.length, .int .i64 m.ad, .bool false] ∧ Blk ((w8.alloc (.cells (madeCells #[.bool false] cnt) 4)).setCell ⟨p.g, 2, none⟩ (.slice (some ⟨w8.heap.size, 0, none⟩) cnt cnt)) w8.heap.size 4 (List.replicate cnt (.bool false)) ∧ Turned (fun k => k = p.g) w7 ((w8.alloc (.cells (madeCells #[.bool false] cnt) 4)).setCell ⟨p.g, 2, none⟩ (.slice (some ⟨w8.heap.size, 0, none⟩) cnt cnt)) ∧ ((w8.alloc (.cells (madeCells #[.bool false] cnt) 4)).setCell ⟨p.g, 2, none⟩ (.slice (some ⟨w8.heap.size, 0, none⟩) cnt cnt)).heap.size = w8.heap.size + 1 ∧ w7.heap.size ≤ w8.heap.size) :=
    ⟨hG10, e10, (G8.out.2.trans ((tnd6 (R := fun k => k = p.g ∨ w7.heap.size ≤ k) b9).trans (u9.mono (fun k e => .inl (.inl e))))), by simp [World.setCell], G8.out.2.size⟩
  clear b9 e1 hG9 u9 hG10 e10 G8
  go_upto_region 21 with fail
  clear y2 f2 m1 n1
  generalize (w8.alloc (.cells (madeCells #[.bool false] cnt) 4)).setCell ⟨p.g, 2, none⟩ (.slice (some ⟨w8.heap.size, 0, none⟩) cnt cnt) = wA at *
  obtain ⟨t, ht⟩ : ∃ t, t = w8.heap.size := ⟨_, rfl⟩
  rw [← ht] at G10 ⊢
  clear ht
  have bA : Below wA.heap.size wA (wA.alloc (.cells (madeCells #[.slice none 0 0] cnt) 22)) := (Below.refl _ _).alloc (Nat.le_refl _) _
  have e1 := made_lists wA cnt
  have m1 := make_lists cnt (by omega) wA
  have hG9 := G10.out.1.laterB bA
  have hT9 := G10.out.2.1.laterB bA
  have n1 : ¬ (wA.heap.size = p.g) := blk_ne e1 hG9 (by decide)
  have n2 : ¬ (t = p.g) := blk_ne hT9 hG9 (by decide)
  have n3 : ¬ (wA.heap.size = t) := blk_ne e1 hT9 (by decide)
  have y3 := blk_at hG9 3
  have f3 := blk_frozen hG9 3
  simp only [List.getElem?_cons_zero, List.getElem?_cons_succ] at y3
  have uA := turned_set (wA.alloc (.cells (madeCells #[.slice none 0 0] cnt) 22)) p.g 3 (.slice (some ⟨wA.heap.size, 0, none⟩) cnt cnt)
  have GB : Hid (Blk ((wA.alloc (.cells (madeCells #[.slice none 0 0] cnt) 22)).setCell ⟨p.g, 3, none⟩ (.slice (some ⟨wA.heap.size, 0, none⟩) cnt cnt)) p.g 41 [.int .i64 id, .int .u32 s, .slice (some ⟨t, 0, none⟩) cnt cnt, .slice (some ⟨wA.heap.size, 0, none⟩) cnt cnt, .int .i64 m.ad, .bool false] ∧ Blk ((wA.alloc (.cells (madeCells #[.slice none 0 0] cnt) 22)).setCell ⟨p.g, 3, none⟩ (.slice (some ⟨wA.heap.size, 0, none⟩) cnt cnt)) t 4 (List.replicate cnt (.bool false)) ∧ Blk ((wA.alloc (.cells (madeCells #[.slice none 0 0] cnt) 22)).setCell ⟨p.g, 3, none⟩ (.slice (some ⟨wA.heap.size, 0, none⟩) cnt cnt)) wA.heap.size 22 (List.replicate cnt (.slice none 0 0)) ∧ Turned (fun k => k = p.g) w7 ((wA.alloc (.cells (madeCells #[.slice none 0 0] cnt) 22)).setCell ⟨p.g, 3, none⟩ (.slice (some ⟨wA.heap.size, 0, none⟩) cnt cnt)) ∧ w7.heap.size ≤ t ∧ w7.heap.size ≤ wA.heap.size) :=
    ⟨hG9.set 3 _, hT9.turned uA n2, e1.turned uA n1, G10.out.2.2.1.trans ((tnd6 (R := fun k => k = p.g ∨ w7.heap.size ≤ k) bA).trans (uA.mono (fun k e => .inl (.inl e)))), G10.out.2.2.2.2, by have := G10.out.2.2.2; omega⟩
  clear bA e1 hG9 hT9 uA n1 n2 n3 G10
  go_upto_region 22 with fail
  clear y3 f3 m1
  generalize (wA.alloc (.cells (madeCells #[.slice none 0 0] cnt) 22)).setCell ⟨p.g, 3, none⟩ (.slice (some ⟨wA.heap.size, 0, none⟩) cnt cnt) = wB at *
  obtain ⟨dd, hdd⟩ : ∃ dd, dd = wA.heap.size := ⟨_, rfl⟩
  rw [← hdd] at GB ⊢
  clear hdd
  have HST : Hid (Step w wB (rqOb p m) (rqOb ⟨p.g, t, dd, List.replicate cnt (.slice none 0 0), false⟩ (begM m id s cnt)) ∧ Own wB w.heap.size (.slice x d.length xc) d) := by
    have hpl : (begM m id s cnt).ps.length = cnt := by show (List.replicate cnt none).length = cnt; rw [List.length_replicate]
    have hg : p.g ∈ (rqOb p m).W := mem_rqW.2 (.inl rfl)
    refine ⟨⟨(tnd6 HF.out.1).trans (GB.out.2.2.2.1.mono (fun k e => .inl (by rw [e]; exact hg))), rqOb_ok ⟨?_, fun _ => ?_, fun _ => GB.out.2.2.1, ?_, fun j o hj => ?_, HI.out.2⟩, fun k hk => ?_, fun k hk => ?_⟩, HF.out.2.turned GB.out.2.2.2.1 (fun k hk e => rq_notW (HX.out.1.later HF.out.1).holds HF.out.2 k hk (by rw [e]; exact hg))⟩
    · rw [hpl]
      unfold RQl.tv RQl.dv
      rw [if_neg (by omega), if_neg (by omega)]
      exact GB.out.1
    · have : (begM m id s cnt).ps.map isB = List.replicate cnt (.bool false) := by simp [begM, isB]
      rw [this]
      exact GB.out.2.1
    · show (List.replicate cnt _).length = (List.replicate cnt none).length
      rw [List.length_replicate, List.length_replicate]
    · have hj' : (List.replicate cnt none)[j]? = some o := hj
      have hjc : j < cnt := by
        have := (List.getElem?_eq_some_iff.1 hj').1
        rwa [List.length_replicate] at this
      rw [List.getElem?_replicate, if_pos hjc] at hj'
      cases hj'
      exact ⟨.slice none 0 0, by show (List.replicate cnt _)[j]? = _; rw [List.getElem?_replicate, if_pos hjc], World.ownsRow_nil _ _ _ _⟩
    · rcases mem_rqW.1 hk with rfl | ⟨h0, rfl⟩ | ⟨h0, rfl⟩
      · exact .inl hg
      · exact .inr (Nat.le_trans HF.out.1.size GB.out.2.2.2.2.1)
      · exact .inr (Nat.le_trans HF.out.1.size GB.out.2.2.2.2.2)
    · exfalso
      obtain ⟨v, hv, e⟩ := List.mem_filterMap.1 hk
      obtain rfl := (List.mem_replicate.1 hv).2
      cases e
  have hG := GB.out.1
  have hT := GB.out.2.1
  have hD := GB.out.2.2.1
  have n1 : ¬ t = p.g := blk_ne hT hG (by decide)
  have n2 : ¬ dd = p.g := blk_ne hD hG (by decide)
  have n3 : ¬ dd = t := blk_ne hD hT (by decide)
  have y0 := blk_at hG 0
  have y1 := blk_at hG 1
  have y2 := blk_at hG 2
  have y3 := blk_at hG 3
  have y4 := blk_at hG 4
  have f4 := blk_frozen hG 4
  have x1 := blk_at hT i
  have x2 := blk_frozen hT i
  have x3 := blk_at hD i
  have x4 := blk_frozen hD i
  rw [List.getElem?_replicate, if_pos hic] at x1 x3
  simp only [List.getElem?_cons_zero, List.getElem?_cons_succ] at y0 y1 y2 y3 y4
  have F : Hid (∃ p', p'.g = p.g ∧ p'.cl = p.cl ∧ Step w (((wB.setCell ⟨t, i, none⟩ (.bool true)).setCell ⟨dd, i, none⟩ (.slice x d.length xc)).setCell ⟨p.g, 4, none⟩ (.int .i64 (m.ad + 1))) (rqOb p m) (rqOb p' (addM (setPc (begM m id s cnt) i d)))) := by
    have hk := HST.out.1.ok
    have hP := hk.holds
    have hpl : (begM m id s cnt).ps.length = cnt := by show (List.replicate cnt none).length = cnt; rw [List.length_replicate]
    have hne : (begM m id s cnt).ps.length ≠ 0 := by omega
    have hsi : (begM m id s cnt).ps[i]? = some none := by show (List.replicate cnt none)[i]? = _; rw [List.getElem?_replicate, if_pos hic]
    have u1 := turned_set wB t i (.bool true)
    have u2 := turned_set (wB.setCell ⟨t, i, none⟩ (.bool true)) dd i (.slice x d.length xc)
    have u3 := turned_set ((wB.setCell ⟨t, i, none⟩ (.bool true)).setCell ⟨dd, i, none⟩ (.slice x d.length xc)) p.g 4 (.int .i64 (m.ad + 1))
    have B := (((hP.blk.turned u1 (fun e => n1 e.symm)).turned u2 (fun e => n2 e.symm)).set 4 (.int .i64 (m.ad + 1)))
    have ho := HST.out.2
    have hP2 := rq_notW hP ho
    have ht3 : Turned (fun k => k = p.g ∨ k = t ∨ k = dd) wB (((wB.setCell ⟨t, i, none⟩ (.bool true)).setCell ⟨dd, i, none⟩ (.slice x d.length xc)).setCell ⟨p.g, 4, none⟩ (.int .i64 (m.ad + 1))) := (u1.mono (R' := fun k => k = p.g ∨ k = t ∨ k = dd) (fun k e => .inr (.inl e))).trans (((u2.mono (R' := fun k => k = p.g ∨ k = t ∨ k = dd) (fun k e => .inr (.inr e))).trans (u3.mono (fun k e => .inl (.inl e)))).mono (fun k e => .inl e))
    obtain ⟨p', q1, q2, q3⟩ := rq_put2 (w0 := w) hk hsi ho HST.out.1 B ((((hP.there hne).set i (.bool true)).turned u2 (fun e => n3 e.symm)).turned u3 n1) ((((hP.data hne).turned u1 n3).set i (.slice x d.length xc)).turned u3 n2) ht3
    exact ⟨p', q1, q2.trans HX.out.2.symm, q3⟩
  have F2 : Hid _ := HI.out.2
  clear hG hT hD HST GB HX HG0 HI h hcl
  generalize m.ad = ad at *
  generalize hgg : p.g = gg at *
  have HGG : Hid _ := hgg
  clear hgg
  have hadn : 0 ≤ ad := F2.out
  go_wp2
  go_ret
  have hgg := HGG.out
  subst hgg
  exact ⟨rfl, F.out⟩
end Go.Proofs.Ytgonglbgejaffaa

/- What the document's Add does. -/
namespace Go.Proofs.Ytgonglbgejaffaa
open Go.RowKit
set_option linter.unusedVariables false
set_option linter.unusedSimpArgs false
set_option maxRecDepth 4000

theorem rqAdd_any (a : Option Addr) (cap : Nat) (l : List (BitVec 8)) (p : RQl) (m : CR) (w : World) (h : (rqOb p m).Ok w) (hw : CRw m) (hle : l.length ≤ cap) (hr : Row w a l) (hn : a = none → cap = 0) (hlen : l.length ≤ 140737488351232) (hadm : m.ad ≤ 1000000000) :
    Calls Try.prog 17 #[.pointer (some ⟨p.g, 0, none⟩), .slice a l.length cap] w fun e w' => e = .returned (.int .i64 (adE m p.cl l)) ∧ ∃ p', p'.g = p.g ∧ p'.cl = p.cl ∧ Step w w' (rqOb p m) (rqOb p' (adM m p.cl l)) := by
  have keep : ∀ {E : Int}, adE m p.cl l = E → adM m p.cl l = m → ∀ {e : Ending} {w' : World}, e = .returned (.int .i64 E) ∧ Below w.heap.size w w' → e = .returned (.int .i64 (adE m p.cl l)) ∧ ∃ p', p'.g = p.g ∧ p'.cl = p.cl ∧ Step w w' (rqOb p m) (rqOb p' (adM m p.cl l)) := by
    rintro E e1 e2 e w' ⟨rfl, hb⟩
    rw [e1, e2]
    exact ⟨rfl, p, rfl, rfl, Step.quiet h hb⟩
  cases hc : p.cl with
  | true =>
    rw [hc] at keep
    refine (rqAdd_closed a l.length cap p m w h hc).mono ?_
    rintro e w' ⟨rfl, rfl⟩
    exact keep (E := 5) (by unfold adE; rw [if_pos rfl]) (by unfold adM; rw [if_neg (fun e => absurd e.1 (by decide))]) ⟨rfl, Below.refl _ _⟩
  | false =>
    rw [hc] at keep
    by_cases hE : dcE l = 0
    · obtain ⟨id, i, cnt, s, d, hR, h1, h2, h3, h4⟩ := dcR_bd hE
      have hll := hw.len
      have hEq : adE m false l = (if m.id < id then 0 else if id < m.id then 5 else if m.ps.length = cnt ∧ m.s = s then 0 else 11) := by
        unfold adE
        rw [if_neg (by decide), if_pos hE, hR]
        rfl
      by_cases c1 : m.id < id
      · rw [if_pos c1] at hEq
        have hM : adM m false l = addM (setPc (begM m id s cnt) i d) := by
          unfold adM
          rw [if_pos ⟨rfl, hEq⟩, hR]
          show addM (setPc (if m.id < id then begM m id s (cnt : Int).toNat else m) (i : Int).toNat d) = _
          rw [if_pos c1]
          rfl
        rw [hEq, hM]
        have hh := rqAdd_new a cap l p m w h hc hle hr hn hlen hE id s i cnt d hR c1 hadm
        rw [hc] at hh
        exact hh
      · rw [if_neg c1] at hEq
        by_cases c2 : id < m.id
        · rw [if_pos c2] at hEq
          refine (rqAdd_old a cap l p m w h hc hle hr hn hlen hE id s i cnt d hR c2).mono ?_
          rintro e w' he
          exact keep hEq (by unfold adM; rw [if_neg (fun e => by rw [hEq] at e; exact absurd e.2 (by decide))]) he
        · rw [if_neg c2] at hEq
          have c3 : m.id = id := by omega
          by_cases c4 : m.ps.length = cnt ∧ m.s = s
          · rw [if_pos c4] at hEq
            have hM : adM m false l = addM (setPc m i d) := by
              unfold adM
              rw [if_pos ⟨rfl, hEq⟩, hR]
              show addM (setPc (if m.id < id then begM m id s (cnt : Int).toNat else m) (i : Int).toNat d) = _
              rw [if_neg c1]
              rfl
            rw [hEq, hM]
            have hh := rqAdd_same a cap l p m w h hc hle hr hn hlen hE id s i cnt d hR c3 c4.2 c4.1 hadm
            rw [hc] at hh
            exact hh
          · rw [if_neg c4] at hEq
            refine (rqAdd_form a cap l p m w h hc hle hr hn hlen hE id s i cnt d hR c3 c4).mono ?_
            rintro e w' he
            exact keep hEq (by unfold adM; rw [if_neg (fun e => by rw [hEq] at e; exact absurd e.2 (by decide))]) he
    · have hEq : adE m false l = dcE l := by unfold adE; rw [if_neg (by decide), if_neg hE]
      refine (rqAdd_err a cap l p m w h hc hle hr hn hlen hE).mono ?_
      rintro e w' he
      exact keep hEq (by unfold adM; rw [if_neg (fun e => hE (by rw [hEq] at e; exact e.2))]) he
end Go.Proofs.Ytgonglbgejaffaa
