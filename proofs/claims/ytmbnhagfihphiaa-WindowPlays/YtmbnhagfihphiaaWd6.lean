/- Commands whose turn has come. -/
import Derived.Test.YtmbnhagfihphiaaWd5
namespace Go.Proofs.Ytmbnhagfihphiaa
open Go.RowKit
set_option linter.unusedVariables false
set_option linter.unusedSimpArgs false
set_option maxRecDepth 8000

/-- beside what an object does, a block of another's turns -/
theorem Step.beside {w wr w5 : World} {o o' : Ob} {q : Option Nat} (s : Step w wr o o') (hg : wr.grownBy w5 q) (hq : ∀ k, q = some k → w.heap.size ≤ k ∧ k ∉ o'.W ∧ k ∉ o'.V) : Step w w5 o o' :=
  ⟨s.turned.trans (turned_grown hg (fun k e => .inr (hq k e).1)), s.ok.turned (turned_grown (R := fun k => q = some k) hg (fun k e => e)) (fun k hk e => hk.elim (hq k e).2.1 (hq k e).2.2), s.writes, s.reads⟩
def ix (l : List Cm) (n : BitVec 32) : Option Nat := l.findIdx? (fun c => decide (c.1 = n))
theorem ix_none {l : List Cm} {n : BitVec 32} (h : ∀ x ∈ l, ¬ x.1 = n) : ix l n = none := by
  unfold ix; rw [List.findIdx?_eq_none_iff]; intro x hx; simpa using h x hx
theorem ix_some {l : List Cm} {n : BitVec 32} {k : Nat} (hk : k < l.length) (h1 : l[k].1 = n) (h2 : ∀ x ∈ l.take k, ¬ x.1 = n) : ix l n = some k := by
  unfold ix; rw [List.findIdx?_eq_some_iff_getElem]
  refine ⟨hk, by simpa using h1, fun j hj => ?_⟩
  have : l[j] ∈ l.take k := by rw [List.mem_take_iff_getElem]; exact ⟨j, by omega, rfl⟩
  simpa using h2 _ this
def Wn.pull (m : Wn) (k : Nat) : Wn := { m with held := m.held.eraseIdx k, exp := m.exp + 1#32, busy := m.busy + 1 }
def Wn.ord : Nat → Wn → List Cm → Wn × List Cm
  | 0, m, l => (m, l)
  | f + 1, m, l => match ix m.held m.exp with
    | none => (m, l)
    | some k => Wn.ord f (m.pull k) (l ++ [m.held.getD k (0#32, false, 0)])
theorem ord_stop {m : Wn} {l : List Cm} (h : ix m.held m.exp = none) : ∀ f, Wn.ord f m l = (m, l)
  | 0 => rfl
  | f + 1 => by unfold Wn.ord; rw [h]
theorem ord_go {m : Wn} {l : List Cm} {k f : Nat} (h : ix m.held m.exp = some k) (hk : k < m.held.length) : Wn.ord (f + 1) m l = Wn.ord f (m.pull k) (l ++ [m.held[k]]) := by
  rw [Wn.ord, h]
  simp only [List.getD_eq_getElem?_getD, List.getElem?_eq_getElem hk, Option.getD_some]
/-- amid the loop -/
structure OrI (w : World) (g : Nat) (p : Wq) (m : Wn) (lv : Value) (wr : World) (p' : Wq) (mr : Wn) (ql : Option Nat) (lr : List Cm) : Prop where
  st : Step w wr (wd g p m) (wd g p' mr)
  gl : GSl kCmd wr lv ql lr
  new : ∀ k, ql = some k → w.heap.size ≤ k ∧ k ∉ wdW g p'
  ord : Wn.ord mr.held.length mr lr = Wn.ord m.held.length m []
  bz : mr.busy + mr.held.length = m.busy + m.held.length
  ln : lr.length + mr.held.length = m.held.length
def lenV : Value → Nat
  | .slice _ n _ => n
  | _ => 0
/-- all that a round does behind the look -/
theorem pull_round {w wr w4 : World} {g : Nat} {p p' : Wq} {m mr : Wn} {lv : Value} {ql : Option Nat} {lr : List Cm} (H : OrI w g p m lv wr p' mr ql lr) (hb : Below wr.heap.size wr w4) (k : Nat) (hk : k < mr.held.length) (hix : ix mr.held mr.exp = some k) (hm : m.held.length ≤ 20000) :
    ∃ hv wv, WdAt w4 g p'.1 p'.2 hv wv mr ∧ ∃ a1 n1 c1 w5 q5, (Builtin.append_ #[50, 50] 50 #[lv, .slice (some ⟨w4.heap.size, 0, none⟩) 1 1]).run Try.prog (w4.alloc (.cells #[.int .u32 (mr.held[k].1.toNat : Int), .bool mr.held[k].2.1, .int .i64 mr.held[k].2.2] 54)) = .ok (.slice a1 n1 c1) w5 ∧
      n1 = lr.length + 1 ∧ WdAt w5 g p'.1 p'.2 hv wv mr ∧
      ∀ v6 w6, GSl kCmd w6 v6 p'.1 (mr.held.eraseIdx k) → w5.grownBy w6 p'.1 → (∃ a n c, v6 = .slice a n c) ∧ Blk w6 g 52 [.int .u32 (mr.exp.toNat : Int), .int .i64 mr.size, .int .i64 mr.busy, hv, wv, .int .i64 mr.nows] ∧
        OrI w g p m (.slice a1 n1 c1) (((w6.setCell ⟨g, 3, none⟩ v6).setCell ⟨g, 0, none⟩ (.int .u32 (((mr.exp.toNat : Int) + 1) % 4294967296))).setCell ⟨g, 2, none⟩ (.int .i64 ((mr.busy : Int) + 1))) p' (mr.pull k) q5 (lr ++ [mr.held[k]]) := by
  have s4 := H.st.trans (Step.quiet H.st.ok hb)
  have g4 := H.gl.later hb
  obtain ⟨hv, wv, A4, -⟩ := wd_put s4.ok
  refine ⟨hv, wv, A4, ?_⟩
  obtain ⟨x, hx⟩ : ∃ x, x = mr.held[k] := ⟨_, rfl⟩
  rw [← hx]
  have bn : Below w4.heap.size w4 (w4.alloc (.cells #[.int .u32 (x.1.toNat : Int), .bool x.2.1, .int .i64 x.2.2] 54)) := (Below.refl _ _).alloc (Nat.le_refl _) _
  have N := Blk.new' w4 54 [.int .u32 (x.1.toNat : Int), .bool x.2.1, .int .i64 x.2.2]
  have hat : GAt kCmd (w4.alloc (.cells #[.int .u32 (x.1.toNat : Int), .bool x.2.1, .int .i64 x.2.2] 54)) (.slice (some ⟨w4.heap.size, 0, none⟩) 1 1) [x] := by
    refine ⟨_, 1, rfl, by simp, (fun h => by cases h), fun ad h j u hj => ?_⟩
    cases h
    rw [Addr.add_lit, blk_at N, Nat.zero_add]
    simpa [Kd.cs, kCmd] using hj
  obtain ⟨v5, w5, q5, hr, ho, hg, hor⟩ := (g4.later bn).append kCmd_ok hat (by have := H.ln; simp; omega) 50
  obtain ⟨a1, c1, e5, -, -, -⟩ := ho.cell kCmd_ok
  subst e5
  have s5 := (s4.trans (Step.quiet s4.ok bn)).beside hg (fun k hk => ⟨(H.new k hk).1, (H.new k hk).2, fun h => by cases h⟩)
  have z4 := hb.size
  have z5 := bn.size
  have zr := H.st.turned.size
  have new5 : ∀ k, q5 = some k → w.heap.size ≤ k ∧ k ∉ wdW g p' := fun k hk => by
    rcases hor k hk with e | e
    · exact H.new k e
    · refine ⟨by omega, fun h => ?_⟩
      have := H.st.ok.lt k (.inl h)
      omega
  obtain ⟨hv5, wv5, A5, -⟩ := wd_put s5.ok
  have hBB : Blk w5 g 52 [.int .u32 (mr.exp.toNat : Int), .int .i64 mr.size, .int .i64 mr.busy, hv, wv, .int .i64 mr.nows] := by
    have := (A4.blk.laterB bn).turned (turned_grown (R := fun k => ql = some k) hg (fun k e => e)) (fun e => (H.new g e).2 ((mem_wdW g g p').2 (.inl rfl)))
    exact this
  have e1 : hv5 = hv ∧ wv5 = wv := by
    have := A5.blk
    unfold Blk at this hBB
    rw [this] at hBB
    simp at hBB
    exact hBB
  obtain ⟨rfl, rfl⟩ := e1
  refine ⟨a1, _, c1, w5, q5, hr, by simp, A5, ?_⟩
  intro v6 w6 hv6 hg6
  have ap := s5.ok.holds.1
  have H6 : WdPut g p' p' mr w5 w6 hv5 wv5 v6 wv5 (mr.pull k).held (mr.pull k).wait :=
    ⟨s5.ok, A5.blk, turned_grown hg6 (fun k e => .inl e), hv6, A5.wait.same (fun i hi => hg6.block i (A5.wait.lt i hi) (fun e => ap.c i e.symm hi)), fun k e => .inl e, fun k e => .inl e, ap.c⟩
  obtain ⟨a, c, e6, -, -, -⟩ := hv6.cell kCmd_ok
  refine ⟨⟨a, _, c, e6⟩, H6.blk5, ?_⟩
  have e2 : (((mr.pull k).exp.toNat : Nat) : Int) = ((mr.exp.toNat : Int) + 1) % 4294967296 := by
    unfold Wn.pull
    simp only [BitVec.toNat_add, BitVec.toNat_ofNat]
    omega
  have e3 : (((mr.pull k).busy : Nat) : Int) = (mr.busy : Int) + 1 := by unfold Wn.pull; simp only; omega
  have s6 : Step w5 (((w6.setCell ⟨g, 3, none⟩ v6).setCell ⟨g, 0, none⟩ (.int .u32 (((mr.exp.toNat : Int) + 1) % 4294967296))).setCell ⟨g, 2, none⟩ (.int .i64 ((mr.busy : Int) + 1))) (wd g p' mr) (wd g p' (mr.pull k)) := by
    refine H6.done (m' := mr.pull k) ?_ (grown_trans (grown_trans (grown_set _ g 3 _) (grown_set _ g 0 _)) (grown_set _ g 2 _))
    rw [e2, e3]
    exact ((H6.blk5.set 3 v6).set 0 _).set 2 _
  have hle : (mr.held.eraseIdx k).length + 1 = mr.held.length := by rw [List.length_eraseIdx, if_pos hk]; omega
  refine ⟨s5.trans s6, ?_, new5, ?_, ?_, ?_⟩
  · exact ho.turned s6.turned (fun i hi e => (new5 i hi).2 e)
  · rw [← H.ord, ← hle, ord_go hix hk, ← hx]; rfl
  · have := H.bz; show mr.busy + 1 + (mr.held.eraseIdx k).length = _; omega
  · have := H.ln; show (lr ++ [x]).length + (mr.held.eraseIdx k).length = _; rw [List.length_append, List.length_singleton]; omega
set_option maxHeartbeats 4000000 in
theorem wdOrder_any (g : Nat) (p : Wq) (m : Wn) (w : World) (h : (wd g p m).Ok w) (hm : m.held.length ≤ 20000) (hz : m.busy ≤ 20000) :
    Calls Try.prog 23 #[.pointer (some ⟨g, 0, none⟩)] w fun e w' => ∃ v p' ql, e = .returned v ∧ Step w w' (wd g p m) (wd g p' (Wn.ord m.held.length m []).1) ∧ GSl kCmd w' v ql (Wn.ord m.held.length m []).2 ∧ ∀ k, ql = some k → w.heap.size ≤ k ∧ k ∉ wdW g p' := by
  have H0 : Hid _ := (⟨Step.refl h, GSl.nil _ _, (fun k e => by cases e), rfl, rfl, by simp⟩ : OrI w g p m (.slice none 0 0) w p m none [])
  clear h
  go_enter Try.func23, Try.ntmps23
  go_wp2_with fail
  go_loopw [3] (fun lv wr => ∃ p' mr ql lr, OrI w g p m lv wr p' mr ql lr) (fun lv _ => m.held.length - lenV lv)
  case atStart => exact ⟨_, _, _, _, H0.out⟩
  case round =>
    obtain ⟨p', mr, ql, lr, hI⟩ := hrel
    clear H0
    obtain ⟨a0, c0, rfl, -, -, -⟩ := hI.gl.cell kCmd_ok
    obtain ⟨hv, wv, hA, -⟩ := wd_put hI.st.ok
    have k0 := blk_at hA.blk 0
    have k3 := blk_at hA.blk 3
    simp only [List.getElem?_cons_succ, List.getElem?_cons_zero] at k0 k3
    obtain ⟨ah, ch, rfl, -, -, -⟩ := hA.held.cell kCmd_ok
    have HC : Hid _ := And.intro k0 k3
    have few : mr.held.length ≤ 20000 := by have := hI.ln; omega
    have HI : Hid _ := And.intro hI (And.intro hA few)
    clear k0 k3 hI hA few
    go_wp2_with fail
    refine wp_region_held_drew (S := fun W => Below wr.heap.size wr W) (by kernel_rfl) ((Below.refl _ _).drew) (fun hS => ?_)
    refine any_take (i := 0) (v := ?_) rfl (by kernel_rfl) (by kernel_rfl) (by kernel_rfl) (by exact fun _ _ _ h => h) (by rfl) ?_ hS ?_
    rotate_left
    · ((intro W hSw; have c0 := cell_later hSw HC.out.1; have c3 := cell_later hSw HC.out.2; clear hSw; go_simp) <;> with_reducible rfl)
    (try simp only [Act.put, List.setIfInBounds_toArray, List.set_cons_zero, List.set_cons_succ])
    refine any_take (i := 1) (v := ?_) rfl (by kernel_rfl) (by kernel_rfl) (by kernel_rfl) (by exact fun _ _ _ h => h) (by rfl) ?_ hS ?_
    rotate_left
    · ((intro W hSw; have c0 := cell_later hSw HC.out.1; have c3 := cell_later hSw HC.out.2; clear hSw; go_simp) <;> with_reducible rfl)
    (try simp only [Act.put, List.setIfInBounds_toArray, List.set_cons_zero, List.set_cons_succ])
    refine any_take (i := 2) (v := ?_) rfl (by kernel_rfl) (by kernel_rfl) (by kernel_rfl) (by exact fun _ _ _ h => h) (by rfl) ?_ hS ?_
    rotate_left
    · ((intro W hSw; have c0 := cell_later hSw HC.out.1; have c3 := cell_later hSw HC.out.2; clear hSw; go_simp) <;> with_reducible rfl)
    (try simp only [Act.put, List.setIfInBounds_toArray, List.set_cons_zero, List.set_cons_succ])
    refine any_take (i := 3) (v := ?_) rfl (by kernel_rfl) (by kernel_rfl) (by kernel_rfl) (by exact fun _ _ _ h => h) (by rfl) ?_ hS ?_
    rotate_left
    · ((intro W hSw; have c0 := cell_later hSw HC.out.1; have c3 := cell_later hSw HC.out.2; clear hSw; go_simp) <;> with_reducible rfl)
    (try simp only [Act.put, List.setIfInBounds_toArray, List.set_cons_zero, List.set_cons_succ])
    refine any_take (i := 4) (v := ?_) rfl (by kernel_rfl) (by kernel_rfl) (by kernel_rfl) (by exact fun _ _ _ h => h) (by rfl) ?_ hS ?_
    rotate_left
    · ((intro W hSw; have c0 := cell_later hSw HC.out.1; have c3 := cell_later hSw HC.out.2; clear hSw; go_simp) <;> with_reducible rfl)
    (try simp only [Act.put, List.setIfInBounds_toArray, List.set_cons_zero, List.set_cons_succ])
    refine any_take (i := 5) (v := ?_) rfl (by kernel_rfl) (by kernel_rfl) (by kernel_rfl) (by exact fun _ _ _ h => h) (by rfl) ?_ hS ?_
    rotate_left
    · ((intro W hSw; have c0 := cell_later hSw HC.out.1; have c3 := cell_later hSw HC.out.2; clear hSw; go_simp) <;> with_reducible rfl)
    (try simp only [Act.put, List.setIfInBounds_toArray, List.set_cons_zero, List.set_cons_succ])
    refine any_take (i := 6) (v := ?_) rfl (by kernel_rfl) (by kernel_rfl) (by kernel_rfl) (by exact fun _ _ _ h => h) (by rfl) ?_ hS ?_
    rotate_left
    · ((intro W hSw; have c0 := cell_later hSw HC.out.1; have c3 := cell_later hSw HC.out.2; clear hSw; go_simp) <;> with_reducible rfl)
    (try simp only [Act.put, List.setIfInBounds_toArray, List.set_cons_zero, List.set_cons_succ])
    refine any_take (i := 7) (v := ?_) rfl (by kernel_rfl) (by kernel_rfl) (by kernel_rfl) (by exact fun _ _ _ h => h) (by rfl) ?_ hS ?_
    rotate_left
    · ((intro W hSw; have c0 := cell_later hSw HC.out.1; have c3 := cell_later hSw HC.out.2; clear hSw; go_simp) <;> with_reducible rfl)
    (try simp only [Act.put, List.setIfInBounds_toArray, List.set_cons_zero, List.set_cons_succ])
    refine any_one (i := 8) rfl (by kernel_rfl) (fun K hK => ?_)
    go_simp
    refine (Calls.mono (wHas_any mr.exp _)) ?_
    rintro e x1 ⟨rfl, M3, hbR⟩
    have B1 : Below wr.heap.size wr x1 := below_then hS hbR
    have M4 : Hid _ := M3
    clear hbR M3
    go_wp2_with fail
    refine hK.out _ _ (B1) ?_
    clear hK K hS
    have hS := B1
    refine any_one (i := 9) rfl (by kernel_rfl) (fun K hK => ?_)
    go_simp
    refine (Calls.mono (wIndex_any _ _ _ _ mr.exp _ (HI.out.2.1.held.later B1) HI.out.2.2 M4.out)) ?_
    rintro e x2 ⟨⟨ii, rfl, hii⟩, hbR⟩
    have B2 : Below wr.heap.size wr x2 := below_then B1 hbR
    have HX : Hid _ := hii
    clear hbR hii
    go_wp2_with fail
    refine hK.out _ _ (B2) ?_
    clear hK K hS
    have hS := B2
    refine any_take (i := 10) (v := ?_) rfl (by kernel_rfl) (by kernel_rfl) (by kernel_rfl) (by exact fun _ _ _ h => h) (by rfl) ?_ hS ?_
    rotate_left
    · ((intro W hSw; skip; clear hSw; go_simp) <;> with_reducible rfl)
    (try simp only [Act.put, List.setIfInBounds_toArray, List.set_cons_zero, List.set_cons_succ])
    refine wpAnyH_done (by kernel_rfl) ?_ _
    have BB : Hid _ := B2
    clear hS B1 B2 M4 HC
    rcases HX.out.is with ⟨rfl, hno⟩ | ⟨k, rfl, hk, hx, hno⟩
    · have F : Hid _ := And.intro (HI.out.1.st.trans (Step.quiet HI.out.1.st.ok BB.out)) (And.intro (HI.out.1.gl.later BB.out) (And.intro HI.out.1.new ((ord_stop (ix_none hno) _).symm.trans HI.out.1.ord)))
      clear hno HX HI BB
      go_wp2
      go_ret
      rw [← F.out.2.2.2]
      exact ⟨_, p', ql, rfl, F.out.1, F.out.2.1, F.out.2.2.1⟩
    · obtain ⟨hv4, wv4, A4, a1, n1, c1, w5, q5, hr, hn1, A5, hfin⟩ := pull_round HI.out.1 BB.out k hk (ix_some hk hx hno) hm
      subst hn1
      have y3 := blk_at A4.blk 3
      have z3 := blk_at A5.blk 3
      simp only [List.getElem?_cons_succ, List.getElem?_cons_zero] at y3 z3
      obtain ⟨b4, d4, e4, -, -, hc4⟩ := A4.held.cell kCmd_ok
      obtain ⟨b, off, eb, -, hc⟩ := hc4 k hk
      rw [e4, eb] at y3 z3
      have j1 : x2.cell? ⟨b, off + k * 3, none⟩ = some (.int .u32 (mr.held[k].1.toNat : Int)) := hc 0 (by simp [kCmd])
      have j2 : x2.cell? ⟨b, off + k * 3 + 1, none⟩ = some (.bool mr.held[k].2.1) := hc 1 (by simp [kCmd])
      have j3 : x2.cell? ⟨b, off + k * 3 + 2, none⟩ = some (.int .i64 mr.held[k].2.2) := hc 2 (by simp [kCmd])
      have HD : Hid _ := wDelete_any _ _ _ k w5 A5.held hk HI.out.2.2
      rw [e4, eb] at HD
      have hmr := HI.out.1.ln
      have hbz := HI.out.1.bz
      have q1 : (k : Int) < (mr.held.length : Int) := by omega
      have q2 : ¬ (k : Int) < 0 := by omega
      have q3 : (0 : Int) ≤ (k : Int) := by omega
      have q4 : (k : Int) + 1 ≤ 9223372036854775807 := by omega
      have q5 : -9223372036854775808 ≤ (mr.busy : Int) + 1 ∧ (mr.busy : Int) + 1 ≤ 9223372036854775807 := by omega
      have hm2 : m.held.length - (lr.length + 1) < m.held.length - lr.length := by omega
      have HM : Hid _ := hm2
      have HR : Hid _ := And.intro hr hfin
      obtain ⟨b1, b2, b3⟩ := mr.held[k]
      generalize hez : (mr.exp.toNat : Int) = ez at *
      generalize hbz2 : (mr.busy : Int) = bz at *
      generalize mr.held.eraseIdx k = EL at *
      have HE : Hid _ := And.intro hez hbz2
      clear hr hfin hc4 hc A4 A5 e4 eb hno hx HX BB hmr hbz hm2 hez hbz2
      have HIx : Hid _ := HI.out.1
      clear HI
      go_wp2_with (at_builtin; refine wpList_run_app rfl _ _ 50 50 rfl _ _ rfl rfl HR.out.1 ?_)
      refine (Calls.mono HD.out) ?_
      rintro e w6 ⟨⟨v6, rfl, hv6⟩, hg6⟩
      obtain ⟨⟨a6, n6, c6, rfl⟩, B6, I6⟩ := HR.out.2 v6 w6 hv6 hg6
      have t0 := blk_at B6 0
      have t2 := blk_at B6 2
      have t3 := blk_at B6 3
      have f0 := blk_frozen B6 0
      have f2 := blk_frozen B6 2
      have f3 := blk_frozen B6 3
      simp only [List.getElem?_cons_succ, List.getElem?_cons_zero] at t0 t2 t3
      have F : Hid _ := I6
      clear hv6 hg6 B6 I6 HD HR HIx HE
      go_wp2
      go_roundw
      case rel => exact ⟨_, _, _, _, F.out⟩
      case measure => simpa [lenV] using HM.out
end Go.Proofs.Ytmbnhagfihphiaa
