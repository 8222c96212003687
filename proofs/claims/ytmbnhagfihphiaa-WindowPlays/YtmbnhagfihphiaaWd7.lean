/- A command comes. -/
import Derived.Test.YtmbnhagfihphiaaWd6
namespace Go.Proofs.Ytmbnhagfihphiaa
open Go.RowKit
set_option linter.unusedVariables false
set_option linter.unusedSimpArgs false
set_option maxRecDepth 8000

theorem new_cmd (w : World) (x : Cm) : GSl kCmd (w.alloc (.cells #[.int .u32 (x.1.toNat : Int), .bool x.2.1, .int .i64 x.2.2] 54)) (.slice (some ⟨w.heap.size, 0, none⟩) 1 1) (some w.heap.size) [x] :=
  .inr ⟨w.heap.size, 0, 1, [.int .u32 (x.1.toNat : Int), .bool x.2.1, .int .i64 x.2.2], rfl, rfl, Blk.new' w 54 _, by simp [kCmd], by simp, by simp [maxLen], by simp [kCmd, Kd.cs]⟩
theorem below_cmd (w : World) (x : Cm) : Below w.heap.size w (w.alloc (.cells #[.int .u32 (x.1.toNat : Int), .bool x.2.1, .int .i64 x.2.2] 54)) := (Below.refl _ _).alloc (Nat.le_refl _) _
set_option maxHeartbeats 1000000 in
theorem wdCome_full (g : Nat) (p : Wq) (m : Wn) (n : BitVec 32) (id : Int) (w : World) (h : (wd g p m).Ok w) (h0 : m.nows = 64) :
    Calls Try.prog 10 #[.pointer (some ⟨g, 0, none⟩), .int .u32 (n.toNat : Int), .bool true, .int .i64 id] w fun e w' => e = .returned (.int .i64 4) ∧ Below w.heap.size w w' := by
  have bn := below_cmd w (n, true, id)
  obtain ⟨hv, wv, A, -⟩ := wd_put (h.later bn)
  have k5 := blk_at A.blk 5
  simp only [List.getElem?_cons_succ, List.getElem?_cons_zero, h0] at k5
  have F : Hid _ := bn
  clear A h bn h0
  go_enter Try.func10, Try.ntmps10
  go_wp2
  go_ret
  exact ⟨rfl, F.out⟩
set_option maxHeartbeats 1000000 in
theorem wdCome_now (g : Nat) (p : Wq) (m : Wn) (n : BitVec 32) (id : Int) (w : World) (h : (wd g p m).Ok w) (hw : m.Wf) (h0 : m.nows ≠ 64) :
    Calls Try.prog 10 #[.pointer (some ⟨g, 0, none⟩), .int .u32 (n.toNat : Int), .bool true, .int .i64 id] w fun e w' => e = .returned (.int .i64 0) ∧ ∃ p', Step w w' (wd g p m) (wd g p' (m.waits [(n, true, id)])) := by
  have bn := below_cmd w (n, true, id)
  have s1 := Step.quiet h bn
  obtain ⟨hv, wv, A, -⟩ := wd_put s1.ok
  have k5 := blk_at A.blk 5
  simp only [List.getElem?_cons_succ, List.getElem?_cons_zero] at k5
  have HW : Hid _ := wdWait_any g p m [(n, true, id)] _ _ _ s1.ok (new_cmd w (n, true, id)) (fun k hk e => by cases hk; have := h.lt _ (.inl e); omega) (by have := hw.few; simp; omega) (by have := hw.now64; omega)
  have q1 : ¬ (m.nows : Int) = 64 := by omega
  have F : Hid _ := s1
  generalize (m.nows : Int) = nz at *
  clear A h bn h0 hw s1
  go_enter Try.func10, Try.ntmps10
  go_wp2_with fail
  refine (Calls.mono HW.out) ?_
  rintro e w2 ⟨rfl, p2, s2⟩
  have F2 : Hid _ := F.out.trans s2
  clear s2 F HW
  go_wp2
  go_ret
  exact ⟨rfl, _, F2.out⟩
set_option maxHeartbeats 1000000 in
theorem wdCome_no (g : Nat) (p : Wq) (m : Wn) (n : BitVec 32) (id : Int) (w : World) (h : (wd g p m).Ok w) (hw : m.Wf) (h0 : (m.room n && !m.has n) = false) :
    Calls Try.prog 10 #[.pointer (some ⟨g, 0, none⟩), .int .u32 (n.toNat : Int), .bool false, .int .i64 id] w fun e w' => e = .returned (.int .i64 5) ∧ Below w.heap.size w w' := by
  have bn := below_cmd w (n, false, id)
  have HT := wdTakes_any g p m n _ (h.later bn) hw
  rw [h0] at HT
  have HT1 : Hid _ := HT
  have F : Hid _ := bn
  clear HT h bn h0 hw
  go_enter Try.func10, Try.ntmps10
  go_wp2_with fail
  refine (Calls.mono HT1.out) ?_
  rintro e w2 ⟨rfl, b2⟩
  have F2 : Hid _ := below_then F.out b2
  clear b2 F HT1
  go_wp2
  go_ret
  exact ⟨rfl, F2.out⟩
def Wn.hold (m : Wn) (x : Cm) : Wn := { m with held := m.held ++ [x] }
/-- a command that is taken -/
def Wn.took (m : Wn) (x : Cm) : Wn := (Wn.ord (m.held.length + 1) (m.hold x) []).1.waits (Wn.ord (m.held.length + 1) (m.hold x) []).2
theorem hold_done {g : Nat} {p : Wq} {m : Wn} {x : Cm} {w : World} {v : Value} (h : (wd g p m).Ok w) (hx : GAt kCmd w v [x]) (hm : m.held.length ≤ 20000) :
    ∃ hv wv a' n' c' w' p', WdAt w g p.1 p.2 hv wv m ∧ (Builtin.append_ #[50, 50] 50 #[hv, v]).run Try.prog w = .ok (.slice a' n' c') w' ∧ w'.cell? ⟨g, 3, none⟩ = some hv ∧ w'.frozen? ⟨g, 3, none⟩ = false ∧ Step w (w'.setCell ⟨g, 3, none⟩ (.slice a' n' c')) (wd g p m) (wd g p' (m.hold x)) := by
  obtain ⟨hv, wv, A, H⟩ := wd_put h
  obtain ⟨v', w', q', hr, ho, hg, hor⟩ := A.held.append kCmd_ok hx (by simp; omega) 50
  have ap := h.holds.1
  have H2 : WdPut g p (q', p.2) m w w' hv wv v' wv (m.hold x).held (m.hold x).wait :=
    ⟨H.ok, H.blk, turned_grown hg (fun k e => .inl e), ho, H.wait.same (fun k hk => hg.block k (H.wait.lt k hk) (fun e => ap.c k e.symm hk)), hor, H.or2, fun k h1 h2 => by
      rcases hor k h1 with e | e
      · exact ap.c k e h2
      · have := H.wait.lt k h2; omega⟩
  obtain ⟨a, c, e, _⟩ := ho.cell kCmd_ok
  subst e
  refine ⟨hv, wv, a, _, c, w', (q', p.2), A, hr, ?_, blk_frozen H2.blk5 3, ?_⟩
  · rw [blk_at H2.blk5]; rfl
  · exact H2.done (m' := m.hold x) (H2.blk5.set 3 _) (grown_set _ g 3 _)
theorem ord_len : ∀ (f : Nat) (m : Wn) (l : List Cm), (Wn.ord f m l).1.wait = m.wait ∧ (Wn.ord f m l).1.nows = m.nows ∧ (Wn.ord f m l).1.size = m.size ∧ (Wn.ord f m l).2.length + (Wn.ord f m l).1.held.length = l.length + m.held.length
  | 0, m, l => ⟨rfl, rfl, rfl, rfl⟩
  | f + 1, m, l => by
    rw [Wn.ord]
    cases h : ix m.held m.exp with
    | none => exact ⟨rfl, rfl, rfl, rfl⟩
    | some k =>
      have hk : k < m.held.length := by
        unfold ix at h; rw [List.findIdx?_eq_some_iff_getElem] at h; exact h.1
      have := ord_len f (m.pull k) (l ++ [m.held.getD k (0#32, false, 0)])
      refine ⟨this.1, this.2.1, this.2.2.1, ?_⟩
      have h4 := this.2.2.2
      simp only
      rw [h4]
      show (l ++ [_]).length + (m.held.eraseIdx k).length = _
      rw [List.length_append, List.length_singleton, List.length_eraseIdx, if_pos hk]; omega
set_option maxHeartbeats 2000000 in
theorem wdCome_yes (g : Nat) (p : Wq) (m : Wn) (n : BitVec 32) (id : Int) (w : World) (h : (wd g p m).Ok w) (hw : m.Wf) (h0 : (m.room n && !m.has n) = true) :
    Calls Try.prog 10 #[.pointer (some ⟨g, 0, none⟩), .int .u32 (n.toNat : Int), .bool false, .int .i64 id] w fun e w' => e = .returned (.int .i64 0) ∧ ∃ p', Step w w' (wd g p m) (wd g p' (m.took (n, false, id))) := by
  have bn := below_cmd w (n, false, id)
  have s1 := Step.quiet h bn
  have c1 := new_cmd w (n, false, id)
  have HT := wdTakes_any g p m n _ s1.ok hw
  rw [h0] at HT
  have HT1 : Hid _ := HT
  have F : Hid _ := And.intro s1 (And.intro c1 (And.intro hw (And.intro h bn)))
  clear HT h bn h0 hw s1 c1
  go_enter Try.func10, Try.ntmps10
  go_wp2_with fail
  refine (Calls.mono HT1.out) ?_
  rintro e w2 ⟨rfl, b2⟩
  have hw := F.out.2.2.1
  have s2 := F.out.1.trans (Step.quiet F.out.1.ok b2)
  obtain ⟨hv, wv, a', n', c', w3, p3, A, hr, k3, f3, s3⟩ := hold_done s2.ok ((F.out.2.1.later b2).at kCmd_ok) (by have := hw.few; omega)
  obtain ⟨ah, ch, rfl, -, -, -⟩ := A.held.cell kCmd_ok
  have y3 := blk_at A.blk 3
  simp only [List.getElem?_cons_succ, List.getElem?_cons_zero] at y3
  have s4 := s2.trans s3
  have HO : Hid _ := wdOrder_any g p3 (m.hold (n, false, id)) _ s4.ok (by have := hw.few; simp [Wn.hold]; omega) (by have := hw.room; have := hw.most; simp [Wn.hold]; omega)
  have HR : Hid _ := And.intro hr (And.intro s4 hw)
  clear hr s2 s3 s4 A b2 F HT1 hw
  go_wp2_with (at_builtin; refine wpList_run_app rfl _ _ 50 50 rfl _ _ rfl rfl HR.out.1 ?_)
  refine (Calls.mono HO.out) ?_
  rintro e w5 ⟨v5, p5, q5, rfl, s5, g5, n5⟩
  have e1 : (m.hold (n, false, id)).held.length = m.held.length + 1 := by simp [Wn.hold]
  rw [e1] at s5 g5
  obtain ⟨o1, o2, o3, o4⟩ := ord_len (m.held.length + 1) (m.hold (n, false, id)) []
  obtain ⟨a5, c5, rfl, -, -, -⟩ := g5.cell kCmd_ok
  have hw := HR.out.2.2
  have HW : Hid _ := wdWait_any g p5 _ _ _ q5 w5 s5.ok g5 (fun k hk => (n5 k hk).2) (by rw [o1]; have := hw.few; rw [e1] at o4; simp only [List.length_nil] at o4; show m.wait.length + _ ≤ _; omega) (by rw [o2]; have := hw.now64; show m.nows ≤ _; omega)
  have F2 : Hid _ := HR.out.2.1.trans s5
  clear HR s5 g5 n5 o1 o2 o3 o4 hw e1 HO
  go_wp2_with fail
  refine (Calls.mono HW.out) ?_
  rintro e w6 ⟨rfl, p6, s6⟩
  have F3 : Hid _ := F2.out.trans s6
  clear s6 F2 HW
  go_wp2
  go_ret
  exact ⟨rfl, _, F3.out⟩
end Go.Proofs.Ytmbnhagfihphiaa
