/- What is asked of a reader in whatever state, and of none. -/
import Derived.Test.YtgonglbgejaffaaXCp6
namespace Go.Proofs.Ytgonglbgejaffaa
open Go.RowKit
set_option linter.unusedVariables false
set_option linter.unusedSimpArgs false
set_option maxRecDepth 4000

theorem cqId_any (p : CQl) (m : CR) (w : World) (h : (cqOb p m).Ok w) : Calls Try.prog 23 #[.pointer (some ⟨p.g, 0, none⟩)] w fun e w' => e = .returned (.int .i64 m.id) ∧ w = w' := by
  have y0 := blk_at h.holds.blk 0
  simp only [List.getElem?_cons_zero, List.getElem?_cons_succ] at y0
  generalize p.g = g at *
  clear h
  go_enter Try.func23, Try.ntmps23
  go_wp2
  go_ret
  exact ⟨rfl, rfl⟩
theorem cqCount_any (p : CQl) (m : CR) (w : World) (h : (cqOb p m).Ok w) : Calls Try.prog 24 #[.pointer (some ⟨p.g, 0, none⟩)] w fun e w' => e = .returned (.int .i64 m.ps.length) ∧ w = w' := by
  have y2 := blk_at h.holds.blk 2
  simp only [List.getElem?_cons_zero, List.getElem?_cons_succ] at y2
  obtain ⟨ta, hta⟩ := tv_is p m.ps.length
  rw [hta] at y2
  generalize p.g = g at *
  clear h hta
  go_enter Try.func24, Try.ntmps24
  go_wp2
  go_ret
  exact ⟨rfl, rfl⟩
theorem cqAdded_any (p : CQl) (m : CR) (w : World) (h : (cqOb p m).Ok w) : Calls Try.prog 25 #[.pointer (some ⟨p.g, 0, none⟩)] w fun e w' => e = .returned (.int .i64 m.ad) ∧ w = w' := by
  have y5 := blk_at h.holds.blk 5
  simp only [List.getElem?_cons_zero, List.getElem?_cons_succ] at y5
  have HL : Hid _ := atLoad_any p.g 5 m.ad w y5
  generalize p.g = g at *
  clear h y5
  go_enter Try.func25, Try.ntmps25
  go_wp2_with fail
  refine (Calls.mono HL.out) ?_
  rintro e _ ⟨rfl, rfl⟩
  clear HL
  go_wp2
  go_ret
  exact ⟨rfl, rfl⟩
theorem cqId_nil (w : World) : Calls Try.prog 23 #[.pointer none] w fun e w' => e = .returned (.int .i64 0) ∧ Below w.heap.size w w' := by
  have b0 : Below w.heap.size w (w.alloc (.cells #[.pointer none] 35)) := (Below.refl _ _).alloc (Nat.le_refl _) _
  have F : Hid _ := And.intro (Below.refl w.heap.size w) b0
  clear b0
  go_enter Try.func23, Try.ntmps23
  go_wp2
  go_ret
  exact ⟨rfl, by first | exact F.out.1 | exact F.out.2⟩
theorem cqCount_nil (w : World) : Calls Try.prog 24 #[.pointer none] w fun e w' => e = .returned (.int .i64 0) ∧ Below w.heap.size w w' := by
  have b0 : Below w.heap.size w (w.alloc (.cells #[.pointer none] 35)) := (Below.refl _ _).alloc (Nat.le_refl _) _
  have F : Hid _ := And.intro (Below.refl w.heap.size w) b0
  clear b0
  go_enter Try.func24, Try.ntmps24
  go_wp2
  go_ret
  exact ⟨rfl, by first | exact F.out.1 | exact F.out.2⟩
theorem cqAdded_nil (w : World) : Calls Try.prog 25 #[.pointer none] w fun e w' => e = .returned (.int .i64 0) ∧ Below w.heap.size w w' := by
  have b0 : Below w.heap.size w (w.alloc (.cells #[.pointer none] 35)) := (Below.refl _ _).alloc (Nat.le_refl _) _
  have F : Hid _ := And.intro (Below.refl w.heap.size w) b0
  clear b0
  go_enter Try.func25, Try.ntmps25
  go_wp2
  go_ret
  exact ⟨rfl, by first | exact F.out.1 | exact F.out.2⟩
theorem cqClose_nil (w : World) : Calls Try.prog 15 #[.pointer none] w fun e w' => e = .returned (.bool false) ∧ Below w.heap.size w w' := by
  have b0 : Below w.heap.size w (w.alloc (.cells #[.pointer none] 35)) := (Below.refl _ _).alloc (Nat.le_refl _) _
  have F : Hid _ := And.intro (Below.refl w.heap.size w) b0
  clear b0
  go_enter Try.func15, Try.ntmps15
  go_wp2
  go_ret
  exact ⟨rfl, by first | exact F.out.1 | exact F.out.2⟩
theorem cqWhole_nil (w : World) : Calls Try.prog 18 #[.pointer none] w fun e w' => e = .returned (.tuple #[.slice none 0 0, .bool false]) ∧ w = w' := by
  go_enter Try.func18, Try.ntmps18
  go_wp2
  go_ret2
  exact ⟨rfl, rfl⟩
theorem cqAdd_nil (v : Value) (w : World) : Calls Try.prog 16 #[.pointer none, v] w fun e w' => e = .returned (.int .i64 2) ∧ w = w' := by
  go_enter Try.func16, Try.ntmps16
  go_wp2
  go_ret
  exact ⟨rfl, rfl⟩
set_option maxHeartbeats 4000000 in
theorem missing_raw2 (g t : Nat) (ta2 : Option Addr) (bs : List Bool) (c0 c1 c3 c4 c5 c6 c7 c8 c9 : Value) (w : World) (hG : Blk w g 74 [c0, c1, .slice ta2 bs.length bs.length, c3, c4, c5, c6, c7, c8, c9]) (hB : 0 < bs.length → ta2 = some ⟨t, 0, none⟩ ∧ Blk w t 4 (bs.map .bool)) (hl : bs.length ≤ 1000) :
    Calls Try.prog 45 #[.pointer (some ⟨g, 0, none⟩)] w fun e w' => RdSeq w w' e (mis bs bs.length) ∧ Below w.heap.size w w' := by
  have HA : Hid (∀ k (h : k < bs.length) W, Below w.heap.size w W → ta2 = some ⟨t, 0, none⟩ ∧ W.cell? ⟨t, k, none⟩ = some (.bool bs[k])) := fun k h W hW => ⟨(hB (by omega)).1, by rw [blk_at ((hB (by omega)).2.laterB hW) k, List.getElem?_map, List.getElem?_eq_getElem h]; rfl⟩
  have y2 := blk_at hG 2
  simp only [List.getElem?_cons_zero, List.getElem?_cons_succ] at y2
  clear hB hG
  go_enter Try.func45, Try.ntmps45
  go_wp2_with fail
  clear y2
  go_loopw [3, 14] (fun lv iv wr => ∃ (k : Nat), iv = .int .i64 k ∧ k ≤ bs.length ∧ NuI w wr lv (mis bs k)) (fun _ iv _ => bs.length - (intOf iv).toNat)
  case atStart => exact ⟨0, rfl, by omega, NOwn.nil _, (fun b hb => by cases hb), Below.refl _ _⟩
  case round =>
    obtain ⟨k, rfl, hk, hI⟩ := hrel
    obtain ⟨ta, tc, htv, -, -, -⟩ := hI.own.open
    by_cases hlt : k < bs.length
    · obtain ⟨hta2, k1⟩ := HA.out k hlt wr hI.below
      subst hta2
      clear HA
      have q1 : (k : Int) < bs.length := by omega
      have hms := mis_succ bs k
      have hml := mis_len bs k
      rw [List.getElem?_eq_getElem hlt] at hms
      generalize bs[k] = x at *
      generalize hKt : mis bs k = Kt at *
      cases x with
      | true =>
        have HR : Hid _ := And.intro hI hms
        clear hI hms hKt
        rw [htv]
        go_wp2
        go_roundw
        case rel =>
          refine ⟨k + 1, by go_num, by omega, ?_⟩
          rw [HR.out.2, if_neg (by simp), List.append_nil, ← htv]
          exact HR.out.1
        case measure => simp [intOf]; omega
      | false =>
        have bn : Below wr.heap.size wr (wr.alloc (.cells #[.int .i64 k] 3)) := (Below.refl _ _).alloc (Nat.le_refl _) _
        have HN : Hid _ := And.intro (hI.later bn) (And.intro (Blk.new' wr 3 [.int .i64 k]) hms)
        have hul : Kt.length ≤ 1000000 := by omega
        clear hI bn hms hKt
        rw [htv]
        go_wp2_with (at_builtin; refine wpList_append_num _ rfl _ _ rfl _ Kt rfl (by rw [← htv]; exact HN.out.1.own) wr.heap.size k rfl HN.out.2.1 hul ?_)
        intro v' w5 ho5 hg5 hor5
        have R := HN.out.1.put ho5 (by rw [htv]; exact hg5) (by rw [htv, World.size_alloc]; exact hor5)
        obtain ⟨a', c', hv', -, -, -⟩ := ho5.open
        have HR : Hid _ := And.intro R HN.out.2.2
        clear R ho5 hg5 hor5 HN
        rw [hv']
        go_wp2
        go_roundw
        case rel =>
          refine ⟨k + 1, by go_num, by omega, ?_⟩
          rw [HR.out.2, if_pos (by trivial), ← hv']
          exact HR.out.1
        case measure => simp [intOf]; omega
    · obtain rfl : k = bs.length := by omega
      have HV : Hid _ := vals_any ta (mis bs bs.length).length tc wr
      rw [← htv] at HV
      have HI : Hid _ := And.intro hI htv
      clear hI HA
      rw [htv] at HV ⊢
      generalize (mis bs bs.length).length = N at *
      go_wp2_with fail
      refine (Calls.mono HV.out) ?_
      rintro e w3 ⟨c, rfl, hc, Bc, b3⟩
      have F : Hid _ := And.intro (⟨c, _, rfl, Nat.le_trans HI.out.1.below.size hc, Bc, by have := HI.out.1.own.later b3; rw [HI.out.2] at this; exact this, fun b hb => by have := HI.out.1.new b; rw [HI.out.2] at this; exact this hb⟩ : RdSeq w w3 (.returned (.func (.func 87) #[] #[.pointer (some ⟨c, 0, none⟩)])) (mis bs bs.length)) (below_then HI.out.1.below b3)
      clear HV Bc b3 hc HI htv
      go_wp2
      go_ret
      exact F.out
set_option maxHeartbeats 1000000 in
theorem missing_nil7 (w : World) : Calls Try.prog 45 #[.pointer none] w fun e w' => RdSeq w w' e [] ∧ Below w.heap.size w w' := by
  have HV : Hid _ := vals_any none 0 0 w
  go_enter Try.func45, Try.ntmps45
  go_wp2_with fail
  refine (Calls.mono HV.out) ?_
  rintro e w3 ⟨c, rfl, hc, Bc, b3⟩
  have F : Hid _ := And.intro (⟨c, _, rfl, hc, Bc, NOwn.nil _, fun b hb => by cases hb⟩ : RdSeq w w3 (.returned (.func (.func 87) #[] #[.pointer (some ⟨c, 0, none⟩)])) []) b3
  clear HV Bc b3 hc
  go_wp2
  go_ret
  exact F.out
/-- what is missing, as a list -/
theorem cqMissing_any (p : CQl) (m : CR) (w : World) (h : (cqOb p m).Ok w) (hn : m.ps.length ≤ 256) :
    Calls Try.prog 21 #[.pointer (some ⟨p.g, 0, none⟩)] w fun e w' => ∃ v, e = .returned v ∧ NOwn w' v (mis (m.ps.map Option.isSome) m.ps.length) ∧ (∀ k, v.ownBlock = some k → w.heap.size ≤ k) ∧ Below w.heap.size w w' := by
  have hml := mis_len (m.ps.map Option.isSome) m.ps.length
  refine (lawmiss_gen (some ⟨p.g, 0, none⟩) (mis (m.ps.map Option.isSome) m.ps.length) w (by omega) (fun w1 w2 => Below w1.heap.size w1 w2) (fun w1 b1 => ?_) (fun w1 w2 b => ⟨b.size, fun k _ hk => b.block k hk⟩)).mono ?_
  · have hP := (h.later b1).holds
    have hG := hP.blk
    have hT := hP.there
    rw [show m.ps.map isB = (m.ps.map Option.isSome).map Value.bool by rw [List.map_map]; rfl] at hT
    have e : p.tv m.ps.length = .slice (if m.ps.length = 0 then none else some ⟨p.t, 0, none⟩) m.ps.length m.ps.length := by
      unfold CQl.tv
      split
      · rename_i h0; rw [h0]
      · rfl
    rw [e] at hG
    have := missing_raw2 p.g p.t (if m.ps.length = 0 then none else some ⟨p.t, 0, none⟩) (m.ps.map Option.isSome) _ _ _ _ _ _ _ _ _ w1 (by rw [List.length_map]; exact hG) (fun h0 => by rw [List.length_map] at h0; exact ⟨if_neg (by omega), hT (by omega)⟩) (by rw [List.length_map]; omega)
    rw [List.length_map] at this
    exact this
  · rintro e w' ⟨v, rfl, ho, w1, w2, b1, s1, b2, ht, hf⟩
    exact ⟨v, rfl, ho, fun k hk => Nat.le_trans (below_then b1 b2).size (hf k hk), (below_then b1 b2).trans (ht.below _ (Nat.le_trans b1.size b2.size) (fun k e => by omega))⟩
theorem lawmiss_nil7 (w : World) :
    Calls Try.prog 21 #[.pointer none] w fun e w' => ∃ v, e = .returned v ∧ NOwn w' v [] ∧ Below w.heap.size w w' := by
  refine (lawmiss_gen none [] w (by simp) (fun w1 w2 => Below w1.heap.size w1 w2) (fun w1 b1 => missing_nil7 w1) (fun w1 w2 b => ⟨b.size, fun k _ hk => b.block k hk⟩)).mono ?_
  rintro e w' ⟨v, rfl, ho, w1, w2, b1, s1, b2, ht, hf⟩
  exact ⟨v, rfl, ho, (below_then b1 b2).trans (ht.below _ (Nat.le_trans b1.size b2.size) (fun k e => by omega))⟩
end Go.Proofs.Ytgonglbgejaffaa

