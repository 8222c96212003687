/- Join; Added; how many are not there. -/
import Derived.Test.YtgonglbgejaffaaXCk16
namespace Go.Proofs.Ytgonglbgejaffaa
open Go.RowKit Go.Shelf
set_option linter.unusedVariables false
set_option linter.unusedSimpArgs false
set_option maxRecDepth 4000

theorem crAdded_any (p : CPl) (m : CR) (w : World) (h : (crOb p m).Ok w) : Calls Try.prog 25 #[.pointer (some ⟨p.g, 0, none⟩)] w fun e w' => e = .returned (.int .i64 m.ad) ∧ w = w' := by
  have y5 := blk_at h.holds.blk 5
  simp only [List.getElem?_cons_zero, List.getElem?_cons_succ] at y5
  have HL : Hid _ := atLoad_any p.g 5 m.ad w y5
  generalize p.g = g at *
  clear h y5
  go_enter Try.func25, Try.ntmps25
  go_wp2_with fail
  refine (Calls.mono HL.out) ?_
  rintro e _ ⟨rfl, rfl⟩
  clear HL
  go_wp2
  go_ret
  exact ⟨rfl, rfl⟩
/-- between two rounds: the reader has the first k pieces -/
def Jn (B : Nat) (w wr : World) (g : Nat) (id : Int) (b : List (BitVec 8)) (s k : Nat) (o : Ob) : Prop := ∃ (p : CPl) (m : CR), p.g = g ∧ m.ad = (k : Int) ∧ ((k = 0 ∧ m.id < id) ∨ (GI m id b s ∧ Fst m k)) ∧ Sep B [crOb p m, o] wr ∧ Below B w wr
set_option maxHeartbeats 4000000 in
theorem join_yes (id : Int) (b : List (BitVec 8)) (s D : Nat) (vs : List Value) (w : World) (hI : Img id b s) (hP : (pcsOb D vs (splL id b s (npc b.length s))).Ok w) :
    Calls Try.prog 12 #[.slice (some ⟨D, 0, none⟩) (npc b.length s) (npc b.length s)] w fun e w' => ∃ z, e = .returned (.tuple #[z, .int .i64 0]) ∧ Own w' w.heap.size z b ∧ Below w.heap.size w w' := by
  have Z0 : Sep w.heap.size [pcsOb D vs (splL id b s (npc b.length s))] w := (Sep.nil (w := w)).add (Below.refl _ _) hP (fun k hk => by cases hk) (fun k _ p hp => by cases hp)
  have HN : Hid _ := newZ Z0
  have HI : Hid _ := And.intro hI trivial
  have hn1 := npc_1 b.length s
  have hn2 := hI.n
  clear hP Z0 hI
  generalize hN : npc b.length s = N at *
  have HE : Hid _ := And.intro hN trivial
  clear hN
  go_enter Try.func12, Try.ntmps12
  go_wp2_with fail
  refine (Calls.mono HN.out) ?_
  rintro e w1 ⟨p, rfl, Z1, b1⟩
  have J : Hid (Jn w.heap.size w w1 p.g id b s 0 (pcsOb D vs (splL id b s N))) := ⟨p, ⟨0, 0, [], 0⟩, rfl, rfl, .inl ⟨rfl, by have := HI.out.1.pos; show (0 : Int) < id; omega⟩, Z1, b1⟩
  generalize p.g = g at *
  clear HN Z1 b1
  go_wp2_with fail
  go_loopw [13] (fun iv wr => ∃ k : Nat, iv = .int .i64 k ∧ k ≤ N ∧ Jn w.heap.size w wr g id b s k (pcsOb D vs (splL id b s N))) (fun iv _ => N - (intOf iv).toNat)
  case atStart => exact ⟨0, rfl, by omega, J.out⟩
  case round =>
    clear J
    obtain ⟨k, rfl, hk, p, m, hg, had, hin, Z, hB⟩ := hrel
    have hN := HE.out.1
    by_cases hlt : k < N
    · subst hN
      obtain ⟨u, hu, c1, ho⟩ := pcs_at (Z.each _ (List.mem_cons_of_mem _ (List.mem_cons_self ..))) k hlt
      obtain ⟨qa, qn, qc, rfl⟩ := own_slice ho
      have HA : Hid _ := addZ HI.out.1 Z k hlt _ hu (hin.imp And.right And.left) (by rw [had]; omega)
      rw [hg] at HA
      have HQ : Hid _ := And.intro hB (And.intro (Fst.succ hin hlt) had)
      have q1 : (k : Int) < ((npc b.length s : Nat) : Int) := by omega
      clear Z ho hu hin hB had
      go_wp2_with fail
      clear c1
      refine (Calls.mono HA.out) ?_
      rintro e w4 ⟨rfl, p4, g4, Z4, b4⟩
      have J2 : Hid (Jn w.heap.size w w4 g id b s (k + 1) (pcsOb D vs (splL id b s (npc b.length s)))) := ⟨p4, _, g4, by rw [addP_ad, HQ.out.2.2]; omega, .inr HQ.out.2.1, Z4, HQ.out.1.trans b4⟩
      clear HA HQ Z4 b4 g4 hg
      go_wp2
      go_roundw
      case rel => exact ⟨k + 1, by go_num, by omega, J2.out⟩
      case measure => simp [intOf]; omega
    · obtain rfl : k = N := by omega
      subst hN
      obtain ⟨hG, hF⟩ := hin.resolve_left (fun h => by omega)
      have HW : Hid _ := wholeZ HI.out.1 Z hG hF
      rw [hg] at HW
      have H4 : Hid _ := And.intro hB trivial
      clear Z hB hg had hin hG hF hlt
      go_wp2_with fail
      refine (Calls.mono HW.out) ?_
      rintro e w8 ⟨z, rfl, o8, b8⟩
      have F : Hid _ := And.intro (o8.lower H4.out.1.size) (below_then H4.out.1 b8)
      clear HW H4 b8 o8
      go_wp2
      go_ret2
      exact ⟨_, rfl, F.out.1, F.out.2⟩
theorem mis_count (bs : List Bool) : (mis bs bs.length).length = bs.count false := by
  have h : ∀ k, k ≤ bs.length → (mis bs k).length = (bs.take k).count false := by
    intro k
    induction k with
    | zero => intro _; simp [mis]
    | succ k ih =>
      intro hk
      rw [mis_succ, List.length_append, ih (by omega), List.take_succ_eq_append_getElem (by omega), List.count_append, List.getElem?_eq_getElem (by omega)]
      cases bs[k]'(by omega) <;> simp
  rw [h _ (Nat.le_refl _), List.take_length]
theorem count_set (bs : List Bool) (i : Nat) (hi : i < bs.length) : (bs.set i true).count false = if bs[i] = true then bs.count false else bs.count false - 1 := by
  rw [List.count_set hi]
  cases h : bs[i] <;> simp
theorem count_pos (bs : List Bool) (i : Nat) (hi : i < bs.length) (h : bs[i] = false) : 0 < bs.count false := by
  rw [List.count_pos_iff, ← h]; exact List.getElem_mem hi
theorem count_any (bs : List Bool) : (bs.any (fun b => !b)) = !decide (bs.count false = 0) := by
  induction bs with
  | nil => rfl
  | cons x l ih => rw [List.any_cons, ih]; cases x <;> simp
/-- flags, as an object -/
def blOb (Q : Nat) (bs : List Bool) : Ob := ⟨[Q], [], fun w => Blk w Q 4 (bs.map .bool)⟩
theorem blOb_ok {w : World} {Q : Nat} {bs : List Bool} (h : Blk w Q 4 (bs.map .bool)) : (blOb Q bs).Ok w :=
  ⟨h, (fun k hk => by rcases hk with hk | hk; simp only [blOb, List.mem_singleton] at hk; subst hk; exact h.lt; cases hk), (fun k _ hv => by cases hv), fun w1 w2 hs h => by
    have e := hs Q (.inl (by simp [blOb]))
    show Blk w2 Q _ _
    have h' : Blk w1 Q _ _ := h
    unfold Blk at *; rw [e]; exact h'⟩
theorem blOb_set {w : World} {Q : Nat} {bs : List Bool} (h : (blOb Q bs).Ok w) (i : Nat) (b : Bool) : Step w (w.setCell ⟨Q, i, none⟩ (.bool b)) (blOb Q bs) (blOb Q (bs.set i b)) := by
  have hB : Blk w Q 4 (bs.map .bool) := h.holds
  refine ⟨?_, blOb_ok ?_, fun k hk => .inl hk, (fun k hk => by cases hk)⟩
  · exact (turned_set w Q i (.bool b)).mono (fun k e => by simp [blOb, e])
  · have := hB.set i (.bool b)
    rw [List.map_set]; exact this
/-- Whole of a reader, whether it has all or not -/
theorem wholeW {B : Nat} {rest : List Ob} {w : World} {p : CPl} {m : CR} {id : Int} {b : List (BitVec 8)} {s : Nat} (hI : Img id b s) (Z : Sep B (crOb p m :: rest) w) (hG : GI m id b s) :
    Calls Try.prog 18 #[.pointer (some ⟨p.g, 0, none⟩)] w fun e w' => ∃ x n c, e = .returned (.tuple #[.slice x n c, .bool (decide ((th m).count false = 0))]) ∧ ((th m).count false = 0 → ∀ X, Below w'.heap.size w' X → (convert 22 9 (.slice x n c)).run Try.prog X = .ok (.string (str b)) X) ∧ Below w.heap.size w w' := by
  have h1 := npc_1 b.length s
  have hp := hI.pos
  have hany : (m.ps.map Option.isSome).any (fun b => !b) = !decide ((th m).count false = 0) := count_any (th m)
  by_cases h0 : (th m).count false = 0
  · have hx : (m.ps.map Option.isSome).any (fun b => !b) = false := by rw [hany, decide_eq_true h0]; rfl
    have hfl := hG.whole hI.s1 hx
    have h := whole_yes p m w Z.head (by rw [hG.id]; omega) (by rw [hG.len]; omega) (by rw [hG.len]; exact hI.n) (Nat.le_trans (hG.lenOf_le hI.s1) hI.bl) hx (by rw [hfl]; exact hG.sum)
    rw [hfl] at h
    refine h.mono ?_
    rintro e w' ⟨z, rfl, ho, hb⟩
    obtain ⟨a, n, c, rfl, hc⟩ := own7_strs ho
    exact ⟨a, n, c, by rw [decide_eq_true h0], fun _ => hc, hb⟩
  · have hx : (m.ps.map Option.isSome).any (fun b => !b) = true := by rw [hany, decide_eq_false h0]; rfl
    refine (whole_no p m w Z.head (by rw [hG.id]; omega) (by rw [hG.len]; omega) (by rw [hG.len]; exact hI.n) (Nat.le_trans (hG.lenOf_le hI.s1) hI.bl) hx).mono ?_
    rintro e w' ⟨rfl, hb⟩
    exact ⟨none, 0, 0, by rw [decide_eq_false h0], fun h => absurd h h0, hb⟩
end Go.Proofs.Ytgonglbgejaffaa

