/- The walk of the law on crashes that keep all, or nothing. -/
import Derived.Test.YtmhnlfgakpelkaaDkW13
import Derived.Deep.CutRange
import Derived.Test.YtmhnlfgakpelkaaDraw
namespace Go.Proofs.Ytmhnlfgakpelkaa
open Go.RowKit
set_option linter.unusedVariables false

theorem Sep.copy {B : Nat} {l : List Ob} {o o' : Ob} {w w' : World} (h : Sep B (o :: l) w) (hb : Below w.heap.size w w') (ho : o'.Ok w') (hV : o'.V = o.V) (hw : ∀ k ∈ o'.W, w.heap.size ≤ k) : Sep B (o' :: o :: l) w' := by
  refine h.add hb ho hw (fun k hk p hp hm => ?_)
  rw [hV] at hk
  rcases List.mem_cons.1 hp with rfl | hp
  · exact h.head.apart k hm hk
  · exact ((List.pairwise_cons.1 h.pair).1 p hp).2 k hm hk

theorem Sep.at {B : Nat} {l1 l2 : List Ob} {o : Ob} {w : World} (h : Sep B (l1 ++ o :: l2) w) : Sep B (o :: (l1 ++ l2)) w := h.perm List.perm_middle
theorem Sep.clear {B : Nat} {l : List Ob} {o p : Ob} {w : World} (h : Sep B (o :: l) w) (hp : p ∈ l) : Clear o p := (List.pairwise_cons.1 h.pair).1 p hp
theorem info_int : (Try.prog.info? 3).map (fun i => (i.zero, i.size, i.bytes)) = some (some (.int .i64 0), 1, 8) := by kernel_rfl
theorem make_ints (N : Nat) (C : Int) (hC : C = N) (hN : N ≤ 1000000) (u : World) : (Instr.makeSlice 42 (.int .i64 C) (.int .i64 C)).run Try.prog u =
    .ok (.slice (some ⟨u.heap.size, 0, none⟩) N N) (u.alloc (.cells (madeCells #[.int .i64 0] N) 3)) := by
  obtain ⟨i0, hi, hz0, hz1, hz2⟩ := info_parts info_int
  have h := run_make (P := Try.prog) u 42 3 i0 (.int .i64 0) Try.underlying42 hi hz0 .i64 .i64 C C (by omega) (by omega) (by rw [hz2]; omega) (by omega)
  subst hC
  rw [hz1] at h
  simpa [Value.cells] using h
theorem made_ints (u : World) (N : Nat) : Blk (u.alloc (.cells (madeCells #[.int .i64 0] N) 3)) u.heap.size 3 (List.replicate N (.int .i64 0)) := by
  have e : (madeCells #[Value.int .i64 0] N) = (List.replicate N (Value.int .i64 0)).toArray := by
    apply Array.ext
    · simp [madeCells]
    · intro i h1 h2; simp [madeCells, Nat.mod_one]
  rw [e]; exact Blk.new' u _ _
/-- the first k numbers are -1 -/
def someNeg (k : Nat) : List Value := List.replicate k (.int .i64 (-1)) ++ List.replicate (100 - k) (.int .i64 0)
theorem someNeg_length (k : Nat) (h : k ≤ 100) : (someNeg k).length = 100 := by unfold someNeg; rw [List.length_append, List.length_replicate, List.length_replicate]; omega
theorem someNeg_step (k : Nat) (h : k < 100) : (someNeg k).set k (.int .i64 (-1)) = someNeg (k + 1) := by
  unfold someNeg
  rw [show 100 - k = (100 - (k + 1)) + 1 by omega, List.replicate_succ, List.replicate_succ']
  generalize 100 - (k + 1) = m
  rw [List.set_append_right _ _ (by rw [List.length_replicate]; omega), List.length_replicate, Nat.sub_self]
  simp
def allNeg : List Int := List.replicate 100 (-1)
theorem allNeg_length : allNeg.length = 100 := List.length_replicate ..
theorem allNeg_at (i : Nat) (h : i < 100) : allNeg.getD i 0 = -1 := by unfold allNeg; rw [List.getD, List.getElem?_replicate, if_pos h]; rfl
theorem allNeg_get (i : Nat) (h : i < allNeg.length) : allNeg[i] = -1 := List.getElem_replicate ..
def negOb (g : Nat) : Ob := ⟨[], [g], fun w => Blk w g 3 (someNeg 100)⟩
theorem negOb_ok {w : World} {g : Nat} (h : Blk w g 3 (someNeg 100)) : (negOb g).Ok w :=
  ⟨h, fun k hk => by
    rcases hk with hk | hk
    · cases hk
    · rw [show (negOb g).V = [g] from rfl, List.mem_singleton] at hk; subst hk; exact h.lt, (fun k hk => by cases hk), fun w1 w2 hs h => by
      show Blk w2 g _ _
      have h' : Blk w1 g 3 (someNeg 100) := h
      unfold Blk at *; rw [hs g (.inr (List.mem_singleton.2 rfl))]; exact h'⟩
theorem neg_irow {w : World} {g : Nat} (h : Blk w g 3 (someNeg 100)) : IRow w (some ⟨g, 0, none⟩) allNeg := by
  refine ⟨fun x hx => ?_, .inr ⟨g, 0, rfl, fun i hi => ?_⟩⟩
  · rw [List.eq_of_mem_replicate hx]; omega
  · rw [allNeg_length] at hi
    have := h.cell (by rw [someNeg_length 100 (Nat.le_refl _)]; unfold maxLen; omega) i (by rw [someNeg_length 100 (Nat.le_refl _)]; exact hi)
    rw [Nat.zero_add, this]
    rw [allNeg_get]
    unfold someNeg
    rw [List.getElem?_append_left (by rw [List.length_replicate]; exact hi), List.getElem?_replicate, if_pos hi]

theorem flD_cases (d : Dm) : flD d = (⟨nowOf d.safe d.gs, [], false, false⟩, 0) ∨ ∃ df e, flD d = (df, e) ∧ (e == 0) = false ∧ df.gone = true ∧ df.safe = d.safe ∧ df.gs = d.gs := by
  unfold flD
  cases hg : d.gone with
  | true => exact .inr ⟨d, 21, by simp, rfl, hg, rfl, rfl⟩
  | false =>
    cases hb : d.bad with
    | true => exact .inr ⟨{ d with gone := true }, 20, by simp [hb], rfl, rfl, rfl, rfl⟩
    | false => exact .inl (by simp)
/-- what is answered can be compared, also later -/
def Strs (w : World) (v : Value) (l : List (BitVec 8)) : Prop := ∀ X, Below w.heap.size w X → (convert 22 9 v).run Try.prog X = .ok (.string (str l)) X
theorem Own.strs {w : World} {base : Nat} {v : Value} {l : List (BitVec 8)} (h : Own w base v l) : ∃ a len cap, v = .slice a len cap ∧ ∀ X, Below w.heap.size w X → (convert 22 9 (.slice a len cap)).run Try.prog X = .ok (.string (str l)) X := by
  obtain ⟨a, cap, hv, _, _, hr, _, _⟩ := h.open
  exact ⟨a, _, cap, hv, fun X hX => (hr.later hX).str _ _ rfl⟩
theorem Image_str (g : Nat) (p : Pl) (d : Dm) (w : World) (h : (dk g p d).Ok w) (hw : d.Wf) (L : List (BitVec 8)) (hL : d.safe = L) :
    Calls Try.prog 21 #[.pointer (some ⟨g, 0, none⟩)] w fun e w' => ∃ a len cap, e = .returned (.slice a len cap) ∧ (∀ X, Below w'.heap.size w' X → (convert 22 9 (.slice a len cap)).run Try.prog X = .ok (.string (str L)) X) ∧ Below w'.heap.size w' w' ∧ Below w.heap.size w w' := by
  refine (Image_any g p d w h hw).mono ?_
  rintro e w' ⟨v, rfl, ho, hb⟩
  obtain ⟨a, len, cap, rfl, hc⟩ := ho.strs
  rw [hL] at hc
  exact ⟨a, len, cap, rfl, hc, Below.refl _ _, hb⟩
theorem Now_str (g : Nat) (p : Pl) (d : Dm) (w : World) (h : (dk g p d).Ok w) (hw : d.Wf) (L : List (BitVec 8)) (hL : nowOf d.safe d.gs = L) :
    Calls Try.prog 22 #[.pointer (some ⟨g, 0, none⟩)] w fun e w' => ∃ a len cap, e = .returned (.slice a len cap) ∧ (∀ X, Below w'.heap.size w' X → (convert 22 9 (.slice a len cap)).run Try.prog X = .ok (.string (str L)) X) ∧ Below w'.heap.size w' w' ∧ Below w.heap.size w w' := by
  refine (Now_any g p d w h hw).mono ?_
  rintro e w' ⟨v, rfl, ho, hb⟩
  obtain ⟨a, len, cap, rfl, hc⟩ := ho.strs
  rw [hL] at hc
  exact ⟨a, len, cap, rfl, hc, Below.refl _ _, hb⟩

set_option maxRecDepth 20000 in
set_option maxHeartbeats 4000000 in
theorem diskEnds_walk (oa : Option Addr) (olen ocap : Nat) (w : World) (O : DOps w oa olen ocap) :
    Calls Try.prog 5 #[.slice oa olen ocap] w fun e w' => e = .returned (.bool true) ∧ Below w.heap.size w w' := by
  have hol : olen ≤ maxLen := Nat.le_trans O.le O.most
  unfold maxLen at hol
  have HO : Hid _ := O
  clear O
  go_enter Try.func5, Try.ntmps5
  go_wp2_with fail
  refine (New_yes 6 w (by omega) (by omega)).mono ?_
  rintro e w1 ⟨g, s, m, rfl, ok1, hg1, hs1, hm1, hb1⟩
  have hmk := make_ints 100 100 rfl (by omega)
  have mb : Below w1.heap.size w1 (w1.alloc (.cells (madeCells #[.int .i64 0] 100) 3)) := (Below.refl _ _).alloc (Nat.le_refl _) _
  have mB : Blk (w1.alloc (.cells (madeCells #[.int .i64 0] 100) 3)) w1.heap.size 3 (someNeg 0) := made_ints w1 100
  have K1 : Hid _ := And.intro ok1 (And.intro mB (And.intro mb (And.intro hb1 (And.intro hg1 (And.intro hs1 hm1)))))
  clear ok1 mB mb hb1 hg1 hs1 hm1
  go_wp2_with fail
  generalize w1.alloc (.cells (madeCells #[.int .i64 0] 100) 3) = w2 at *
  go_loopw [6] (fun i wr => ∃ k : Nat, k ≤ 100 ∧ i = .int .i64 k ∧ Blk wr w1.heap.size 3 (someNeg k) ∧ w2.grownBy wr (some w1.heap.size)) (fun i _ => 100 - (intOf i).toNat)
  case atStart => exact ⟨0, by omega, rfl, K1.out.2.1, ⟨rfl, rfl, rfl, Nat.le_refl _, fun _ _ _ => rfl⟩⟩
  case round =>
    obtain ⟨k, hk, rfl, hB, hG⟩ := hrel
    have hl : (someNeg k).length = 100 := someNeg_length k hk
    by_cases hlt : k < 100
    · have q1 : (k : Int) < 100 := by omega
      obtain ⟨old, hc⟩ : ∃ old, wr.cell? ⟨w1.heap.size, k, none⟩ = some old := ⟨_, (hB.cell (by rw [hl]; unfold maxLen; omega) k (by omega)).trans (List.getElem?_eq_getElem (by omega))⟩
      have hf := hB.frozen (by rw [hl]; unfold maxLen; omega) k
      have B' := hB.set k (.int .i64 (-1))
      rw [someNeg_step k hlt] at B'
      have F : Hid _ := And.intro B' (grown_trans hG (grown_set wr w1.heap.size k (.int .i64 (-1))))
      clear hB hG B' hl K1 hmk
      go_wp2
      go_roundw
      case rel => exact ⟨k + 1, by omega, by go_num, F.out.1, F.out.2⟩
      case measure => simp [intOf]; omega
    · obtain rfl : k = 100 := by omega
      obtain ⟨ok1, mB, mb, hb1, hg1, hs1, hm1⟩ := K1.out
      have z1 := hb1.size
      have z2 := mb.size
      have hlt1 := ok1.lt
      have okr := (ok1.later mb).turned (turned_grown (R := fun k => k = w1.heap.size) hG (fun k hk => by cases hk; rfl)) (fun k hk e => by have := ok1.lt k hk; omega)
      have hbr : Below w.heap.size w wr := (below_then hb1 mb).trans (grown_below hG _ z1 (by omega))
      have hn0 : ∀ k ∈ (dk g ⟨s, m, none, []⟩ ⟨List.replicate (6 * 256) 0#8, [], false, false⟩).W, w.heap.size ≤ k := fun k hk => by
        simp [dk] at hk; rcases hk with rfl | rfl | rfl <;> assumption
      have sep : Sep w.heap.size [dk g ⟨s, m, none, []⟩ ⟨List.replicate (6 * 256) 0#8, [], false, false⟩, negOb w1.heap.size] wr := by
        refine ⟨fun o ho => ?_, fun o ho => ?_, List.pairwise_cons.2 ⟨fun o ho => ?_, List.pairwise_cons.2 ⟨(fun o ho => by cases ho), List.Pairwise.nil⟩⟩, hbr.size⟩
        · simp only [List.mem_cons, List.not_mem_nil, or_false] at ho
          rcases ho with rfl | rfl
          · exact okr
          · exact negOb_ok hB
        · simp only [List.mem_cons, List.not_mem_nil, or_false] at ho
          rcases ho with rfl | rfl
          · exact hn0
          · intro k hk; cases hk
        · simp only [List.mem_cons, List.not_mem_nil, or_false] at ho
          subst ho
          refine ⟨fun k hk => ⟨(fun e => by cases e), fun e => ?_⟩, (fun k hk => by cases hk)⟩
          have e' : k = w1.heap.size := List.mem_singleton.1 e
          have := hlt1 k (.inl hk)
          omega
      have K2 : Hid _ := And.intro sep hbr
      generalize w1.heap.size = ga at *
      clear sep hbr hn0 okr ok1 mb mB hb1 hg1 hs1 hm1 K1 hB hG hmk hlt1 z1 z2
      rw [show ((100 : Nat) : Int) = 100 from rfl]
      go_wp2_with fail
      obtain ⟨wz, hwz⟩ : ∃ wz, wz = wr := ⟨_, rfl⟩
      subst hwz
      go_loopw [7] (fun i wr => ∃ (k : Nat) (p : Pl) (d : Dm), k ≤ olen ∧ k ≤ 60 ∧ i = .int .i64 k ∧ Sep w.heap.size [dk g p d, negOb ga] wr ∧ Below w.heap.size w wr ∧ d.Wf ∧ d.gs.length ≤ k) (fun i _ => 60 - (intOf i).toNat)
      case atStart => exact ⟨0, _, _, by omega, by omega, rfl, K2.out.1, K2.out.2, wf_new 6 (by omega) (by omega), Nat.le_refl _⟩
      case round =>
        obtain ⟨k, p, d, hk1, hk2, rfl, sep, hbr, hwf, hgl⟩ := hrel
        go_upto_region 10 with fail
        go_cut [38] from 31 to 46 (fun c wx => c = .bool (decide (k < olen ∧ k < 60)) ∧ wx = wr)
        case first =>
          clear sep hbr hwf HO K2
          by_cases t1 : (k : Int) < (olen : Int)
          · by_cases t2 : (k : Int) < 60
            · go_wp2
              go_meet
              exact ⟨congrArg Value.bool (decide_eq_true (p := k < olen ∧ k < 60) (by omega)).symm, rfl⟩
            · go_wp2
              go_meet
              exact ⟨congrArg Value.bool (decide_eq_false (p := k < olen ∧ k < 60) (by omega)).symm, rfl⟩
          · go_wp2
            go_meet
            exact ⟨congrArg Value.bool (decide_eq_false (p := k < olen ∧ k < 60) (by omega)).symm, rfl⟩
        case rest =>
        obtain ⟨rfl, hwc⟩ := hcut
        obtain rfl := hwc.symm
        clear hwc
        by_cases hlt' : k < olen ∧ k < 60
        · have hdec : decide (k < olen ∧ k < 60) = true := decide_eq_true hlt'
          rw [hdec]
          clear hdec
          obtain ⟨t1, t2⟩ := hlt'
          obtain ⟨b, off, rfl, hop⟩ := HO.out.each (by omega)
          obtain ⟨K, N, xv, lv, o0, o1, o2, o3, D⟩ := hop k t1
          obtain ⟨xa, xl, xc, xb, rfl, XA⟩ := D.bytes
          obtain ⟨ia, il, ic, ii, rfl, IA⟩ := D.ints
          have c0 := cell_later hbr o0
          have c1 := cell_later hbr o1
          have c2 := cell_later hbr o2
          have c3 := cell_later hbr o3
          have hD : Hid _ := do_any w g p d K N xa xl xc xb ia il ic ii wr sep.head hwf (by omega) D.nums XA IA hbr (sep.new _ (by simp))
          have HS : Hid _ := And.intro sep (And.intro hbr hwf)
          have q1 : (k : Int) < (olen : Int) := by omega
          have q2 : (k : Int) < 60 := by omega
          have hgl' := dmDo_len d K N xb ii
          have hwf' := dmDo_wf hwf K N xb ii
          clear sep hbr hwf o0 o1 o2 o3 XA IA D hop K2 HO
          go_wp2_with fail
          refine (Calls.mono hD.out) ?_
          rintro e w3 ⟨p3, rfl, st⟩
          have F : Hid _ := And.intro (HS.out.1.step st) (And.intro (HS.out.2.1.trans (HS.out.1.below st)) hwf')
          clear st HS hD hwf'
          go_wp2
          go_roundw
          case rel => exact ⟨k + 1, p3, _, by omega, by omega, by go_num, F.out.1, F.out.2.1, F.out.2.2, by omega⟩
          case measure => simp [intOf]; omega
        · have K3 : Hid _ := And.intro sep (And.intro hbr hwf)
          have hdec : decide (k < olen ∧ k < 60) = false := decide_eq_false hlt'
          rw [hdec]
          clear sep hbr hwf K2 HO hdec
          obtain ⟨wy, hwy⟩ : ∃ wy, wy = wr := ⟨_, rfl⟩
          subst hwy
          obtain ⟨sep, hbr, hwf⟩ := K3.out
          clear K3
          have hgl6 : d.gs.length ≤ 1000000 := by omega
          have HC4 : Hid _ := Copy_any g p d wy sep.head hwf hgl6
          have H3 : Hid _ := And.intro sep (And.intro hbr hwf)
          clear sep hbr hwf
          go_wp2_with fail
          refine (Calls.mono HC4.out) ?_
          rintro e w4 ⟨gc, pc, rfl, okc, vc, nc, b4⟩
          obtain ⟨sep, hbr, hwf⟩ := H3.out
          have s4 := (sep.copy b4 okc vc nc).swap
          have hb4 := hbr.trans (b4.mono hbr.size)
          have HC5 : Hid _ := Copy_any g p d w4 s4.head hwf hgl6
          have H4 : Hid _ := And.intro s4 (And.intro hb4 hwf)
          clear s4 hb4 hwf sep hbr okc vc nc b4 H3 HC4
          go_wp2_with fail
          refine (Calls.mono HC5.out) ?_
          rintro e w5 ⟨gn, pn, rfl, okn, vn, nn, b5⟩
          obtain ⟨s4, hb4, hwf⟩ := H4.out
          have s5 := (s4.copy b5 okn vn nn).swap
          have hb5 := hb4.trans (b5.mono hb4.size)
          have HC6 : Hid _ := Copy_any g p d w5 s5.head hwf hgl6
          have H5 : Hid _ := And.intro s5 (And.intro hb5 hwf)
          clear s4 s5 hb4 hb5 hwf okn vn nn b5 H4 HC5
          go_wp2_with fail
          refine (Calls.mono HC6.out) ?_
          rintro e w6 ⟨gf, pf, rfl, okf, vf, nf, b6⟩
          obtain ⟨s5, hb5, hwf⟩ := H5.out
          have s6 := (s5.copy b6 okf vf nf)
          have hb6 := hb5.trans (b6.mono hb5.size)
          have s6c := Sep.at (l1 := [dk gf pf d, dk g p d, dk gn pn d]) (l2 := [negOb ga]) s6
          have hneg := (s6.each (negOb ga) (by simp)).holds
          have hcl := s6c.clear (p := negOb ga) (by simp)
          have HC7 := Crash_any gc pc d (some ⟨ga, 0, none⟩) 100 allNeg w6 s6c.head hwf hgl6 (by rw [allNeg_length]; omega) (by rw [allNeg_length]; omega) (neg_irow hneg) (fun _ y hy e => by
            cases hy
            exact (hcl.1 pc.s (by simp [dk])).2 (List.mem_singleton.2 e.symm))
          rw [allNeg_length, crashed_all hwf.fits allNeg (fun i hi => allNeg_at i (by omega))] at HC7
          have H6 : Hid _ := And.intro s6c (And.intro hb6 (And.intro hwf HC7))
          clear s5 s6 s6c hb5 hb6 hwf okf vf nf b6 H5 HC6 HC7 hneg hcl
          go_wp2_with fail
          refine (Calls.mono H6.out.2.2.2) ?_
          rintro e w7 ⟨rfl, st7⟩
          obtain ⟨s6c, hb6, hwf, -⟩ := H6.out
          have s7 := s6c.step st7
          have hb7 := hb6.trans (s6c.below st7)
          have s7n := Sep.at (l1 := [dk gc ⟨pc.s, pc.m, none, []⟩ ⟨nowOf d.safe d.gs, [], false, false⟩, dk gf pf d, dk g p d]) (l2 := [negOb ga]) s7
          have HC8 := Crash_any gn pn d none 0 [] w7 s7n.head hwf hgl6 (by simp) (by simp) ⟨(fun x hx => by cases hx), .inl rfl⟩ (fun h => absurd rfl h)
          rw [crashed_none hwf.fits, List.length_nil] at HC8
          have H7 : Hid _ := And.intro s7n (And.intro hb7 (And.intro hwf HC8))
          clear s6c s7 s7n hb6 hb7 hwf st7 H6 HC8
          go_wp2_with fail
          refine (Calls.mono H7.out.2.2.2) ?_
          rintro e w8 ⟨rfl, st8⟩
          obtain ⟨s7n, hb7, hwf, -⟩ := H7.out
          have s8 := s7n.step st8
          have hb8 := hb7.trans (s7n.below st8)
          have HI : Hid _ := Image_any g p d w8 (s8.each (dk g p d) (by simp)) hwf
          have H8 : Hid _ := And.intro s8 (And.intro hb8 hwf)
          clear s7n s8 hb7 hb8 hwf st8 H7
          go_wp2_with fail
          refine (Calls.mono HI.out) ?_
          rintro e w9 ⟨v9, rfl, o9, b9⟩
          obtain ⟨s8, hb8, hwf⟩ := H8.out
          have hlen := hwf.len
          obtain ⟨k9, c9, rfl, hk9, hk9'⟩ := o9.some (by omega)
          obtain ⟨a9, cap9, hv9, hle9, _, hr9, -, -⟩ := o9.open
          simp only [Value.slice.injEq] at hv9
          obtain ⟨rfl, -, rfl⟩ := hv9
          have s9 := s8.later b9
          have hb9 := hb8.trans (b9.mono hb8.size)
          have HL : Hid _ := Load_yes (some ⟨k9, 0, none⟩) d.safe.length c9 d.safe w9 rfl hle9 hr9 (fun e => by cases e) (decide_eq_true (by omega))
          have H9 : Hid _ := And.intro s9 (And.intro hb9 hwf)
          clear s8 s9 hb8 hb9 hwf o9 b9 H8 HI hr9 hlen hle9
          go_wp2_with fail
          refine (Calls.mono HL.out) ?_
          rintro e w10 ⟨gl, sl, ml, rfl, okl, hgl1, hsl1, hml1, b10⟩
          obtain ⟨s9, hb9, hwf⟩ := H9.out
          have s10 := s9.fresh b10 okl (fun k hk => by simp [dk] at hk; rcases hk with rfl | rfl | rfl <;> assumption)
          have hb10 := hb9.trans (b10.mono hb9.size)
          have H10 : Hid _ := And.intro s10 (And.intro hb10 hwf)
          clear s9 s10 hb9 hb10 hwf okl b10 H9 HL hgl1 hsl1 hml1
          go_wp2_with fail
          go_cut [115] from 74 to 115 (fun c wx => c = .bool false ∧ Below w10.heap.size w10 wx)
          case first =>
            obtain ⟨s10, hb10, hwf⟩ := H10.out
            clear H10
            have okl := s10.each (dk gl ⟨sl, ml, none, []⟩ ⟨d.safe, [], false, false⟩) (by simp)
            have okn := s10.each (dk gn ⟨pn.s, pn.m, none, []⟩ ⟨d.safe, [], false, false⟩) (by simp)
            have okc := s10.each (dk gc ⟨pc.s, pc.m, none, []⟩ ⟨nowOf d.safe d.gs, [], false, false⟩) (by simp)
            have okd := s10.each (dk g p d) (by simp)
            have wfn : Dm.Wf ⟨d.safe, [], false, false⟩ := ⟨hwf.size, fun x hx => by cases hx⟩
            have wfc := hwf.flush
            have Sd : Below w10.heap.size w10 w10.drew := (Below.refl _ _).drew
            have T1 : Hid _ := fun (W : World) (hW : Below w10.heap.size w10 W) => Image_str gc ⟨pc.s, pc.m, none, []⟩ ⟨nowOf d.safe d.gs, [], false, false⟩ W (okc.later hW) wfc (nowOf d.safe d.gs) rfl
            have T2 : Hid _ := fun (W : World) (hW : Below w10.heap.size w10 W) => Now_str g p d W (okd.later hW) hwf (nowOf d.safe d.gs) rfl
            have T3 : Hid _ := fun (W : World) (hW : Below w10.heap.size w10 W) => Now_str gn ⟨pn.s, pn.m, none, []⟩ ⟨d.safe, [], false, false⟩ W (okn.later hW) wfn d.safe rfl
            have T4 : Hid _ := fun (W : World) (hW : Below w10.heap.size w10 W) => Now_str gl ⟨sl, ml, none, []⟩ ⟨d.safe, [], false, false⟩ W (okl.later hW) wfn d.safe rfl
            have T5 : Hid _ := fun (W : World) (hW : Below w10.heap.size w10 W) => Image_str gn ⟨pn.s, pn.m, none, []⟩ ⟨d.safe, [], false, false⟩ W (okn.later hW) wfn d.safe rfl
            have T6 : Hid _ := fun (W : World) (hW : Below w10.heap.size w10 W) => Image_str g p d W (okd.later hW) hwf d.safe rfl
            have T7 : Hid _ := fun (W : World) (hW : Below w10.heap.size w10 W) => Pending_any gc ⟨pc.s, pc.m, none, []⟩ ⟨nowOf d.safe d.gs, [], false, false⟩ W (okc.later hW) (by simp)
            have T8 : Hid _ := fun (W : World) (hW : Below w10.heap.size w10 W) => Dead_any gn ⟨pn.s, pn.m, none, []⟩ ⟨d.safe, [], false, false⟩ W (okn.later hW)
            generalize nowOf d.safe d.gs = N at *
            generalize d.safe = SA at *
            clear okl okn okc okd wfn wfc s10 hb10 hwf
            refine wp_region_held_drew (S := fun W => Below w10.heap.size w10 W) (by kernel_rfl) Sd (fun hS => ?_)
            have B0 : Below w10.heap.size w10 w10.drew := Sd
            refine any_take (i := 0) (v := ?_) rfl (by kernel_rfl) (by kernel_rfl) (by kernel_rfl) (by exact fun _ _ _ h => h) (by rfl) ?_ hS ?_
            rotate_left
            · ((intro w hSw; (try dsimp only at hSw); go_simp) <;> with_reducible rfl)
            (try simp only [Act.put, List.setIfInBounds_toArray, List.set_cons_zero, List.set_cons_succ])
            refine any_take (i := 1) (v := ?_) rfl (by kernel_rfl) (by kernel_rfl) (by kernel_rfl) (by exact fun _ _ _ h => h) (by rfl) ?_ hS ?_
            rotate_left
            · ((intro w hSw; (try dsimp only at hSw); go_simp) <;> with_reducible rfl)
            (try simp only [Act.put, List.setIfInBounds_toArray, List.set_cons_zero, List.set_cons_succ])
            refine any_take (i := 2) (v := ?_) rfl (by kernel_rfl) (by kernel_rfl) (by kernel_rfl) (by exact fun _ _ _ h => h) (by rfl) ?_ hS ?_
            rotate_left
            · ((intro w hSw; (try dsimp only at hSw); go_simp) <;> with_reducible rfl)
            (try simp only [Act.put, List.setIfInBounds_toArray, List.set_cons_zero, List.set_cons_succ])
            refine any_take (i := 3) (v := ?_) rfl (by kernel_rfl) (by kernel_rfl) (by kernel_rfl) (by exact fun _ _ _ h => h) (by rfl) ?_ hS ?_
            rotate_left
            · ((intro w hSw; (try dsimp only at hSw); go_simp) <;> with_reducible rfl)
            (try simp only [Act.put, List.setIfInBounds_toArray, List.set_cons_zero, List.set_cons_succ])
            refine any_take (i := 4) (v := ?_) rfl (by kernel_rfl) (by kernel_rfl) (by kernel_rfl) (by exact fun _ _ _ h => h) (by rfl) ?_ hS ?_
            rotate_left
            · ((intro w hSw; (try dsimp only at hSw); go_simp) <;> with_reducible rfl)
            (try simp only [Act.put, List.setIfInBounds_toArray, List.set_cons_zero, List.set_cons_succ])
            refine any_take (i := 5) (v := ?_) rfl (by kernel_rfl) (by kernel_rfl) (by kernel_rfl) (by exact fun _ _ _ h => h) (by rfl) ?_ hS ?_
            rotate_left
            · ((intro w hSw; (try dsimp only at hSw); go_simp) <;> with_reducible rfl)
            (try simp only [Act.put, List.setIfInBounds_toArray, List.set_cons_zero, List.set_cons_succ])
            refine any_take (i := 6) (v := ?_) rfl (by kernel_rfl) (by kernel_rfl) (by kernel_rfl) (by exact fun _ _ _ h => h) (by rfl) ?_ hS ?_
            rotate_left
            · ((intro w hSw; (try dsimp only at hSw); go_simp) <;> with_reducible rfl)
            (try simp only [Act.put, List.setIfInBounds_toArray, List.set_cons_zero, List.set_cons_succ])
            refine any_take (i := 7) (v := ?_) rfl (by kernel_rfl) (by kernel_rfl) (by kernel_rfl) (by exact fun _ _ _ h => h) (by rfl) ?_ hS ?_
            rotate_left
            · ((intro w hSw; (try dsimp only at hSw); go_simp) <;> with_reducible rfl)
            (try simp only [Act.put, List.setIfInBounds_toArray, List.set_cons_zero, List.set_cons_succ])
            refine any_take (i := 10) (v := ?_) rfl (by kernel_rfl) (by kernel_rfl) (by kernel_rfl) (by exact fun _ _ _ h => h) (by rfl) ?_ hS ?_
            rotate_left
            · ((intro w hSw; (try dsimp only at hSw); go_simp) <;> with_reducible rfl)
            (try simp only [Act.put, List.setIfInBounds_toArray, List.set_cons_zero, List.set_cons_succ])
            have K1 : Hid _ := T1.out _ B0
            refine any_one (i := 8) rfl (by kernel_rfl) (fun K hK => ?_)
            go_simp
            refine (Calls.mono (K1.out)) ?_
            rintro e x1 ⟨a1, l1, c1, rfl, hc1, -, hbR⟩
            have B1 : Below w10.heap.size w10 x1 := below_then B0 hbR
            clear K1
            go_wp2_with fail
            refine hK.out _ _ (by first | exact B1 | exact hbR | exact below_then hS hbR) (any_weaken (S' := fun W => Below x1.heap.size x1 W) (fun W hW => by first | exact below_then B1 hW | exact below_then hbR hW | exact below_then (below_then hS hbR) hW) _ _ _ _ ?_)
            clear hK K hS hbR
            have hS : Below x1.heap.size x1 x1 := Below.refl _ _
            refine any_take (i := 9) (v := ?_) rfl (by kernel_rfl) (by kernel_rfl) (by kernel_rfl) (by exact fun _ _ _ h => h) (by rfl) ?_ hS ?_
            rotate_left
            · ((intro w hSw; (try dsimp only at hSw); go_simp) <;> with_reducible rfl)
            (try simp only [Act.put, List.setIfInBounds_toArray, List.set_cons_zero, List.set_cons_succ])
            have K2 : Hid _ := T2.out _ B1
            refine any_one (i := 11) rfl (by kernel_rfl) (fun K hK => ?_)
            go_simp
            refine (Calls.mono (K2.out)) ?_
            rintro e x2 ⟨a2, l2, c2, rfl, hc2, -, hbR⟩
            have B2 : Below w10.heap.size w10 x2 := below_then B1 hbR
            clear K2
            go_wp2_with fail
            refine hK.out _ _ (by first | exact B2 | exact hbR | exact below_then hS hbR) (any_weaken (S' := fun W => Below x2.heap.size x2 W) (fun W hW => by first | exact below_then B2 hW | exact below_then hbR hW | exact below_then (below_then hS hbR) hW) _ _ _ _ ?_)
            clear hK K hS hbR
            have hS : Below x2.heap.size x2 x2 := Below.refl _ _
            refine any_take (i := 12) (v := ?_) rfl (by kernel_rfl) (by kernel_rfl) (by kernel_rfl) (by exact fun _ _ _ h => h) (by rfl) ?_ hS ?_
            rotate_left
            · ((intro w hSw; (try dsimp only at hSw); go_simp) <;> with_reducible rfl)
            (try simp only [Act.put, List.setIfInBounds_toArray, List.set_cons_zero, List.set_cons_succ])
            refine any_take (i := 13) (v := ?_) rfl (by kernel_rfl) (by kernel_rfl) (by kernel_rfl) (by exact fun _ _ _ h => h) (by rfl) ?_ hS ?_
            rotate_left
            · ((intro w hSw; (try dsimp only at hSw); go_simp) <;> with_reducible rfl)
            (try simp only [Act.put, List.setIfInBounds_toArray, List.set_cons_zero, List.set_cons_succ])
            refine any_take (i := 14) (v := ?_) rfl (by kernel_rfl) (by kernel_rfl) (by kernel_rfl) (by exact fun _ _ _ h => h) (by rfl) ?_ hS ?_
            rotate_left
            · ((intro w hSw; (try dsimp only at hSw); go_simp) <;> with_reducible rfl)
            (try simp only [Act.put, List.setIfInBounds_toArray, List.set_cons_zero, List.set_cons_succ])
            refine any_take (i := 15) (v := ?_) rfl (by kernel_rfl) (by kernel_rfl) (by kernel_rfl) (by exact fun _ _ _ h => h) (by rfl) ?_ hS ?_
            rotate_left
            · ((intro w hSw; (try dsimp only at hSw); go_simp) <;> with_reducible rfl)
            (try simp only [Act.put, List.setIfInBounds_toArray, List.set_cons_zero, List.set_cons_succ])
            refine any_take (i := 16) (v := ?_) rfl (by kernel_rfl) (by kernel_rfl) (by kernel_rfl) (by exact fun _ _ _ h => h) (by rfl) ?_ hS ?_
            rotate_left
            · ((intro w hSw; (try dsimp only at hSw); go_simp) <;> with_reducible rfl)
            (try simp only [Act.put, List.setIfInBounds_toArray, List.set_cons_zero, List.set_cons_succ])
            refine any_take (i := 19) (v := ?_) rfl (by kernel_rfl) (by kernel_rfl) (by kernel_rfl) (by exact fun _ _ _ h => h) (by rfl) ?_ hS ?_
            rotate_left
            · ((intro w hSw; (try dsimp only at hSw); go_simp) <;> with_reducible rfl)
            (try simp only [Act.put, List.setIfInBounds_toArray, List.set_cons_zero, List.set_cons_succ])
            have K3 : Hid _ := T3.out _ B2
            refine any_one (i := 17) rfl (by kernel_rfl) (fun K hK => ?_)
            go_simp
            refine (Calls.mono (K3.out)) ?_
            rintro e x3 ⟨a3, l3, c3, rfl, hc3, -, hbR⟩
            have B3 : Below w10.heap.size w10 x3 := below_then B2 hbR
            clear K3
            go_wp2_with fail
            refine hK.out _ _ (by first | exact B3 | exact hbR | exact below_then hS hbR) (any_weaken (S' := fun W => Below x3.heap.size x3 W) (fun W hW => by first | exact below_then B3 hW | exact below_then hbR hW | exact below_then (below_then hS hbR) hW) _ _ _ _ ?_)
            clear hK K hS hbR
            have hS : Below x3.heap.size x3 x3 := Below.refl _ _
            refine any_take (i := 18) (v := ?_) rfl (by kernel_rfl) (by kernel_rfl) (by kernel_rfl) (by exact fun _ _ _ h => h) (by rfl) ?_ hS ?_
            rotate_left
            · ((intro w hSw; (try dsimp only at hSw); go_simp) <;> with_reducible rfl)
            (try simp only [Act.put, List.setIfInBounds_toArray, List.set_cons_zero, List.set_cons_succ])
            have K4 : Hid _ := T4.out _ B3
            refine any_one (i := 20) rfl (by kernel_rfl) (fun K hK => ?_)
            go_simp
            refine (Calls.mono (K4.out)) ?_
            rintro e x4 ⟨a4, l4, c4, rfl, hc4, -, hbR⟩
            have B4 : Below w10.heap.size w10 x4 := below_then B3 hbR
            clear K4
            go_wp2_with fail
            refine hK.out _ _ (by first | exact B4 | exact hbR | exact below_then hS hbR) (any_weaken (S' := fun W => Below x4.heap.size x4 W) (fun W hW => by first | exact below_then B4 hW | exact below_then hbR hW | exact below_then (below_then hS hbR) hW) _ _ _ _ ?_)
            clear hK K hS hbR
            have hS : Below x4.heap.size x4 x4 := Below.refl _ _
            refine any_take (i := 21) (v := ?_) rfl (by kernel_rfl) (by kernel_rfl) (by kernel_rfl) (by exact fun _ _ _ h => h) (by rfl) ?_ hS ?_
            rotate_left
            · ((intro w hSw; (try dsimp only at hSw); go_simp) <;> with_reducible rfl)
            (try simp only [Act.put, List.setIfInBounds_toArray, List.set_cons_zero, List.set_cons_succ])
            refine any_take (i := 22) (v := ?_) rfl (by kernel_rfl) (by kernel_rfl) (by kernel_rfl) (by exact fun _ _ _ h => h) (by rfl) ?_ hS ?_
            rotate_left
            · ((intro w hSw; (try dsimp only at hSw); go_simp) <;> with_reducible rfl)
            (try simp only [Act.put, List.setIfInBounds_toArray, List.set_cons_zero, List.set_cons_succ])
            refine any_take (i := 23) (v := ?_) rfl (by kernel_rfl) (by kernel_rfl) (by kernel_rfl) (by exact fun _ _ _ h => h) (by rfl) ?_ hS ?_
            rotate_left
            · ((intro w hSw; (try dsimp only at hSw); go_simp) <;> with_reducible rfl)
            (try simp only [Act.put, List.setIfInBounds_toArray, List.set_cons_zero, List.set_cons_succ])
            refine any_take (i := 24) (v := ?_) rfl (by kernel_rfl) (by kernel_rfl) (by kernel_rfl) (by exact fun _ _ _ h => h) (by rfl) ?_ hS ?_
            rotate_left
            · ((intro w hSw; (try dsimp only at hSw); go_simp) <;> with_reducible rfl)
            (try simp only [Act.put, List.setIfInBounds_toArray, List.set_cons_zero, List.set_cons_succ])
            refine any_take (i := 25) (v := ?_) rfl (by kernel_rfl) (by kernel_rfl) (by kernel_rfl) (by exact fun _ _ _ h => h) (by rfl) ?_ hS ?_
            rotate_left
            · ((intro w hSw; (try dsimp only at hSw); go_simp) <;> with_reducible rfl)
            (try simp only [Act.put, List.setIfInBounds_toArray, List.set_cons_zero, List.set_cons_succ])
            refine any_take (i := 28) (v := ?_) rfl (by kernel_rfl) (by kernel_rfl) (by kernel_rfl) (by exact fun _ _ _ h => h) (by rfl) ?_ hS ?_
            rotate_left
            · ((intro w hSw; (try dsimp only at hSw); go_simp) <;> with_reducible rfl)
            (try simp only [Act.put, List.setIfInBounds_toArray, List.set_cons_zero, List.set_cons_succ])
            have K5 : Hid _ := T5.out _ B4
            refine any_one (i := 26) rfl (by kernel_rfl) (fun K hK => ?_)
            go_simp
            refine (Calls.mono (K5.out)) ?_
            rintro e x5 ⟨a5, l5, c5, rfl, hc5, -, hbR⟩
            have B5 : Below w10.heap.size w10 x5 := below_then B4 hbR
            clear K5
            go_wp2_with fail
            refine hK.out _ _ (by first | exact B5 | exact hbR | exact below_then hS hbR) (any_weaken (S' := fun W => Below x5.heap.size x5 W) (fun W hW => by first | exact below_then B5 hW | exact below_then hbR hW | exact below_then (below_then hS hbR) hW) _ _ _ _ ?_)
            clear hK K hS hbR
            have hS : Below x5.heap.size x5 x5 := Below.refl _ _
            refine any_take (i := 27) (v := ?_) rfl (by kernel_rfl) (by kernel_rfl) (by kernel_rfl) (by exact fun _ _ _ h => h) (by rfl) ?_ hS ?_
            rotate_left
            · ((intro w hSw; (try dsimp only at hSw); go_simp) <;> with_reducible rfl)
            (try simp only [Act.put, List.setIfInBounds_toArray, List.set_cons_zero, List.set_cons_succ])
            have K6 : Hid _ := T6.out _ B5
            refine any_one (i := 29) rfl (by kernel_rfl) (fun K hK => ?_)
            go_simp
            refine (Calls.mono (K6.out)) ?_
            rintro e x6 ⟨a6, l6, c6, rfl, hc6, -, hbR⟩
            have B6 : Below w10.heap.size w10 x6 := below_then B5 hbR
            clear K6
            go_wp2_with fail
            refine hK.out _ _ (by first | exact B6 | exact hbR | exact below_then hS hbR) (any_weaken (S' := fun W => Below x6.heap.size x6 W) (fun W hW => by first | exact below_then B6 hW | exact below_then hbR hW | exact below_then (below_then hS hbR) hW) _ _ _ _ ?_)
            clear hK K hS hbR
            have hS : Below x6.heap.size x6 x6 := Below.refl _ _
            refine any_take (i := 30) (v := ?_) rfl (by kernel_rfl) (by kernel_rfl) (by kernel_rfl) (by exact fun _ _ _ h => h) (by rfl) ?_ hS ?_
            rotate_left
            · ((intro w hSw; (try dsimp only at hSw); go_simp) <;> with_reducible rfl)
            (try simp only [Act.put, List.setIfInBounds_toArray, List.set_cons_zero, List.set_cons_succ])
            refine any_take (i := 31) (v := ?_) rfl (by kernel_rfl) (by kernel_rfl) (by kernel_rfl) (by exact fun _ _ _ h => h) (by rfl) ?_ hS ?_
            rotate_left
            · ((intro w hSw; (try dsimp only at hSw); go_simp) <;> with_reducible rfl)
            (try simp only [Act.put, List.setIfInBounds_toArray, List.set_cons_zero, List.set_cons_succ])
            refine any_take (i := 32) (v := ?_) rfl (by kernel_rfl) (by kernel_rfl) (by kernel_rfl) (by exact fun _ _ _ h => h) (by rfl) ?_ hS ?_
            rotate_left
            · ((intro w hSw; (try dsimp only at hSw); go_simp) <;> with_reducible rfl)
            (try simp only [Act.put, List.setIfInBounds_toArray, List.set_cons_zero, List.set_cons_succ])
            refine any_take (i := 33) (v := ?_) rfl (by kernel_rfl) (by kernel_rfl) (by kernel_rfl) (by exact fun _ _ _ h => h) (by rfl) ?_ hS ?_
            rotate_left
            · ((intro w hSw; (try dsimp only at hSw); go_simp) <;> with_reducible rfl)
            (try simp only [Act.put, List.setIfInBounds_toArray, List.set_cons_zero, List.set_cons_succ])
            refine any_take (i := 34) (v := ?_) rfl (by kernel_rfl) (by kernel_rfl) (by kernel_rfl) (by exact fun _ _ _ h => h) (by rfl) ?_ hS ?_
            rotate_left
            · ((intro w hSw; (try dsimp only at hSw); go_simp) <;> with_reducible rfl)
            (try simp only [Act.put, List.setIfInBounds_toArray, List.set_cons_zero, List.set_cons_succ])
            have K7 : Hid _ := T7.out _ B6
            refine any_one (i := 35) rfl (by kernel_rfl) (fun K hK => ?_)
            go_simp
            refine (Calls.mono (K7.out)) ?_
            rintro e _ ⟨rfl, rfl⟩
            clear K7
            go_wp2_with fail
            refine hK.out _ _ hS ?_
            clear hK K
            refine any_take (i := 36) (v := ?_) rfl (by kernel_rfl) (by kernel_rfl) (by kernel_rfl) (by exact fun _ _ _ h => h) (by rfl) ?_ hS ?_
            rotate_left
            · ((intro w hSw; (try dsimp only at hSw); go_simp) <;> with_reducible rfl)
            (try simp only [Act.put, List.setIfInBounds_toArray, List.set_cons_zero, List.set_cons_succ])
            refine any_take (i := 37) (v := ?_) rfl (by kernel_rfl) (by kernel_rfl) (by kernel_rfl) (by exact fun _ _ _ h => h) (by rfl) ?_ hS ?_
            rotate_left
            · ((intro w hSw; (try dsimp only at hSw); go_simp) <;> with_reducible rfl)
            (try simp only [Act.put, List.setIfInBounds_toArray, List.set_cons_zero, List.set_cons_succ])
            refine any_take (i := 38) (v := ?_) rfl (by kernel_rfl) (by kernel_rfl) (by kernel_rfl) (by exact fun _ _ _ h => h) (by rfl) ?_ hS ?_
            rotate_left
            · ((intro w hSw; (try dsimp only at hSw); go_simp) <;> with_reducible rfl)
            (try simp only [Act.put, List.setIfInBounds_toArray, List.set_cons_zero, List.set_cons_succ])
            refine any_take (i := 39) (v := ?_) rfl (by kernel_rfl) (by kernel_rfl) (by kernel_rfl) (by exact fun _ _ _ h => h) (by rfl) ?_ hS ?_
            rotate_left
            · ((intro w hSw; (try dsimp only at hSw); go_simp) <;> with_reducible rfl)
            (try simp only [Act.put, List.setIfInBounds_toArray, List.set_cons_zero, List.set_cons_succ])
            have K8 : Hid _ := T8.out _ B6
            refine any_one (i := 40) rfl (by kernel_rfl) (fun K hK => ?_)
            go_simp
            refine (Calls.mono (K8.out)) ?_
            rintro e x8 ⟨rfl, hbR⟩
            have B8 : Below w10.heap.size w10 x8 := below_then B6 hbR
            clear K8
            go_wp2_with fail
            refine hK.out _ _ (by first | exact B8 | exact hbR | exact below_then hS hbR) (any_weaken (S' := fun W => Below x8.heap.size x8 W) (fun W hW => by first | exact below_then B8 hW | exact below_then hbR hW | exact below_then (below_then hS hbR) hW) _ _ _ _ ?_)
            clear hK K hS hbR
            have hS : Below x8.heap.size x8 x8 := Below.refl _ _
            refine any_take (i := 41) (v := ?_) rfl (by kernel_rfl) (by kernel_rfl) (by kernel_rfl) (by exact fun _ _ _ h => h) (by rfl) ?_ hS ?_
            rotate_left
            · ((intro w hSw; (try dsimp only at hSw); go_simp) <;> with_reducible rfl)
            (try simp only [Act.put, List.setIfInBounds_toArray, List.set_cons_zero, List.set_cons_succ])
            refine wpAnyH_done (by kernel_rfl) ?_ _
            go_wp2_with fail
            go_meet
            exact ⟨rfl, B8⟩
          case rest =>
          obtain ⟨rfl, b11⟩ := hcut
          obtain ⟨s10, hb10, hwf⟩ := H10.out
          have s11 := Sep.at (l1 := [dk gl ⟨sl, ml, none, []⟩ ⟨d.safe, [], false, false⟩, dk gn ⟨pn.s, pn.m, none, []⟩ ⟨d.safe, [], false, false⟩, dk gc ⟨pc.s, pc.m, none, []⟩ ⟨nowOf d.safe d.gs, [], false, false⟩]) (l2 := [dk g p d, negOb ga]) (s10.later b11)
          have hb11 := hb10.trans (b11.mono hb10.size)
          have HF : Hid _ := Flush_any gf pf d wc s11.head hwf hgl6
          have H11 : Hid _ := And.intro s11 (And.intro hb11 hwf)
          clear s10 s11 hb10 hb11 hwf H10 b11
          go_wp2_with fail
          refine (Calls.mono HF.out) ?_
          rintro e w12 ⟨pf', rfl, st⟩
          obtain ⟨s11, hb11, hwf⟩ := H11.out
          have s12 := s11.step st
          have hb12 := hb11.trans (s11.below st)
          clear st s11 hb11 H11 HF
          rcases flD_cases d with hfl | ⟨df, ef, hfl, hef, hfg, hfs, hfgs⟩
          · rw [hfl] at s12 ⊢
            have okf := s12.head
            have okd := s12.each (dk g p d) (by simp)
            have wfc := hwf.flush
            have Sd : Below w12.heap.size w12 w12.drew := (Below.refl _ _).drew
            have T1 : Hid _ := fun (W : World) (hW : Below w12.heap.size w12 W) => Image_str gf pf' ⟨nowOf d.safe d.gs, [], false, false⟩ W (okf.later hW) wfc (nowOf d.safe d.gs) rfl
            have T2 : Hid _ := fun (W : World) (hW : Below w12.heap.size w12 W) => Now_str g p d W (okd.later hW) hwf (nowOf d.safe d.gs) rfl
            have T7 : Hid _ := fun (W : World) (hW : Below w12.heap.size w12 W) => Pending_any gf pf' ⟨nowOf d.safe d.gs, [], false, false⟩ W (okf.later hW) (by simp)
            have HB : Hid _ := hb12
            generalize nowOf d.safe d.gs = N at *
            clear okf okd wfc s12 hb12 hwf hfl
            go_wp2_with fail
            refine wp_region_held_drew (S := fun W => Below w12.heap.size w12 W) (by kernel_rfl) Sd (fun hS => ?_)
            have B0 : Below w12.heap.size w12 w12.drew := Sd
            refine any_take (i := 0) (v := ?_) rfl (by kernel_rfl) (by kernel_rfl) (by kernel_rfl) (by exact fun _ _ _ h => h) (by rfl) ?_ hS ?_
            rotate_left
            · ((intro w hSw; (try dsimp only at hSw); go_simp) <;> with_reducible rfl)
            (try simp only [Act.put, List.setIfInBounds_toArray, List.set_cons_zero, List.set_cons_succ])
            refine any_take (i := 3) (v := ?_) rfl (by kernel_rfl) (by kernel_rfl) (by kernel_rfl) (by exact fun _ _ _ h => h) (by rfl) ?_ hS ?_
            rotate_left
            · ((intro w hSw; (try dsimp only at hSw); go_simp) <;> with_reducible rfl)
            (try simp only [Act.put, List.setIfInBounds_toArray, List.set_cons_zero, List.set_cons_succ])
            have K1 : Hid _ := T1.out _ B0
            refine any_one (i := 1) rfl (by kernel_rfl) (fun K hK => ?_)
            go_simp
            refine (Calls.mono (K1.out)) ?_
            rintro e x1 ⟨a1, l1, c1, rfl, hc1, -, hbR⟩
            have B1 : Below w12.heap.size w12 x1 := below_then B0 hbR
            clear K1
            go_wp2_with fail
            refine hK.out _ _ (by first | exact B1 | exact hbR | exact below_then hS hbR) (any_weaken (S' := fun W => Below x1.heap.size x1 W) (fun W hW => by first | exact below_then B1 hW | exact below_then hbR hW | exact below_then (below_then hS hbR) hW) _ _ _ _ ?_)
            clear hK K hS hbR
            have hS : Below x1.heap.size x1 x1 := Below.refl _ _
            refine any_take (i := 2) (v := ?_) rfl (by kernel_rfl) (by kernel_rfl) (by kernel_rfl) (by exact fun _ _ _ h => h) (by rfl) ?_ hS ?_
            rotate_left
            · ((intro w hSw; (try dsimp only at hSw); go_simp) <;> with_reducible rfl)
            (try simp only [Act.put, List.setIfInBounds_toArray, List.set_cons_zero, List.set_cons_succ])
            have K2 : Hid _ := T2.out _ B1
            refine any_one (i := 4) rfl (by kernel_rfl) (fun K hK => ?_)
            go_simp
            refine (Calls.mono (K2.out)) ?_
            rintro e x2 ⟨a2, l2, c2, rfl, hc2, -, hbR⟩
            have B2 : Below w12.heap.size w12 x2 := below_then B1 hbR
            clear K2
            go_wp2_with fail
            refine hK.out _ _ (by first | exact B2 | exact hbR | exact below_then hS hbR) (any_weaken (S' := fun W => Below x2.heap.size x2 W) (fun W hW => by first | exact below_then B2 hW | exact below_then hbR hW | exact below_then (below_then hS hbR) hW) _ _ _ _ ?_)
            clear hK K hS hbR
            have hS : Below x2.heap.size x2 x2 := Below.refl _ _
            refine any_take (i := 5) (v := ?_) rfl (by kernel_rfl) (by kernel_rfl) (by kernel_rfl) (by exact fun _ _ _ h => h) (by rfl) ?_ hS ?_
            rotate_left
            · ((intro w hSw; (try dsimp only at hSw); go_simp) <;> with_reducible rfl)
            (try simp only [Act.put, List.setIfInBounds_toArray, List.set_cons_zero, List.set_cons_succ])
            refine any_take (i := 6) (v := ?_) rfl (by kernel_rfl) (by kernel_rfl) (by kernel_rfl) (by exact fun _ _ _ h => h) (by rfl) ?_ hS ?_
            rotate_left
            · ((intro w hSw; (try dsimp only at hSw); go_simp) <;> with_reducible rfl)
            (try simp only [Act.put, List.setIfInBounds_toArray, List.set_cons_zero, List.set_cons_succ])
            refine any_take (i := 7) (v := ?_) rfl (by kernel_rfl) (by kernel_rfl) (by kernel_rfl) (by exact fun _ _ _ h => h) (by rfl) ?_ hS ?_
            rotate_left
            · ((intro w hSw; (try dsimp only at hSw); go_simp) <;> with_reducible rfl)
            (try simp only [Act.put, List.setIfInBounds_toArray, List.set_cons_zero, List.set_cons_succ])
            refine any_take (i := 8) (v := ?_) rfl (by kernel_rfl) (by kernel_rfl) (by kernel_rfl) (by exact fun _ _ _ h => h) (by rfl) ?_ hS ?_
            rotate_left
            · ((intro w hSw; (try dsimp only at hSw); go_simp) <;> with_reducible rfl)
            (try simp only [Act.put, List.setIfInBounds_toArray, List.set_cons_zero, List.set_cons_succ])
            have K3 : Hid _ := T7.out _ B2
            refine any_one (i := 9) rfl (by kernel_rfl) (fun K hK => ?_)
            go_simp
            refine (Calls.mono (K3.out)) ?_
            rintro e _ ⟨rfl, rfl⟩
            clear K3
            go_wp2_with fail
            refine hK.out _ _ hS ?_
            clear hK K
            refine any_take (i := 10) (v := ?_) rfl (by kernel_rfl) (by kernel_rfl) (by kernel_rfl) (by exact fun _ _ _ h => h) (by rfl) ?_ hS ?_
            rotate_left
            · ((intro w hSw; (try dsimp only at hSw); go_simp) <;> with_reducible rfl)
            (try simp only [Act.put, List.setIfInBounds_toArray, List.set_cons_zero, List.set_cons_succ])
            refine any_take (i := 11) (v := ?_) rfl (by kernel_rfl) (by kernel_rfl) (by kernel_rfl) (by exact fun _ _ _ h => h) (by rfl) ?_ hS ?_
            rotate_left
            · ((intro w hSw; (try dsimp only at hSw); go_simp) <;> with_reducible rfl)
            (try simp only [Act.put, List.setIfInBounds_toArray, List.set_cons_zero, List.set_cons_succ])
            refine any_take (i := 12) (v := ?_) rfl (by kernel_rfl) (by kernel_rfl) (by kernel_rfl) (by exact fun _ _ _ h => h) (by rfl) ?_ hS ?_
            rotate_left
            · ((intro w hSw; (try dsimp only at hSw); go_simp) <;> with_reducible rfl)
            (try simp only [Act.put, List.setIfInBounds_toArray, List.set_cons_zero, List.set_cons_succ])
            refine any_one (i := 13) rfl (by kernel_rfl) (fun K hK => ?_)
            go_simp
            refine (Calls.mono (known3_any _)) ?_
            rintro e x4 ⟨rfl, hbR⟩
            have B4 : Below w12.heap.size w12 x4 := below_then B2 hbR
            go_wp2_with fail
            refine hK.out _ _ (by first | exact B4 | exact hbR | exact below_then hS hbR) (any_weaken (S' := fun W => Below x4.heap.size x4 W) (fun W hW => by first | exact below_then B4 hW | exact below_then hbR hW | exact below_then (below_then hS hbR) hW) _ _ _ _ ?_)
            clear hK K hS hbR
            have hS : Below x4.heap.size x4 x4 := Below.refl _ _
            refine any_take (i := 14) (v := ?_) rfl (by kernel_rfl) (by kernel_rfl) (by kernel_rfl) (by exact fun _ _ _ h => h) (by rfl) ?_ hS ?_
            rotate_left
            · ((intro w hSw; (try dsimp only at hSw); go_simp) <;> with_reducible rfl)
            (try simp only [Act.put, List.setIfInBounds_toArray, List.set_cons_zero, List.set_cons_succ])
            refine any_take (i := 15) (v := ?_) rfl (by kernel_rfl) (by kernel_rfl) (by kernel_rfl) (by exact fun _ _ _ h => h) (by rfl) ?_ hS ?_
            rotate_left
            · ((intro w hSw; (try dsimp only at hSw); go_simp) <;> with_reducible rfl)
            (try simp only [Act.put, List.setIfInBounds_toArray, List.set_cons_zero, List.set_cons_succ])
            refine wpAnyH_done (by kernel_rfl) ?_ _
            go_wp2
            go_ret
            exact ⟨rfl, below_then HB.out B4⟩
          · rw [hfl] at s12 ⊢
            have okf := s12.head
            have okd := s12.each (dk g p d) (by simp)
            have wff : df.Wf := ⟨by rw [hfs]; exact hwf.size, by rw [hfs, hfgs]; exact hwf.fits⟩
            have Sd : Below w12.heap.size w12 w12.drew := (Below.refl _ _).drew
            have T0 : Hid _ := fun (W : World) (hW : Below w12.heap.size w12 W) => Dead_any gf pf' df W (okf.later hW)
            rw [hfg] at T0
            have T1 : Hid _ := fun (W : World) (hW : Below w12.heap.size w12 W) => Image_str gf pf' df W (okf.later hW) wff d.safe hfs
            have T2 : Hid _ := fun (W : World) (hW : Below w12.heap.size w12 W) => Image_str g p d W (okd.later hW) hwf d.safe rfl
            have T3 : Hid _ := fun (W : World) (hW : Below w12.heap.size w12 W) => Now_str gf pf' df W (okf.later hW) wff (nowOf d.safe d.gs) (by rw [hfs, hfgs])
            have T4 : Hid _ := fun (W : World) (hW : Below w12.heap.size w12 W) => Now_str g p d W (okd.later hW) hwf (nowOf d.safe d.gs) rfl
            have T5 : Hid _ := fun (b : Value) (W : World) (hW : Below w12.heap.size w12 W) => Write_dead gf pf' df 0 b W (okf.later hW) hfg
            have T6 : Hid _ := fun (W : World) (hW : Below w12.heap.size w12 W) => Flush_dead gf pf' df W (okf.later hW) hfg
            have HB : Hid _ := hb12
            generalize nowOf d.safe d.gs = N at *
            generalize d.safe = SA at *
            clear okf okd wff s12 hb12 hwf hfl hfs hfgs hfg
            go_wp2_with fail
            have kc := fun (w : World) (C : Array Value) (n c : Nat) => Lib.run_convert_bytes_const (P := Try.prog) w 22 5 C n c Try.underlying22 Try.underlying5
            refine wp_region_held_drew (S := fun W => Below w12.heap.size w12 W) (by kernel_rfl) Sd (fun hS => ?_)
            have B0 : Below w12.heap.size w12 w12.drew := Sd
            refine any_take (i := 0) (v := ?_) rfl (by kernel_rfl) (by kernel_rfl) (by kernel_rfl) (by exact fun _ _ _ h => h) (by rfl) ?_ hS ?_
            rotate_left
            · ((intro w hSw; (try dsimp only at hSw); go_simp) <;> with_reducible rfl)
            (try simp only [Act.put, List.setIfInBounds_toArray, List.set_cons_zero, List.set_cons_succ])
            have K1 : Hid _ := T0.out _ B0
            refine any_one (i := 1) rfl (by kernel_rfl) (fun K hK => ?_)
            go_simp
            refine (Calls.mono (K1.out)) ?_
            rintro e x1 ⟨rfl, hbR⟩
            have B1 : Below w12.heap.size w12 x1 := below_then B0 hbR
            clear K1
            go_wp2_with fail
            refine hK.out _ _ (by first | exact B1 | exact hbR | exact below_then hS hbR) (any_weaken (S' := fun W => Below x1.heap.size x1 W) (fun W hW => by first | exact below_then B1 hW | exact below_then hbR hW | exact below_then (below_then hS hbR) hW) _ _ _ _ ?_)
            clear hK K hS hbR
            have hS : Below x1.heap.size x1 x1 := Below.refl _ _
            refine any_take (i := 2) (v := ?_) rfl (by kernel_rfl) (by kernel_rfl) (by kernel_rfl) (by exact fun _ _ _ h => h) (by rfl) ?_ hS ?_
            rotate_left
            · ((intro w hSw; (try dsimp only at hSw); go_simp) <;> with_reducible rfl)
            (try simp only [Act.put, List.setIfInBounds_toArray, List.set_cons_zero, List.set_cons_succ])
            refine any_take (i := 3) (v := ?_) rfl (by kernel_rfl) (by kernel_rfl) (by kernel_rfl) (by exact fun _ _ _ h => h) (by rfl) ?_ hS ?_
            rotate_left
            · ((intro w hSw; (try dsimp only at hSw); go_simp) <;> with_reducible rfl)
            (try simp only [Act.put, List.setIfInBounds_toArray, List.set_cons_zero, List.set_cons_succ])
            refine any_take (i := 6) (v := ?_) rfl (by kernel_rfl) (by kernel_rfl) (by kernel_rfl) (by exact fun _ _ _ h => h) (by rfl) ?_ hS ?_
            rotate_left
            · ((intro w hSw; (try dsimp only at hSw); go_simp) <;> with_reducible rfl)
            (try simp only [Act.put, List.setIfInBounds_toArray, List.set_cons_zero, List.set_cons_succ])
            have K2 : Hid _ := T1.out _ B1
            refine any_one (i := 4) rfl (by kernel_rfl) (fun K hK => ?_)
            go_simp
            refine (Calls.mono (K2.out)) ?_
            rintro e x2 ⟨a2, l2, c2, rfl, hc2, -, hbR⟩
            have B2 : Below w12.heap.size w12 x2 := below_then B1 hbR
            clear K2
            go_wp2_with fail
            refine hK.out _ _ (by first | exact B2 | exact hbR | exact below_then hS hbR) (any_weaken (S' := fun W => Below x2.heap.size x2 W) (fun W hW => by first | exact below_then B2 hW | exact below_then hbR hW | exact below_then (below_then hS hbR) hW) _ _ _ _ ?_)
            clear hK K hS hbR
            have hS : Below x2.heap.size x2 x2 := Below.refl _ _
            refine any_take (i := 5) (v := ?_) rfl (by kernel_rfl) (by kernel_rfl) (by kernel_rfl) (by exact fun _ _ _ h => h) (by rfl) ?_ hS ?_
            rotate_left
            · ((intro w hSw; (try dsimp only at hSw); go_simp) <;> with_reducible rfl)
            (try simp only [Act.put, List.setIfInBounds_toArray, List.set_cons_zero, List.set_cons_succ])
            have K3 : Hid _ := T2.out _ B2
            refine any_one (i := 7) rfl (by kernel_rfl) (fun K hK => ?_)
            go_simp
            refine (Calls.mono (K3.out)) ?_
            rintro e x3 ⟨a3, l3, c3, rfl, hc3, -, hbR⟩
            have B3 : Below w12.heap.size w12 x3 := below_then B2 hbR
            clear K3
            go_wp2_with fail
            refine hK.out _ _ (by first | exact B3 | exact hbR | exact below_then hS hbR) (any_weaken (S' := fun W => Below x3.heap.size x3 W) (fun W hW => by first | exact below_then B3 hW | exact below_then hbR hW | exact below_then (below_then hS hbR) hW) _ _ _ _ ?_)
            clear hK K hS hbR
            have hS : Below x3.heap.size x3 x3 := Below.refl _ _
            refine any_take (i := 8) (v := ?_) rfl (by kernel_rfl) (by kernel_rfl) (by kernel_rfl) (by exact fun _ _ _ h => h) (by rfl) ?_ hS ?_
            rotate_left
            · ((intro w hSw; (try dsimp only at hSw); go_simp) <;> with_reducible rfl)
            (try simp only [Act.put, List.setIfInBounds_toArray, List.set_cons_zero, List.set_cons_succ])
            refine any_take (i := 9) (v := ?_) rfl (by kernel_rfl) (by kernel_rfl) (by kernel_rfl) (by exact fun _ _ _ h => h) (by rfl) ?_ hS ?_
            rotate_left
            · ((intro w hSw; (try dsimp only at hSw); go_simp) <;> with_reducible rfl)
            (try simp only [Act.put, List.setIfInBounds_toArray, List.set_cons_zero, List.set_cons_succ])
            refine any_take (i := 10) (v := ?_) rfl (by kernel_rfl) (by kernel_rfl) (by kernel_rfl) (by exact fun _ _ _ h => h) (by rfl) ?_ hS ?_
            rotate_left
            · ((intro w hSw; (try dsimp only at hSw); go_simp) <;> with_reducible rfl)
            (try simp only [Act.put, List.setIfInBounds_toArray, List.set_cons_zero, List.set_cons_succ])
            refine any_take (i := 11) (v := ?_) rfl (by kernel_rfl) (by kernel_rfl) (by kernel_rfl) (by exact fun _ _ _ h => h) (by rfl) ?_ hS ?_
            rotate_left
            · ((intro w hSw; (try dsimp only at hSw); go_simp) <;> with_reducible rfl)
            (try simp only [Act.put, List.setIfInBounds_toArray, List.set_cons_zero, List.set_cons_succ])
            refine any_take (i := 12) (v := ?_) rfl (by kernel_rfl) (by kernel_rfl) (by kernel_rfl) (by exact fun _ _ _ h => h) (by rfl) ?_ hS ?_
            rotate_left
            · ((intro w hSw; (try dsimp only at hSw); go_simp) <;> with_reducible rfl)
            (try simp only [Act.put, List.setIfInBounds_toArray, List.set_cons_zero, List.set_cons_succ])
            refine any_take (i := 15) (v := ?_) rfl (by kernel_rfl) (by kernel_rfl) (by kernel_rfl) (by exact fun _ _ _ h => h) (by rfl) ?_ hS ?_
            rotate_left
            · ((intro w hSw; (try dsimp only at hSw); go_simp) <;> with_reducible rfl)
            (try simp only [Act.put, List.setIfInBounds_toArray, List.set_cons_zero, List.set_cons_succ])
            have K4 : Hid _ := T3.out _ B3
            refine any_one (i := 13) rfl (by kernel_rfl) (fun K hK => ?_)
            go_simp
            refine (Calls.mono (K4.out)) ?_
            rintro e x4 ⟨a4, l4, c4, rfl, hc4, -, hbR⟩
            have B4 : Below w12.heap.size w12 x4 := below_then B3 hbR
            clear K4
            go_wp2_with fail
            refine hK.out _ _ (by first | exact B4 | exact hbR | exact below_then hS hbR) (any_weaken (S' := fun W => Below x4.heap.size x4 W) (fun W hW => by first | exact below_then B4 hW | exact below_then hbR hW | exact below_then (below_then hS hbR) hW) _ _ _ _ ?_)
            clear hK K hS hbR
            have hS : Below x4.heap.size x4 x4 := Below.refl _ _
            refine any_take (i := 14) (v := ?_) rfl (by kernel_rfl) (by kernel_rfl) (by kernel_rfl) (by exact fun _ _ _ h => h) (by rfl) ?_ hS ?_
            rotate_left
            · ((intro w hSw; (try dsimp only at hSw); go_simp) <;> with_reducible rfl)
            (try simp only [Act.put, List.setIfInBounds_toArray, List.set_cons_zero, List.set_cons_succ])
            have K5 : Hid _ := T4.out _ B4
            refine any_one (i := 16) rfl (by kernel_rfl) (fun K hK => ?_)
            go_simp
            refine (Calls.mono (K5.out)) ?_
            rintro e x5 ⟨a5, l5, c5, rfl, hc5, -, hbR⟩
            have B5 : Below w12.heap.size w12 x5 := below_then B4 hbR
            clear K5
            go_wp2_with fail
            refine hK.out _ _ (by first | exact B5 | exact hbR | exact below_then hS hbR) (any_weaken (S' := fun W => Below x5.heap.size x5 W) (fun W hW => by first | exact below_then B5 hW | exact below_then hbR hW | exact below_then (below_then hS hbR) hW) _ _ _ _ ?_)
            clear hK K hS hbR
            have hS : Below x5.heap.size x5 x5 := Below.refl _ _
            refine any_take (i := 17) (v := ?_) rfl (by kernel_rfl) (by kernel_rfl) (by kernel_rfl) (by exact fun _ _ _ h => h) (by rfl) ?_ hS ?_
            rotate_left
            · ((intro w hSw; (try dsimp only at hSw); go_simp) <;> with_reducible rfl)
            (try simp only [Act.put, List.setIfInBounds_toArray, List.set_cons_zero, List.set_cons_succ])
            refine any_take (i := 18) (v := ?_) rfl (by kernel_rfl) (by kernel_rfl) (by kernel_rfl) (by exact fun _ _ _ h => h) (by rfl) ?_ hS ?_
            rotate_left
            · ((intro w hSw; (try dsimp only at hSw); go_simp) <;> with_reducible rfl)
            (try simp only [Act.put, List.setIfInBounds_toArray, List.set_cons_zero, List.set_cons_succ])
            refine any_take (i := 19) (v := ?_) rfl (by kernel_rfl) (by kernel_rfl) (by kernel_rfl) (by exact fun _ _ _ h => h) (by rfl) ?_ hS ?_
            rotate_left
            · ((intro w hSw; (try dsimp only at hSw); go_simp) <;> with_reducible rfl)
            (try simp only [Act.put, List.setIfInBounds_toArray, List.set_cons_zero, List.set_cons_succ])
            refine any_take (i := 20) (v := ?_) rfl (by kernel_rfl) (by kernel_rfl) (by kernel_rfl) (by exact fun _ _ _ h => h) (by rfl) ?_ hS ?_
            rotate_left
            · ((intro w hSw; (try dsimp only at hSw); go_simp) <;> with_reducible rfl)
            (try simp only [Act.put, List.setIfInBounds_toArray, List.set_cons_zero, List.set_cons_succ])
            refine any_take (i := 21) (v := ?_) rfl (by kernel_rfl) (by kernel_rfl) (by kernel_rfl) (by exact fun _ _ _ h => h) (by rfl) ?_ hS ?_
            rotate_left
            · ((intro w hSw; (try dsimp only at hSw); go_simp) <;> with_reducible rfl)
            (try simp only [Act.put, List.setIfInBounds_toArray, List.set_cons_zero, List.set_cons_succ])
            clear hS
            refine any_on (i := 22) rfl (by kernel_rfl) (fun K hK => ?_)
            go_simp
            refine hK.out _ _ ((Below.refl x5.heap.size x5).alloc (Nat.le_refl _) _) (fun hS => ?_)
            clear hK K
            clear hS
            refine any_on (i := 23) rfl (by kernel_rfl) (fun K hK => ?_)
            go_simp
            refine hK.out _ _ ((Below.refl x5.heap.size x5).alloc (Nat.le_refl _) _) (fun hS => ?_)
            clear hK K
            refine any_one (i := 24) rfl (by kernel_rfl) (fun K hK => ?_)
            go_simp
            refine (Calls.mono (T5.out _ _ (below_then B5 hS))) ?_
            rintro e _ ⟨rfl, rfl⟩
            go_wp2_with fail
            refine hK.out _ _ hS ?_
            clear hK K
            refine any_take (i := 25) (v := ?_) rfl (by kernel_rfl) (by kernel_rfl) (by kernel_rfl) (by exact fun _ _ _ h => h) (by rfl) ?_ hS ?_
            rotate_left
            · ((intro w hSw; (try dsimp only at hSw); go_simp) <;> with_reducible rfl)
            (try simp only [Act.put, List.setIfInBounds_toArray, List.set_cons_zero, List.set_cons_succ])
            refine any_take (i := 26) (v := ?_) rfl (by kernel_rfl) (by kernel_rfl) (by kernel_rfl) (by exact fun _ _ _ h => h) (by rfl) ?_ hS ?_
            rotate_left
            · ((intro w hSw; (try dsimp only at hSw); go_simp) <;> with_reducible rfl)
            (try simp only [Act.put, List.setIfInBounds_toArray, List.set_cons_zero, List.set_cons_succ])
            refine any_take (i := 27) (v := ?_) rfl (by kernel_rfl) (by kernel_rfl) (by kernel_rfl) (by exact fun _ _ _ h => h) (by rfl) ?_ hS ?_
            rotate_left
            · ((intro w hSw; (try dsimp only at hSw); go_simp) <;> with_reducible rfl)
            (try simp only [Act.put, List.setIfInBounds_toArray, List.set_cons_zero, List.set_cons_succ])
            refine any_take (i := 28) (v := ?_) rfl (by kernel_rfl) (by kernel_rfl) (by kernel_rfl) (by exact fun _ _ _ h => h) (by rfl) ?_ hS ?_
            rotate_left
            · ((intro w hSw; (try dsimp only at hSw); go_simp) <;> with_reducible rfl)
            (try simp only [Act.put, List.setIfInBounds_toArray, List.set_cons_zero, List.set_cons_succ])
            have K7 : Hid _ := T6.out _ (below_then B5 hS)
            refine any_one (i := 29) rfl (by kernel_rfl) (fun K hK => ?_)
            go_simp
            refine (Calls.mono (K7.out)) ?_
            rintro e _ ⟨rfl, rfl⟩
            clear K7
            go_wp2_with fail
            refine hK.out _ _ hS ?_
            clear hK K
            refine any_take (i := 30) (v := ?_) rfl (by kernel_rfl) (by kernel_rfl) (by kernel_rfl) (by exact fun _ _ _ h => h) (by rfl) ?_ hS ?_
            rotate_left
            · ((intro w hSw; (try dsimp only at hSw); go_simp) <;> with_reducible rfl)
            (try simp only [Act.put, List.setIfInBounds_toArray, List.set_cons_zero, List.set_cons_succ])
            refine any_take (i := 31) (v := ?_) rfl (by kernel_rfl) (by kernel_rfl) (by kernel_rfl) (by exact fun _ _ _ h => h) (by rfl) ?_ hS ?_
            rotate_left
            · ((intro w hSw; (try dsimp only at hSw); go_simp) <;> with_reducible rfl)
            (try simp only [Act.put, List.setIfInBounds_toArray, List.set_cons_zero, List.set_cons_succ])
            refine any_take (i := 32) (v := ?_) rfl (by kernel_rfl) (by kernel_rfl) (by kernel_rfl) (by exact fun _ _ _ h => h) (by rfl) ?_ hS ?_
            rotate_left
            · ((intro w hSw; (try dsimp only at hSw); go_simp) <;> with_reducible rfl)
            (try simp only [Act.put, List.setIfInBounds_toArray, List.set_cons_zero, List.set_cons_succ])
            have B9 := below_then B5 hS
            refine any_one (i := 33) rfl (by kernel_rfl) (fun K hK => ?_)
            go_simp
            refine (Calls.mono (known3_any _)) ?_
            rintro e x8 ⟨rfl, hbR⟩
            have B8 : Below w12.heap.size w12 x8 := below_then B9 hbR
            go_wp2_with fail
            refine hK.out _ _ (by first | exact B8 | exact hbR | exact below_then hS hbR) (any_weaken (S' := fun W => Below x8.heap.size x8 W) (fun W hW => by first | exact below_then B8 hW | exact below_then hbR hW | exact below_then (below_then hS hbR) hW) _ _ _ _ ?_)
            clear hK K hS hbR
            have hS : Below x8.heap.size x8 x8 := Below.refl _ _
            refine any_take (i := 34) (v := ?_) rfl (by kernel_rfl) (by kernel_rfl) (by kernel_rfl) (by exact fun _ _ _ h => h) (by rfl) ?_ hS ?_
            rotate_left
            · ((intro w hSw; (try dsimp only at hSw); go_simp) <;> with_reducible rfl)
            (try simp only [Act.put, List.setIfInBounds_toArray, List.set_cons_zero, List.set_cons_succ])
            refine any_take (i := 35) (v := ?_) rfl (by kernel_rfl) (by kernel_rfl) (by kernel_rfl) (by exact fun _ _ _ h => h) (by rfl) ?_ hS ?_
            rotate_left
            · ((intro w hSw; (try dsimp only at hSw); go_simp) <;> with_reducible rfl)
            (try simp only [Act.put, List.setIfInBounds_toArray, List.set_cons_zero, List.set_cons_succ])
            refine wpAnyH_done (by kernel_rfl) ?_ _
            go_wp2
            go_ret
            exact ⟨rfl, below_then HB.out B8⟩
end Go.Proofs.Ytmhnlfgakpelkaa
