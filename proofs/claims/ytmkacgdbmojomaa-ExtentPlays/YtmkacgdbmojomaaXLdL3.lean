/- extent: whatever is written, unmapped and changed. -/
import Derived.Test.YtmkacgdbmojomaaXLg1
import Derived.Test.YtmkacgdbmojomaaXLf2
import Derived.Test.YtmkacgdbmojomaaXLe4
import Derived.Test.YtmkacgdbmojomaaXErD
namespace Go.Proofs.Ytmkacgdbmojomaa
open Go.RowKit
set_option linter.unusedVariables false
set_option linter.unusedSimpArgs false
set_option maxRecDepth 8000

def opO (q : Nat) (xs : List Value) : Ob := ⟨[], [q], fun w => Blk w q 34 xs⟩
theorem opO_ok {q : Nat} {xs : List Value} {w : World} (h : Blk w q 34 xs) : (opO q xs).Ok w :=
  ⟨h, (fun k hk => hk.elim (fun hk => by cases hk) (fun hk => by rw [show k = q by simpa [opO] using hk]; exact h.lt)), (fun k hk => by cases hk), (fun w1 w2 hb h1 => by
    have e := hb q (.inr (by simp [opO]))
    show w2.heap[q]? = _
    rw [e]; exact h1)⟩
theorem sep_op {B : Nat} {a b : Ob} {w w' : World} {q : Nat} {xs : List Value} (h : Sep B [a, b] w) (hb : Below w.heap.size w w') (hq : w.heap.size ≤ q) (hB : Blk w' q 34 xs) : Sep B [a, b, opO q xs] w' :=
  ((h.add hb (opO_ok hB) (fun k hk => by cases hk) (fun k hk p hp e => by
    have e1 : k = q := by simpa [opO] using hk
    have := (h.each p hp).lt k (.inl e)
    omega)).third).third
theorem sep_front {B : Nat} {a b c : Ob} {w : World} (h : Sep B [a, b, c] w) : Sep B [a, b] w := h.third.tail
theorem unmap_first {M : Im} (hM : M.Wf) : uIm M 0 1 = putI M 0 none := by
  unfold uIm
  rw [show spansB M.n 0 1 = true from spansB_nat (x := 0) (y := 1) (by have := hM.one; omega), if_pos rfl]
  rfl
theorem unmap_not {M : Im} (hM : M.Wf) (h : M.has 0 = false) : uIm M 0 1 = M := by
  rw [unmap_first hM]
  refine im_ext' rfl (fun j => ?_)
  show (if j = 0 then none else M.f j) = M.f j
  by_cases hj : j = 0
  · subst hj
    rw [if_pos rfl]
    have h1 := has_nat M 0
    rw [show ((0 : Nat) : Int) = 0 from rfl, h] at h1
    cases hf : M.f 0 with
    | none => rfl
    | some l => rw [hf] at h1; cases h1
  · rw [if_neg hj]
theorem unmap_less {M : Im} (hM : M.Wf) (h : M.has 0 = true) : (uIm M 0 1).used ≠ M.used := by
  rw [unmap_first hM]
  have h1 := has_nat M 0
  rw [show ((0 : Nat) : Int) = 0 from rfl, h] at h1
  obtain ⟨n, hn⟩ : ∃ n, M.n = n + 1 := ⟨M.n - 1, by have := hM.one; omega⟩
  unfold Im.used
  show ((List.range M.n).filter (fun i : Nat => (if i = 0 then none else M.f i).isSome)).length ≠ _
  rw [hn, List.range_succ_eq_map, List.filter_cons_of_neg (by simp), List.filter_cons_of_pos (by rw [← h1])]
  have e : (List.map Nat.succ (List.range n)).filter (fun i : Nat => (if i = 0 then none else M.f i).isSome) = (List.map Nat.succ (List.range n)).filter (fun i : Nat => (M.f i).isSome) := by
    refine List.filter_congr fun i hi => ?_
    obtain ⟨j, -, rfl⟩ := List.mem_map.1 hi
    rw [if_neg (Nat.succ_ne_zero j)]
  rw [e, List.length_cons]
  omega
set_option maxHeartbeats 400000 in
theorem Lent_own (a : Option Addr) (len cap : Nat) (l : List (BitVec 8)) (w : World) (hl : l.length = len) (hle : len ≤ cap) (hbd : len ≤ 140737488351232) (hr : Row w a l) (hn : a = none → cap = 0) :
    Calls Try.prog 9 #[.slice a len cap] w fun e w' => ∃ g c, e = .returned (.slice (some ⟨g, 0, none⟩) len c) ∧ Own w' w.heap.size (.slice (some ⟨g, 0, none⟩) (len + 1) c) (l ++ [167#8]) ∧ w.heap.size ≤ g ∧ len + 1 ≤ c ∧ c ≤ maxLen ∧ Below w.heap.size w w' := by
  go_enter Try.func9, Try.ntmps9
  go_wp2_with (at_builtin; refine wpList_append_bytes _ rfl _ _ rfl w.heap.size _ [] rfl (Own.nil _ _) a len cap l rfl hl hr hn hle (by simp; omega) (Nat.le_refl _) ?_)
  intro v2 w2 ho2 hg2
  have hb2 : Below w.heap.size w w2 := (Below.refl _ _).grown hg2 (Nat.le_refl _) (by simp [Value.ownBlock])
  go_wp2_with (at_builtin; refine wpList_append_bytes _ rfl _ _ rfl w.heap.size v2 l rfl (ho2.later ((Below.refl _ _).alloc (Nat.le_refl _) _)) (some ⟨w2.heap.size, 0, none⟩) 1 1 [167#8] rfl rfl (Row.newl _ _ _ _ _ rfl) (fun h => by cases h) (Nat.le_refl _) (by omega) (by have := hb2.size; simp; omega) ?_)
  intro v3 w3 ho3 hg3
  have hb3 : Below w.heap.size w w3 := (hb2.alloc hb2.size _).grown hg3 (by have := hb2.size; simp; omega) (own_block ho2)
  have hl3 : (l ++ [167#8]).length = len + 1 := by simp; omega
  obtain ⟨a3, cap3, hv3, hle3, hm3, hr3, hn3, hg3'⟩ := ho3.open
  cases a3 with
  | none => have := hn3 rfl; omega
  | some x =>
    obtain ⟨g, rfl, hgg⟩ := hg3' x rfl
    rw [hl3] at hv3 hle3
    subst hv3
    have q1 : (len : Int) ≤ (cap3 : Int) := by omega
    have q2 : (0 : Int) ≤ (len : Int) := by omega
    have HO : Hid _ := ho3
    clear ho3 ho2 hg2 hg3 hr3 hr
    go_wp2
    go_ret
    exact ⟨g, cap3, rfl, HO.out, hgg, hle3, hm3, hb3⟩
theorem OpW.later {w w' : World} {o : Op5} {ab : Option Addr} {bc : Nat} {al : Option Addr} {lc : Nat} (h : OpW w o ab bc al lc) (hb : Below w.heap.size w w') : OpW w' o ab bc al lc := by
  obtain ⟨p1, p2, p3, p4, p5, p6, p7⟩ := h
  exact ⟨p1, p2, p3, ⟨p4.len_eq, p4.le, p4.bound, p4.row.later hb, p4.isNil⟩, cargs_later p5 hb, p6, p7⟩
set_option maxHeartbeats 16000000 in
theorem extentPlays_walk (x0 : Int) (a : Option Addr) (len1 c1 : Nat) (l : List Op5) (w : World) (hx : -9223372036854775808 ≤ x0 ∧ x0 ≤ 9223372036854775807)
    (A1 : l.length = len1 ∧ len1 ≤ 140737488355328 ∧ OArgs w a l) :
    Calls Try.prog 3 #[.int .i64 x0, .slice a len1 c1] w fun e w' => e = .returned (.bool true) ∧ Below w.heap.size w w' := by
  by_cases hr : 1 ≤ x0 ∧ x0 ≤ 256
  · obtain ⟨n, rfl⟩ : ∃ n : Nat, x0 = n := ⟨x0.toNat, by omega⟩
    obtain ⟨rfl, e2, hc⟩ := A1
    have hn : 1 ≤ n ∧ n ≤ 256 := by omega
    have HC : Hid _ := And.intro hc (And.intro hn e2)
    have hlI : (l.length : Int) ≤ 140737488355328 := by omega
    clear hc e2 hx hr
    go_enter Try.func3, Try.ntmps3
    go_wp2_with fail
    refine (Calls.mono (imNew_yes n w hn)) ?_
    rintro e w1 ⟨g, b, rfl, hg, hb, hok, b1⟩
    have hS1 : Sep w.heap.size [im g b (im0 n)] w1 := (sep_none w).fresh b1 hok (fun k hk => by
      rcases hk with hk | hk
      · rw [show k = b by simpa [im] using hk]; exact hb
      · rw [show k = g by simpa [im] using hk]; exact hg)
    have H1 : Hid _ := And.intro hS1 b1
    clear hS1 b1 hok hg hb
    go_wp2_with fail
    refine (Calls.mono (riNew_yes n w1 hn)) ?_
    rintro e w2 ⟨r, lb, rfl, hok, b2, hr, hlb⟩
    have hS2 : Sep w.heap.size [ri r lb [] (im0 n), im g b (im0 n)] w2 := H1.out.1.fresh b2 hok (fun k hk => by
      rcases hk with hk | hk
      · rw [show k = lb by simpa [ri] using hk]; exact hlb
      · rw [show k = r by simpa [ri] using hk]; exact hr)
    have H2 : Hid _ := And.intro hS2.swap (below_then H1.out.2 b2)
    clear hS2 b2 hok hr hlb H1
    go_wp2_with fail
    go_loopw [5, 9] (fun mv p wr => ∃ (k g b : Nat) (V : List Nat) (M : Im), mv = .pointer (some ⟨g, 0, none⟩) ∧ p = .int .i64 k ∧ k ≤ l.length ∧ k ≤ 60 ∧ Sep w.heap.size [im g b M, ri r lb V M] wr ∧ M.Wf ∧ Below w.heap.size w wr) (fun _ p _ => 60 - (intOf p).toNat)
    case atStart => exact ⟨0, g, b, [], im0 n, rfl, rfl, Nat.zero_le _, Nat.zero_le _, H2.out.1, ⟨by show 1 ≤ n; omega, by show n ≤ 256; omega, fun k l e => by cases e⟩, H2.out.2⟩
    case round =>
      clear H2
      obtain ⟨k, ga, ba, V, M, rfl, rfl, hk, hk2, hS, hwf, hbl⟩ := hrel
      by_cases hlt : k < l.length
      · have q1 : (k : Int) < (l.length : Int) := by omega
        by_cases hlt2 : k < 60
        · have q2 : (k : Int) < 60 := by omega
          obtain ⟨p, off, rfl, ab, bc, al, lc, hO⟩ : ∃ p off, a = some ⟨p, off, none⟩ ∧ ∃ ab bc al lc, OpAt wr p off k l[k] ab bc al lc := by
            rcases HC.out.1 with e | ⟨p, off, e, h⟩
            · rw [e] at hlt; simp at hlt
            · obtain ⟨ab, bc, al, lc, h1⟩ := h k hlt
              exact ⟨p, off, e, ab, bc, al, lc, h1.later hbl⟩
          generalize l[k] = o at *
          obtain ⟨kd, lba, nn, bs, Lc⟩ := o
          obtain ⟨c0, c1, c2, c3, c4, hW⟩ := hO
          simp only at c0 c1 c2 c3 c4
          have bx : Below wr.heap.size wr (wr.alloc (.cells #[.int .i64 kd, .int .i64 lba, .int .i64 nn, .slice ab bs.length bc, .slice al Lc.length lc] 34)) := (Below.refl _ _).alloc (Nat.le_refl _) _
          have BX : Blk (wr.alloc (.cells #[.int .i64 kd, .int .i64 lba, .int .i64 nn, .slice ab bs.length bc, .slice al Lc.length lc] 34)) wr.heap.size 34 [.int .i64 kd, .int .i64 lba, .int .i64 nn, .slice ab bs.length bc, .slice al Lc.length lc] := Blk.new' wr _ _
          have x0 := er_at BX 0
          simp only [List.getElem?_cons_succ, List.getElem?_cons_zero] at x0
          have hzX : w.heap.size ≤ (wr.alloc (.cells #[.int .i64 kd, .int .i64 lba, .int .i64 nn, .slice ab bs.length bc, .slice al Lc.length lc] 34)).heap.size := Nat.le_trans hbl.size bx.size
          have HX : Hid _ := And.intro (sep_op hS bx (Nat.le_refl _) BX) (And.intro (hbl.trans (bx.mono hbl.size)) (Below.refl (wr.alloc (.cells #[.int .i64 kd, .int .i64 lba, .int .i64 nn, .slice ab bs.length bc, .slice al Lc.length lc] 34)).heap.size (wr.alloc (.cells #[.int .i64 kd, .int .i64 lba, .int .i64 nn, .slice ab bs.length bc, .slice al Lc.length lc] 34))))
          have HW : Hid _ := And.intro hwf (fun (W : World) (hb : Below (wr.alloc (.cells #[.int .i64 kd, .int .i64 lba, .int .i64 nn, .slice ab bs.length bc, .slice al Lc.length lc] 34)).heap.size (wr.alloc (.cells #[.int .i64 kd, .int .i64 lba, .int .i64 nn, .slice ab bs.length bc, .slice al Lc.length lc] 34)) W) => hW.later (below_then bx hb))
          have HI : Hid _ := And.intro hW.lba hW.nn
          clear hS hbl hW BX bx hwf
          by_cases h5 : kd = 5
          · subst h5
            have hoB := HX.out.1.head
            go_wp2_with fail
            refine (Calls.mono (imBytes_any ga ba M _ hoB HW.out.1)) ?_
            rintro e w3 ⟨v, rfl, ho, b3⟩
            clear hoB
            obtain ⟨bya, bcap, rfl, hble, -, hbr, hbn, -⟩ := ho.open
            have HLe : Hid _ := Lent_own bya _ bcap (bytesM M) w3 rfl hble (by have := bytesM_le HW.out.1; omega) hbr hbn
            have H3 : Hid _ := And.intro (HX.out.1.later b3) (below_then HX.out.2.2 b3)
            clear ho hble hbr hbn b3
            go_wp2_with fail
            refine (Calls.mono HLe.out) ?_
            rintro e w4 ⟨g0, c0, rfl, ho0, hg0, hc0, hm0, b4⟩
            clear HLe
            have HLo : Hid _ := imLoad_any (some ⟨g0, 0, none⟩) _ c0 (bytesM M) w4 rfl (by omega) (row_pre (own_row5 ho0)) (fun h => by cases h) (by have := bytesM_le HW.out.1; omega)
            have H4 : Hid _ := And.intro (H3.out.1.later b4) (And.intro (below_then H3.out.2 b4) (And.intro ho0 (And.intro hg0 (And.intro hc0 (show g0 < w4.heap.size from (World.ownsRow.lt ho0 g0 rfl).2)))))
            clear ho0 hg0 hc0 hm0 b4
            go_wp2_with fail
            refine (Calls.mono HLo.out) ?_
            rintro e w5 (⟨h, -⟩ | ⟨-, g', b', rfl, hok, hnew, b5⟩)
            · rw [ldM_bytes HW.out.1] at h
              exact absurd rfl h
            rw [ldM_bytes HW.out.1] at hok hnew
            clear HLo
            have hS5 := H4.out.1.later b5
            have hNs : Sep w.heap.size [im g' b' M, ri r lb V M, opO wr.heap.size [.int .i64 5, .int .i64 lba, .int .i64 nn, .slice ab bs.length bc, .slice al Lc.length lc]] w5 := H4.out.1.tail.fresh b5 hok hnew
            have H5 : Hid _ := And.intro hNs (And.intro hS5.head (And.intro (below_then H4.out.2.1 b5) (And.intro (H4.out.2.2.1.later b5) (And.intro (fun k hk => Nat.lt_of_lt_of_le H4.out.2.2.2.2.2 (hnew k hk)) b5.size))))
            clear hNs hS5 hok hnew b5
            go_wp2_with fail
            refine (Calls.mono (imSame_same M g' b' ga ba w5 H5.out.1.head H5.out.2.1 HW.out.1)) ?_
            rintro e w6 ⟨rfl, b6⟩
            have hok6 := H5.out.2.1.later b6
            go_wp2_with fail
            refine (Calls.mono (imSame_same M ga ba g' b' w6 hok6 (H5.out.1.later b6).head HW.out.1)) ?_
            rintro e w7 ⟨rfl, b7⟩
            have H7 : Hid _ := And.intro (H5.out.1.later (below_then b6 b7)) (And.intro (below_then H5.out.2.2.1 (below_then b6 b7)) (H5.out.2.2.2.1.later (below_then b6 b7)))
            clear b6 b7 hok6
            go_wp2_with fail
            refine (Calls.mono (spoil_lent5 H7.out.2.2 (by have := bytesM_le HW.out.1; omega) H4.out.2.2.2.2.1)) ?_
            rintro e wS ⟨rfl, gS⟩
            have hlts := H3.out.1
            have hz3 := H4.out.2.2.2.1
            have hSS := sep_grown H7.out.1 gS (fun q hq o ho => by
              cases hq
              rcases List.mem_cons.1 ho with rfl | ho
              · exact ⟨fun e => by have := H5.out.2.2.2.2.1 g0 (.inl e); omega, fun e => by have := H5.out.2.2.2.2.1 g0 (.inr e); omega⟩
              · exact ⟨fun e => by have := (hlts.each o (List.mem_cons_of_mem _ ho)).lt g0 (.inl e); omega, fun e => by have := (hlts.each o (List.mem_cons_of_mem _ ho)).lt g0 (.inr e); omega⟩)
            have hbS := H7.out.2.1.grown gS H7.out.2.1.size (fun q hq => by cases hq; exact Nat.le_trans H3.out.2.size hz3)
            have HS7 : Hid _ := And.intro hSS (And.intro (HX.out.2.1.trans (hbS.mono hzX)) hbS)
            clear hSS hlts hz3 gS H7 H5 H4 H3 hbS
            have hblk := HS7.out.1.tail.tail.head.holds
            have y0 := er_at hblk 0
            have y1 := er_at hblk 1
            have y2 := er_at hblk 2
            have y3 := er_at hblk 3
            have y4 := er_at hblk 4
            simp only [List.getElem?_cons_succ, List.getElem?_cons_zero] at y0 y1 y2 y3 y4
            have HSt : Hid _ := step_any g' b' r lb V M ⟨5, lba, nn, bs, Lc⟩ ab bc al lc w.heap.size _ HS7.out.1 HW.out.1 (HW.out.2 _ HS7.out.2.2)
            unfold opV at HSt
            clear hblk
            go_wp2_with fail
            refine (Calls.mono HSt.out) ?_
            rintro e w8 ⟨rfl, V', hS8, hb8⟩
            clear HSt y0 y1 y2 y3 y4
            have hblk := hS8.tail.tail.head.holds
            have y1 := er_at hblk 1
            have y2 := er_at hblk 2
            simp only [List.getElem?_cons_succ, List.getElem?_cons_zero] at y1 y2
            have H8 : Hid _ := And.intro (sep_front hS8) (And.intro (HS7.out.2.1.trans hb8) (st5_wf HW.out.1 ⟨5, lba, nn, bs, Lc⟩))
            clear hblk hS8 hb8
            go_wp2_with fail
            refine (Calls.mono (alike_any g' b' r lb V' _ lba nn w8 H8.out.1.head H8.out.1.tail.head H8.out.2.2 HI.out.1 HI.out.2)) ?_
            rintro e w9 ⟨rfl, b9⟩
            have F : Hid _ := And.intro (H8.out.1.later b9) (And.intro H8.out.2.2 (H8.out.2.1.trans (b9.mono H8.out.1.base)))
            clear b9 H8 y1 y2 HW
            go_wp2
            go_roundw
            case rel => exact ⟨k + 1, g', b', V', _, rfl, by first | rfl | go_num, by omega, by omega, F.out.1, F.out.2.1, F.out.2.2⟩
            case measure => simp [intOf]; omega
          · have e5 : (kd == 5) = false := by simpa using h5
            have hblk := HX.out.1.tail.tail.head.holds
            have y0 := er_at hblk 0
            have y1 := er_at hblk 1
            have y2 := er_at hblk 2
            have y3 := er_at hblk 3
            have y4 := er_at hblk 4
            simp only [List.getElem?_cons_succ, List.getElem?_cons_zero] at y0 y1 y2 y3 y4
            have HSt : Hid _ := step_any ga ba r lb V M ⟨kd, lba, nn, bs, Lc⟩ ab bc al lc w.heap.size _ HX.out.1 HW.out.1 (HW.out.2 _ HX.out.2.2)
            unfold opV at HSt
            clear hblk
            go_wp2_with fail
            refine (Calls.mono HSt.out) ?_
            rintro e w8 ⟨rfl, V', hS8, hb8⟩
            clear HSt y0 y1 y2 y3 y4
            have hblk := hS8.tail.tail.head.holds
            have y1 := er_at hblk 1
            have y2 := er_at hblk 2
            simp only [List.getElem?_cons_succ, List.getElem?_cons_zero] at y1 y2
            have H8 : Hid _ := And.intro (sep_front hS8) (And.intro (HX.out.2.1.trans hb8) (st5_wf HW.out.1 ⟨kd, lba, nn, bs, Lc⟩))
            clear hblk hS8 hb8
            go_wp2_with fail
            refine (Calls.mono (alike_any ga ba r lb V' _ lba nn w8 H8.out.1.head H8.out.1.tail.head H8.out.2.2 HI.out.1 HI.out.2)) ?_
            rintro e w9 ⟨rfl, b9⟩
            have F : Hid _ := And.intro (H8.out.1.later b9) (And.intro H8.out.2.2 (H8.out.2.1.trans (b9.mono H8.out.1.base)))
            clear b9 H8 y1 y2 HW
            go_wp2
            go_roundw
            case rel => exact ⟨k + 1, ga, ba, V', _, rfl, by first | rfl | go_num, by omega, by omega, F.out.1, F.out.2.1, F.out.2.2⟩
            case measure => simp [intOf]; omega
        · obtain rfl : k = 60 := by omega
          have q2 : ¬ ((60 : Int) < 60) := by omega
          have H9 : Hid _ := And.intro hS (And.intro hbl hwf)
          clear hS hbl hwf
          go_wp2_with fail
          refine (Calls.mono (imCopy_any ga ba M wr H9.out.1.head)) ?_
          rintro e w3 ⟨g3, rfl, b3, ok3, hg3, hb3, bb3⟩
          have hS3 : Sep w.heap.size [im g3 b3 M, im ga ba M, ri r lb V M] w3 := H9.out.1.fresh bb3 ok3 (fun k hk => hk.elim (fun hk => by rw [show k = b3 by simpa [im] using hk]; exact hb3) (fun hk => by rw [show k = g3 by simpa [im] using hk]; exact hg3))
          have H3 : Hid _ := And.intro hS3 (below_then H9.out.2.1 bb3)
          clear hS3 ok3 hg3 hb3 bb3
          go_wp2_with fail
          refine (Calls.mono (imSame_same M g3 b3 ga ba w3 H3.out.1.head H3.out.1.tail.head H9.out.2.2)) ?_
          rintro e w4 ⟨rfl, b4⟩
          have H4 : Hid _ := And.intro (H3.out.1.later b4) (below_then H3.out.2 b4)
          clear b4 H3
          go_wp2_with fail
          refine (Calls.mono (imSame_toNil ga w4)) ?_
          rintro e _ ⟨rfl, rfl⟩
          go_wp2_with fail
          refine (Calls.mono (imHas_any g3 b3 M 0 w4 H4.out.1.head H9.out.2.2 (by unfold I64; omega))) ?_
          rintro e w5 ⟨rfl, b5⟩
          have H5 : Hid _ := And.intro (H4.out.1.later b5) (below_then H4.out.2 b5)
          clear b5 H4
          cases hh : M.has 0 with
          | false =>
            have HH : Hid _ := hh
            clear hh
            go_wp2_with fail
            refine (Calls.mono (imUnmap_ans g3 b3 M 0 1 w5 H5.out.1.head H9.out.2.2 (by unfold I64; omega) (by unfold I64; omega))) ?_
            rintro e w6 ⟨rfl, st⟩
            have hS6 := H5.out.1.step st
            have hbb6 := H5.out.2.trans (H5.out.1.below st)
            clear st H5
            have hw6 : (uIm M 0 1).Wf := uIm_wf H9.out.2.2 0 1
            rw [unmap_not H9.out.2.2 HH.out] at hS6
            have HSm : Hid _ := imSame_same M g3 b3 ga ba w6 hS6.head hS6.tail.head H9.out.2.2
            have H6 : Hid _ := And.intro hS6.tail hbb6
            clear hS6 hbb6 hw6
            go_wp2_with fail
            refine (Calls.mono HSm.out) ?_
            rintro e w7 ⟨rfl, b7⟩
            have H7 : Hid _ := And.intro (H6.out.1.later b7) (H6.out.2.trans (b7.mono H6.out.1.base))
            clear b7 H6 HSm
            go_wp2_with fail
            refine (Calls.mono (alike_any ga ba r lb V M 0 1 w7 H7.out.1.head H7.out.1.tail.head H9.out.2.2 (by unfold I64; omega) (by unfold I64; omega))) ?_
            rintro e w8 ⟨rfl, b8⟩
            have F : Hid _ := H7.out.2.trans (b8.mono H7.out.1.base)
            clear b8 H7
            go_wp2_with (go_at_call 8; refine (known5_any _).mono ?_; rintro e wk ⟨rfl, hbk⟩)
            go_ret
            exact ⟨rfl, below_then F.out hbk⟩
          | true =>
            have HH : Hid _ := hh
            clear hh
            go_wp2_with fail
            refine (Calls.mono (imUnmap_ans g3 b3 M 0 1 w5 H5.out.1.head H9.out.2.2 (by unfold I64; omega) (by unfold I64; omega))) ?_
            rintro e w6 ⟨rfl, st⟩
            have hS6 := H5.out.1.step st
            have hbb6 := H5.out.2.trans (H5.out.1.below st)
            clear st H5
            have hw6 : (uIm M 0 1).Wf := uIm_wf H9.out.2.2 0 1
            have HSm : Hid _ := imSame_len (uIm M 0 1) M g3 b3 ga ba w6 hS6.head hS6.tail.head hw6 H9.out.2.2 (uIm_n M 0 1).symm (unmap_less H9.out.2.2 HH.out)
            have H6 : Hid _ := And.intro hS6.tail hbb6
            clear hS6 hbb6 hw6
            go_wp2_with fail
            refine (Calls.mono HSm.out) ?_
            rintro e w7 ⟨rfl, b7⟩
            have H7 : Hid _ := And.intro (H6.out.1.later b7) (H6.out.2.trans (b7.mono H6.out.1.base))
            clear b7 H6 HSm
            go_wp2_with fail
            refine (Calls.mono (alike_any ga ba r lb V M 0 1 w7 H7.out.1.head H7.out.1.tail.head H9.out.2.2 (by unfold I64; omega) (by unfold I64; omega))) ?_
            rintro e w8 ⟨rfl, b8⟩
            have F : Hid _ := H7.out.2.trans (b8.mono H7.out.1.base)
            clear b8 H7
            go_wp2_with (go_at_call 8; refine (known5_any _).mono ?_; rintro e wk ⟨rfl, hbk⟩)
            go_ret
            exact ⟨rfl, below_then F.out hbk⟩
      · obtain rfl : k = l.length := by omega
        have q1 : ¬ ((l.length : Int) < (l.length : Int)) := by omega
        have H9 : Hid _ := And.intro hS (And.intro hbl hwf)
        clear hS hbl hwf
        go_wp2_with fail
        refine (Calls.mono (imCopy_any ga ba M wr H9.out.1.head)) ?_
        rintro e w3 ⟨g3, rfl, b3, ok3, hg3, hb3, bb3⟩
        have hS3 : Sep w.heap.size [im g3 b3 M, im ga ba M, ri r lb V M] w3 := H9.out.1.fresh bb3 ok3 (fun k hk => hk.elim (fun hk => by rw [show k = b3 by simpa [im] using hk]; exact hb3) (fun hk => by rw [show k = g3 by simpa [im] using hk]; exact hg3))
        have H3 : Hid _ := And.intro hS3 (below_then H9.out.2.1 bb3)
        clear hS3 ok3 hg3 hb3 bb3
        go_wp2_with fail
        refine (Calls.mono (imSame_same M g3 b3 ga ba w3 H3.out.1.head H3.out.1.tail.head H9.out.2.2)) ?_
        rintro e w4 ⟨rfl, b4⟩
        have H4 : Hid _ := And.intro (H3.out.1.later b4) (below_then H3.out.2 b4)
        clear b4 H3
        go_wp2_with fail
        refine (Calls.mono (imSame_toNil ga w4)) ?_
        rintro e _ ⟨rfl, rfl⟩
        go_wp2_with fail
        refine (Calls.mono (imHas_any g3 b3 M 0 w4 H4.out.1.head H9.out.2.2 (by unfold I64; omega))) ?_
        rintro e w5 ⟨rfl, b5⟩
        have H5 : Hid _ := And.intro (H4.out.1.later b5) (below_then H4.out.2 b5)
        clear b5 H4
        cases hh : M.has 0 with
        | false =>
          have HH : Hid _ := hh
          clear hh
          go_wp2_with fail
          refine (Calls.mono (imUnmap_ans g3 b3 M 0 1 w5 H5.out.1.head H9.out.2.2 (by unfold I64; omega) (by unfold I64; omega))) ?_
          rintro e w6 ⟨rfl, st⟩
          have hS6 := H5.out.1.step st
          have hbb6 := H5.out.2.trans (H5.out.1.below st)
          clear st H5
          have hw6 : (uIm M 0 1).Wf := uIm_wf H9.out.2.2 0 1
          rw [unmap_not H9.out.2.2 HH.out] at hS6
          have HSm : Hid _ := imSame_same M g3 b3 ga ba w6 hS6.head hS6.tail.head H9.out.2.2
          have H6 : Hid _ := And.intro hS6.tail hbb6
          clear hS6 hbb6 hw6
          go_wp2_with fail
          refine (Calls.mono HSm.out) ?_
          rintro e w7 ⟨rfl, b7⟩
          have H7 : Hid _ := And.intro (H6.out.1.later b7) (H6.out.2.trans (b7.mono H6.out.1.base))
          clear b7 H6 HSm
          go_wp2_with fail
          refine (Calls.mono (alike_any ga ba r lb V M 0 1 w7 H7.out.1.head H7.out.1.tail.head H9.out.2.2 (by unfold I64; omega) (by unfold I64; omega))) ?_
          rintro e w8 ⟨rfl, b8⟩
          have F : Hid _ := H7.out.2.trans (b8.mono H7.out.1.base)
          clear b8 H7
          go_wp2_with (go_at_call 8; refine (known5_any _).mono ?_; rintro e wk ⟨rfl, hbk⟩)
          go_ret
          exact ⟨rfl, below_then F.out hbk⟩
        | true =>
          have HH : Hid _ := hh
          clear hh
          go_wp2_with fail
          refine (Calls.mono (imUnmap_ans g3 b3 M 0 1 w5 H5.out.1.head H9.out.2.2 (by unfold I64; omega) (by unfold I64; omega))) ?_
          rintro e w6 ⟨rfl, st⟩
          have hS6 := H5.out.1.step st
          have hbb6 := H5.out.2.trans (H5.out.1.below st)
          clear st H5
          have hw6 : (uIm M 0 1).Wf := uIm_wf H9.out.2.2 0 1
          have HSm : Hid _ := imSame_len (uIm M 0 1) M g3 b3 ga ba w6 hS6.head hS6.tail.head hw6 H9.out.2.2 (uIm_n M 0 1).symm (unmap_less H9.out.2.2 HH.out)
          have H6 : Hid _ := And.intro hS6.tail hbb6
          clear hS6 hbb6 hw6
          go_wp2_with fail
          refine (Calls.mono HSm.out) ?_
          rintro e w7 ⟨rfl, b7⟩
          have H7 : Hid _ := And.intro (H6.out.1.later b7) (H6.out.2.trans (b7.mono H6.out.1.base))
          clear b7 H6 HSm
          go_wp2_with fail
          refine (Calls.mono (alike_any ga ba r lb V M 0 1 w7 H7.out.1.head H7.out.1.tail.head H9.out.2.2 (by unfold I64; omega) (by unfold I64; omega))) ?_
          rintro e w8 ⟨rfl, b8⟩
          have F : Hid _ := H7.out.2.trans (b8.mono H7.out.1.base)
          clear b8 H7
          go_wp2_with (go_at_call 8; refine (known5_any _).mono ?_; rintro e wk ⟨rfl, hbk⟩)
          go_ret
          exact ⟨rfl, below_then F.out hbk⟩
  · have HN1 : Hid _ := imNew_no x0 w hx hr
    have HN2 : Hid _ := riNew_no x0 w (by omega)
    clear hx hr A1
    go_enter Try.func3, Try.ntmps3
    go_wp2_with fail
    refine (Calls.mono HN1.out) ?_
    rintro e _ ⟨rfl, rfl⟩
    go_wp2_with fail
    refine (Calls.mono HN2.out) ?_
    rintro e _ ⟨rfl, rfl⟩
    go_wp2_with (go_at_call 8; refine (known5_any _).mono ?_; rintro e wk ⟨rfl, hbk⟩)
    go_ret
    exact ⟨rfl, hbk⟩
end Go.Proofs.Ytmkacgdbmojomaa

