/- extent: the changes that are told make of the one image the other one. -/
import Derived.Test.YtmkacgdbmojomaaXLd5
import Derived.Test.YtmkacgdbmojomaaXErD
import Derived.Test.YtmkacgdbmojomaaXEx14
import Derived.Test.YtmkacgdbmojomaaXSumC
import Derived.Test.YtmkacgdbmojomaaXEx6
import Derived.Test.YtmkacgdbmojomaaXEr7
namespace Go.Proofs.Ytmkacgdbmojomaa
open Go.RowKit
set_option linter.unusedVariables false
set_option linter.unusedSimpArgs false
set_option maxRecDepth 8000

theorem im_gb {w : World} {g1 b1 g2 b2 : Nat} {m1 m2 : Im} (h1 : (im g1 b1 m1).Ok w) (h2 : (im g2 b2 m2).Ok w) : g2 ≠ b1 := by
  obtain ⟨-, -, es, clock, h3, -⟩ := h1.holds
  obtain ⟨-, k2, -⟩ := h2.holds
  intro e
  subst e
  unfold Blk at k2
  rw [h3] at k2; cases k2
theorem sep_two {B : Nat} {w w' : World} {g1 b1 g2 b2 : Nat} {m1 m2 : Im} (h1 : Sep B [im g1 b1 m1] w) (hb : Below w.heap.size w w') (h2 : Sep w.heap.size [im g2 b2 m2] w') : Sep B [im g1 b1 m1, im g2 b2 m2] w' :=
  (h1.add hb h2.head (fun k hk => h2.new _ (by simp) k hk) (fun k hk p hp e => by
    rw [List.mem_singleton.1 hp] at e
    have e1 : k = g2 := by simpa [im] using hk
    have e2 : k = b1 := by simpa [im] using e
    exact im_gb (h1.later hb).head h2.head (by rw [← e1, e2]))).swap
theorem bytesM_len {m : Im} (h : m.Wf) : (bytesM m).length ≤ 20000 := by
  have h2 := h.most
  have hl := m.used_le
  have e : (bytesM m).length = 4 + (expand (rnN m m.n)).length * 66 := by
    unfold bytesM headE
    rw [List.length_append, encAll_len h, List.length_append, be_length _ _ (by omega), be_length _ _ (by omega)]
  have e2 : (expand (rnN m m.n)).length = m.used := by rw [expand_rn]; exact has_used m
  omega
theorem riLoad_bytes (a : Option Addr) (cap : Nat) (m : Im) (w : World) (hw : m.Wf) (hle : (bytesM m).length ≤ cap) (hr : Row w a (bytesM m)) (hn : a = none → cap = 0) :
    Calls Try.prog 19 #[.slice a (bytesM m).length cap] w fun e w' => ∃ r lb V, e = .returned (.tuple #[.pointer (some ⟨r, 0, none⟩), .int .i64 0]) ∧ (ri r lb V m).Ok w' ∧ (∀ k, k ∈ (ri r lb V m).W ∨ k ∈ (ri r lb V m).V → w.heap.size ≤ k) ∧ Below w.heap.size w w' := by
  refine (riLoad_any a _ cap (bytesM m) w rfl hle hr hn (by have := bytesM_len hw; omega)).mono ?_
  rintro e w' (⟨h, -⟩ | ⟨-, r, lb, V, rfl, h1, h2, h3⟩)
  · rw [ldM_bytes hw] at h; exact absurd rfl h
  · rw [ldM_bytes hw] at h1 h2
    exact ⟨r, lb, V, rfl, h1, h2, h3⟩
set_option maxHeartbeats 16000000 in
theorem extentDiffs_walk (x0 : Int) (a1 : Option Addr) (len1 c1 : Nat) (l1 : List Op5) (a2 : Option Addr) (len2 c2 : Nat) (l2 : List Op5) (x3 : Int) (w : World) (hx : -9223372036854775808 ≤ x0 ∧ x0 ≤ 9223372036854775807)
    (A1 : l1.length = len1 ∧ len1 ≤ 140737488355328 ∧ OArgs w a1 l1) (A2 : l2.length = len2 ∧ len2 ≤ 140737488355328 ∧ OArgs w a2 l2) (hx3 : -9223372036854775808 ≤ x3 ∧ x3 ≤ 9223372036854775807) :
    Calls Try.prog 5 #[.int .i64 x0, .slice a1 len1 c1, .slice a2 len2 c2, .int .i64 x3] w fun e w' => e = .returned (.bool true) ∧ Below w.heap.size w w' := by
  obtain ⟨rfl, e2, e3⟩ := A1
  obtain ⟨rfl, f2, f3⟩ := A2
  have HK : Hid _ := And.intro (ct_any x0 256 w hx (by omega) (by omega)) (And.intro e2 (And.intro e3 (And.intro f2 (And.intro f3 hx3))))
  clear e2 e3 f2 f3 hx hx3
  go_enter Try.func5, Try.ntmps5
  go_wp2_with fail
  refine (Calls.mono HK.out.1) ?_
  rintro e w1 ⟨k, rfl, hk, rfl⟩
  have hP1 := played_any (k + 1) ⟨by omega, by omega⟩ a1 l1.length c1 l1 w rfl HK.out.2.1 HK.out.2.2.1
  have hP2 := fun w2 (hb : Below w.heap.size w w2) => played_any (k + 1) ⟨by omega, by omega⟩ a2 l2.length c2 l2 w2 rfl HK.out.2.2.2.1 (HK.out.2.2.2.2.1.later hb)
  rw [show ((k + 1 : Nat) : Int) = 1 + (k : Int) by omega] at hP1 hP2
  have HM : Hid _ := And.intro (plM_wf (n := k + 1) ⟨by omega, by omega⟩ (l1.take 40)) (And.intro (plM_wf (n := k + 1) ⟨by omega, by omega⟩ (l2.take 40)) (And.intro (plM_n (k + 1) (l1.take 40)) (plM_n (k + 1) (l2.take 40))))
  have HP : Hid _ := And.intro hP1 hP2
  have HX3 : Hid _ := HK.out.2.2.2.2.2
  clear hP1 hP2 HK
  have hk0 : (0 : Int) ≤ (k : Int) := by omega
  have hk1 : (k : Int) < 256 := by omega
  have HKK : Hid _ := hk
  clear hk
  generalize plM (k + 1) (l1.take 40) = m1 at *
  generalize plM (k + 1) (l2.take 40) = m2 at *
  go_wp2_with fail
  refine (Calls.mono HP.out.1) ?_
  rintro e w2 ⟨g1, b1, rfl, hS1, hb1⟩
  go_wp2_with fail
  refine (Calls.mono (HP.out.2 w2 hb1)) ?_
  rintro e w3 ⟨g2, b2, rfl, hS2, hb2⟩
  have H3 : Hid _ := And.intro (sep_two hS1 hb2 hS2) (And.intro (below_then hb1 hb2) HM.out)
  clear hS1 hS2 hb1 hb2 HP
  go_wp2_with fail
  refine (Calls.mono (imBytes_any g1 b1 m1 _ H3.out.1.head HM.out.1)) ?_
  rintro e wx3 ⟨v, rfl, ho, hb3⟩
  obtain ⟨ax3, cx3, rfl, hle, -, hr, hnil, -⟩ := ho.open
  have HLd3 : Hid _ := riLoad_bytes ax3 cx3 m1 wx3 HM.out.1 hle hr hnil
  clear ho hle hr hnil
  go_wp2_with fail
  refine (Calls.mono HLd3.out) ?_
  rintro e wy3 ⟨r3, lb3, V3, rfl, ok3, new3, by3⟩
  have bb3 := below_then hb3 by3
  clear HLd3 hb3 by3 new3
  have H4 : Hid _ := And.intro (H3.out.1.later bb3) (And.intro (below_then H3.out.2.1 bb3) ok3)
  clear H3 bb3 ok3
  go_wp2_with fail
  refine (Calls.mono (imBytes_any g2 b2 m2 _ H4.out.1.tail.head HM.out.2.1)) ?_
  rintro e wx4 ⟨v, rfl, ho, hb4⟩
  obtain ⟨ax4, cx4, rfl, hle, -, hr, hnil, -⟩ := ho.open
  have HLd4 : Hid _ := riLoad_bytes ax4 cx4 m2 wx4 HM.out.2.1 hle hr hnil
  clear ho hle hr hnil
  go_wp2_with fail
  refine (Calls.mono HLd4.out) ?_
  rintro e wy4 ⟨r4, lb4, V4, rfl, ok4, new4, by4⟩
  have bb4 := below_then hb4 by4
  clear HLd4 hb4 by4 new4
  have H5 : Hid _ := And.intro (H4.out.1.later bb4) (And.intro (below_then H4.out.2.1 bb4) (And.intro (H4.out.2.2.later bb4) ok4))
  clear H4 bb4 ok4
  go_wp2_with fail
  have hmn : m2.n = m1.n := by rw [HM.out.2.2.1, HM.out.2.2.2]
  have hdl := dfM_len m1 m2 m1.n
  have hm1 := HM.out.1.most
  have HD : Hid _ := And.intro (dfM_can (m := m1) HM.out.2.1 m1.n m1.n (Nat.le_refl _)) (And.intro (dfM_all HM.out.1 HM.out.2.1 hmn) (And.intro (dfM_each (m := m1) HM.out.2.1 HM.out.2.1.most m1.n hm1) (show (dfM m1 m2 m1.n).length ≤ 256 by omega)))
  have HF1 : Hid _ := imDiff_any g1 b1 m1 g2 b2 m2 wy4 H5.out.1.head H5.out.1.tail.head HM.out.1 HM.out.2.1 hmn
  have HF2 : Hid _ := (fun (W : World) (hW : Below wy4.heap.size wy4 W) => riDiff_any r3 lb3 V3 m1 r4 lb4 V4 m2 W (H5.out.2.2.1.later hW) (H5.out.2.2.2.later hW) HM.out.1 HM.out.2.1 hmn)
  clear hmn hdl hm1
  generalize hdf : dfM m1 m2 m1.n = dl at *
  clear hdf
  refine (Calls.mono HF1.out) ?_
  rintro e w6 ⟨v1, T1, rfl, hT1, hO1, b6⟩
  clear HF1
  go_wp2_with fail
  refine (Calls.mono (HF2.out w6 b6)) ?_
  rintro e w7 ⟨v2, T2, rfl, hT2, hO2, b7⟩
  clear HF2
  have hlen1 : T1.length = dl.length := by rw [← hT1, List.length_map]
  have hlen2 : T2.length = dl.length := by rw [← hT2, List.length_map]
  have hO1' := hO1.later b7
  obtain ⟨qa, d1, rfl, hc1, hA1⟩ := hO1'.args (fun p hp => by have := HD.out.2.2.1 p.1 (by rw [← hT1]; exact List.mem_map_of_mem hp); exact ⟨this.1, by omega⟩)
  obtain ⟨qb, d2, rfl, hc2, hA2⟩ := hO2.args (fun p hp => by have := HD.out.2.2.1 p.1 (by rw [← hT2]; exact List.mem_map_of_mem hp); exact ⟨this.1, by omega⟩)
  rw [hT1] at hA1
  rw [hT2] at hA2
  have hdT : ∀ p ∈ T1, p.1.2.length ≤ 140737488351232 := fun p hp => by have := (HD.out.2.2.1 p.1 (by rw [← hT1]; exact List.mem_map_of_mem hp)).2; omega
  have hbb := below_then b6 b7
  have hlt0 := (fun k (hk : k ∈ (im g1 b1 m1).W ∨ k ∈ (im g1 b1 m1).V) => H5.out.1.head.lt k hk)
  have hlt1 := (fun k (hk : k ∈ (im g2 b2 m2).W ∨ k ∈ (im g2 b2 m2).V) => H5.out.1.tail.head.lt k hk)
  have HN : Hid _ := And.intro (show g1 < wy4.heap.size from hlt0 g1 (.inr (by simp [im]))) (And.intro (show b1 < wy4.heap.size from hlt0 b1 (.inl (by simp [im]))) (And.intro (show g2 < wy4.heap.size from hlt1 g2 (.inr (by simp [im]))) (And.intro (show b2 < wy4.heap.size from hlt1 b2 (.inl (by simp [im]))) (And.intro hdT H5.out.2.1.size))))
  have H7 : Hid _ := And.intro (H5.out.1.later hbb) (And.intro (below_then H5.out.2.1 hbb) (And.intro hO1' (And.intro hA1 hA2)))
  rw [hlen1] at hc1
  rw [hlen1, hlen2]
  have HLn : Hid _ := And.intro hlen1 (And.intro hc1 HD.out.2.2.2)
  have hld : (dl.length : Int) ≤ 256 := by have := HD.out.2.2.2; omega
  have HSm : Hid _ := same05_yes qa qb dl.length d1 d2 dl w7 rfl (by have := HD.out.2.2.2; omega) hA1 hA2
  clear hO1 hO1' hO2 hT1 hT2 hA1 hA2 hdT hlt0 hlt1 hbb b6 b7 H5 hc1 hc2 hlen1 hlen2
  go_wp2_with fail
  refine (Calls.mono HSm.out) ?_
  rintro e w8 ⟨rfl, b8⟩
  clear HSm
  have H8 : Hid _ := And.intro (H7.out.1.later b8) (And.intro (below_then H7.out.2.1 b8) (And.intro (H7.out.2.2.1.later b8) (cargs_later H7.out.2.2.2.1 b8)))
  clear b8 H7
  have hCh := imChange_ans g1 b1 m1 qa dl.length d1 dl w8 H8.out.1.head HM.out.1 rfl HLn.out.2.1 (by have := HLn.out.2.2; omega) H8.out.2.2.2
  rw [HD.out.1, HD.out.2.1] at hCh
  have HCh : Hid _ := hCh
  clear hCh
  go_wp2_with fail
  refine (Calls.mono HCh.out) ?_
  rintro e w9 ⟨rfl, st⟩
  clear HCh
  have H9 : Hid _ := And.intro (H8.out.1.step st) (And.intro (H8.out.2.1.trans (H8.out.1.below st)) (H8.out.2.2.1.turned st.turned (fun q hq e => by have := HN.out.2.1; have e2 : q = b1 := (by simpa [im] using e); omega)))
  clear st H8
  go_wp2_with fail
  refine (Calls.mono (imSame_same m2 g1 b1 g2 b2 w9 H9.out.1.head H9.out.1.tail.head HM.out.2.1)) ?_
  rintro e w10 ⟨rfl, b10⟩
  have H10 : Hid _ := And.intro (H9.out.1.later b10) (And.intro (below_then H9.out.2.1 b10) (H9.out.2.2.later b10))
  clear b10 H9
  go_wp2_with fail
  go_loopw [19] (fun p wr => ∃ j : Nat, p = .int .i64 j ∧ j ≤ dl.length ∧ Sp wr wy4.heap.size (.slice qa dl.length d1) T1 j ∧ Sep w.heap.size [im g1 b1 m2, im g2 b2 m2] wr ∧ Below w.heap.size w wr) (fun p _ => dl.length - (intOf p).toNat)
  case atStart => exact ⟨0, rfl, Nat.zero_le _, ⟨by have := H10.out.2.2.own; rw [HLn.out.1] at this ⊢; exact this, fun i hi _ => H10.out.2.2.each _ (List.getElem_mem hi)⟩, H10.out.1, H10.out.2.1⟩
  case round =>
    obtain ⟨j, rfl, hk, hsp, hse, hb⟩ := hrel
    by_cases hlt : j < dl.length
    · have q1 : (j : Int) < (dl.length : Int) := by omega
      have hlt3 : j < T1.length := by rw [HLn.out.1]; exact hlt
      obtain ⟨vb, hva, hcell⟩ := cs_cell (vc := d1) (va := qa) (by have := hsp.1; rw [HLn.out.1] at this ⊢; exact this) j hlt3
      subst hva
      have hmem := List.getElem_mem hlt3
      have HSP : Hid _ := Spoil_own T1[j].2 wy4.heap.size T1[j].1.2 wr (hsp.2 j hlt3 (Nat.le_refl _)) (HN.out.2.2.2.2.1 _ hmem)
      have hq9 := fun q hq => (World.ownsRow.lt (hsp.2 j hlt3 (Nat.le_refl _)) q hq).1
      have HNN : Hid _ := And.intro (fun w' (hg : wr.grownBy w' T1[j].2.ownBlock) => Sp.step (by have := H10.out.2.2; rw [HLn.out.1] at this; exact this) hsp hlt3 hg) (And.intro hse (And.intro hb hq9))
      obtain ⟨sa, sc, es, -⟩ := (hsp.2 j hlt3 (Nat.le_refl _)).open
      generalize T1[j].1.2.length = n9 at es
      clear hsp hse hb hmem hq9
      generalize T1[j].2 = sv at *
      subst es
      go_wp2_with fail
      refine (Calls.mono HSP.out) ?_
      rintro e w7' ⟨rfl, g7⟩
      have F : Hid _ := And.intro (HNN.out.1 w7' g7) (And.intro (sep_grown HNN.out.2.1 g7 (fun q hq o ho => by
        have z1 := HNN.out.2.2.2 q hq
        have n1 := HN.out.1; have n2 := HN.out.2.1; have n3 := HN.out.2.2.1; have n4 := HN.out.2.2.2.1
        rcases List.mem_cons.1 ho with rfl | ho
        · exact ⟨fun e => by have e2 : q = b1 := (by simpa [im] using e); omega, fun e => by have e2 : q = g1 := (by simpa [im] using e); omega⟩
        · rw [List.mem_singleton.1 ho]; exact ⟨fun e => by have e2 : q = b2 := (by simpa [im] using e); omega, fun e => by have e2 : q = g2 := (by simpa [im] using e); omega⟩)) (HNN.out.2.2.1.grown g7 HNN.out.2.1.base (fun q hq => Nat.le_trans HN.out.2.2.2.2.2 (HNN.out.2.2.2 q hq))))
      clear g7 HSP HNN hcell
      go_wp2
      go_roundw
      case rel => exact ⟨j + 1, by first | rfl | go_num, by omega, F.out.1, F.out.2.1, F.out.2.2⟩
      case measure => simp [intOf]; omega
    · obtain rfl : j = dl.length := by omega
      have q1 : ¬ ((dl.length : Int) < (dl.length : Int)) := by omega
      have F : Hid _ := And.intro hse hb
      clear hsp hse hb hk hlt HLn H10
      go_wp2_with fail
      refine (Calls.mono (imSame_same m2 g1 b1 g2 b2 _ F.out.1.head F.out.1.tail.head HM.out.2.1)) ?_
      rintro e w11 ⟨rfl, b11⟩
      have H11 : Hid _ := And.intro (F.out.1.later b11) (below_then F.out.2 b11)
      clear b11 F
      go_wp2_with fail
      by_cases hz : 1 ≤ x3 ∧ x3 ≤ 256
      · obtain ⟨y, rfl⟩ : ∃ y : Nat, x3 = y := ⟨x3.toNat, by omega⟩
        refine (Calls.mono (imNew_yes y w11 (by omega))) ?_
        rintro e w12 ⟨g3, b3, rfl, -, -, ok3, bb12⟩
        have H12 : Hid _ := And.intro (H11.out.1.later bb12) (And.intro (below_then H11.out.2 bb12) ok3)
        clear bb12 ok3 H11
        have hwz : Hid _ := (show (Im.mk y (fun _ => none)).Wf from ⟨hz.1 |> fun h => by show 1 ≤ y; omega, by show y ≤ 256; omega, fun k l e => by cases e⟩)
        go_wp2_with fail
        by_cases hzk : y = k + 1
        · refine (Calls.mono (imDiff_any g1 b1 m2 g3 b3 ⟨y, fun _ => none⟩ w12 H12.out.1.head H12.out.2.2 HM.out.2.1 hwz.out (by rw [HM.out.2.2.2]; exact hzk))) ?_
          rintro e w13 ⟨v3, T3, rfl, -, -, bb13⟩
          have F : Hid _ := below_then H12.out.2.1 bb13
          clear bb13 H12
          have hq1 : (y : Int) = 1 + (k : Int) := by omega
          go_wp2_with (go_at_call 8; refine (known5_any _).mono ?_; rintro e wk ⟨rfl, hbk⟩)
          go_ret
          exact ⟨rfl, below_then F.out hbk⟩
        · refine (Calls.mono (imDiff_size g1 b1 m2 g3 b3 ⟨y, fun _ => none⟩ w12 H12.out.1.head H12.out.2.2 (by rw [HM.out.2.2.2]; exact fun e => hzk e.symm))) ?_
          rintro e w13 ⟨rfl, bb13⟩
          have F : Hid _ := below_then H12.out.2.1 bb13
          clear bb13 H12
          have hq1 : ¬ ((y : Int) = 1 + (k : Int)) := by omega
          go_wp2_with (go_at_call 8; refine (known5_any _).mono ?_; rintro e wk ⟨rfl, hbk⟩)
          go_ret
          have hq2 : ((y : Int) == 1 + (k : Int)) = false := by simpa using hq1
          exact ⟨by show Ending.returned (.bool (!((y : Int) == 1 + (k : Int)))) = _; rw [hq2]; rfl, below_then F.out hbk⟩
      · refine (Calls.mono (imNew_no x3 w11 HX3.out hz)) ?_
        rintro e _ ⟨rfl, rfl⟩
        go_wp2_with fail
        refine (Calls.mono (imDiff_no g1 w11)) ?_
        rintro e _ ⟨rfl, rfl⟩
        have F : Hid _ := H11.out.2
        clear H11
        go_wp2_with (go_at_call 8; refine (known5_any _).mono ?_; rintro e wk ⟨rfl, hbk⟩)
        go_ret
        exact ⟨rfl, below_then F.out hbk⟩
end Go.Proofs.Ytmkacgdbmojomaa

