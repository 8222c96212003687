/- The walk of the law on what is safe. -/
import Derived.Test.YtphallacfloohaaDkP
import Derived.Deep.CutRange
namespace Go.Proofs.Ytphallacfloohaa
open Go.RowKit
set_option linter.unusedVariables false

theorem Dm.Wf.ofSize {d : Dm} {n : Nat} (h : d.Wf) (hs : d.safe.length = n * 256) : d.n = n := Dm.n_of hs
/-- the states hold what was read behind each group -/
structure Seen (d : Dm) (ls : List (List (BitVec 8))) : Prop where
  each : ∀ i, i ≤ d.gs.length → nowOf d.safe (d.gs.take i) ∈ ls
  len : ∀ L ∈ ls, L.length = 2048
theorem Seen.write {d : Dm} {ls : List (List (BitVec 8))} (h : Seen d ls) (hw : d.Wf) (hl : d.safe.length = 2048) (n : Int) (lb : List (BitVec 8)) : Seen (wrD d n lb).1 (ls ++ [nowOf (wrD d n lb).1.safe (wrD d n lb).1.gs]) := by
  have hnl : ∀ e : Dm, e.Wf → e.safe.length = 2048 → (nowOf e.safe e.gs).length = 2048 := fun e he h2 => by rw [he.now]; exact h2
  have hwf := wrD_wf hw n lb
  have hs : (wrD d n lb).1.safe = d.safe := wrD_n n lb
  refine ⟨fun i hi => ?_, fun L hL => ?_⟩
  · rw [hs]
    by_cases hgs : (wrD d n lb).1.gs = d.gs
    · rw [hgs] at hi ⊢
      exact List.mem_append_left _ (h.each i hi)
    · have hgs' : ∃ g, (wrD d n lb).1.gs = d.gs ++ [g] := by
        unfold wrD at hgs ⊢
        split at hgs
        · exact absurd rfl hgs
        · rename_i h1
          rw [if_neg h1]
          split at hgs
          · rename_i h2
            rw [if_pos h2]
            exact ⟨_, rfl⟩
          · exact absurd rfl hgs
      obtain ⟨g, hg⟩ := hgs'
      rw [hg] at hi ⊢
      rw [List.length_append, List.length_singleton] at hi
      by_cases hi' : i ≤ d.gs.length
      · rw [List.take_append_of_le_length hi']
        exact List.mem_append_left _ (h.each i hi')
      · have : i = d.gs.length + 1 := by omega
        subst this
        rw [List.take_of_length_le (by simp)]
        exact List.mem_append_right _ (List.mem_singleton.2 rfl)
  · rcases List.mem_append.1 hL with hL | hL
    · exact h.len L hL
    · rw [List.mem_singleton] at hL
      subst hL
      exact hnl _ hwf (by rw [hs]; exact hl)
theorem wrD_do {d : Dm} {k n : Int} {lb : List (BitVec 8)} {il : List Int} (h : k = 0 ∨ k = 1) : dmDo d k n lb il = wrD d n lb := by unfold dmDo; rw [if_pos h]

theorem Row.cutAt {w : World} {b off : Nat} {l : List (BitVec 8)} (h : Row w (some ⟨b, off, none⟩) l) (m k : Nat) : Row w (some ⟨b, off + m, none⟩) ((l.drop m).take k) := by
  rcases h with rfl | ⟨b', o, hb, hc⟩
  · exact .inl (by simp)
  · cases hb
    refine .inr ⟨b, off + m, rfl, fun i hi => ?_⟩
    have hi' : i < k ∧ i < l.length - m := by simp at hi; omega
    have := hc (m + i) (by omega)
    rw [Nat.add_assoc, this]
    unfold bt
    rw [List.getD, List.getD, List.getElem?_take, if_pos hi'.1, List.getElem?_drop]

set_option maxRecDepth 20000 in
set_option maxHeartbeats 4000000 in
theorem diskSafe_walk (oa : Option Addr) (olen ocap : Nat) (pa : Option Addr) (plen pcap : Nat) (ka : Option Addr) (klen kcap : Nat) (kl : List Int) (w : World) (O : DOps w oa olen ocap) (P : DOps w pa plen pcap) (I : IArg 140737488351232 w ka klen kcap kl) :
    Calls Try.prog 4 #[.slice oa olen ocap, .slice pa plen pcap, .slice ka klen kcap] w fun e w' => e = .returned (.bool true) ∧ Below w.heap.size w w' := by
  have hol : olen ≤ maxLen := Nat.le_trans O.le O.most
  have hpl : plen ≤ maxLen := Nat.le_trans P.le P.most
  unfold maxLen at hol hpl
  have HO : Hid _ := And.intro O (And.intro P I)
  clear O P I
  go_enter Try.func4, Try.ntmps4
  go_wp2_with fail
  refine (New_yes 8 w (by omega) (by omega)).mono ?_
  rintro e w1 ⟨g, s, m, rfl, ok1, hg1, hs1, hm1, hb1⟩
  have sep1 : Sep w.heap.size [dk g ⟨s, m, none, []⟩ ⟨List.replicate (8 * 256) 0#8, [], false, false⟩] w1 := Sep.fresh (Sep.nil (w := w)) hb1 ok1 (fun k hk => by simp [dk] at hk; rcases hk with rfl | rfl | rfl <;> assumption)
  have K1 : Hid _ := And.intro sep1 hb1
  clear ok1 sep1 hb1 hg1 hs1 hm1
  go_wp2_with fail
  go_loopw [9] (fun i wr => ∃ (k : Nat) (p : Pl) (d : Dm), k ≤ olen ∧ k ≤ 40 ∧ i = .int .i64 k ∧ Sep w.heap.size [dk g p d] wr ∧ Below w.heap.size w wr ∧ d.Wf ∧ d.gs.length ≤ k ∧ d.safe.length = 2048) (fun i _ => 40 - (intOf i).toNat)
  case atStart => exact ⟨0, _, _, by omega, by omega, rfl, K1.out.1, K1.out.2, wf_new 8 (by omega) (by omega), Nat.le_refl _, List.length_replicate ..⟩
  case round =>
    obtain ⟨k, p, d, hk1, hk2, rfl, sep, hbr, hwf, hgl, hdl⟩ := hrel
    have K2 : Hid _ := And.intro sep (And.intro hbr (And.intro hwf hdl))
    clear sep hbr hwf hdl K1
    go_upto_region 5 with fail
    go_cut [35] from 28 to 43 (fun c wx => c = .bool (decide (k < olen ∧ k < 40)) ∧ wx = wr)
    case first =>
      clear HO K2
      by_cases t1 : (k : Int) < (olen : Int)
      · by_cases t2 : (k : Int) < 40
        · go_wp2
          go_meet
          exact ⟨congrArg Value.bool (decide_eq_true (p := k < olen ∧ k < 40) (by omega)).symm, rfl⟩
        · go_wp2
          go_meet
          exact ⟨congrArg Value.bool (decide_eq_false (p := k < olen ∧ k < 40) (by omega)).symm, rfl⟩
      · go_wp2
        go_meet
        exact ⟨congrArg Value.bool (decide_eq_false (p := k < olen ∧ k < 40) (by omega)).symm, rfl⟩
    case rest =>
    obtain ⟨rfl, hwc⟩ := hcut
    obtain rfl := hwc.symm
    clear hwc
    by_cases hlt' : k < olen ∧ k < 40
    · have hdec : decide (k < olen ∧ k < 40) = true := decide_eq_true hlt'
      rw [hdec]
      clear hdec
      obtain ⟨t1, t2⟩ := hlt'
      obtain ⟨sep, hbr, hwf, hdl⟩ := K2.out
      obtain ⟨b, off, rfl, hop⟩ := HO.out.1.each (by omega)
      obtain ⟨K, N, xv, lv, o0, o1, o2, o3, D⟩ := hop k t1
      obtain ⟨xa, xl, xc, xb, rfl, XA⟩ := D.bytes
      obtain ⟨ia, il, ic, ii, rfl, IA⟩ := D.ints
      have c0 := cell_later hbr o0
      have c1 := cell_later hbr o1
      have c2 := cell_later hbr o2
      have c3 := cell_later hbr o3
      have hD : Hid _ := do_any w g p d K N xa xl xc xb ia il ic ii wr sep.head hwf (by omega) D.nums XA IA hbr (sep.new _ (by simp))
      have q1 : (k : Int) < (olen : Int) := by omega
      have hgl' := dmDo_len d K N xb ii
      have F0 : Hid _ := And.intro sep (And.intro hbr (And.intro (dmDo_wf hwf K N xb ii) ((dmDo_size hwf K N xb ii).trans hdl)))
      clear sep hbr hwf hdl o0 o1 o2 o3 XA IA D hop K2 HO
      go_wp2_with fail
      refine (Calls.mono hD.out) ?_
      rintro e w3 ⟨p3, rfl, st⟩
      have F : Hid _ := And.intro (F0.out.1.step st) (And.intro (F0.out.2.1.trans (F0.out.1.below st)) F0.out.2.2)
      clear st F0 hD
      go_wp2
      go_roundw
      case rel => exact ⟨k + 1, p3, _, by omega, by omega, by go_num, F.out.1, F.out.2.1, F.out.2.2.1, by omega, F.out.2.2.2⟩
      case measure => simp [intOf]; omega
    · have hdec : decide (k < olen ∧ k < 40) = false := decide_eq_false hlt'
      rw [hdec]
      clear hdec
      obtain ⟨wy, hwy⟩ : ∃ wy, wy = wr := ⟨_, rfl⟩
      subst hwy
      obtain ⟨sep, hbr, hwf, hdl⟩ := K2.out
      have HC := Crash_any g p d none 0 [] wy sep.head hwf (by omega) (by simp) (by simp) ⟨(fun x hx => by cases hx), .inl rfl⟩ (fun h => absurd rfl h)
      rw [crashed_none hwf.fits, List.length_nil] at HC
      have H2 : Hid _ := And.intro HC (And.intro sep (And.intro hbr (And.intro hwf hdl)))
      clear HC sep hbr hwf hdl K2
      go_wp2_with fail
      refine (Calls.mono H2.out.1) ?_
      rintro e w4 ⟨rfl, st4⟩
      obtain ⟨-, sep, hbr, hwf, hdl⟩ := H2.out
      have s4 := sep.step st4
      have hb4 := hbr.trans (sep.below st4)
      have wf4 : Dm.Wf ⟨d.safe, [], false, false⟩ := ⟨hwf.size, fun x hx => by cases hx⟩
      have HI : Hid _ := Image_any g _ _ w4 s4.head wf4
      have H4 : Hid _ := And.intro s4 (And.intro hb4 (And.intro wf4 hdl))
      clear s4 hb4 wf4 hdl hwf hbr sep st4 H2
      generalize d.safe = SA at *
      go_wp2_with fail
      refine (Calls.mono HI.out) ?_
      rintro e w5 ⟨v5, rfl, o5, b5⟩
      obtain ⟨s4, hb4, wf4, hdl⟩ := H4.out
      obtain ⟨k5, c5, rfl, hk5, hk5'⟩ := o5.some (by rw [hdl]; omega)
      obtain ⟨hcap5, -⟩ : SA.length ≤ c5 ∧ True := by
        obtain ⟨a1, cap1, hv1, hle1, _, _, _, _⟩ := o5.open
        simp only [Value.slice.injEq] at hv1
        exact ⟨by show SA.length ≤ c5; have h' : SA.length ≤ cap1 := hle1; omega, trivial⟩
      have hdl' : SA.length = 2048 := hdl
      have o5' : Own w5 w4.heap.size (.slice (some ⟨k5, 0, none⟩) SA.length c5) SA := o5
      have z5 := b5.size
      have okn : (stOb (.slice none 0 0) [] []).Ok w4 := stOb_ok (vs := []) (World.ownsRow_nil _ _ _ _) trivial (fun k hk => by cases hk) (fun k hk => by simp [Value.ownBlock] at hk)
      have s4' : Sep w.heap.size [stOb (.slice none 0 0) [] [], dk g ⟨p.s, p.m, none, []⟩ ⟨SA, [], false, false⟩] w4 := s4.add (Below.refl _ _) okn (fun k hk => by simp [stOb, Value.ownBlock] at hk) (fun k hk => by cases hk)
      have b6 : Below w5.heap.size w5 (w5.alloc (.cells #[.slice (some ⟨k5, 0, none⟩) SA.length c5] 22)) := (Below.refl _ _).alloc (Nat.le_refl _) _
      have B6 : Blk (w5.alloc (.cells #[.slice (some ⟨k5, 0, none⟩) SA.length c5] 22)) w5.heap.size 22 [.slice (some ⟨k5, 0, none⟩) SA.length c5] := Blk.new' _ _ _
      have H5 : Hid _ := And.intro (below_then b5 b6) (And.intro B6 (And.intro (o5'.later b6) (And.intro okn (And.intro s4' (And.intro hb4 (And.intro wf4 hdl'))))))
      have hq : ((SA.length : Int) != 2048) = false := by rw [bne_eq_false_iff_eq]; omega
      clear b6 B6 o5 o5' okn s4' s4 hb4 wf4 hdl hdl' HI H4 b5
      go_wp2_with (at_builtin; refine wpList_append_state _ rfl _ _ rfl (.slice none 0 0) [] [] rfl w4 H5.out.2.2.2.1 H5.out.1 (by simp) w5.heap.size rfl w4.heap.size k5 c5 SA H5.out.2.1 H5.out.2.2.1 hk5 ?_)
      intro v6 w6 st6 hg6
      obtain ⟨bb, -, -, -, s4', hb4, wf4, hdl'⟩ := H5.out
      have s6 := s4'.step st6
      have hb6 := hb4.trans (s4'.below st6)
      have H6 : Hid _ := And.intro s6 (And.intro hb6 (And.intro wf4 hdl'))
      have hq' : Hid (SA.length = 2048) := hdl'
      clear bb s4' hb4 wf4 hdl' s6 hb6 st6 hg6 H5 hq
      go_wp2_with fail
      go_loopw [11, 12] (fun sv i wr => ∃ (k : Nat) (p : Pl) (d : Dm) (V : List Nat) (ls : List (List (BitVec 8))), k ≤ plen ∧ k ≤ 40 ∧ i = .int .i64 k ∧ Sep w.heap.size [stOb sv V ls, dk g p d] wr ∧ Below w.heap.size w wr ∧ d.Wf ∧ d.gs.length ≤ k ∧ d.safe.length = 2048 ∧ Seen d ls ∧ ls.length ≤ k + 1) (fun _ i _ => 40 - (intOf i).toNat)
      case atStart =>
        obtain ⟨s6, hb6, wf4, hdl'⟩ := H6.out
        exact ⟨0, _, _, _, _, by omega, by omega, rfl, s6, hb6, wf4, Nat.le_refl _, hdl', ⟨fun i hi => by
          obtain rfl : i = 0 := by simpa using hi
          exact List.mem_singleton.2 rfl, fun L hL => by rw [List.mem_singleton] at hL; subst hL; exact hdl'⟩, by simp⟩
      case round =>
        obtain ⟨j, p2, d2, V, ls, hk1', hk2', rfl, sep, hbr, hwf, hgl', hdl, hsn, hll⟩ := hrel
        have K3 : Hid _ := And.intro sep (And.intro hbr (And.intro hwf (And.intro hdl hsn)))
        clear sep hbr hwf hdl hsn H6
        go_upto_region 15 with fail
        go_cut [62] from 55 to 95 (fun c wx => c = .bool (decide (j < plen ∧ j < 40)) ∧ wx = wr)
        case first =>
          clear HO K3
          by_cases t1 : (j : Int) < (plen : Int)
          · by_cases t2 : (j : Int) < 40
            · go_wp2
              go_meet
              exact ⟨congrArg Value.bool (decide_eq_true (p := j < plen ∧ j < 40) (by omega)).symm, rfl⟩
            · go_wp2
              go_meet
              exact ⟨congrArg Value.bool (decide_eq_false (p := j < plen ∧ j < 40) (by omega)).symm, rfl⟩
          · go_wp2
            go_meet
            exact ⟨congrArg Value.bool (decide_eq_false (p := j < plen ∧ j < 40) (by omega)).symm, rfl⟩
        case rest =>
        obtain ⟨rfl, hwc⟩ := hcut
        obtain rfl := hwc.symm
        clear hwc
        by_cases hlt2 : j < plen ∧ j < 40
        · have hdec : decide (j < plen ∧ j < 40) = true := decide_eq_true hlt2
          rw [hdec]
          clear hdec
          obtain ⟨t1, t2⟩ := hlt2
          obtain ⟨sep, hbr, hwf, hdl, hsn⟩ := K3.out
          obtain ⟨b, off, rfl, hop⟩ := HO.out.2.1.each (by omega)
          obtain ⟨K, N, xv, lv, o0, o1, o2, o3, D⟩ := hop j t1
          obtain ⟨xa, xl, xc, xb, rfl, XA⟩ := D.bytes
          obtain ⟨ia, il, ic, ii, rfl, IA⟩ := D.ints
          have c0 := cell_later hbr o0
          have c1 := cell_later hbr o1
          have c2 := cell_later hbr o2
          have c3 := cell_later hbr o3
          have q1 : (j : Int) < (plen : Int) := by omega
          by_cases hK : K = 0 ∨ K = 1
          · have hD := do_any w g p2 d2 K N xa xl xc xb ia il ic ii wr sep.swap.head hwf (by omega) D.nums XA IA hbr (sep.new _ (by simp))
            rw [wrD_do hK] at hD
            have hgl2 := wrD_len d2 N xb
            have hwf2 := wrD_wf hwf N xb
            have hdl2 : (wrD d2 N xb).1.safe.length = 2048 := by rw [wrD_n]; exact hdl
            have hsn2 := hsn.write hwf hdl N xb
            have hK' : ((K == 0) = true ∧ K = 0) ∨ ((K == 0) = false ∧ (K == 1) = true) := by
              rcases hK with rfl | rfl
              · exact .inl ⟨rfl, rfl⟩
              · exact .inr ⟨rfl, rfl⟩
            have F0 : Hid _ := And.intro hD (And.intro sep (And.intro hbr (And.intro hwf2 (And.intro hdl2 hsn2))))
            clear hD sep hbr hwf hdl hsn o0 o1 o2 o3 XA IA D hop K3 HO hwf2 hdl2 hsn2 hK
            rcases hK' with ⟨q2, rfl⟩ | ⟨q2, q3⟩
            all_goals
              generalize wrD d2 N xb = wd at *
              go_wp2_with fail
              refine (Calls.mono F0.out.1) ?_
              rintro e w7 ⟨p3, rfl, st⟩
              obtain ⟨-, sep, hbr, hwf2, hdl2, hsn2⟩ := F0.out
              have s7 := (sep.swap.step st).swap
              have hb7 := hbr.trans (sep.swap.below st)
              have HN : Hid _ := Now_any g p3 wd.1 w7 s7.swap.head hwf2
              have H7 : Hid _ := And.intro s7 (And.intro hb7 (And.intro hwf2 (And.intro hdl2 hsn2)))
              clear sep hbr s7 hb7 st F0 hwf2 hdl2 hsn2
              go_wp2_with fail
              refine (Calls.mono HN.out) ?_
              rintro e w8 ⟨v8, rfl, o8, b8⟩
              obtain ⟨s7, hb7, hwf2, hdl2, hsn2⟩ := H7.out
              have hnl : (nowOf wd.1.safe wd.1.gs).length = 2048 := by rw [hwf2.now]; exact hdl2
              obtain ⟨k8, c8, rfl, hk8, hk8'⟩ := o8.some (by omega)
              have b9 : Below w8.heap.size w8 (w8.alloc (.cells #[.slice (some ⟨k8, 0, none⟩) (nowOf wd.1.safe wd.1.gs).length c8] 22)) := (Below.refl _ _).alloc (Nat.le_refl _) _
              have B9 : Blk (w8.alloc (.cells #[.slice (some ⟨k8, 0, none⟩) (nowOf wd.1.safe wd.1.gs).length c8] 22)) w8.heap.size 22 [.slice (some ⟨k8, 0, none⟩) (nowOf wd.1.safe wd.1.gs).length c8] := Blk.new' _ _ _
              have H8 : Hid _ := And.intro (below_then b8 b9) (And.intro B9 (And.intro (o8.later b9) (And.intro s7 (And.intro hb7 (And.intro hwf2 (And.intro hdl2 hsn2))))))
              have hq : (((nowOf wd.1.safe wd.1.gs).length : Int) != (SA.length : Int)) = false := by rw [bne_eq_false_iff_eq, hnl, hq'.out]
              clear s7 hb7 hwf2 hdl2 hsn2 b9 B9 o8 b8 hnl H7 HN
              generalize nowOf wd.1.safe wd.1.gs = L at *
              go_wp2_with (at_builtin; refine wpList_append_state _ rfl _ _ rfl u11 V ls rfl w7 (Sep.head H8.out.2.2.2.1) H8.out.1 (by omega) w8.heap.size rfl w7.heap.size k8 c8 L H8.out.2.1 H8.out.2.2.1 hk8 ?_)
              intro v9 w9 st9 hg9
              obtain ⟨-, -, -, s7, hb7, hwf2, hdl2, hsn2⟩ := H8.out
              have F : Hid _ := And.intro (s7.step st9) (And.intro (hb7.trans (s7.below st9)) (And.intro hwf2 (And.intro hdl2 hsn2)))
              clear st9 hg9 s7 hb7 hwf2 hdl2 hsn2 H8 hq
              go_wp2
              go_roundw
              case rel => exact ⟨j + 1, p3, _, _, _, by omega, by omega, by go_num, F.out.1, F.out.2.1, F.out.2.2.1, by omega, F.out.2.2.2.1, F.out.2.2.2.2, by simp; omega⟩
              case measure => simp [intOf]; omega
          · have q2 : (K == 0) = false := by simpa using fun e => hK (.inl e)
            have q3 : (K == 1) = false := by simpa using fun e => hK (.inr e)
            have F : Hid _ := And.intro sep (And.intro hbr (And.intro hwf (And.intro hdl hsn)))
            clear sep hbr hwf hdl hsn o0 o1 o2 o3 XA IA D hop K3 HO hK
            go_wp2
            go_roundw
            case rel => exact ⟨j + 1, p2, d2, V, ls, by omega, by omega, by go_num, F.out.1, F.out.2.1, F.out.2.2.1, by omega, F.out.2.2.2.1, F.out.2.2.2.2, by omega⟩
            case measure => simp [intOf]; omega
        · have hdec : decide (j < plen ∧ j < 40) = false := decide_eq_false hlt2
          rw [hdec]
          clear hdec
          obtain ⟨wx, hwx⟩ : ∃ wx, wx = wr := ⟨_, rfl⟩
          subst hwx
          obtain ⟨sv, hsv⟩ : ∃ sv, sv = u11 := ⟨_, rfl⟩
          subst hsv
          obtain ⟨sep, hbr, hwf, hdl, hsn⟩ := K3.out
          have II := HO.out.2.2
          have hlen := II.len_eq
          subst hlen
          have HC : Hid _ := Crash_any g p2 d2 ka kcap kl wx sep.swap.head hwf (by omega) (by have := II.le; have := II.bound; omega) II.le (irow_later II.row hbr) (fun e y hy he => by
            have h1 := irow_lt II.row e y hy
            have h2 := sep.new (dk g p2 d2) (by simp) p2.s (by simp [dk])
            omega)
          have H3 : Hid _ := And.intro sep (And.intro hbr (And.intro hwf (And.intro hdl hsn)))
          clear sep hbr hwf hdl hsn II K3 HO
          go_wp2_with fail
          refine (Calls.mono HC.out) ?_
          rintro e w10 ⟨rfl, st10⟩
          obtain ⟨sep, hbr, hwf, hdl, hsn⟩ := H3.out
          have s10 := (sep.swap.step st10).swap
          have hb10 := hbr.trans (sep.swap.below st10)
          have hwf10 := hwf.crash kl
          have hcs := crash_sec hwf.fits kl
          have hcl : (crashed d2.safe d2.gs kl).length = 2048 := by rw [show (crashed d2.safe d2.gs kl).length = d2.safe.length from crashTo_length hwf.fits kl _ (Nat.le_refl _)]; exact hdl
          have HI2 : Hid _ := Image_any g _ _ w10 s10.swap.head hwf10
          have hex : ∀ n, ∃ i, ∃ h : i < ls.length, sec ls[i] n = sec (crashed d2.safe d2.gs kl) n := fun n => by
            obtain ⟨j', hj', e⟩ := hcs n
            obtain ⟨i, hi, he⟩ := List.getElem_of_mem (hsn.each j' hj')
            exact ⟨i, hi, by rw [he, e]⟩
          have H10 : Hid _ := And.intro s10 (And.intro hb10 (And.intro hcl (And.intro hsn.len hex)))
          clear st10 sep hbr hwf hdl hsn s10 hb10 hwf10 hcs hcl hex H3 HC
          generalize crashed d2.safe d2.gs kl = IS at *
          go_wp2_with fail
          refine (Calls.mono HI2.out) ?_
          rintro e w11 ⟨v11, rfl, o11, b11⟩
          obtain ⟨s10, hb10, hcl, hlen, hex⟩ := H10.out
          have o11' : Own w11 w10.heap.size v11 IS := o11
          obtain ⟨k11, c11, rfl, hk11, hk11'⟩ := o11'.some (by omega)
          obtain ⟨a11, cap11, hv11, hle11, _, hr11, -, -⟩ := o11'.open
          simp only [Value.slice.injEq] at hv11
          obtain ⟨rfl, -, rfl⟩ := hv11
          obtain ⟨vs, hown, hss⟩ := (s10.head.later b11).holds
          have hb11 := hb10.trans (b11.mono hb10.size)
          have hq : ((IS.length : Int) != (SA.length : Int)) = false := by rw [bne_eq_false_iff_eq, hcl, hq'.out]
          obtain ⟨qs, cq, rfl⟩ := own_form hown
          have H11 : Hid _ := And.intro hown (And.intro hss (And.intro hr11 (And.intro hb11 (And.intro hcl (And.intro hlen hex)))))
          clear s10 hb10 hcl hlen hex o11 o11' hown hss hr11 hb11 b11 HI2 H10
          go_wp2_with fail
          go_loopw [15] (fun i wr => ∃ n : Nat, n ≤ 8 ∧ i = .int .i64 n ∧ Below w11.heap.size w11 wr) (fun i _ => 8 - (intOf i).toNat)
          case atStart => exact ⟨0, by omega, rfl, Below.refl _ _⟩
          case round =>
            obtain ⟨n, hn, rfl, bn⟩ := hrel
            by_cases hn8 : n < 8
            · have q8 : (n : Int) < 8 := by omega
              have Hbn : Hid _ := bn
              clear bn
              go_wp2_with fail
              obtain ⟨wn, hwn⟩ : ∃ wn, wn = wr := ⟨_, rfl⟩
              subst hwn
              go_loopw [16, 17] (fun okv kv wr => ∃ (i : Nat) (b : Bool), i ≤ ls.length ∧ kv = .int .i64 i ∧ okv = .bool b ∧ (b = false → ∀ i' (h : i' < ls.length), i' < i → sec ls[i'] n ≠ sec IS n) ∧ Below w11.heap.size w11 wr) (fun _ kv _ => ls.length - (intOf kv).toNat)
              case atStart => exact ⟨0, false, by omega, rfl, rfl, fun _ i' h hi => by omega, Hbn.out⟩
              case round =>
                obtain ⟨i, b, hi, rfl, rfl, hno, bi⟩ := hrel
                have Hi : Hid _ := And.intro hno bi
                clear hno bi
                go_upto_region 32 with fail
                go_cut [117] from 110 to 139 (fun c wx => c = .bool (decide (i < ls.length) && !b) ∧ wx = wr)
                case first =>
                  clear Hi H11 Hbn
                  by_cases t1 : (i : Int) < (ls.length : Int)
                  · have t1' : decide (i < ls.length) = true := decide_eq_true (by omega)
                    go_wp2
                    go_meet
                    exact ⟨by rw [t1']; rfl, rfl⟩
                  · have t1' : decide (i < ls.length) = false := decide_eq_false (by omega)
                    go_wp2
                    go_meet
                    exact ⟨by rw [t1']; rfl, rfl⟩
                case rest =>
                obtain ⟨rfl, hwc⟩ := hcut
                obtain rfl := hwc.symm
                clear hwc
                obtain ⟨hno, bi⟩ := Hi.out
                clear Hi
                by_cases hgo : i < ls.length ∧ b = false
                · obtain ⟨hil, rfl⟩ := hgo
                  have hdec : (decide (i < ls.length) && !false) = true := by simp [hil]
                  rw [hdec]
                  clear hdec
                  obtain ⟨hown, hss, hr11, hb11, hcl, hlen, hex⟩ := H11.out
                  obtain ⟨a2, cap2, g1, g2, g3⟩ := hss.get i hil
                  have hli : ls[i].length = 2048 := hlen _ (List.getElem_mem _)
                  obtain ⟨qb, rfl⟩ : ∃ qb, qs = some ⟨qb, 0, none⟩ := by
                    obtain ⟨_, ⟨h1, h2⟩ | ⟨gq, capq, cur, h1, _⟩⟩ := hown
                    · omega
                    · simp only [Value.slice.injEq] at h1; exact ⟨gq, h1.1⟩
                  have hcq : ls.length ≤ cq := by
                    obtain ⟨_, ⟨h1, h2⟩ | ⟨gq, capq, cur, h1, _, _, h2, _⟩⟩ := hown
                    · omega
                    · simp only [Value.slice.injEq] at h1; omega
                  have hcell := World.ownsRow.cellAt hown i (by omega)
                  rw [g1] at hcell
                  obtain ⟨b2, off2, rfl, hrow2⟩ : ∃ b2 off2, a2 = some ⟨b2, off2, none⟩ ∧ Row w11 (some ⟨b2, off2, none⟩) ls[i] := by
                    rcases id g3 with h0 | ⟨b2, off2, rfl, _⟩
                    · rw [h0] at hli; simp at hli
                    · exact ⟨b2, off2, rfl, g3⟩
                  have hr1 := hr11.part (n := 0) (n * 256) 256
                  have hr2 := hrow2.cutAt (n * 256) 256
                  have hl1 : ((IS.drop (n * 256)).take 256).length = (n + 1) * 256 - n * 256 := by simp; omega
                  have hl2 : ((ls[i].drop (n * 256)).take 256).length = (n + 1) * 256 - n * 256 := by simp; omega
                  have hno' : ((str (sec ls[i] n)).toList == (str (sec IS n)).toList) = decide (sec ls[i] n = sec IS n) := str_inj _ _
                  have hc1 := fun (W : World) (h : Below w11.heap.size w11 W ∧ W.cell? ⟨qb, i, none⟩ = some (.slice (some ⟨b2, off2, none⟩) ls[i].length cap2)) => (hr1.later h.1).str ((n + 1) * 256 - n * 256) (c11 - n * 256) hl1
                  have hc2 := fun (W : World) (h : Below w11.heap.size w11 W ∧ W.cell? ⟨qb, i, none⟩ = some (.slice (some ⟨b2, off2, none⟩) ls[i].length cap2)) => (hr2.later h.1).str ((n + 1) * 256 - n * 256) (cap2 - n * 256) hl2
                  have Sd : Below w11.heap.size w11 wr.drew ∧ wr.drew.cell? ⟨qb, i, none⟩ = some (.slice (some ⟨b2, off2, none⟩) ls[i].length cap2) := ⟨bi.drew, cell_later bi.drew hcell⟩
                  have hw1 : IntKind.i64.wrap ((n : Int) * 256) = (n : Int) * 256 := wrap_i64_small _ (by omega) (by omega)
                  have hw2 : IntKind.i64.wrap ((n : Int) + 1) = (n : Int) + 1 := wrap_i64_small _ (by omega) (by omega)
                  have hw3 : IntKind.i64.wrap (((n : Int) + 1) * 256) = ((n : Int) + 1) * 256 := wrap_i64_small _ (by omega) (by omega)
                  have ht1 : ((n : Int) * 256).toNat = n * 256 := by omega
                  have ht2 : (((n : Int) + 1) * 256).toNat = (n + 1) * 256 := by omega
                  have q1 : ((n : Int) + 1) * 256 ≤ (c11 : Int) := by omega
                  have q2 : ((n : Int) + 1) * 256 ≤ (cap2 : Int) := by omega
                  have q3 : (n : Int) * 256 ≤ ((n : Int) + 1) * 256 := by omega
                  have q4 : (0 : Int) ≤ (n : Int) * 256 := by omega
                  have q5 : (i : Int) < (ls.length : Int) := by omega
                  have F0 : Hid _ := And.intro hno (And.intro bi hno')
                  clear hno bi hno' hown hss hr11 hb11 hcl hlen hex g1 g2 g3 hli hrow2 hr1 hr2 hl1 hl2 H11 Hbn hcell
                  generalize ls[i].length = len2 at *
                  change ∀ W, _ → (convert 22 9 _).run Try.prog W = .ok (.string (str (sec IS n))) W at hc1
                  change ∀ W, _ → (convert 22 9 _).run Try.prog W = .ok (.string (str (sec ls[i] n))) W at hc2
                  have HX : Hid (∃ X1 X2, X1 = sec IS n ∧ X2 = sec ls[i] n) := ⟨_, _, rfl, rfl⟩
                  obtain ⟨X1, X2, hX1, hX2⟩ := HX.out
                  rw [← hX1] at hc1
                  rw [← hX2] at hc2
                  have HX' : Hid _ := And.intro hX1 hX2
                  clear hX1 hX2 HX
                  go_wp2_with fail
                  go_region_held_law (fun W => Below w11.heap.size w11 W ∧ W.cell? ⟨qb, i, none⟩ = some (.slice (some ⟨b2, off2, none⟩) len2 cap2)) (first | exact Sd | assumption) (fail)
                  all_goals
                    have hSd := Sd.1
                    clear hc1 hc2 Sd hw1 hw2 hw3 ht1 ht2 q1 q2 q3 q4
                    go_wp2
                    refine ⟨⟨i + 1, _, by omega, by go_num, rfl, fun hb i' h' hi' => ?_, hSd⟩, by simp [intOf]; omega⟩
                    obtain ⟨hno, -, -⟩ := F0.out
                    by_cases e : i' = i
                    · subst e
                      rw [str_inj] at hb
                      have hne := of_decide_eq_false hb
                      rw [HX'.out.1, HX'.out.2] at hne
                      exact fun e => hne e.symm
                    · exact hno trivial i' h' (by omega)
                · have hb : (decide (i < ls.length) && !b) = false := by
                    cases b with
                    | true => simp
                    | false =>
                      have : ¬ i < ls.length := fun h => hgo ⟨h, rfl⟩
                      simp [this]
                  have hbt : b = true := by
                    cases b with
                    | true => rfl
                    | false =>
                      have hge : ¬ i < ls.length := fun h => hgo ⟨h, rfl⟩
                      obtain ⟨i', hi', he⟩ := H11.out.2.2.2.2.2.2 n
                      exact absurd he (hno rfl i' hi' (by omega))
                  rw [hb]
                  subst hbt
                  have F : Hid _ := bi
                  clear hb hno bi hgo H11 Hbn
                  go_wp2
                  go_roundw
                  case rel => exact ⟨n + 1, by omega, by go_num, F.out⟩
                  case measure => simp [intOf]; omega
            · have q8 : ¬ (n : Int) < 8 := by omega
              have F : Hid _ := below_then H11.out.2.2.2.1 bn
              clear bn H11
              go_wp2_with (go_at_call 14; refine (known3_any _).mono ?_; rintro e w' ⟨rfl, hb⟩)
              go_ret
              exact ⟨rfl, below_then F.out hb⟩
end Go.Proofs.Ytphallacfloohaa
