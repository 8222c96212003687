/- The walk of the law on writes one behind the other. -/
import Derived.Test.YtkajedabcedifabFieldM1
import Derived.Test.YtkajedabcedifabFieldX4
namespace Go.Proofs.Ytkajedabcedifab
open Go.RowKit

/-- two values' bytes lie apart -/
def Apart (v v' : Value) : Prop := ∀ j, v.ownBlock = some j → v'.ownBlock ≠ some j
theorem Apart.symm {v v' : Value} (h : Apart v v') : Apart v' v := fun j hj e => h j e hj
theorem WrAt.lt {w : World} {base g T : Nat} {v : Value} {L : List (BitVec 8)} {E : Int} (h : WrAt w base g T v L E) : ∀ j, v.ownBlock = some j → j < w.heap.size := by
  obtain ⟨l, ho, _⟩ := h.own
  exact fun j hj => (World.ownsRow.lt ho j hj).2
theorem WrAt.ge {w : World} {base g T : Nat} {v : Value} {L : List (BitVec 8)} {E : Int} (h : WrAt w base g T v L E) : ∀ j, v.ownBlock = some j → base ≤ j := by
  obtain ⟨l, ho, _⟩ := h.own
  exact fun j hj => (World.ownsRow.lt ho j hj).1
/-- what a writer turns is no block of another type -/
theorem WrAt.not_mine {w : World} {base g T : Nat} {v : Value} {L : List (BitVec 8)} {E : Int} (h : WrAt w base g T v L E) {k T' : Nat} {xs : List Value} (hB : Blk w k T' xs) (hT : T' ≠ 5) (hk : k ≠ g) : ¬ Mine g v k := by
  obtain ⟨l, ho, _⟩ := h.own
  rintro (e | e)
  · exact hk e
  · exact own_apart ho hB hT k e rfl
/-- another writer stays -/
theorem WrAt.beside {W W' : World} {B gA TA gB TB : Nat} {va va' vb : Value} {LA LA' LB : List (BitVec 8)} {EA EA' EB : Int} (hA : WrAt W B gA TA va LA EA) (hB : WrAt W B gB TB vb LB EB) (hne : gB ≠ gA) (hd : Apart va vb) (hT : Turned (Mine gA va) W W')
    (_hA' : WrAt W' B gA TA va' LA' EA') (hN : Newer W va va') : WrAt W' B gB TB vb LB EB ∧ Apart va' vb := by
  have h1 := hA.not_mine hB.blk hB.other hne
  refine ⟨hB.stays hT h1 (fun k hk => ?_), fun j hj e => ?_⟩
  · rintro (e | e)
    · subst e
      obtain ⟨l, ho, _⟩ := hB.own
      exact own_apart ho hA.blk hA.other k hk rfl
    · exact hd k e hk
  · rcases hN j hj with h | h
    · exact hd j h e
    · have := hB.lt j e; omega
theorem WrAt.later {w w' : World} {base g T : Nat} {v : Value} {L : List (BitVec 8)} {E : Int} (h : WrAt w base g T v L E) (hb : Below w.heap.size w w') : WrAt w' base g T v L E :=
  h.stays (R := fun _ => False) (turned_grown (below_grown hb) (fun k e => by cases e)) (fun e => e) (fun _ _ e => e)
theorem mine_ge {w : World} {base g T : Nat} {v : Value} {L : List (BitVec 8)} {E : Int} (h : WrAt w base g T v L E) : ∀ k, Mine g v k → base ≤ k := by
  rintro k (rfl | e)
  · exact h.base_g
  · exact h.ge k e
theorem op_cells3 {W : World} {go T : Nat} {x p : Value} {S N : Int} (h : Blk W go T [x, .int .i64 S, .int .i64 N, p]) : W.cell? ⟨go, 0, none⟩ = some x ∧ W.cell? ⟨go, 3, none⟩ = some p :=
  ⟨h.cell (by simp [maxLen]) 0 (by simp), h.cell (by simp [maxLen]) 3 (by simp)⟩

set_option maxRecDepth 20000 in
set_option maxHeartbeats 4000000 in
theorem fieldWrites_walk (oa : Option Addr) (olen ocap : Nat) (w : World) (O : Ops (fun u => ∃ ap lp cp l, u = .slice ap lp cp ∧ Arg 140737488351232 w ap lp cp l) w oa olen ocap) :
    Calls Try.prog 8 #[.slice oa olen ocap] w fun e w' => e = .returned (.bool true) ∧ Below w.heap.size w w' := by
  obtain ⟨f, hfA, hfO⟩ := O.fn
  go_enter Try.func8, Try.ntmps8
  go_wp2_with fail
  refine (NewWriter_any w.heap.size w (Nat.le_refl _)).mono ?_
  rintro e w1 ⟨gw, rfl, hgw, hW1, hb1⟩
  have bV : Below w1.heap.size w1 (w1.alloc (.cells #[.slice none 0 0, .int .i64 0] 54)) := (Below.refl _ _).alloc (Nat.le_refl _) _
  have BV := Blk.new' w1 54 [.slice none 0 0, .int .i64 0]
  have HV : Hid _ := And.intro bV (And.intro BV (And.intro hW1 hb1))
  clear bV BV hW1 hb1
  go_wp2_with fail
  obtain ⟨bV, BV, hW1, hb1⟩ := HV.out
  have hgv : w.heap.size ≤ w1.heap.size := hb1.size
  have hgn : w1.heap.size ≠ gw := by have := hW1.blk.lt; omega
  have hWp : WrAt (w1.alloc (.cells #[.slice none 0 0, .int .i64 0] 54)) w.heap.size gw 81 (.slice none 0 0) [] 0 := hW1.later bV
  have hWr : WrAt (w1.alloc (.cells #[.slice none 0 0, .int .i64 0] 54)) w.heap.size w1.heap.size 54 (.slice none 0 0) [] 0 := ⟨BV, ⟨[], Own.nil _ _, fun _ => rfl⟩, hgv, Nat.le_trans hgv bV.size, by decide⟩
  have hbV : Below w.heap.size w (w1.alloc (.cells #[.slice none 0 0, .int .i64 0] 54)) := hb1.trans (bV.mono hb1.size)
  have hd0 : Apart (.slice none 0 0) (.slice none 0 0) := by intro j hj; simp [Value.ownBlock] at hj
  clear HV bV BV hW1 hb1
  generalize w1.alloc (.cells #[.slice none 0 0, .int .i64 0] 54) = w2 at *
  generalize w1.heap.size = gv at *
  go_loopw [5] (fun i wr => ∃ (k : Nat) (vp vr : Value), k ≤ olen ∧ k ≤ 60 ∧ i = .int .i64 k ∧ WrAt wr w.heap.size gw 81 vp (wrAll f k).1 (wrAll f k).2 ∧ WrAt wr w.heap.size gv 54 vr (wrAll f k).1 (wrAll f k).2 ∧ Apart vp vr ∧ Below w.heap.size w wr) (fun i _ => 60 - (intOf i).toNat)
  case atStart => exact ⟨0, _, _, by omega, by omega, rfl, hWp, hWr, hd0, hbV⟩
  case round =>
    obtain ⟨k, vp, vr, hk1, hk2, rfl, hWp, hWr, hd, hbr⟩ := hrel
    have hlenk := wrAll_len f k
    by_cases hlt : k < olen ∧ k < 60
    · obtain ⟨b, off, rfl, hop⟩ := hfO (by omega)
      have hO := hop k hlt.1
      have hA := hfA k hlt.1
      obtain ⟨K, S, N, ap, lp, cp, l, hfk⟩ : ∃ K S N ap lp cp l, f k = ⟨K, S, N, ap, lp, cp, l⟩ := ⟨_, _, _, _, _, _, _, rfl⟩
      rw [hfk] at hA hO
      simp only at hA hO
      have hX4 : K = 4 → wrAll f (k + 1) = wrBytes (wrAll f k).1 (wrAll f k).2 S l := fun h => by rw [wrAll_succ, hfk]; exact if_pos h
      have hXn : K ≠ 4 → wrAll f (k + 1) = wrNum (wrAll f k).1 (wrAll f k).2 S N := fun h => by rw [wrAll_succ, hfk]; exact if_neg h
      have hOr := hO.later hbr
      have o0 := hOr.kind
      have o1 := hOr.size
      have o2 := hOr.num
      have o3 := hOr.part
      obtain ⟨t1, t2⟩ := hlt
      have bO : Below wr.heap.size wr (wr.alloc (.cells #[.int .i64 K, .int .i64 S, .int .i64 N, .slice ap lp cp] 56)) := (Below.refl _ _).alloc (Nat.le_refl _) _
      have BO := Blk.new' wr 56 [.int .i64 K, .int .i64 S, .int .i64 N, .slice ap lp cp]
      have HO : Hid _ := And.intro bO (And.intro BO (And.intro hWp (And.intro hWr (And.intro hbr (And.intro hWp.blk.lt (And.intro hWr.blk.lt hd))))))
      clear bO BO hWp hWr hbr hOr hO hd
      by_cases hK4 : K = 4
      · subst hK4
        have hX := hX4 rfl
        go_wp2_with fail
        obtain ⟨bO, BO, hWp, hWr, hbr, hgw', hgv', hd⟩ := HO.out
        generalize wr.alloc (.cells #[.int .i64 4, .int .i64 S, .int .i64 N, .slice ap lp cp] 56) = Wo at *
        have hWp := hWp.later bO
        have hWr := hWr.later bO
        have hbo := hbr.trans (bO.mono hbr.size)
        have hsz := BO.lt
        clear HO hbr bO o0 o1 o2 o3
        generalize wr.heap.size = go at *
        obtain ⟨hl, hle, hbd, hr, hn⟩ := hA
        refine (Lent_any ap lp cp l Wo ⟨hl, hle, hbd, hr.later hbo, hn⟩).mono ?_
        rintro e w5 ⟨g0, c0, rfl, ho5, hg0, hc0, hm0, hb5⟩
        have hpl := hWp.lt
        have hrl := hWr.lt
        have hWp5 := hWp.later hb5
        have hWr5 := hWr.later hb5
        have BO5 := BO.grown (below_grown hb5) (by simp)
        have hlt0 : g0 < w5.heap.size := (World.ownsRow.lt ho5 g0 rfl).2
        have hr5 : Row w5 (some ⟨g0, 0, none⟩) l := by
          obtain ⟨a1, cap1, hv1, _, _, hr1, _, _⟩ := ho5.open
          simp only [Value.slice.injEq] at hv1
          rw [← hv1.1] at hr1
          have := hr1.takes lp
          rwa [List.take_left' hl] at this
        have hbw5 : Below w.heap.size w w5 := hbo.trans (hb5.mono hbo.size)
        have S5 := op_cells BO5
        have K5 : Hid _ := And.intro hWp5 (And.intro hWr5 (And.intro BO5 (And.intro ho5 (And.intro hr5 (And.intro hbw5 (And.intro hd (And.intro hr (And.intro hpl hrl))))))))
        clear hWp5 hWr5 BO5 ho5 hr5 hbw5 hd hr hpl hrl hWp hWr hb5 hbo BO
        obtain ⟨s51, s52⟩ := S5
        go_wp2_with fail
        obtain ⟨hWp5, hWr5, BO5, ho5, hr5, hbw5, hd, hr, hpl, hrl⟩ := K5.out
        refine (wBytes_any w.heap.size gw vp _ _ S (some ⟨g0, 0, none⟩) lp c0 l w5 hWp5 (by omega) hl (by omega) hr5 (fun e => by cases e) (by omega) (fun x hx e => by cases hx; have : g0 < Wo.heap.size := hpl _ e; omega)).mono ?_
        rintro e w6 ⟨rfl, v6, hW6, hN6, hT6⟩
        obtain ⟨hWr6, hd6⟩ := hWp5.beside hWr5 hgn hd hT6 hW6 hN6
        have BO6 := BO5.turned hT6 (hWp5.not_mine BO5 (by decide) (by omega))
        have hnm : ¬ Mine gw vp g0 := by
          rintro (e | e)
          · omega
          · have := hpl _ e; omega
        have hv6 : ∀ j, v6.ownBlock = some j → j ≠ g0 := by
          intro j hj e
          rcases hN6 j hj with h | h
          · have := hpl _ h; omega
          · omega
        have ho6 := ho5.turned hT6 (fun k hk => by have e : g0 = k := (by simpa [Value.ownBlock] using hk); subst e; exact hnm)
        have hb6 : Below w.heap.size w w6 := hbw5.trans (hT6.below _ hbw5.size (mine_ge hWp5))
        have K6 : Hid _ := And.intro hW6 (And.intro hWr6 (And.intro BO6 (And.intro ho6 (And.intro hb6 (And.intro hd6 (And.intro hr (And.intro hv6 hrl)))))))
        clear hW6 hWr6 BO6 ho6 hb6 hd6 hr hv6 hrl K5 hWp5 hWr5 BO5 ho5 hr5 hbw5 hd hpl hN6 hT6 hnm s51 s52
        go_wp2_with fail
        obtain ⟨hW6, hWr6, BO6, ho6, hb6, hd6, hr, hv6, hrl⟩ := K6.out
        refine (Spoil_lent ho6 (by omega) (by omega)).mono ?_
        rintro e w7 ⟨rfl, hg7⟩
        have hT7 : Turned (fun k => k = g0) w6 w7 := turned_grown hg7 (fun k e => by simpa using e.symm)
        have hW7 := hW6.stays hT7 (by omega) hv6
        have hWr7 := hWr6.stays hT7 (by omega) (fun k hk => by have := hrl k hk; omega)
        have BO7 := BO6.turned hT7 (by omega)
        have hb7 : Below w.heap.size w w7 := hb6.trans (hT7.below _ hb6.size (fun k e => by have := hb6.size; have := hW6.base_g; omega))
        have S7 := op_cells BO7
        have S7' := op_cells3 BO7
        have K7 : Hid _ := And.intro hW7 (And.intro hWr7 (And.intro hb7 (And.intro hd6 (hr.later hb7))))
        clear hW7 hWr7 BO7 hb7 hT7 hg7 K6 hW6 hWr6 BO6 ho6 hb6 hd6 hr hv6 hrl
        obtain ⟨s71, s72⟩ := S7
        obtain ⟨s70, s73⟩ := S7'
        go_wp2_with fail
        obtain ⟨hW7, hWr7, hb7, hd7, hr7⟩ := K7.out
        refine (rwBytes_any w.heap.size gv vr _ _ S ap lp cp l w7 hWr7 (by omega) hl hle hr7 hn (by omega)).mono ?_
        rintro e w8 ⟨rfl, v8, hW8, hN8, hT8⟩
        obtain ⟨hWp8, hd8⟩ := hWr7.beside hW7 (fun e => hgn e.symm) hd7.symm hT8 hW8 hN8
        have hb8 : Below w.heap.size w w8 := hb7.trans (hT8.below _ hb7.size (mine_ge hWr7))
        rw [← hX] at hW8 hWp8
        have F6 : Hid _ := And.intro hWp8 (And.intro hW8 (And.intro hd8.symm hb8))
        clear hW8 hN8 hT8 hWp8 hd8 hb8 K7 hW7 hWr7 hb7 hd7 hr7 s71 s72 s70 s73
        go_wp2
        go_roundw
        case rel => exact ⟨k + 1, _, _, by omega, by omega, by go_num, F6.out.1, F6.out.2.1, F6.out.2.2.1, F6.out.2.2.2⟩
        case measure => simp [intOf]; omega
      · have hK4' : (K == 4) = false := by simpa using hK4
        have hX := hXn hK4
        go_wp2_with fail
        obtain ⟨bO, BO, hWp, hWr, hbr, hgw', hgv', hd⟩ := HO.out
        generalize wr.alloc (.cells #[.int .i64 K, .int .i64 S, .int .i64 N, .slice ap lp cp] 56) = Wo at *
        have hWp := hWp.later bO
        have hWr := hWr.later bO
        have hbo := hbr.trans (bO.mono hbr.size)
        clear HO hbr bO o0 o1 o2 o3
        generalize wr.heap.size = go at *
        refine (wNum_any w.heap.size gw vp _ _ S N Wo hWp (by omega)).mono ?_
        rintro e w5 ⟨rfl, v5, hW5, hN5, hT5⟩
        obtain ⟨hWr5, hd5⟩ := hWp.beside hWr hgn hd hT5 hW5 hN5
        have BO5 := BO.turned hT5 (hWp.not_mine BO (by decide) (by omega))
        have hb5 : Below w.heap.size w w5 := hbo.trans (hT5.below _ hbo.size (mine_ge hWp))
        have S5 := op_cells BO5
        have K5 : Hid _ := And.intro hW5 (And.intro hWr5 (And.intro hd5 (And.intro hb5 BO5)))
        clear hW5 hN5 hT5 hWr5 hd5 BO5 hb5 hWp hWr hbo BO hd
        obtain ⟨s51, s52⟩ := S5
        go_wp2_with fail
        refine (rwNum_any w.heap.size gv vr _ _ S N w5 K5.out.2.1 (by omega)).mono ?_
        rintro e w6 ⟨rfl, v6, hW6, hN6, hT6⟩
        obtain ⟨hWp6, hd6⟩ := K5.out.2.1.beside K5.out.1 (fun e => hgn e.symm) K5.out.2.2.1.symm hT6 hW6 hN6
        have hb6 : Below w.heap.size w w6 := K5.out.2.2.2.1.trans (hT6.below _ K5.out.2.2.2.1.size (mine_ge K5.out.2.1))
        rw [← hX] at hW6 hWp6
        have F6 : Hid _ := And.intro hWp6 (And.intro hW6 (And.intro hd6.symm hb6))
        clear hW6 hN6 hT6 hWp6 hd6 hb6 K5 s51 s52
        go_wp2
        go_roundw
        case rel => exact ⟨k + 1, _, _, by omega, by omega, by go_num, F6.out.1, F6.out.2.1, F6.out.2.2.1, F6.out.2.2.2⟩
        case measure => simp [intOf]; omega
    · have hx : ¬ ((k : Int) < (olen : Int)) ∨ (((k : Int) < (olen : Int)) ∧ ¬ ((k : Int) < 60)) := by omega
      clear hbV hd0 hd
      by_cases hE : (wrAll f k).2 = 0
      · rw [hE] at hWp hWr
        have hwe : wrEnd (wrAll f k).1 0 = (wrAll f k).1 := by unfold wrEnd; rw [if_pos rfl]
        obtain ⟨L, hLk⟩ : ∃ L, (wrAll f k).1 = L := ⟨_, rfl⟩
        rw [hLk] at hWp hWr hlenk hwe
        have F0 : Hid _ := And.intro hWp (And.intro hWr hbr)
        clear hWp hWr hbr
        rcases hx with hx | ⟨hx0, hx⟩
        · go_wp2_with fail
          obtain ⟨hWp, hWr, hbr⟩ := F0.out
          refine (wEnd_any w.heap.size gw vp _ _ wr hWp (by omega)).mono ?_
          rintro e w5 ⟨cb, rfl, hob, hb5⟩
          rw [hwe] at hob
          obtain ⟨ab, capb, rfl, hleb, hmb, hrb, hnb, _⟩ := hob.open
          have K5 : Hid _ := And.intro hrb (And.intro (hWr.later hb5) (hbr.trans (hb5.mono hbr.size)))
          clear hob hrb hWp hWr hbr hb5 F0
          go_wp2_with fail
          obtain ⟨hrb, hWr, hb5⟩ := K5.out
          refine (rwEnd_any w.heap.size gv vr _ _ w5 hWr (by omega)).mono ?_
          rintro e w6 ⟨cc, rfl, hoc, hb6⟩
          rw [hwe] at hoc
          obtain ⟨ac, capc, rfl, hlec, hmc, hrc, hnc, _⟩ := hoc.open
          have hrb6 := hrb.later hb6
          have sb := hrb6.str _ capb rfl
          have sc := hrc.str _ capc rfl
          have K6 : Hid _ := And.intro hrb6 (hb5.trans (hb6.mono hb5.size))
          clear hoc hrc hrb hWr hb5 hb6 K5 hrb6
          go_wp2_with fail
          obtain ⟨hrb6, hb6⟩ := K6.out
          refine (NewReader_any ab L.length capb L w6 rfl hleb hrb6 hnb (by omega)).mono ?_
          rintro e w7 ⟨gr, rfl, hgr, hR7, hb7⟩
          have hR7 := hR7 [] (by simp)
          have hb7' : Below w.heap.size w w7 := hb6.trans (hb7.mono hb6.size)
          have hwgr : w.heap.size ≤ gr := Nat.le_trans hb6.size hgr
          clear K6 hrb6 hb6 hb7 sb sc
          go_wp2_with fail
          go_loopw [13] (fun i wr => ∃ (j : Nat) (X : List (BitVec 8)), j ≤ k ∧ i = .int .i64 j ∧ (wrAll f k).1 = (wrAll f j).1 ++ X ∧ Rd wr [] gr 86 X 0 ∧ Below w.heap.size w wr) (fun i _ => 60 - (intOf i).toNat)
          case atStart => exact ⟨0, L, by omega, rfl, by rw [hLk]; rfl, hR7, hb7'⟩
          case round =>
            obtain ⟨j, X, hj, rfl, hX, hR, hb2⟩ := hrel
            by_cases hjk : j < k
            · obtain ⟨b, off, rfl, hop⟩ := hfO (by omega)
              have hO := hop j (by omega)
              have hA := hfA j (by omega)
              obtain ⟨Y, rfl, hok, hXY⟩ := wrAll_next f k j hjk hE hX
              have hrdB := fun h4 => read_bytes (f j) Y h4 hok
              have hrdN := fun h4 => read_num (f j) Y h4 hok hO.nums
              generalize enc (f j) ++ Y = X at *
              obtain ⟨K, S, N, ap, lp, cp, l, hfk⟩ : ∃ K S N ap lp cp l, f j = ⟨K, S, N, ap, lp, cp, l⟩ := ⟨_, _, _, _, _, _, _, rfl⟩
              rw [hfk] at hA hO hrdB hrdN
              simp only at hA hO hrdB hrdN
              have hOr := hO.later hb2
              have o0 := hOr.kind
              have o1 := hOr.size
              have o2 := hOr.num
              have o3 := hOr.part
              have hNb := hO.nums
              have tj1 : (j : Int) < (olen : Int) := by omega
              have tj2 : (j : Int) < 60 := by omega
              have bO : Below wr.heap.size wr (wr.alloc (.cells #[.int .i64 K, .int .i64 S, .int .i64 N, .slice ap lp cp] 56)) := (Below.refl _ _).alloc (Nat.le_refl _) _
              have BO := Blk.new' wr 56 [.int .i64 K, .int .i64 S, .int .i64 N, .slice ap lp cp]
              have HO : Hid _ := And.intro bO (And.intro BO (And.intro hR (And.intro hb2 (And.intro hR.blt hrdN))))
              clear bO BO hR hb2 hOr hO hrdN hok
              by_cases hK4 : K = 4
              · subst hK4
                have hrd := hrdB rfl
                go_wp2_with fail
                obtain ⟨bO, BO, hR, hb2, hgr', _⟩ := HO.out
                generalize wr.alloc (.cells #[.int .i64 4, .int .i64 S, .int .i64 N, .slice ap lp cp] 56) = Wo at *
                have hRo := (hR.later bO).drew
                have hbo := (hb2.trans (bO.mono hb2.size)).drew
                have BO' := BO.drew
                clear HO hR hb2 BO bO o0 o1 o2 o3 hrdB
                generalize wr.heap.size = go at *
                obtain ⟨hl, hle, hbd, hr, hn⟩ := hA
                have C := Bytes_any [] gr X 0 S Wo.drew hRo
                rw [hrd] at C
                simp only at C
                have S0 : Wo.drew.cell? ⟨go, 1, none⟩ = some (.int .i64 S) ∧ Wo.drew.cell? ⟨go, 3, none⟩ = some (.slice ap lp cp) ∧ Row Wo.drew ap l := ⟨(op_cells BO').1, (op_cells3 BO').2, hr.later hbo⟩
                have hcD := fun (W : World) (h : W.cell? ⟨go, 1, none⟩ = some (.int .i64 S) ∧ W.cell? ⟨go, 3, none⟩ = some (.slice ap lp cp) ∧ Row W ap l) => h.2.2.str lp cp hl
                go_region_held_law (fun W => W.cell? ⟨go, 1, none⟩ = some (.int .i64 S) ∧ W.cell? ⟨go, 3, none⟩ = some (.slice ap lp cp) ∧ Row W ap l) (first | exact S0 | assumption)
                  (first | (go_at_call 42; refine Calls.mono C ?_; rintro e w8 ⟨v8, rfl, ho8, hR8, hg8⟩; obtain ⟨a8, cap8, rfl, hle8, hm8, hr8, hn8, hg8'⟩ := ho8.open; have hc8 := hr8.str lp cap8 hl; have BO8 := BO'.grown hg8 (by simp; omega); have hb8 : Below w.heap.size w w8 := hbo.trans (grown_below hg8 _ hwgr hbo.size); have S8 : w8.cell? ⟨go, 1, none⟩ = some (.int .i64 S) ∧ w8.cell? ⟨go, 3, none⟩ = some (.slice ap lp cp) ∧ Row w8 ap l := ⟨(op_cells BO8).1, (op_cells3 BO8).2, hr.later hb8⟩))
                all_goals
                  have F8 : Hid _ := And.intro (hR8.less (F' := []) (by simp)) hb8
                  clear S8 BO8 hc8 hr8 ho8 hg8 hR8 hb8 hcD S0 C hRo hbo BO' hg8'
                  go_wp2
                  go_roundw
                  case rel => exact ⟨j + 1, Y, by omega, by go_num, hXY, F8.out.1, F8.out.2⟩
                  case measure => simp [intOf]; omega
              · have hK4' : (K == 4) = false := by simpa using hK4
                go_wp2_with fail
                obtain ⟨bO, BO, hR, hb2, hgr', hrdN⟩ := HO.out
                obtain ⟨s, rfl, hs1, hs8, r, hrd, hcase⟩ := hrdN hK4
                generalize wr.alloc (.cells #[.int .i64 K, .int .i64 s, .int .i64 N, .slice ap lp cp] 56) = Wo at *
                have hRo := hR.later bO
                have hbo := hb2.trans (bO.mono hb2.size)
                clear HO hR hb2 bO o0 o1 o2 o3 hrdB hrdN
                generalize wr.heap.size = go at *
                have C := Num_any [] gr X 0 s Wo hRo
                rw [hrd] at C
                simp only at C
                refine Calls.mono C ?_
                rintro e w8 ⟨rfl, hR8, hg8⟩
                have BO8 := BO.grown hg8 (by simp; omega)
                have hb8 : Below w.heap.size w w8 := hbo.trans (grown_below hg8 _ hwgr hbo.size)
                have S8 := op_cells BO8
                have F8 : Hid _ := And.intro hR8 hb8
                clear BO8 hg8 hR8 hb8 C hRo hbo BO
                rcases hcase with rfl | ⟨hne, hneg, hs7, rfl⟩
                · obtain ⟨s81, s82⟩ := S8
                  go_wp2
                  go_roundw
                  case rel => exact ⟨j + 1, Y, by omega, by go_num, hXY, F8.out.1, F8.out.2⟩
                  case measure => simp [intOf]; omega
                · obtain ⟨s81, s82⟩ := S8
                  have hc : s = 1 ∨ s = 2 ∨ s = 3 ∨ s = 4 ∨ s = 5 ∨ s = 6 ∨ s = 7 := by omega
                  rcases hc with rfl | rfl | rfl | rfl | rfl | rfl | rfl
                  · rw [show (2 : Int) ^ (8 * 1) = 256 from rfl] at *
                    go_wp2
                    go_roundw
                    case rel => exact ⟨j + 1, Y, by omega, by go_num, hXY, F8.out.1, F8.out.2⟩
                    case measure => simp [intOf]; omega
                  · rw [show (2 : Int) ^ (8 * 2) = 65536 from rfl] at *
                    go_wp2
                    go_roundw
                    case rel => exact ⟨j + 1, Y, by omega, by go_num, hXY, F8.out.1, F8.out.2⟩
                    case measure => simp [intOf]; omega
                  · rw [show (2 : Int) ^ (8 * 3) = 16777216 from rfl] at *
                    go_wp2
                    go_roundw
                    case rel => exact ⟨j + 1, Y, by omega, by go_num, hXY, F8.out.1, F8.out.2⟩
                    case measure => simp [intOf]; omega
                  · rw [show (2 : Int) ^ (8 * 4) = 4294967296 from rfl] at *
                    go_wp2
                    go_roundw
                    case rel => exact ⟨j + 1, Y, by omega, by go_num, hXY, F8.out.1, F8.out.2⟩
                    case measure => simp [intOf]; omega
                  · rw [show (2 : Int) ^ (8 * 5) = 1099511627776 from rfl] at *
                    go_wp2
                    go_roundw
                    case rel => exact ⟨j + 1, Y, by omega, by go_num, hXY, F8.out.1, F8.out.2⟩
                    case measure => simp [intOf]; omega
                  · rw [show (2 : Int) ^ (8 * 6) = 281474976710656 from rfl] at *
                    go_wp2
                    go_roundw
                    case rel => exact ⟨j + 1, Y, by omega, by go_num, hXY, F8.out.1, F8.out.2⟩
                    case measure => simp [intOf]; omega
                  · rw [show (2 : Int) ^ (8 * 7) = 72057594037927936 from rfl] at *
                    go_wp2
                    go_roundw
                    case rel => exact ⟨j + 1, Y, by omega, by go_num, hXY, F8.out.1, F8.out.2⟩
                    case measure => simp [intOf]; omega
            · obtain rfl : j = k := by omega
              have hX0 : X = [] := by simpa using hX
              subst hX0
              have F8 : Hid _ := And.intro hR hb2
              clear hR hb2
              go_wp2_with (first
                | (go_at_call 44; refine (End_any [] gr [] 0 _ F8.out.1).mono ?_; rw [show rdEnd [] 0 = 0 from rfl]; rintro e w' ⟨rfl, rfl⟩)
                | (go_at_call 23; refine (known2_any _).mono ?_; rintro e w' ⟨rfl, hbk⟩))
              go_ret
              exact ⟨rfl, below_then F8.out.2 hbk⟩
        · go_wp2_with fail
          obtain ⟨hWp, hWr, hbr⟩ := F0.out
          refine (wEnd_any w.heap.size gw vp _ _ wr hWp (by omega)).mono ?_
          rintro e w5 ⟨cb, rfl, hob, hb5⟩
          rw [hwe] at hob
          obtain ⟨ab, capb, rfl, hleb, hmb, hrb, hnb, _⟩ := hob.open
          have K5 : Hid _ := And.intro hrb (And.intro (hWr.later hb5) (hbr.trans (hb5.mono hbr.size)))
          clear hob hrb hWp hWr hbr hb5 F0
          go_wp2_with fail
          obtain ⟨hrb, hWr, hb5⟩ := K5.out
          refine (rwEnd_any w.heap.size gv vr _ _ w5 hWr (by omega)).mono ?_
          rintro e w6 ⟨cc, rfl, hoc, hb6⟩
          rw [hwe] at hoc
          obtain ⟨ac, capc, rfl, hlec, hmc, hrc, hnc, _⟩ := hoc.open
          have hrb6 := hrb.later hb6
          have sb := hrb6.str _ capb rfl
          have sc := hrc.str _ capc rfl
          have K6 : Hid _ := And.intro hrb6 (hb5.trans (hb6.mono hb5.size))
          clear hoc hrc hrb hWr hb5 hb6 K5 hrb6
          go_wp2_with fail
          obtain ⟨hrb6, hb6⟩ := K6.out
          refine (NewReader_any ab L.length capb L w6 rfl hleb hrb6 hnb (by omega)).mono ?_
          rintro e w7 ⟨gr, rfl, hgr, hR7, hb7⟩
          have hR7 := hR7 [] (by simp)
          have hb7' : Below w.heap.size w w7 := hb6.trans (hb7.mono hb6.size)
          have hwgr : w.heap.size ≤ gr := Nat.le_trans hb6.size hgr
          clear K6 hrb6 hb6 hb7 sb sc
          go_wp2_with fail
          go_loopw [13] (fun i wr => ∃ (j : Nat) (X : List (BitVec 8)), j ≤ k ∧ i = .int .i64 j ∧ (wrAll f k).1 = (wrAll f j).1 ++ X ∧ Rd wr [] gr 86 X 0 ∧ Below w.heap.size w wr) (fun i _ => 60 - (intOf i).toNat)
          case atStart => exact ⟨0, L, by omega, rfl, by rw [hLk]; rfl, hR7, hb7'⟩
          case round =>
            obtain ⟨j, X, hj, rfl, hX, hR, hb2⟩ := hrel
            by_cases hjk : j < k
            · obtain ⟨b, off, rfl, hop⟩ := hfO (by omega)
              have hO := hop j (by omega)
              have hA := hfA j (by omega)
              obtain ⟨Y, rfl, hok, hXY⟩ := wrAll_next f k j hjk hE hX
              have hrdB := fun h4 => read_bytes (f j) Y h4 hok
              have hrdN := fun h4 => read_num (f j) Y h4 hok hO.nums
              generalize enc (f j) ++ Y = X at *
              obtain ⟨K, S, N, ap, lp, cp, l, hfk⟩ : ∃ K S N ap lp cp l, f j = ⟨K, S, N, ap, lp, cp, l⟩ := ⟨_, _, _, _, _, _, _, rfl⟩
              rw [hfk] at hA hO hrdB hrdN
              simp only at hA hO hrdB hrdN
              have hOr := hO.later hb2
              have o0 := hOr.kind
              have o1 := hOr.size
              have o2 := hOr.num
              have o3 := hOr.part
              have hNb := hO.nums
              have tj1 : (j : Int) < (olen : Int) := by omega
              have tj2 : (j : Int) < 60 := by omega
              have bO : Below wr.heap.size wr (wr.alloc (.cells #[.int .i64 K, .int .i64 S, .int .i64 N, .slice ap lp cp] 56)) := (Below.refl _ _).alloc (Nat.le_refl _) _
              have BO := Blk.new' wr 56 [.int .i64 K, .int .i64 S, .int .i64 N, .slice ap lp cp]
              have HO : Hid _ := And.intro bO (And.intro BO (And.intro hR (And.intro hb2 (And.intro hR.blt hrdN))))
              clear bO BO hR hb2 hOr hO hrdN hok
              by_cases hK4 : K = 4
              · subst hK4
                have hrd := hrdB rfl
                go_wp2_with fail
                obtain ⟨bO, BO, hR, hb2, hgr', _⟩ := HO.out
                generalize wr.alloc (.cells #[.int .i64 4, .int .i64 S, .int .i64 N, .slice ap lp cp] 56) = Wo at *
                have hRo := (hR.later bO).drew
                have hbo := (hb2.trans (bO.mono hb2.size)).drew
                have BO' := BO.drew
                clear HO hR hb2 BO bO o0 o1 o2 o3 hrdB
                generalize wr.heap.size = go at *
                obtain ⟨hl, hle, hbd, hr, hn⟩ := hA
                have C := Bytes_any [] gr X 0 S Wo.drew hRo
                rw [hrd] at C
                simp only at C
                have S0 : Wo.drew.cell? ⟨go, 1, none⟩ = some (.int .i64 S) ∧ Wo.drew.cell? ⟨go, 3, none⟩ = some (.slice ap lp cp) ∧ Row Wo.drew ap l := ⟨(op_cells BO').1, (op_cells3 BO').2, hr.later hbo⟩
                have hcD := fun (W : World) (h : W.cell? ⟨go, 1, none⟩ = some (.int .i64 S) ∧ W.cell? ⟨go, 3, none⟩ = some (.slice ap lp cp) ∧ Row W ap l) => h.2.2.str lp cp hl
                go_region_held_law (fun W => W.cell? ⟨go, 1, none⟩ = some (.int .i64 S) ∧ W.cell? ⟨go, 3, none⟩ = some (.slice ap lp cp) ∧ Row W ap l) (first | exact S0 | assumption)
                  (first | (go_at_call 42; refine Calls.mono C ?_; rintro e w8 ⟨v8, rfl, ho8, hR8, hg8⟩; obtain ⟨a8, cap8, rfl, hle8, hm8, hr8, hn8, hg8'⟩ := ho8.open; have hc8 := hr8.str lp cap8 hl; have BO8 := BO'.grown hg8 (by simp; omega); have hb8 : Below w.heap.size w w8 := hbo.trans (grown_below hg8 _ hwgr hbo.size); have S8 : w8.cell? ⟨go, 1, none⟩ = some (.int .i64 S) ∧ w8.cell? ⟨go, 3, none⟩ = some (.slice ap lp cp) ∧ Row w8 ap l := ⟨(op_cells BO8).1, (op_cells3 BO8).2, hr.later hb8⟩))
                all_goals
                  have F8 : Hid _ := And.intro (hR8.less (F' := []) (by simp)) hb8
                  clear S8 BO8 hc8 hr8 ho8 hg8 hR8 hb8 hcD S0 C hRo hbo BO' hg8'
                  go_wp2
                  go_roundw
                  case rel => exact ⟨j + 1, Y, by omega, by go_num, hXY, F8.out.1, F8.out.2⟩
                  case measure => simp [intOf]; omega
              · have hK4' : (K == 4) = false := by simpa using hK4
                go_wp2_with fail
                obtain ⟨bO, BO, hR, hb2, hgr', hrdN⟩ := HO.out
                obtain ⟨s, rfl, hs1, hs8, r, hrd, hcase⟩ := hrdN hK4
                generalize wr.alloc (.cells #[.int .i64 K, .int .i64 s, .int .i64 N, .slice ap lp cp] 56) = Wo at *
                have hRo := hR.later bO
                have hbo := hb2.trans (bO.mono hb2.size)
                clear HO hR hb2 bO o0 o1 o2 o3 hrdB hrdN
                generalize wr.heap.size = go at *
                have C := Num_any [] gr X 0 s Wo hRo
                rw [hrd] at C
                simp only at C
                refine Calls.mono C ?_
                rintro e w8 ⟨rfl, hR8, hg8⟩
                have BO8 := BO.grown hg8 (by simp; omega)
                have hb8 : Below w.heap.size w w8 := hbo.trans (grown_below hg8 _ hwgr hbo.size)
                have S8 := op_cells BO8
                have F8 : Hid _ := And.intro hR8 hb8
                clear BO8 hg8 hR8 hb8 C hRo hbo BO
                rcases hcase with rfl | ⟨hne, hneg, hs7, rfl⟩
                · obtain ⟨s81, s82⟩ := S8
                  go_wp2
                  go_roundw
                  case rel => exact ⟨j + 1, Y, by omega, by go_num, hXY, F8.out.1, F8.out.2⟩
                  case measure => simp [intOf]; omega
                · obtain ⟨s81, s82⟩ := S8
                  have hc : s = 1 ∨ s = 2 ∨ s = 3 ∨ s = 4 ∨ s = 5 ∨ s = 6 ∨ s = 7 := by omega
                  rcases hc with rfl | rfl | rfl | rfl | rfl | rfl | rfl
                  · rw [show (2 : Int) ^ (8 * 1) = 256 from rfl] at *
                    go_wp2
                    go_roundw
                    case rel => exact ⟨j + 1, Y, by omega, by go_num, hXY, F8.out.1, F8.out.2⟩
                    case measure => simp [intOf]; omega
                  · rw [show (2 : Int) ^ (8 * 2) = 65536 from rfl] at *
                    go_wp2
                    go_roundw
                    case rel => exact ⟨j + 1, Y, by omega, by go_num, hXY, F8.out.1, F8.out.2⟩
                    case measure => simp [intOf]; omega
                  · rw [show (2 : Int) ^ (8 * 3) = 16777216 from rfl] at *
                    go_wp2
                    go_roundw
                    case rel => exact ⟨j + 1, Y, by omega, by go_num, hXY, F8.out.1, F8.out.2⟩
                    case measure => simp [intOf]; omega
                  · rw [show (2 : Int) ^ (8 * 4) = 4294967296 from rfl] at *
                    go_wp2
                    go_roundw
                    case rel => exact ⟨j + 1, Y, by omega, by go_num, hXY, F8.out.1, F8.out.2⟩
                    case measure => simp [intOf]; omega
                  · rw [show (2 : Int) ^ (8 * 5) = 1099511627776 from rfl] at *
                    go_wp2
                    go_roundw
                    case rel => exact ⟨j + 1, Y, by omega, by go_num, hXY, F8.out.1, F8.out.2⟩
                    case measure => simp [intOf]; omega
                  · rw [show (2 : Int) ^ (8 * 6) = 281474976710656 from rfl] at *
                    go_wp2
                    go_roundw
                    case rel => exact ⟨j + 1, Y, by omega, by go_num, hXY, F8.out.1, F8.out.2⟩
                    case measure => simp [intOf]; omega
                  · rw [show (2 : Int) ^ (8 * 7) = 72057594037927936 from rfl] at *
                    go_wp2
                    go_roundw
                    case rel => exact ⟨j + 1, Y, by omega, by go_num, hXY, F8.out.1, F8.out.2⟩
                    case measure => simp [intOf]; omega
            · obtain rfl : j = k := by omega
              have hX0 : X = [] := by simpa using hX
              subst hX0
              have F8 : Hid _ := And.intro hR hb2
              clear hR hb2
              go_wp2_with (first
                | (go_at_call 44; refine (End_any [] gr [] 0 _ F8.out.1).mono ?_; rw [show rdEnd [] 0 = 0 from rfl]; rintro e w' ⟨rfl, rfl⟩)
                | (go_at_call 23; refine (known2_any _).mono ?_; rintro e w' ⟨rfl, hbk⟩))
              go_ret
              exact ⟨rfl, below_then F8.out.2 hbk⟩
      · have hwe : wrEnd (wrAll f k).1 (wrAll f k).2 = [] := by unfold wrEnd; rw [if_neg hE]
        have F0 : Hid _ := And.intro hWp (And.intro hWr hbr)
        clear hWp hWr hbr
        generalize (wrAll f k).1 = L at *
        generalize (wrAll f k).2 = E at *
        have hE' : (E == 0) = false := by simpa using hE
        rcases hx with hx | ⟨hx0, hx⟩
        · go_wp2_with fail
          obtain ⟨hWp, hWr, hbr⟩ := F0.out
          refine (wEnd_any w.heap.size gw vp _ _ wr hWp (by omega)).mono ?_
          rintro e w5 ⟨cb, rfl, hob, hb5⟩
          rw [hwe] at hob
          obtain ⟨ab, capb, rfl, hleb, hmb, hrb, hnb, _⟩ := hob.open
          have K5 : Hid _ := And.intro hrb (And.intro (hWr.later hb5) (hbr.trans (hb5.mono hbr.size)))
          clear hob hrb hWp hWr hbr hb5 F0
          go_wp2_with fail
          obtain ⟨hrb, hWr, hb5⟩ := K5.out
          refine (rwEnd_any w.heap.size gv vr _ _ w5 hWr (by omega)).mono ?_
          rintro e w6 ⟨cc, rfl, hoc, hb6⟩
          rw [hwe] at hoc
          obtain ⟨ac, capc, rfl, hlec, hmc, hrc, hnc, _⟩ := hoc.open
          have hrb6 := hrb.later hb6
          have sb := hrb6.str 0 capb rfl
          have sc := hrc.str 0 capc rfl
          have K6 : Hid _ := And.intro hrb6 (hb5.trans (hb6.mono hb5.size))
          clear hoc hrc hrb hWr hb5 hb6 K5 hrb6
          go_wp2_with (go_at_call 23; refine (known2_any _).mono ?_; rintro e w' ⟨rfl, hbk⟩)
          go_ret
          exact ⟨rfl, below_then K6.out.2 hbk⟩
        · go_wp2_with fail
          obtain ⟨hWp, hWr, hbr⟩ := F0.out
          refine (wEnd_any w.heap.size gw vp _ _ wr hWp (by omega)).mono ?_
          rintro e w5 ⟨cb, rfl, hob, hb5⟩
          rw [hwe] at hob
          obtain ⟨ab, capb, rfl, hleb, hmb, hrb, hnb, _⟩ := hob.open
          have K5 : Hid _ := And.intro hrb (And.intro (hWr.later hb5) (hbr.trans (hb5.mono hbr.size)))
          clear hob hrb hWp hWr hbr hb5 F0
          go_wp2_with fail
          obtain ⟨hrb, hWr, hb5⟩ := K5.out
          refine (rwEnd_any w.heap.size gv vr _ _ w5 hWr (by omega)).mono ?_
          rintro e w6 ⟨cc, rfl, hoc, hb6⟩
          rw [hwe] at hoc
          obtain ⟨ac, capc, rfl, hlec, hmc, hrc, hnc, _⟩ := hoc.open
          have hrb6 := hrb.later hb6
          have sb := hrb6.str 0 capb rfl
          have sc := hrc.str 0 capc rfl
          have K6 : Hid _ := And.intro hrb6 (hb5.trans (hb6.mono hb5.size))
          clear hoc hrc hrb hWr hb5 hb6 K5 hrb6
          go_wp2_with (go_at_call 23; refine (known2_any _).mono ?_; rintro e w' ⟨rfl, hbk⟩)
          go_ret
          exact ⟨rfl, below_then K6.out.2 hbk⟩
end Go.Proofs.Ytkajedabcedifab
