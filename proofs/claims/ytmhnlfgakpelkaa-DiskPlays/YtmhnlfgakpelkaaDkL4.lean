/- The walk of the law that plays both disks. -/
import Derived.Test.YtmhnlfgakpelkaaDkR10
namespace Go.Proofs.Ytmhnlfgakpelkaa
open Go.RowKit
set_option linter.unusedVariables false

def okN (n : Int) : Bool := decide (1 ≤ n ∧ n ≤ 4096)
def eN (n : Int) : Int := if okN n then 0 else 1
theorem New_both (n : Int) (w : World) :
    Calls Try.prog 7 #[.int .i64 n] w fun e w' => ∃ pv, e = .returned (.tuple #[.pointer pv, .int .i64 (eN n)]) ∧ (eN n = 0 ∧ (∃ y, pv = some y) ∨ eN n = 1 ∧ pv = none) ∧ Below w.heap.size w w' := by
  by_cases h : 1 ≤ n ∧ n ≤ 4096
  · have e : eN n = 0 := by unfold eN; rw [show okN n = true from decide_eq_true h]; rfl
    rw [e]
    have hh := New_yes n.toNat w (by omega) (by omega)
    rw [show ((n.toNat : Nat) : Int) = n by omega] at hh
    refine hh.mono ?_
    rintro e w' ⟨g, s, m, rfl, -, -, -, -, hb⟩
    exact ⟨_, rfl, .inl ⟨rfl, _, rfl⟩, hb⟩
  · have e : eN n = 1 := by unfold eN; rw [show okN n = false from decide_eq_false h]; rfl
    rw [e]
    refine (New_no n w (by omega)).mono ?_
    rintro e w' ⟨rfl, rfl⟩
    exact ⟨_, rfl, .inr ⟨rfl, rfl⟩, Below.refl _ _⟩
theorem rNew_both (n : Int) (w : World) :
    Calls Try.prog 8 #[.int .i64 n] w fun e w' => ∃ pv, e = .returned (.tuple #[.pointer pv, .int .i64 (eN n)]) ∧ Below w.heap.size w w' := by
  by_cases h : 1 ≤ n ∧ n ≤ 4096
  · have e : eN n = 0 := by unfold eN; rw [show okN n = true from decide_eq_true h]; rfl
    rw [e]
    have hh := rNew_yes n.toNat w (by omega) (by omega)
    rw [show ((n.toNat : Nat) : Int) = n by omega] at hh
    refine hh.mono ?_
    rintro e w' ⟨g, rfl, hb⟩
    exact ⟨_, rfl, hb⟩
  · have e : eN n = 1 := by unfold eN; rw [show okN n = false from decide_eq_false h]; rfl
    rw [e]
    refine (rNew_no n w (by omega)).mono ?_
    rintro e w' ⟨rfl, rfl⟩
    exact ⟨_, rfl, Below.refl _ _⟩
theorem rdk_len {g : Nat} {q r : Option Nat} {V : List Nat} {d : Dm} {w : World} (h : (rdk g q r V d).Ok w) (hw : d.Wf) : ∃ qa qc, w.cell? ⟨g, 0, none⟩ = some (.slice qa d.n qc) := by
  obtain ⟨_, sv, lv, S, vs, ls, hq', hr', hD⟩ := h.holds
  have c0 := hD.blk.cell (by simp [maxLen]) 0 (by simp)
  simp only [List.getElem?_cons_zero] at c0
  obtain ⟨qa, qc, hsv⟩ := own_form hD.safe
  rw [hsv, hD.count hw] at c0
  exact ⟨qa, qc, c0⟩

set_option maxRecDepth 8000 in
set_option maxHeartbeats 4000000 in
theorem diskPlays_walk (sec : Int) (ia : Option Addr) (ilen icap : Nat) (il : List (BitVec 8)) (oa : Option Addr) (olen ocap : Nat) (nn : Int) (w : World) (hsec : -9223372036854775808 ≤ sec ∧ sec ≤ 9223372036854775807) (A : Arg 140737488351232 w ia ilen icap il) (O : DOps w oa olen ocap) (hnn : -9223372036854775808 ≤ nn ∧ nn ≤ 9223372036854775807) :
    Calls Try.prog 3 #[.int .i64 sec, .slice ia ilen icap, .slice oa olen ocap, .int .i64 nn] w fun e w' => e = .returned (.bool true) ∧ Below w.heap.size w w' := by
  have hol : olen ≤ maxLen := Nat.le_trans O.le O.most
  unfold maxLen at hol
  have HO : Hid _ := O
  have HA : Hid _ := A
  have hl : Hid _ := A.len_eq
  have hbd : ilen ≤ 140737488351232 := by have := A.le; have := A.bound; omega
  clear A O
  go_enter Try.func3, Try.ntmps3
  go_wp2_with fail
  refine (New_both sec w).mono ?_
  rintro e w1 ⟨pv, rfl, hpv, b1⟩
  have B1 : Hid _ := b1
  have HV : Hid _ := hpv
  clear b1 hpv
  go_wp2_with fail
  refine (rNew_both sec w1).mono ?_
  rintro e w2 ⟨rv, rfl, b2⟩
  have B2 : Hid _ := below_then B1.out b2
  clear b2 B1
  generalize eN sec = bN at *
  go_wp2_with fail
  refine (Lent_any ia ilen icap il w2 ⟨HA.out.len_eq, HA.out.le, HA.out.bound, HA.out.row.later B2.out, HA.out.isNil⟩).mono ?_
  rintro e w3 ⟨go, c, rfl, ho3, hgo, hc, hcm, b3⟩
  have hrow : Row w3 (some ⟨go, 0, none⟩) (il ++ [167#8]) := by
    obtain ⟨a1, cap1, hv1, _, _, hr1, _, _⟩ := ho3.open
    simp only [Value.slice.injEq] at hv1
    rw [hv1.1]; exact hr1
  have hrow' : Row w3 (some ⟨go, 0, none⟩) il := by have := hrow.part (n := 0) 0 ilen; rw [List.drop_zero, List.take_left' hl.out] at this; exact this
  have hgl := (World.ownsRow.lt ho3 go rfl).2
  have B3 : Hid _ := below_then B2.out b3
  have R3 : Hid _ := And.intro ho3 (And.intro hrow hrow')
  clear ho3 hrow hrow' b3
  cases himg : isImage ilen with
  | false =>
    go_wp2_with fail
    refine (Load_no (some ⟨go, 0, none⟩) ilen c w3 hbd himg).mono ?_
    rintro e w4 ⟨rfl, rfl⟩
    go_wp2_with fail
    refine (rLoad_no ia ilen icap w3 hbd himg).mono ?_
    rintro e w5 ⟨rfl, rfl⟩
    have HK : Hid _ := Kept_yes go ilen c ia icap il w3 hl.out hc hbd R3.out.2.1 (HA.out.row.later B3.out)
    have HS : Hid _ := Spoil_lent' R3.out.1 hbd hc
    have hg3 : w.heap.size ≤ go := Nat.le_trans B2.out.size hgo
    clear HA R3 HO himg
    rcases HV.out with ⟨rfl, y, rfl⟩ | ⟨rfl, rfl⟩
    all_goals
      clear HV
      go_wp2_with fail
      refine (Calls.mono HK.out) ?_
      rintro e w6 ⟨rfl, rfl⟩
      go_wp2_with fail
      refine (Calls.mono HS.out) ?_
      rintro e w7 ⟨rfl, hg7⟩
      have F : Hid _ := B3.out.grown hg7 B3.out.size (fun k hk => by cases hk; exact hg3)
      clear hg7
      go_wp2_with (go_at_call 14; refine (known3_any _).mono ?_; rintro e w8 ⟨rfl, hb8⟩)
      go_ret
      exact ⟨rfl, below_then F.out hb8⟩
  | true =>
    obtain ⟨i1, i2, i3⟩ : ilen % 256 = 0 ∧ 256 ≤ ilen ∧ ilen ≤ 1048576 := of_decide_eq_true himg
    go_wp2_with fail
    refine (Load_yes (some ⟨go, 0, none⟩) ilen c il w3 hl.out (by omega) R3.out.2.2 (fun e => by cases e) himg).mono ?_
    rintro e w4 ⟨g, s, m, rfl, ok4, hg4, hs4, hm4, b4⟩
    have H4 : Hid _ := And.intro ok4 (And.intro hg4 (And.intro hs4 (And.intro hm4 b4)))
    have B4 : Hid _ := below_then B3.out b4
    clear ok4 hg4 hs4 hm4 b4
    go_wp2_with fail
    refine (rLoad_yes ia ilen icap il w4 hl.out HA.out.le (HA.out.row.later B4.out) himg).mono ?_
    rintro e w5 ⟨g', q, V, rfl, ok5, hnew5, b5⟩
    have H5 : Hid _ := And.intro ok5 (And.intro hnew5 b5)
    have HK : Hid _ := Kept_yes go ilen c ia icap il w5 hl.out hc hbd (R3.out.2.1.later (below_then H4.out.2.2.2.2 b5)) (HA.out.row.later (below_then B4.out b5))
    have HS : Hid _ := Spoil_lent' (R3.out.1.later (below_then H4.out.2.2.2.2 b5)) hbd hc
    clear ok5 hnew5 b5 R3
    go_upto_region 6 with fail
    go_cut [69] from 42 to 69 (fun c wx => c = .bool false ∧ wx = w5)
    case first =>
      clear H4 H5 HS B4 B3 B2 HA HO
      rcases HV.out with ⟨rfl, y, rfl⟩ | ⟨rfl, rfl⟩
      all_goals
        clear HV
        go_wp2_with fail
        refine (Calls.mono HK.out) ?_
        rintro e w6 ⟨rfl, rfl⟩
        go_wp2_with fail
        go_meet
        exact ⟨rfl, rfl⟩
    case rest =>
    obtain ⟨rfl, hwc⟩ := hcut
    obtain rfl := hwc.symm
    clear hwc HK HV
    go_wp2_with fail
    refine (Calls.mono HS.out) ?_
    rintro e w6 ⟨rfl, hg6⟩
    have hz3 := B3.out.size
    have sep : Sep w.heap.size [dk g ⟨s, m, none, []⟩ ⟨il, [], false, false⟩, rdk g' q none V ⟨il, [], false, false⟩] w6 := by
      obtain ⟨ok4, hg4, hs4, hm4, b4⟩ := H4.out
      obtain ⟨ok5, hnew5, b5⟩ := H5.out
      have z4 := b4.size
      have z5 := b5.size
      have hdW : ∀ k ∈ (dk g ⟨s, m, none, []⟩ ⟨il, [], false, false⟩).W, w3.heap.size ≤ k := fun k hk => by simp [dk] at hk; rcases hk with rfl | rfl | rfl <;> assumption
      have s4 : Sep w3.heap.size [dk g ⟨s, m, none, []⟩ ⟨il, [], false, false⟩] w4 := (Sep.nil (w := w3)).fresh b4 ok4 (fun k hk => by
        rcases hk with hk | hk
        · exact hdW k hk
        · cases hk)
      have s5 := (s4.fresh b5 ok5 hnew5).swap
      have ht : Turned (fun k => k = go) w5 w6 := turned_grown hg6 (fun k hk => by cases hk; rfl)
      refine ⟨fun o ho => (s5.each o ho).turned ht (fun k hk e => ?_), fun o ho k hk => Nat.le_trans hz3 (s5.new o ho k hk), s5.pair, by have := hg6.size; omega⟩
      simp only [List.mem_cons, List.not_mem_nil, or_false] at ho
      rcases ho with rfl | rfl
      · rcases hk with hk | hk
        · have := hdW k hk; omega
        · cases hk
      · have := hnew5 k hk; omega
    have hg3 : w.heap.size ≤ go := Nat.le_trans B2.out.size hgo
    have B6 : Hid _ := (below_then B4.out H5.out.2.2).grown hg6 (below_then B4.out H5.out.2.2).size (fun k hk => by cases hk; exact hg3)
    have hwf0 : Dm.Wf ⟨il, [], false, false⟩ := ⟨⟨ilen / 256, by omega, by omega, by show il.length = _; rw [hl.out]; omega⟩, fun x hx => by cases hx⟩
    obtain ⟨qa, qc, t0⟩ := rdk_len (sep.each (rdk g' q none V ⟨il, [], false, false⟩) (by simp)) hwf0
    have SP : Hid _ := And.intro sep hwf0
    clear sep hg6 HS H4 H5 B4 B3 B2 HA hwf0
    generalize hdn : Dm.n ⟨il, [], false, false⟩ = dn at *
    by_cases hbig : 20 < dn
    · have q1 : (20 : Int) < (dn : Int) := by omega
      clear SP HO
      go_wp2_with (go_at_call 14; refine (known3_any _).mono ?_; rintro e w8 ⟨rfl, hb8⟩)
      go_ret
      exact ⟨rfl, below_then B6.out hb8⟩
    · have q1 : ¬ (20 : Int) < (dn : Int) := by omega
      go_wp2_with fail
      clear t0 hdn
      obtain ⟨wz, hwz⟩ : ∃ wz, wz = w6 := ⟨_, rfl⟩
      subst hwz
      go_loopw [18] (fun i wr => ∃ (k : Nat) (p : Pl) (q : Option Nat) (r : Option Nat) (V : List Nat) (d : Dm), k ≤ olen ∧ k ≤ 80 ∧ i = .int .i64 k ∧ Sep w.heap.size [dk g p d, rdk g' q r V d] wr ∧ Below w.heap.size w wr ∧ d.Wf ∧ d.gs.length ≤ k) (fun i _ => 80 - (intOf i).toNat)
      case atStart => exact ⟨0, _, _, _, _, _, by omega, by omega, rfl, SP.out.1, B6.out, SP.out.2, Nat.le_refl _⟩
      case round =>
        clear SP B6
        obtain ⟨k, p, q, r, V, d, hk1, hk2, rfl, sep, hbr, hwf, hgl⟩ := hrel
        go_upto_region 12 with fail
        go_cut [90] from 83 to 117 (fun c wx => c = .bool (decide (k < olen ∧ k < 80)) ∧ wx = wr)
        case first =>
          clear sep hbr hwf HO
          by_cases t1 : (k : Int) < (olen : Int)
          · by_cases t2 : (k : Int) < 80
            · go_wp2
              go_meet
              exact ⟨congrArg Value.bool (decide_eq_true (p := k < olen ∧ k < 80) (by omega)).symm, rfl⟩
            · go_wp2
              go_meet
              exact ⟨congrArg Value.bool (decide_eq_false (p := k < olen ∧ k < 80) (by omega)).symm, rfl⟩
          · go_wp2
            go_meet
            exact ⟨congrArg Value.bool (decide_eq_false (p := k < olen ∧ k < 80) (by omega)).symm, rfl⟩
        case rest =>
        obtain ⟨rfl, hwc⟩ := hcut
        obtain rfl := hwc.symm
        clear hwc
        by_cases hlt' : k < olen ∧ k < 80
        · have hdec : decide (k < olen ∧ k < 80) = true := decide_eq_true hlt'
          rw [hdec]
          clear hdec
          obtain ⟨t1, t2⟩ := hlt'
          obtain ⟨b, off, rfl, hop⟩ := HO.out.each (by omega)
          obtain ⟨K, N, xv, lv, o0, o1, o2, o3, D⟩ := hop k t1
          obtain ⟨xa, xl, xc, xb, rfl, XA⟩ := D.bytes
          obtain ⟨ja, jl, jc, ji, rfl, IA⟩ := D.ints
          have hN := D.nums
          have m0 := fun (X : World) (hX : Below w.heap.size w X) => cell_later hX o0
          have m1 := fun (X : World) (hX : Below w.heap.size w X) => cell_later hX o1
          have m2 := fun (X : World) (hX : Below w.heap.size w X) => cell_later hX o2
          have m3 := fun (X : World) (hX : Below w.heap.size w X) => cell_later hX o3
          have q1 : (k : Int) < (olen : Int) := by omega
          have q2 : (k : Int) < 80 := by omega
          have hgl' := dmDo_len d K N xb ji
          have hwf' := dmDo_wf hwf K N xb ji
          have Sd : Below w.heap.size w wr.drew := hbr.drew
          have HD : Hid _ := do_any w g p d K N xa xl xc xb ja jl jc ji wr.drew sep.drew.head hwf (by omega) hN XA IA Sd (sep.new _ (by simp))
          have HR : Hid _ := fun (x1 : World) (s1 : Sep w.heap.size [rdk g' q r V d, dk g p d] x1) => s1
          have HS : Hid _ := And.intro sep.drew (And.intro hwf hwf')
          have HX : Hid _ := And.intro XA IA
          clear sep hbr hwf hwf' o0 o1 o2 o3 XA IA D hop HR
          generalize hd1 : dmDo d K N xb ji = dd at *
          clear HO
          go_wp2_with fail
          refine wp_region_held_drew (S := fun W => Below w.heap.size w W) (by kernel_rfl) Sd (fun hS => ?_)
          have B0 : Below w.heap.size w wr.drew := Sd
          refine any_take (i := 0) (v := ?_) rfl (by kernel_rfl) (by kernel_rfl) (by kernel_rfl) (by exact fun _ _ _ h => h) (by rfl) ?_ hS ?_
          rotate_left
          · ((intro w hSw; (try dsimp only at hSw); go_simp) <;> with_reducible rfl)
          (try simp only [Act.put, List.setIfInBounds_toArray, List.set_cons_zero, List.set_cons_succ])
          refine any_take (i := 1) (v := ?_) rfl (by kernel_rfl) (by kernel_rfl) (by kernel_rfl) (by exact fun _ _ _ h => h) (by rfl) ?_ hS ?_
          rotate_left
          · ((intro w hSw; (try dsimp only at hSw); go_simp) <;> with_reducible rfl)
          (try simp only [Act.put, List.setIfInBounds_toArray, List.set_cons_zero, List.set_cons_succ])
          refine any_take (i := 2) (v := ?_) rfl (by kernel_rfl) (by kernel_rfl) (by kernel_rfl) (by exact fun _ _ _ h => h) (by rfl) ?_ hS ?_
          rotate_left
          · ((intro w hSw; (try dsimp only at hSw); go_simp) <;> with_reducible rfl)
          (try simp only [Act.put, List.setIfInBounds_toArray, List.set_cons_zero, List.set_cons_succ])
          refine any_take (i := 3) (v := ?_) rfl (by kernel_rfl) (by kernel_rfl) (by kernel_rfl) (by exact fun _ _ _ h => h) (by rfl) ?_ hS ?_
          rotate_left
          · ((intro w hSw; (try dsimp only at hSw); go_simp) <;> with_reducible rfl)
          (try simp only [Act.put, List.setIfInBounds_toArray, List.set_cons_zero, List.set_cons_succ])
          refine any_take (i := 4) (v := ?_) rfl (by kernel_rfl) (by kernel_rfl) (by kernel_rfl) (by exact fun _ _ _ h => h) (by rfl) ?_ hS ?_
          rotate_left
          · ((intro w hSw; (try dsimp only at hSw); go_simp) <;> with_reducible rfl)
          (try simp only [Act.put, List.setIfInBounds_toArray, List.set_cons_zero, List.set_cons_succ])
          refine any_take (i := 6) (v := ?_) rfl (by kernel_rfl) (by kernel_rfl) (by kernel_rfl) (by exact fun _ _ _ h => h) (by rfl) ?_ hS ?_
          rotate_left
          · ((intro w hSw; (try dsimp only at hSw); go_simp) <;> with_reducible rfl)
          (try simp only [Act.put, List.setIfInBounds_toArray, List.set_cons_zero, List.set_cons_succ])
          refine any_take (i := 7) (v := ?_) rfl (by kernel_rfl) (by kernel_rfl) (by kernel_rfl) (by exact fun _ _ _ h => h) (by rfl) ?_ hS ?_
          rotate_left
          · ((intro w hSw; (try dsimp only at hSw); go_simp) <;> with_reducible rfl)
          (try simp only [Act.put, List.setIfInBounds_toArray, List.set_cons_zero, List.set_cons_succ])
          refine any_take (i := 8) (v := ?_) rfl (by kernel_rfl) (by kernel_rfl) (by kernel_rfl) (by exact fun _ _ _ h => h) (by rfl) ?_ hS ?_
          rotate_left
          · ((intro w hSw; (try dsimp only at hSw); go_simp) <;> with_reducible rfl)
          (try simp only [Act.put, List.setIfInBounds_toArray, List.set_cons_zero, List.set_cons_succ])
          refine any_take (i := 9) (v := ?_) rfl (by kernel_rfl) (by kernel_rfl) (by kernel_rfl) (by exact fun _ _ _ h => h) (by rfl) ?_ hS ?_
          rotate_left
          · ((intro w hSw; (try dsimp only at hSw); go_simp) <;> with_reducible rfl)
          (try simp only [Act.put, List.setIfInBounds_toArray, List.set_cons_zero, List.set_cons_succ])
          refine any_take (i := 10) (v := ?_) rfl (by kernel_rfl) (by kernel_rfl) (by kernel_rfl) (by exact fun _ _ _ h => h) (by rfl) ?_ hS ?_
          rotate_left
          · ((intro w hSw; (try dsimp only at hSw); go_simp) <;> with_reducible rfl)
          (try simp only [Act.put, List.setIfInBounds_toArray, List.set_cons_zero, List.set_cons_succ])
          clear m2 m3
          refine any_one (i := 5) rfl (by kernel_rfl) (fun K hK => ?_)
          go_simp
          refine (Calls.mono (HD.out)) ?_
          rintro e x1 ⟨p1, rfl, st1⟩
          have S1 := HS.out.1.step st1
          have BX1 := Sd.trans (HS.out.1.below st1)
          have HS1 : Hid _ := S1.swap
          clear S1 st1
          go_wp2_with fail
          refine hK.out _ _ (BX1) ?_
          clear hK K hS
          have hS := BX1
          have HR1 : Hid _ := rDo_any w g' q r V d K N xa xl xc xb ja jl jc ji x1 HS1.out.head HS.out.2.1 (by omega) hN HX.out.1 HX.out.2 BX1 (HS1.out.new _ (by simp))
          rw [hd1] at HR1
          refine any_one (i := 11) rfl (by kernel_rfl) (fun K hK => ?_)
          go_simp
          refine (Calls.mono (HR1.out)) ?_
          rintro e x2 ⟨q2', r2, V2, rfl, st2⟩
          have S2 := HS1.out.step st2
          have BX2 := BX1.trans (HS1.out.below st2)
          have HS2 : Hid _ := S2.swap
          clear S2 st2 HR1
          go_wp2_with fail
          refine hK.out _ _ (BX2) ?_
          clear hK K hS
          have hS := BX2
          refine any_take (i := 12) (v := ?_) rfl (by kernel_rfl) (by kernel_rfl) (by kernel_rfl) (by exact fun _ _ _ h => h) (by rfl) ?_ hS ?_
          rotate_left
          · ((intro w hSw; (try dsimp only at hSw); go_simp) <;> with_reducible rfl)
          (try simp only [Act.put, List.setIfInBounds_toArray, List.set_cons_zero, List.set_cons_succ])
          refine any_take (i := 13) (v := ?_) rfl (by kernel_rfl) (by kernel_rfl) (by kernel_rfl) (by exact fun _ _ _ h => h) (by rfl) ?_ hS ?_
          rotate_left
          · ((intro w hSw; (try dsimp only at hSw); go_simp) <;> with_reducible rfl)
          (try simp only [Act.put, List.setIfInBounds_toArray, List.set_cons_zero, List.set_cons_succ])
          refine any_take (i := 14) (v := ?_) rfl (by kernel_rfl) (by kernel_rfl) (by kernel_rfl) (by exact fun _ _ _ h => h) (by rfl) ?_ hS ?_
          rotate_left
          · ((intro w hSw; (try dsimp only at hSw); go_simp) <;> with_reducible rfl)
          (try simp only [Act.put, List.setIfInBounds_toArray, List.set_cons_zero, List.set_cons_succ])
          refine any_take (i := 15) (v := ?_) rfl (by kernel_rfl) (by kernel_rfl) (by kernel_rfl) (by exact fun _ _ _ h => h) (by rfl) ?_ hS ?_
          rotate_left
          · ((intro w hSw; (try dsimp only at hSw); go_simp) <;> with_reducible rfl)
          (try simp only [Act.put, List.setIfInBounds_toArray, List.set_cons_zero, List.set_cons_succ])
          refine any_take (i := 16) (v := ?_) rfl (by kernel_rfl) (by kernel_rfl) (by kernel_rfl) (by exact fun _ _ _ h => h) (by rfl) ?_ hS ?_
          rotate_left
          · ((intro w hSw; (try dsimp only at hSw); go_simp) <;> with_reducible rfl)
          (try simp only [Act.put, List.setIfInBounds_toArray, List.set_cons_zero, List.set_cons_succ])
          refine any_take (i := 17) (v := ?_) rfl (by kernel_rfl) (by kernel_rfl) (by kernel_rfl) (by exact fun _ _ _ h => h) (by rfl) ?_ hS ?_
          rotate_left
          · ((intro w hSw; (try dsimp only at hSw); go_simp) <;> with_reducible rfl)
          (try simp only [Act.put, List.setIfInBounds_toArray, List.set_cons_zero, List.set_cons_succ])
          refine any_take (i := 18) (v := ?_) rfl (by kernel_rfl) (by kernel_rfl) (by kernel_rfl) (by exact fun _ _ _ h => h) (by rfl) ?_ hS ?_
          rotate_left
          · ((intro w hSw; (try dsimp only at hSw); go_simp) <;> with_reducible rfl)
          (try simp only [Act.put, List.setIfInBounds_toArray, List.set_cons_zero, List.set_cons_succ])
          refine any_take (i := 19) (v := ?_) rfl (by kernel_rfl) (by kernel_rfl) (by kernel_rfl) (by exact fun _ _ _ h => h) (by rfl) ?_ hS ?_
          rotate_left
          · ((intro w hSw; (try dsimp only at hSw); go_simp) <;> with_reducible rfl)
          (try simp only [Act.put, List.setIfInBounds_toArray, List.set_cons_zero, List.set_cons_succ])
          refine any_take (i := 20) (v := ?_) rfl (by kernel_rfl) (by kernel_rfl) (by kernel_rfl) (by exact fun _ _ _ h => h) (by rfl) ?_ hS ?_
          rotate_left
          · ((intro w hSw; (try dsimp only at hSw); go_simp) <;> with_reducible rfl)
          (try simp only [Act.put, List.setIfInBounds_toArray, List.set_cons_zero, List.set_cons_succ])
          refine any_take (i := 21) (v := ?_) rfl (by kernel_rfl) (by kernel_rfl) (by kernel_rfl) (by exact fun _ _ _ h => h) (by rfl) ?_ hS ?_
          rotate_left
          · ((intro w hSw; (try dsimp only at hSw); go_simp) <;> with_reducible rfl)
          (try simp only [Act.put, List.setIfInBounds_toArray, List.set_cons_zero, List.set_cons_succ])
          have HL2 : Hid _ := alike_any g p1 dd.1 g' q2' r2 V2 N nn x2 HS2.out.head (HS2.out.each (rdk g' q2' r2 V2 dd.1) (by simp)) HS.out.2.2 (by omega) hN hnn
          refine any_one (i := 22) rfl (by kernel_rfl) (fun K hK => ?_)
          go_simp
          refine (Calls.mono (HL2.out)) ?_
          rintro e x3 ⟨rfl, hbR⟩
          have BX3 := BX2.trans (hbR.mono BX2.size)
          have HS3 : Hid _ := HS2.out.later hbR
          clear hbR HL2
          go_wp2_with fail
          refine hK.out _ _ (BX3) ?_
          clear hK K hS
          have hS := BX3
          refine any_take (i := 23) (v := ?_) rfl (by kernel_rfl) (by kernel_rfl) (by kernel_rfl) (by exact fun _ _ _ h => h) (by rfl) ?_ hS ?_
          rotate_left
          · ((intro w hSw; (try dsimp only at hSw); go_simp) <;> with_reducible rfl)
          (try simp only [Act.put, List.setIfInBounds_toArray, List.set_cons_zero, List.set_cons_succ])
          refine any_take (i := 24) (v := ?_) rfl (by kernel_rfl) (by kernel_rfl) (by kernel_rfl) (by exact fun _ _ _ h => h) (by rfl) ?_ hS ?_
          rotate_left
          · ((intro w hSw; (try dsimp only at hSw); go_simp) <;> with_reducible rfl)
          (try simp only [Act.put, List.setIfInBounds_toArray, List.set_cons_zero, List.set_cons_succ])
          refine wpAnyH_done (by kernel_rfl) ?_ _
          have F : Hid _ := And.intro HS3.out (And.intro BX3 HS.out.2.2)
          clear HS HS1 HS2 HS3 BX1 BX2 BX3 hS HD HX Sd B0 hd1
          go_wp2
          go_roundw
          case rel => exact ⟨k + 1, _, _, _, _, _, by omega, by omega, by go_num, F.out.1, F.out.2.1, F.out.2.2, by omega⟩
          case measure => simp [intOf]; omega
        · have K3 : Hid _ := And.intro sep (And.intro hbr hwf)
          have hdec : decide (k < olen ∧ k < 80) = false := decide_eq_false hlt'
          rw [hdec]
          clear sep hbr hwf HO hdec
          obtain ⟨wy, hwy⟩ : ∃ wy, wy = wr := ⟨_, rfl⟩
          subst hwy
          have hgl6 : d.gs.length ≤ 1000000 := by omega
          have HC4 : Hid _ := Copy_any g p d wy K3.out.1.head K3.out.2.2 hgl6
          go_wp2_with fail
          refine (Calls.mono HC4.out) ?_
          rintro e w4' ⟨gc, pc, rfl, okc, vc, nc, b4⟩
          have s4 := K3.out.1.copy b4 okc vc nc
          have H4 : Hid _ := And.intro s4 (And.intro (K3.out.2.1.trans (b4.mono K3.out.2.1.size)) K3.out.2.2)
          have HA4 : Hid _ := alike_any gc pc d g' q r V 0 1 w4' s4.head (s4.each (rdk g' q r V d) (by simp)) K3.out.2.2 hgl6 (by omega) (by omega)
          clear s4 okc vc nc b4 K3 HC4
          go_wp2_with fail
          refine (Calls.mono HA4.out) ?_
          rintro e w5' ⟨rfl, b5⟩
          have H5' : Hid _ := And.intro (H4.out.1.later b5) (And.intro (H4.out.2.1.trans (b5.mono H4.out.2.1.size)) H4.out.2.2)
          have kc := fun (w : World) (C : Array Value) (n c : Nat) => Lib.run_convert_bytes_const (P := Try.prog) w 22 5 C n c Try.underlying22 Try.underlying5
          clear b5 HA4 H4
          go_wp2_with fail
          have b6 : Below w5'.heap.size w5' (w5'.alloc (.cells #[.int .u8 111, .int .u8 116, .int .u8 104, .int .u8 101, .int .u8 114] 5 (5, 6))) := (Below.refl _ _).alloc (Nat.le_refl _) _
          have r6 := Row.newl w5' #[.int .u8 111, .int .u8 116, .int .u8 104, .int .u8 101, .int .u8 114] 5 (5, 6) [111#8, 116#8, 104#8, 101#8, 114#8] rfl
          have s6 := H5'.out.1.later b6
          have HW : Hid _ := Write_any gc pc d 0 (some ⟨w5'.heap.size, 0, none⟩) 5 5 [111#8, 116#8, 104#8, 101#8, 114#8] _ s6.head H5'.out.2.2 rfl r6 (Nat.le_refl _) (fun e => by cases e) (by omega) (by omega) hgl6
          have H6 : Hid _ := And.intro s6 (And.intro (H5'.out.2.1.trans (b6.mono H5'.out.2.1.size)) H5'.out.2.2)
          clear b6 r6 s6 H5' kc
          refine (Calls.mono HW.out) ?_
          rintro e w7 ⟨pc7, rfl, st7⟩
          have s7 := H6.out.1.step st7
          have b7 := H6.out.2.1.trans (H6.out.1.below st7)
          have wf7 := wrD_wf H6.out.2.2 0 [111#8, 116#8, 104#8, 101#8, 114#8]
          have gl7 := wrD_len d 0 [111#8, 116#8, 104#8, 101#8, 114#8]
          have H7 : Hid _ := And.intro s7 (And.intro b7 (And.intro wf7 H6.out.2.2))
          clear s7 b7 wf7 st7 HW H6
          generalize (wrD d 0 [111#8, 116#8, 104#8, 101#8, 114#8]) = d7 at *
          go_wp2_with fail
          have b8 : Below w7.heap.size w7 (w7.alloc (.cells #[.int .i64 1] 3)) := (Below.refl _ _).alloc (Nat.le_refl _) _
          have B8 : Blk (w7.alloc (.cells #[.int .i64 1] 3)) w7.heap.size 3 [.int .i64 1] := Blk.new' w7 3 [.int .i64 1]
          have s8 := H7.out.1.later b8
          have I8 : IRow (w7.alloc (.cells #[.int .i64 1] 3)) (some ⟨w7.heap.size, 0, none⟩) [1] := ⟨fun x hx => by rw [List.mem_singleton.1 hx]; omega, .inr ⟨w7.heap.size, 0, rfl, fun i hi => by
            have hi0 : i = 0 := by simp at hi; omega
            subst hi0
            exact B8.cell (by simp [maxLen]) 0 (by simp)⟩⟩
          have HC := Crash_any gc pc7 d7.1 (some ⟨w7.heap.size, 0, none⟩) 1 [1] _ s8.head H7.out.2.2.1 (by omega) (by simp) (by simp) I8 (fun _ y hy e => by
            cases hy
            have := H7.out.1.head.lt pc7.s (.inl (by simp [dk]))
            have e' : w7.heap.size = pc7.s := e
            omega)
          rw [List.length_singleton] at HC
          have HC' : Hid _ := HC
          have H8 : Hid _ := And.intro s8 (And.intro (H7.out.2.1.trans (b8.mono H7.out.2.1.size)) H7.out.2.2.2)
          clear b8 B8 s8 I8 HC H7 gl7
          refine (Calls.mono HC'.out) ?_
          rintro e w9 ⟨rfl, st9⟩
          have s9 := H8.out.1.step st9
          have b9 := H8.out.2.1.trans (H8.out.1.below st9)
          have HA9 : Hid _ := alike_any g p d g' q r V 0 nn w9 (s9.each (dk g p d) (by simp)) (s9.each (rdk g' q r V d) (by simp)) H8.out.2.2 hgl6 (by omega) hnn
          have B9 : Hid _ := b9
          clear s9 b9 st9 H8 HC'
          go_wp2_with fail
          refine (Calls.mono HA9.out) ?_
          rintro e w10 ⟨rfl, b10⟩
          have F : Hid _ := below_then B9.out b10
          clear b10 HA9 B9
          go_wp2_with (go_at_call 14; refine (known3_any _).mono ?_; rintro e w11 ⟨rfl, hb11⟩)
          go_ret
          exact ⟨rfl, below_then F.out hb11⟩
end Go.Proofs.Ytmhnlfgakpelkaa
