/- cdb: PutRanges, the program's and the document's. -/
import Derived.Test.YtclpedjjboblpaaDoorXCr1
namespace Go.Proofs.YtclpedjjboblpaaDoor
open Go.RowKit
set_option linter.unusedVariables false
set_option linter.unusedSimpArgs false
set_option maxRecDepth 8000

/-- a writer, and blocks that stay as they are -/
structure WK (T : Nat) (w W : World) (g : Nat) (v : Value) (L : List (BitVec 8)) (E : Int) (bs : List (Nat × Nat × List Value)) : Prop where
  wr : WrAt W w.heap.size g T v L E
  bl : Below w.heap.size w W
  bx : ∀ b ∈ bs, Blk W b.1 b.2.1 b.2.2
  ne : ∀ b ∈ bs, b.1 ≠ g ∧ ∀ j, v.ownBlock = some j → j ≠ b.1
section
variable {T : Nat} {w W W' : World} {g : Nat} {v v' : Value} {L L' : List (BitVec 8)} {E E' : Int} {bs bs' : List (Nat × Nat × List Value)}
theorem WK.step (h : WK T w W g v L E bs) (hw : WrAt W' w.heap.size g T v' L' E') (hn : Newer W v v') (ht : Turned (Mine g v) W W') : WK T w W' g v' L' E' bs := by
  refine ⟨hw, h.bl.trans (wr_blC h.wr ht), fun b hb => ?_, fun b hb => ⟨(h.ne b hb).1, fun j hj => ?_⟩⟩
  · refine (h.bx b hb).turned ht ?_
    rintro (e | e)
    · exact (h.ne b hb).1 e
    · exact (h.ne b hb).2 _ e rfl
  · rcases hn j hj with e | e
    · exact (h.ne b hb).2 j e
    · have := (h.bx b hb).lt; omega
theorem WK.later (h : WK T w W g v L E bs) (hb : Below W.heap.size W W') : WK T w W' g v L E bs :=
  ⟨h.wr.stays (turned_below hb) (fun e => e) (fun _ _ e => e), below_then h.bl hb, fun b hbm => (h.bx b hbm).laterB hb, h.ne⟩
theorem WK.less (h : WK T w W g v L E bs) (hs : ∀ b ∈ bs', b ∈ bs) : WK T w W g v L E bs' :=
  ⟨h.wr, h.bl, fun b hb => h.bx b (hs b hb), fun b hb => h.ne b (hs b hb)⟩
theorem WK.own (h : WK T w W g v L E bs) : ∀ j, v.ownBlock = some j → w.heap.size ≤ j ∧ j < W.heap.size := fun j hj => by obtain ⟨_, ho, -⟩ := h.wr.own; exact World.ownsRow.lt ho j hj
theorem WK.new (h : WK T w W g v L E bs) (U : Nat) (xs : List Value) : WK T w (W.alloc (.cells xs.toArray U)) g v L E ((W.heap.size, U, xs) :: bs) := by
  have hb : Below W.heap.size W (W.alloc (.cells xs.toArray U)) := (Below.refl _ _).alloc (Nat.le_refl _) _
  have h1 := h.later hb
  have hg := h.wr.blk.lt
  refine ⟨h1.wr, h1.bl, fun b hbm => ?_, fun b hbm => ?_⟩
  · rcases List.mem_cons.1 hbm with rfl | hbm
    · exact Blk.new' W U xs
    · exact h1.bx b hbm
  · rcases List.mem_cons.1 hbm with rfl | hbm
    · exact ⟨by simp only; omega, fun j hj e => by have := (h.own j hj).2; simp only at e; omega⟩
    · exact h1.ne b hbm
end
theorem ofInt_nat (n : Nat) (x : Int) (h : x = (n : Int)) : BitVec.ofInt 64 x = BitVec.ofNat 64 n := by rw [h]; simp
set_option maxHeartbeats 4000000 in
theorem putRg_any (a : Option Addr) (c : Nat) (l : List Rg) (w : World) (hA : GAt kRg w (.slice a l.length c) l) (hl : l.length ≤ 140737488355328) :
    Calls Tryd.prog 28 #[.slice a l.length c] w fun e w' => ∃ z, e = .returned (.tuple #[z, .int .i64 (prR l).2]) ∧ Own w' w.heap.size z (prR l).1 ∧ Below w.heap.size w w' := by
  by_cases h32 : 32 < l.length
  · have e1 : Hid (prR l = ([], 3)) := prR_many h32
    have q1 : (l.length : Int) > 32 := by omega
    clear hA h32
    go_enter Tryd.func28, Tryd.ntmps28
    go_wp2
    refine bodyPost_ret (v := .tuple #[.slice none 0 0, .int .i64 3]) (by first | rfl | simp [results, Tryd.results28, go_sem]) rfl ?_
    exact ⟨_, by rw [e1.out], by rw [e1.out]; exact Own.nil _ _, Below.refl _ _⟩
  have h32' : l.length ≤ 32 := by omega
  have q1 : decide ((l.length : Int) > 32) = false := decide_eq_false (by omega)
  have HA : Hid _ := And.intro hA trivial
  clear hA h32
  have HN : Hid _ := NewWriter_any w.heap.size w (Nat.le_refl _)
  go_enter Tryd.func28, Tryd.ntmps28
  go_wp2_with fail
  refine (Calls.mono HN.out) ?_
  rintro r u0 ⟨g, rfl, -, W0, b0⟩
  have J0 : Hid _ := (⟨W0, b0, (fun b h => by cases h), (fun b h => by cases h)⟩ : WK 104 w u0 g (.slice none 0 0) [] 0 [])
  clear W0 b0 HN
  have NN := wNum_any w.heap.size g _ ([]) 0 2 (6 + (l.length : Int) * 16) u0 J0.out.wr (by simp [be_length])
  rw [wrNum_2 _ (by omega) (by omega), ofInt_nat (6 + 16 * l.length) (6 + (l.length : Int) * 16) (by omega)] at NN
  have HN : Hid _ := NN
  clear NN
  go_wp2_with fail
  refine (Calls.mono HN.out) ?_
  rintro r u1 ⟨rfl, x1, W1, hn1, t1⟩
  have J1 : Hid _ := J0.out.step W1 hn1 t1
  clear W1 t1 hn1 HN J0
  have NN := wNum_any w.heap.size g _ ([] ++ be 2 (BitVec.ofNat 64 (6 + 16 * l.length))) 0 2 ((l.length : Int) * 16) u1 J1.out.wr (by simp [be_length])
  rw [wrNum_2 _ (by omega) (by omega), ofInt_nat (16 * l.length) ((l.length : Int) * 16) (by omega)] at NN
  have HN : Hid _ := NN
  clear NN
  go_wp2_with fail
  refine (Calls.mono HN.out) ?_
  rintro r u2 ⟨rfl, x2, W1, hn1, t1⟩
  have J2 : Hid _ := J1.out.step W1 hn1 t1
  clear W1 t1 hn1 HN J1
  have NN := wNum_any w.heap.size g _ (([] ++ be 2 (BitVec.ofNat 64 (6 + 16 * l.length))) ++ be 2 (BitVec.ofNat 64 (16 * l.length))) 0 4 (0) u2 J2.out.wr (by simp [be_length])
  rw [wrNum_4 0 (by omega), if_pos (by decide)] at NN
  have HN : Hid _ := NN
  clear NN
  go_wp2_with fail
  refine (Calls.mono HN.out) ?_
  rintro r u3 ⟨rfl, x3, W1, hn1, t1⟩
  have J3 : Hid _ := J2.out.step W1 hn1 t1
  clear W1 t1 hn1 HN J2
  have J4q : WK 104 w u3 g x3 (pst l.length (l.take 0)).1 (pst l.length (l.take 0)).2 [] := by
    have := J3.out
    simpa [pst, rgHead, rgFlat] using this
  have J4 : Hid _ := J4q
  clear J3 J4q
  go_wp2_with fail
  go_loopw [26] (fun iv wr => ∃ (k : Nat) (v : Value), iv = .int .i64 k ∧ k ≤ l.length ∧ WK 104 w wr g v (pst l.length (l.take k)).1 (pst l.length (l.take k)).2 []) (fun iv _ => l.length - (intOf iv).toNat)
  case atStart => exact ⟨0, x3, rfl, Nat.zero_le _, J4.out⟩
  case round =>
    obtain ⟨k, v, rfl, hk, hI⟩ := hrel
    clear J4
    by_cases hlt : k < l.length
    · have q2 : (k : Int) < (l.length : Int) := by omega
      obtain ⟨b, off, rfl, hc⟩ := (HA.out.1).each kRg_ok k hlt
      have hc0 := hc 0 (by simp [kRg])
      have hc1 := hc 1 (by simp [kRg])
      simp only [kRg, List.getElem?_cons_zero, List.getElem?_cons_succ, Nat.add_zero] at hc0 hc1
      obtain ⟨x, hx⟩ : ∃ x, x = l[k] := ⟨_, rfl⟩
      have htk : l.take (k + 1) = l.take k ++ [x] := by rw [hx]; exact List.take_succ_eq_append_getElem hlt
      have hmem : x ∈ l := by rw [hx]; exact List.getElem_mem _
      rw [← hx] at hc0 hc1
      have plen : (pst l.length (l.take k)).1.length ≤ 520 := by have := pst_len l.length (l.take k); rw [List.length_take] at this; omega
      have i0 := rcell hI.bl hc0
      have i1 := rcell hI.bl hc1
      have hK := hI.new 101 [.int .u64 (x.1.toNat : Int), .int .i64 x.2]
      have hXB := hK.bx _ (List.mem_cons_self ..)
      have bel1 : Hid _ := hK.bl
      by_cases hn : x.2 < 0
      · have e1 : Hid (prR l = ([], 3)) := prR_bad hmem (by unfold Rg.ok; rw [decide_eq_false_iff_not]; omega)
        clear hc hc0 hc1 hI hK hXB htk hx hmem plen HA
        go_wp2
        refine bodyPost_ret (v := .tuple #[.slice none 0 0, .int .i64 3]) (by first | rfl | simp [results, Tryd.results28, go_sem]) rfl ?_
        exact ⟨_, by rw [e1.out], by rw [e1.out]; exact Own.nil _ _, bel1.out⟩
      · have hn0 : 0 ≤ x.2 := by omega
        obtain ⟨L1, E1, L2, E2, s1, s2, s3, ln1, ln2⟩ := pst_step l.length (l.take k) x hn0
        rw [← htk] at s3
        obtain ⟨wx, hwx⟩ : ∃ wx, wx = wr.alloc (.cells #[.int .u64 (x.1.toNat : Int), .int .i64 x.2] 101) := ⟨_, rfl⟩
        obtain ⟨xb, hxb⟩ : ∃ xb, xb = wr.heap.size := ⟨_, rfl⟩
        have hK2 : WK 104 w wx g v (pst l.length (l.take k)).1 (pst l.length (l.take k)).2 [(xb, 101, [.int .u64 (x.1.toNat : Int), .int .i64 x.2])] := by rw [hwx, hxb]; exact hK
        have NN := wNum_any w.heap.size g _ _ _ 8 (wrap64 (x.1.toNat : Int)) wx hK2.wr (by omega)
        rw [s1] at NN
        have HN : Hid _ := NN
        have y0 := blk_at (hK2.bx _ (List.mem_cons_self ..)) 0
        have y1 := blk_at (hK2.bx _ (List.mem_cons_self ..)) 1
        simp only [List.getElem?_cons_zero, List.getElem?_cons_succ] at y0 y1
        have J5 : Hid _ := hK2
        have HS : Hid _ := And.intro s2 (And.intro s3 (And.intro ln1 (And.intro ln2 plen)))
        clear NN hK hK2 hI hXB hc hc0 hc1 htk hx hmem s1 s2 s3 ln1 ln2 plen bel1
        go_upto_if 32 with fail
        rw [← hwx, ← hxb]
        clear hwx hxb i0 i1
        go_wp2_with fail
        refine (Calls.mono HN.out) ?_
        rintro r u1 ⟨rfl, x1, W1, hn1, t1⟩
        have J6 : Hid _ := J5.out.step W1 hn1 t1
        have y1' := blk_at (J6.out.bx _ (List.mem_cons_self ..)) 1
        simp only [List.getElem?_cons_zero, List.getElem?_cons_succ] at y1'
        have NN := wNum_any w.heap.size g _ L1 E1 4 x.2 u1 J6.out.wr (by have := HS.out; omega)
        rw [HS.out.1] at NN
        have HN2 : Hid _ := NN
        clear W1 hn1 t1 HN NN y0 y1 J5
        go_wp2_with fail
        refine (Calls.mono HN2.out) ?_
        rintro r u2 ⟨rfl, x2, W1, hn1, t1⟩
        have J7 : Hid _ := J6.out.step W1 hn1 t1
        have NN := wNum_any w.heap.size g _ L2 E2 4 0 u2 J7.out.wr (by have := HS.out; omega)
        rw [HS.out.2.1] at NN
        have HN3 : Hid _ := NN
        clear W1 hn1 t1 HN2 NN y1' J6
        go_wp2_with fail
        refine (Calls.mono HN3.out) ?_
        rintro r u3 ⟨rfl, x3', W1, hn1, t1⟩
        have J8 : Hid _ := (J7.out.step W1 hn1 t1).less (bs' := []) (fun b h => by cases h)
        clear W1 hn1 t1 HN3 J7 HS
        go_wp2
        go_roundw
        case rel => exact ⟨k + 1, x3', by go_num, by omega, J8.out⟩
        case measure => simp [intOf]; omega
    · obtain rfl : k = l.length := by omega
      rw [List.take_length] at hI
      obtain ⟨p1, p2⟩ := prR_pst (l := l) (by omega)
      have HM : Hid _ := wEnd_any w.heap.size g v _ _ wr hI.wr (by have := pst_len l.length l; omega)
      have HP : Hid _ := And.intro p1 (And.intro p2 hI.bl)
      clear p1 p2 hI
      generalize pst l.length l = ps at *
      obtain ⟨pL, pE⟩ := ps
      simp only at HM HP
      go_wp2_with fail
      refine (Calls.mono HM.out) ?_
      rintro r we ⟨z, rfl, o5, b5⟩
      rw [HP.out.1] at o5
      have G : Hid _ := And.intro (o5.lower HP.out.2.2.size) (below_then HP.out.2.2 b5)
      clear o5 b5 HM
      go_wp2
      refine bodyPost_ret (v := .tuple #[z, .int .i64 pE]) (by first | rfl | simp [results, Tryd.results28, go_sem]) rfl ?_
      exact ⟨z, by rw [← HP.out.2.1], G.out.1, G.out.2⟩
set_option maxHeartbeats 4000000 in
theorem rputRg_any (a : Option Addr) (c : Nat) (l : List Rg) (w : World) (hA : GAt kRr w (.slice a l.length c) l) (hl : l.length ≤ 140737488355328) :
    Calls Tryd.prog 30 #[.slice a l.length c] w fun e w' => ∃ z, e = .returned (.tuple #[z, .int .i64 (prR l).2]) ∧ Own w' w.heap.size z (prR l).1 ∧ Below w.heap.size w w' := by
  by_cases h32 : 32 < l.length
  · have e1 : Hid (prR l = ([], 3)) := prR_many h32
    have q1 : (l.length : Int) > 32 := by omega
    clear hA h32
    go_enter Tryd.func30, Tryd.ntmps30
    go_wp2
    refine bodyPost_ret (v := .tuple #[.slice none 0 0, .int .i64 3]) (by first | rfl | simp [results, Tryd.results30, go_sem]) rfl ?_
    exact ⟨_, by rw [e1.out], by rw [e1.out]; exact Own.nil _ _, Below.refl _ _⟩
  have h32' : l.length ≤ 32 := by omega
  have q1 : decide ((l.length : Int) > 32) = false := decide_eq_false (by omega)
  have HA : Hid _ := And.intro hA trivial
  clear hA h32
  have B0 := Blk.new' w 76 [.slice none 0 0, .int .i64 0]
  have b0 : Below w.heap.size w (w.alloc (.cells #[.slice none 0 0, .int .i64 0] 76)) := (Below.refl _ _).alloc (Nat.le_refl _) _
  have W0 : WrAt (w.alloc (.cells #[.slice none 0 0, .int .i64 0] 76)) w.heap.size w.heap.size 76 (.slice none 0 0) [] 0 := ⟨B0, ⟨[], Own.nil _ _, fun _ => rfl⟩, Nat.le_refl _, b0.size, by decide⟩
  obtain ⟨u0, hu0⟩ : ∃ u0, u0 = w.alloc (.cells #[.slice none 0 0, .int .i64 0] 76) := ⟨_, rfl⟩
  obtain ⟨g, hg⟩ : ∃ g, g = w.heap.size := ⟨_, rfl⟩
  rw [← hu0] at W0 b0
  have J0 : Hid (WK 76 w u0 g (.slice none 0 0) [] 0 []) := ⟨by rw [hg]; exact W0, b0, (fun b h => by cases h), (fun b h => by cases h)⟩
  clear W0 b0 B0
  go_enter Tryd.func30, Tryd.ntmps30
  go_upto_region 4 with fail
  rw [← hu0, ← hg]
  clear hu0 hg
  have NN := rwNum_any w.heap.size g _ ([]) 0 2 (6 + 16 * (l.length : Int)) u0 J0.out.wr (by simp [be_length])
  rw [wrNum_2 _ (by omega) (by omega), ofInt_nat (6 + 16 * l.length) (6 + 16 * (l.length : Int)) (by omega)] at NN
  have HN : Hid _ := NN
  clear NN
  go_wp2_with fail
  refine (Calls.mono HN.out) ?_
  rintro r u1 ⟨rfl, x1, W1, hn1, t1⟩
  have J1 : Hid _ := J0.out.step W1 hn1 t1
  clear W1 t1 hn1 HN J0
  have NN := rwNum_any w.heap.size g _ ([] ++ be 2 (BitVec.ofNat 64 (6 + 16 * l.length))) 0 2 (16 * (l.length : Int)) u1 J1.out.wr (by simp [be_length])
  rw [wrNum_2 _ (by omega) (by omega), ofInt_nat (16 * l.length) (16 * (l.length : Int)) (by omega)] at NN
  have HN : Hid _ := NN
  clear NN
  go_wp2_with fail
  refine (Calls.mono HN.out) ?_
  rintro r u2 ⟨rfl, x2, W1, hn1, t1⟩
  have J2 : Hid _ := J1.out.step W1 hn1 t1
  clear W1 t1 hn1 HN J1
  have NN := rwNum_any w.heap.size g _ (([] ++ be 2 (BitVec.ofNat 64 (6 + 16 * l.length))) ++ be 2 (BitVec.ofNat 64 (16 * l.length))) 0 4 (0) u2 J2.out.wr (by simp [be_length])
  rw [wrNum_4 0 (by omega), if_pos (by decide)] at NN
  have HN : Hid _ := NN
  clear NN
  go_wp2_with fail
  refine (Calls.mono HN.out) ?_
  rintro r u3 ⟨rfl, x3, W1, hn1, t1⟩
  have J3 : Hid _ := J2.out.step W1 hn1 t1
  clear W1 t1 hn1 HN J2
  have J4q : WK 76 w u3 g x3 (pst l.length (l.take 0)).1 (pst l.length (l.take 0)).2 [] := by
    have := J3.out
    simpa [pst, rgHead, rgFlat] using this
  have J4 : Hid _ := J4q
  clear J3 J4q
  go_wp2_with fail
  go_loopw [5] (fun iv wr => ∃ (k : Nat) (v : Value), iv = .int .i64 k ∧ k ≤ l.length ∧ WK 76 w wr g v (pst l.length (l.take k)).1 (pst l.length (l.take k)).2 [] ∧ (l.take k).all Rg.ok = true) (fun iv _ => l.length - (intOf iv).toNat)
  case atStart => exact ⟨0, x3, rfl, Nat.zero_le _, J4.out, rfl⟩
  case round =>
    obtain ⟨k, v, rfl, hk, hI, hOk⟩ := hrel
    clear J4
    by_cases hlt : k < l.length
    · have q2 : (k : Int) < (l.length : Int) := by omega
      obtain ⟨b, off, rfl, hc⟩ := (HA.out.1).each kRr_ok k hlt
      have hc0 := hc 0 (by simp [kRr])
      have hc1 := hc 1 (by simp [kRr])
      simp only [kRr, List.getElem?_cons_zero, List.getElem?_cons_succ, Nat.add_zero] at hc0 hc1
      obtain ⟨x, hx⟩ : ∃ x, x = l[k] := ⟨_, rfl⟩
      have htk : l.take (k + 1) = l.take k ++ [x] := by rw [hx]; exact List.take_succ_eq_append_getElem hlt
      have hmem : x ∈ l := by rw [hx]; exact List.getElem_mem _
      rw [← hx] at hc0 hc1
      have plen : (pst l.length (l.take k)).1.length ≤ 520 := by have := pst_len l.length (l.take k); rw [List.length_take] at this; omega
      have i0 := rcell hI.bl hc0
      have i1 := rcell hI.bl hc1
      have bel1 : Hid _ := hI.bl
      by_cases hn : x.2 < 0
      · have e1 : Hid (prR l = ([], 3)) := prR_bad hmem (by unfold Rg.ok; rw [decide_eq_false_iff_not]; omega)
        clear hc hc0 hc1 hI htk hx hmem plen HA
        go_wp2
        refine bodyPost_ret (v := .tuple #[.slice none 0 0, .int .i64 3]) (by first | rfl | simp [results, Tryd.results30, go_sem]) rfl ?_
        exact ⟨_, by rw [e1.out], by rw [e1.out]; exact Own.nil _ _, bel1.out⟩
      · by_cases hm : x.2 ≥ 4294967296
        · have e1 : Hid (prR l = ([], 3)) := prR_bad hmem (by unfold Rg.ok; rw [decide_eq_false_iff_not]; omega)
          have q7 : decide (x.2 < 0) = false := decide_eq_false hn
          have q8 : decide (x.2 ≥ 4294967296) = true := decide_eq_true hm
          generalize x.2 = X2 at *
          clear hc hc0 hc1 hI htk hx hmem plen HA hn hm
          go_wp2
          refine bodyPost_ret (v := .tuple #[.slice none 0 0, .int .i64 3]) (by first | rfl | simp [results, Tryd.results30, go_sem]) rfl ?_
          exact ⟨_, by rw [e1.out], by rw [e1.out]; exact Own.nil _ _, bel1.out⟩
        · have hn0 : 0 ≤ x.2 := by omega
          have hOk2 : (l.take (k + 1)).all Rg.ok = true := by rw [htk]; exact pst_ok (n := 0) hOk hn0 (by omega)
          obtain ⟨L1, E1, L2, E2, s1, s2, s3, ln1, ln2⟩ := pst_step l.length (l.take k) x hn0
          rw [← htk] at s3
          have NN := rwNum_any w.heap.size g _ _ _ 8 (wrap64 (x.1.toNat : Int)) wr hI.wr (by omega)
          rw [s1] at NN
          have HN : Hid _ := NN
          have J5 : Hid _ := hI
          have HS : Hid _ := And.intro s2 (And.intro s3 (And.intro ln1 (And.intro ln2 (And.intro plen hOk2))))
          have q7 : decide (x.2 < 0) = false := decide_eq_false hn
          have q8 : decide (x.2 ≥ 4294967296) = false := decide_eq_false hm
          have HC : Hid _ := And.intro hc0 hc1
          generalize hX1 : (x.1.toNat : Int) = X1 at *
          generalize hX2 : x.2 = X2 at *
          clear NN hI hc hc0 hc1 htk hx hmem s1 s2 s3 ln1 ln2 plen bel1 hn hm hOk hOk2 hX1 hX2
          go_wp2_with fail
          refine (Calls.mono HN.out) ?_
          rintro r u1 ⟨rfl, x1, W1, hn1, t1⟩
          have J6 : Hid _ := J5.out.step W1 hn1 t1
          have z1 := rcell J6.out.bl HC.out.2
          have NN := rwNum_any w.heap.size g _ L1 E1 4 X2 u1 J6.out.wr (by have := HS.out; omega)
          rw [HS.out.1] at NN
          have HN2 : Hid _ := NN
          clear W1 hn1 t1 HN NN i0 i1 J5
          go_wp2_with fail
          refine (Calls.mono HN2.out) ?_
          rintro r u2 ⟨rfl, x2, W1, hn1, t1⟩
          have J7 : Hid _ := J6.out.step W1 hn1 t1
          have NN := rwNum_any w.heap.size g _ L2 E2 4 0 u2 J7.out.wr (by have := HS.out; omega)
          rw [HS.out.2.1] at NN
          have HN3 : Hid _ := NN
          clear W1 hn1 t1 HN2 NN z1 J6
          go_wp2_with fail
          refine (Calls.mono HN3.out) ?_
          rintro r u3 ⟨rfl, x3', W1, hn1, t1⟩
          have J8 : Hid _ := And.intro (J7.out.step W1 hn1 t1) HS.out.2.2.2.2.2
          clear W1 hn1 t1 HN3 J7 HS HC
          go_wp2
          go_roundw
          case rel => exact ⟨k + 1, x3', by go_num, by omega, J8.out.1, J8.out.2⟩
          case measure => simp [intOf]; omega
    · obtain rfl : k = l.length := by omega
      rw [List.take_length] at hI
      obtain ⟨p1, p2⟩ := prR_pst (l := l) (by omega)
      have HM : Hid _ := rwEnd_any w.heap.size g v _ _ wr hI.wr (by have := pst_len l.length l; omega)
      have HP : Hid _ := And.intro p1 (And.intro p2 hI.bl)
      clear p1 p2 hI
      generalize pst l.length l = ps at *
      obtain ⟨pL, pE⟩ := ps
      simp only at HM HP
      go_wp2_with fail
      refine (Calls.mono HM.out) ?_
      rintro r we ⟨z, rfl, o5, b5⟩
      rw [HP.out.1] at o5
      have G : Hid _ := And.intro (o5.lower HP.out.2.2.size) (below_then HP.out.2.2 b5)
      clear o5 b5 HM
      go_wp2
      refine bodyPost_ret (v := .tuple #[z, .int .i64 pE]) (by first | rfl | simp [results, Tryd.results30, go_sem]) rfl ?_
      exact ⟨z, by rw [← HP.out.2.1], G.out.1, G.out.2⟩
end Go.Proofs.YtclpedjjboblpaaDoor

