/- A message packed, by the document. -/
import Derived.Test.YtgjcgnmomdanaaaXEm1
import Derived.Test.YtgjcgnmomdanaaaXSumRef
namespace Go.Proofs.Ytgjcgnmomdanaaa
open Go.RowKit Go.Shelf
set_option linter.unusedVariables false
set_option maxRecDepth 20000

theorem wr_c4 (p : List (BitVec 8)) (h : p.length ≤ 65536) (L : List (BitVec 8)) : wrBytes L 0 4 p = (L ++ (be 4 (BitVec.ofNat 64 p.length) ++ p), 0) := by
  unfold wrBytes
  rw [if_pos rfl, if_pos (addE4m _ h)]; rfl
theorem lenK_mono (m : Mg) {i j : Nat} (h : i ≤ j) : m.lenK i ≤ m.lenK j := by
  induction j with
  | zero => rw [Nat.le_zero.1 h]; exact Nat.le_refl _
  | succ j ih =>
    by_cases e : i = j + 1
    · rw [e]; exact Nat.le_refl _
    · have := ih (by omega)
      rw [Mg.lenK]; omega
theorem pmE_big {m : Mg} (h : 65536 < m.lenK m.es.length) : pmE m = 3 ∧ pmB m = [] := by
  have e : pmE m = 3 := by
    unfold pmE
    by_cases h1 : 4096 < m.es.length
    · rw [if_pos h1]
    · rw [if_neg h1, if_pos h]
  exact ⟨e, by unfold pmB; rw [e]; exact if_neg (by decide)⟩
set_option maxHeartbeats 2000000 in
theorem rwEntry_turn (base g : Nat) (v : Value) (L : List (BitVec 8)) (k t : Int) (l : List (BitVec 8)) (x : Option Addr) (c : Nat) (w : World) (he : canE (k, t, l) = true) (hW : WrAt w base g 52 v L 0) (hL : L.length + 70000 ≤ 140737488351232) (hc : l.length ≤ c) (hn : x = none → c = 0) (hr : ∀ W, Below base w W → Row W x l) :
    Calls Try.prog 23 #[.pointer (some ⟨g, 0, none⟩), .agg #[.int .i64 k, .int .i64 t, .slice x l.length c]] w fun r w' => r = .returned (.tuple #[]) ∧ ∃ v', WrAt w' base g 52 v' (L ++ packE (k, t, l)) 0 ∧ Newer w v v' ∧ Turned (Mine g v) w w' := by
  have hk0 : 0 ≤ k := (canE_k he).1
  have hk2 : k ≤ 2 := (canE_k he).2
  have hcl : l.length ≤ 4080 := canE_len he
  have b0 := box3_below w (.int .i64 k) (.int .i64 t) (.slice x l.length c) 49
  have B0 : Blk (w.alloc (.cells #[.int .i64 k, .int .i64 t, .slice x l.length c] 49)) w.heap.size 49 [.int .i64 k, .int .i64 t, .slice x l.length c] := Blk.new' w _ _
  have hgl := hW.blk.lt
  have hvl : ∀ j, v.ownBlock = some j → j < w.heap.size := fun j hj => by obtain ⟨_, ho, -⟩ := hW.own; exact (World.ownsRow.lt ho j hj).2
  have hbw := hW.base_w
  have W0 := hW.stays (turned_below b0) (fun h => h) (fun _ _ h => h)
  have hsz : w.heap.size < (w.alloc (.cells #[.int .i64 k, .int .i64 t, .slice x l.length c] 49)).heap.size := B0.lt
  have HW : Hid (canE (k, t, l) = true ∧ (∀ W, Below base w W → Row W x l) ∧ base ≤ w.heap.size ∧ g < w.heap.size ∧ ∀ j, v.ownBlock = some j → j < w.heap.size) := ⟨he, hr, hbw, hgl, hvl⟩
  go_enter Try.func23, Try.ntmps23
  obtain ⟨⟨c0, c1, c2⟩, -⟩ := ebl3 B0
  clear hW he hr hgl hvl
  go_wp2_with fail
  generalize w.alloc (.cells #[.int .i64 k, .int .i64 t, .slice x l.length c] 49) = wb at *
  have N1 := rwNum_any base g v L 0 1 (k + 64) wb W0 (by omega)
  rw [wr_kL HW.out.1 L] at N1
  have H0 : Hid (Below w.heap.size w wb ∧ WrAt wb base g 52 v L 0 ∧ Blk wb w.heap.size 49 [.int .i64 k, .int .i64 t, .slice x l.length c]) := ⟨b0, W0, B0⟩
  clear b0 W0 B0 c0 c1 c2
  refine N1.mono ?_
  rintro r w2 ⟨rfl, v2, W2, n2, t2⟩
  have hm : ¬ Mine g v w.heap.size := by
    rintro (h | h)
    · have := HW.out.2.2.2.1; omega
    · have := HW.out.2.2.2.2 _ h; omega
  have B2 := H0.out.2.2.turned t2 hm
  have hm2 : ¬ Mine g v2 w.heap.size := by
    rintro (h | h)
    · have := HW.out.2.2.2.1; omega
    · rcases n2 _ h with h' | h'
      · have := HW.out.2.2.2.2 _ h'; omega
      · omega
  have hv2 : ∀ j, v2.ownBlock = some j → j < w.heap.size ∨ w.heap.size < j := fun j hj => by
    rcases n2 _ hj with h' | h'
    · exact .inl (HW.out.2.2.2.2 _ h')
    · exact .inr (by omega)
  have hs2 := t2.size
  have T2 : Hid (Turned (Mine g v) w w2 ∧ Newer w v v2) := ⟨((turned_below H0.out.1).mono (fun _ h => absurd h id)).trans (t2.mono (fun _ h => .inl h)), fun j hj => by rcases n2 j hj with e | e; exact .inl e; exact .inr (by omega)⟩
  have b2 : Below base w w2 := (H0.out.1.mono HW.out.2.2.1).trans (H0.out.2.1.below t2)
  obtain ⟨⟨c0, c1, c2⟩, -⟩ := ebl3 B2
  have N2 := rwNum_any base g v2 _ 0 6 t w2 W2 (by rw [List.length_append, be_length _ _ (by omega)]; omega)
  rw [wr_t (e := (k, t, l)) HW.out.1] at N2
  have H2 : Hid (Below base w w2 ∧ WrAt w2 base g 52 v2 (L ++ be 1 (BitVec.ofInt 64 (k + 64))) 0 ∧ Blk w2 w.heap.size 49 [.int .i64 k, .int .i64 t, .slice x l.length c]) := ⟨b2, W2, B2⟩
  clear H0 t2 hm W2 B2 b2 n2
  go_wp2_with fail
  clear c0 c1 c2
  refine N2.mono ?_
  rintro r w3 ⟨rfl, v3, W3, n3, t3⟩
  have B3 := H2.out.2.2.turned t3 hm2
  have T3 : Hid (Turned (Mine g v) w w3 ∧ Newer w v v3) := ⟨turned_more9 T2.out.2 T2.out.1 t3, T2.out.2.trans n3 T2.out.1.size⟩
  have b3 : Below base w w3 := H2.out.1.trans (H2.out.2.1.below t3)
  obtain ⟨⟨c0, c1, c2⟩, -⟩ := ebl3 B3
  have hv3 : ∀ j, v3.ownBlock = some j → base ≤ j := fun j hj => by obtain ⟨_, ho, -⟩ := W3.own; exact (World.ownsRow.lt ho j hj).1
  have N3 := rwBytes_any base g v3 _ 0 2 x l.length c l w3 W3 (by rw [List.length_append, List.length_append, be_length _ _ (by omega), be_length _ _ (by omega)]; omega) rfl hc (HW.out.2.1 w3 b3) hn (by omega)
  rw [wr_c (e := (k, t, l)) HW.out.1] at N3
  have H3 : Hid (Below base w w3 ∧ WrAt w3 base g 52 v3 (L ++ be 1 (BitVec.ofInt 64 (k + 64)) ++ be 6 (BitVec.ofInt 64 t)) 0) := ⟨b3, W3⟩
  clear H2 t3 hm2 W3 B3 b3 n3 hv2 hv3
  go_wp2_with fail
  clear c0 c1 c2
  refine N3.mono ?_
  rintro r w4 ⟨rfl, v4, W4, n4, t4⟩
  have T4 : Turned (Mine g v) w w4 ∧ Newer w v v4 := ⟨turned_more9 T3.out.2 T3.out.1 t4, T3.out.2.trans n4 T3.out.1.size⟩
  have b4 : Below base w w4 := H3.out.1.trans (H3.out.2.below t4)
  have eL : L ++ be 1 (BitVec.ofInt 64 (k + 64)) ++ be 6 (BitVec.ofInt 64 t) ++ (be 2 (BitVec.ofNat 64 l.length) ++ l) = L ++ packE (k, t, l) := by unfold packE; simp only [List.append_assoc]
  have W4' : WrAt w4 base g 52 v4 (L ++ packE (k, t, l)) 0 := eL ▸ W4
  have F : Hid _ := And.intro W4' (And.intro T4.2 T4.1)
  clear W4 W4' b4 t4 H3 eL N3 T4 n4
  go_wp2
  go_end0
  exact ⟨rfl, v4, F.out.1, F.out.2.1, F.out.2.2⟩

structure WQ (base g : Nat) (bs : List (Nat × Nat × List Value)) (w W : World) (v : Value) (L : List (BitVec 8)) : Prop where
  wr : WrAt W base g 52 v L 0
  bl : Below base w W
  bx : ∀ b ∈ bs, Blk W b.1 b.2.1 b.2.2
  ne : ∀ b ∈ bs, b.1 ≠ g ∧ ∀ j, v.ownBlock = some j → j ≠ b.1
theorem WQ.step {base g : Nat} {bs : List (Nat × Nat × List Value)} {w W W' : World} {v v' : Value} {L L' : List (BitVec 8)} (h : WQ base g bs w W v L) (hw : WrAt W' base g 52 v' L' 0) (hn : Newer W v v') (ht : Turned (Mine g v) W W') : WQ base g bs w W' v' L' := by
  refine ⟨hw, h.bl.trans (h.wr.below ht), fun b hb => ?_, fun b hb => ⟨(h.ne b hb).1, fun j hj => ?_⟩⟩
  · refine (h.bx b hb).turned ht ?_
    rintro (e | e)
    · exact (h.ne b hb).1 e
    · exact (h.ne b hb).2 _ e rfl
  · rcases hn j hj with e | e
    · exact (h.ne b hb).2 j e
    · have := (h.bx b hb).lt; omega
theorem WQ.later {base g : Nat} {bs : List (Nat × Nat × List Value)} {w W W' : World} {v : Value} {L : List (BitVec 8)} (h : WQ base g bs w W v L) (hb : Below W.heap.size W W') : WQ base g bs w W' v L :=
  ⟨h.wr.stays (turned_below hb) (fun e => e) (fun _ _ e => e), h.bl.trans (hb.mono h.wr.base_w), fun b hbm => (h.bx b hbm).laterB hb, h.ne⟩
theorem WQ.less {base g : Nat} {bs bs' : List (Nat × Nat × List Value)} {w W : World} {v : Value} {L : List (BitVec 8)} (h : WQ base g bs w W v L) (hs : ∀ b ∈ bs', b ∈ bs) : WQ base g bs' w W v L :=
  ⟨h.wr, h.bl, fun b hb => h.bx b (hs b hb), fun b hb => h.ne b (hs b hb)⟩
theorem WQ.own {base g : Nat} {bs : List (Nat × Nat × List Value)} {w W : World} {v : Value} {L : List (BitVec 8)} (h : WQ base g bs w W v L) : ∀ j, v.ownBlock = some j → base ≤ j ∧ j < W.heap.size := fun j hj => by obtain ⟨_, ho, -⟩ := h.wr.own; exact World.ownsRow.lt ho j hj
set_option maxHeartbeats 8000000 in
theorem rfPackMsg_any (m : Mg) (b : Bool) (hbm : b = m.yes) (ea : Option Addr) (ec : Nat) (da : Option Addr) (dc : Nat) (w : World) (hE : EArgs w ea m.es) (hl : m.es.length ≤ 140737488355328) (hD : Row w da m.dt) (hdl : m.dt.length ≤ 140737488351232) (hdc : m.dt.length ≤ dc) (hdn : da = none → dc = 0) :
    Calls Try.prog 7 #[.agg #[.int .i64 m.kd, .int .i64 m.fr, .int .i64 m.too, .int .i64 m.tm, .int .i64 m.at_, .int .i64 m.att, .int .i64 m.cm, .int .i64 m.rd, .bool b, .slice ea m.es.length ec, .slice da m.dt.length dc]] w fun r w' => ∃ z, r = .returned (.tuple #[z, .int .i64 (pmE m)]) ∧ Own w' w.heap.size z (pmB m) ∧ Below w.heap.size w w' := by
  have HA : Hid (EArgs w ea m.es ∧ Row w da m.dt) := ⟨hE, hD⟩
  have HY : Hid ((if b = true then (1 : Int) else 0) = yesN m) := (by rw [hbm]; rfl : (if b = true then (1 : Int) else 0) = yesN m)
  clear hE hD hbm
  cases b with
  | false =>
    have b0 := box11_below w #[.int .i64 m.kd, .int .i64 m.fr, .int .i64 m.too, .int .i64 m.tm, .int .i64 m.at_, .int .i64 m.att, .int .i64 m.cm, .int .i64 m.rd, .bool false, .slice ea m.es.length ec, .slice da m.dt.length dc] 25
    have M0 : Blk (w.alloc (.cells #[.int .i64 m.kd, .int .i64 m.fr, .int .i64 m.too, .int .i64 m.tm, .int .i64 m.at_, .int .i64 m.att, .int .i64 m.cm, .int .i64 m.rd, .bool false, .slice ea m.es.length ec, .slice da m.dt.length dc] 25)) w.heap.size 25 [.int .i64 m.kd, .int .i64 m.fr, .int .i64 m.too, .int .i64 m.tm, .int .i64 m.at_, .int .i64 m.att, .int .i64 m.cm, .int .i64 m.rd, .bool false, .slice ea m.es.length ec, .slice da m.dt.length dc] := Blk.new' w _ _
    obtain ⟨c0, c1, c2, c3, c4, c5, c6, c7, c8, c9, c10⟩ := eblk11 M0
    have H0 : Hid (Below w.heap.size w (w.alloc (.cells #[.int .i64 m.kd, .int .i64 m.fr, .int .i64 m.too, .int .i64 m.tm, .int .i64 m.at_, .int .i64 m.att, .int .i64 m.cm, .int .i64 m.rd, .bool false, .slice ea m.es.length ec, .slice da m.dt.length dc] 25)) ∧ Blk (w.alloc (.cells #[.int .i64 m.kd, .int .i64 m.fr, .int .i64 m.too, .int .i64 m.tm, .int .i64 m.at_, .int .i64 m.att, .int .i64 m.cm, .int .i64 m.rd, .bool false, .slice ea m.es.length ec, .slice da m.dt.length dc] 25)) w.heap.size 25 [.int .i64 m.kd, .int .i64 m.fr, .int .i64 m.too, .int .i64 m.tm, .int .i64 m.at_, .int .i64 m.att, .int .i64 m.cm, .int .i64 m.rd, .bool false, .slice ea m.es.length ec, .slice da m.dt.length dc]) := ⟨b0, M0⟩
    have hdi : (m.dt.length : Int) ≤ 140737488351232 := by omega
    clear b0 M0
    by_cases h1 : 4096 < m.es.length
    · have P : Hid (pmE m = 3 ∧ pmB m = []) := by unfold pmB pmE; rw [if_pos h1]; exact ⟨rfl, if_neg (by decide)⟩
      have q1 : (4096 : Int) < (m.es.length : Int) := by omega
      clear h1
      go_enter Try.func7, Try.ntmps7
      go_wp2
      go_ret2
      refine ⟨.slice none 0 0, ?_, ?_, H0.out.1⟩
      · (rw [P.out.1]; try rfl)
      · rw [P.out.2]; exact Own.nil _ _
    have q1 : ¬ (4096 : Int) < (m.es.length : Int) := by omega
    by_cases h2 : 65536 < m.dt.length
    · have P : Hid (pmE m = 3 ∧ pmB m = []) := pmE_big (by have := lenK_ge m m.es.length; omega)
      have q2 : (65536 : Int) < (m.dt.length : Int) := by omega
      clear h2 h1
      go_enter Try.func7, Try.ntmps7
      go_wp2
      go_ret2
      refine ⟨.slice none 0 0, ?_, ?_, H0.out.1⟩
      · (rw [P.out.1]; try rfl)
      · rw [P.out.2]; exact Own.nil _ _
    have q2 : ¬ (65536 : Int) < (m.dt.length : Int) := by omega
    go_enter Try.func7, Try.ntmps7
    go_wp2_with fail
    generalize w.alloc (.cells #[.int .i64 m.kd, .int .i64 m.fr, .int .i64 m.too, .int .i64 m.tm, .int .i64 m.at_, .int .i64 m.att, .int .i64 m.cm, .int .i64 m.rd, .bool false, .slice ea m.es.length ec, .slice da m.dt.length dc] 25) = wb at *
    clear c0 c1 c2 c3 c4 c5 c6 c7 c8 c9 c10
    go_loopw [4, 5] (fun sv iv wr => ∃ i : Nat, iv = .int .i64 i ∧ sv = .int .i64 (m.lenK i) ∧ i ≤ m.es.length ∧ m.lenK i ≤ 65600 ∧ Below wb.heap.size wb wr) (fun _ iv _ => m.es.length - (intOf iv).toNat)
    case atStart => exact ⟨0, rfl, by unfold Mg.lenK; go_num, by omega, by unfold Mg.lenK; omega, Below.refl _ _⟩
    case round =>
      obtain ⟨i, rfl, rfl, hi, hbi, hb⟩ := hrel
      have HB : Hid (Below wb.heap.size wb wr) := hb
      clear hb
      obtain ⟨c0, c1, c2, c3, c4, c5, c6, c7, c8, c9, c10⟩ := eblk11 (H0.out.2.laterB HB.out)
      by_cases hlt : i < m.es.length
      · have hlt' : (i : Int) < (m.es.length : Int) := by omega
        obtain ⟨p, off, rfl, hAt⟩ := EArgs.at (HA.out.1.later (below_then H0.out.1 HB.out)) i hlt
        obtain ⟨h1', h2', ⟨x, cx, h3, -, -, -⟩, -, -, h8⟩ := hAt
        have HN : Hid (m.lenK (i + 1) = m.lenK i + (9 + (m.es[i]).2.2.length)) := (by rw [Mg.lenK, List.getElem?_eq_getElem hlt, Option.getD_some] : m.lenK (i + 1) = m.lenK i + (9 + (m.es[i]).2.2.length))
        have HM : Hid (m.lenK (i + 1) ≤ m.lenK m.es.length) := lenK_mono m (by omega)
        clear h1' h2'
        generalize (m.es[i]).2.2.length = en at *
        generalize m.lenK i = L at *
        by_cases hbig : 65536 < L + (9 + en)
        · have P : Hid (pmE m = 3 ∧ pmB m = []) := pmE_big (by have := HN.out; have := HM.out; omega)
          have qb : (65536 : Int) < (L : Int) + 9 + (en : Int) := by omega
          have F : Hid _ := below_then H0.out.1 HB.out
          clear HB
          go_wp2
          go_ret2
          refine ⟨.slice none 0 0, ?_, ?_, F.out⟩
          · (rw [P.out.1]; try rfl)
          · rw [P.out.2]; exact Own.nil _ _
        · have qb : ¬ (65536 : Int) < (L : Int) + 9 + (en : Int) := by omega
          go_wp2
          go_roundw
          case rel => exact ⟨i + 1, by go_num, by rw [HN.out]; go_num, by omega, by rw [HN.out]; omega, HB.out⟩
          case measure => simp [intOf]; omega
      · have he : i = m.es.length := by omega
        subst he
        have hnl : ¬ (m.es.length : Int) < (m.es.length : Int) := by omega
        by_cases hbig : 65536 < m.lenK m.es.length
        · have P : Hid (pmE m = 3 ∧ pmB m = []) := pmE_big hbig
          have F : Hid _ := below_then H0.out.1 HB.out
          have qb : (65536 : Int) < (m.lenK m.es.length : Int) := by omega
          clear HB
          generalize (m.lenK m.es.length : Int) = LL at *
          go_wp2
          go_ret2
          refine ⟨.slice none 0 0, ?_, ?_, F.out⟩
          · (rw [P.out.1]; try rfl)
          · rw [P.out.2]; exact Own.nil _ _
        · have HP : Hid (pmE m = if canM m = true then 0 else 1) := (by unfold pmE; rw [if_neg h1, if_neg hbig] : pmE m = if canM m = true then 0 else 1)
          have qb : ¬ (65536 : Int) < (m.lenK m.es.length : Int) := by omega
          have N2 : Calls Try.prog 21 #[.agg #[.int .i64 m.kd, .int .i64 m.fr, .int .i64 m.too, .int .i64 m.tm, .int .i64 m.at_, .int .i64 m.att, .int .i64 m.cm, .int .i64 m.rd, .bool false, .slice ea m.es.length ec, .slice da m.dt.length dc]] wr fun r w' => r = .returned (.bool (canM m)) ∧ Below wr.heap.size wr w' := rightMsg_any { m with yes := false } ea ec da dc wr (HA.out.1.later (below_then H0.out.1 HB.out)) hl
          have hl4 : m.es.length ≤ 4096 := by omega
          have hd6 : m.dt.length ≤ 65536 := by omega
          clear hbig hbi
          generalize (m.lenK m.es.length : Int) = LL at *
          go_wp2_with fail
          clear c0 c1 c2 c3 c4 c5 c6 c7 c8 c9 c10
          refine N2.mono ?_
          rintro r w2 ⟨rfl, b2⟩
          have H2 : Hid (Below w.heap.size w w2 ∧ Blk w2 w.heap.size 25 [.int .i64 m.kd, .int .i64 m.fr, .int .i64 m.too, .int .i64 m.tm, .int .i64 m.at_, .int .i64 m.att, .int .i64 m.cm, .int .i64 m.rd, .bool false, .slice ea m.es.length ec, .slice da m.dt.length dc]) := ⟨below_then (below_then H0.out.1 HB.out) b2, (H0.out.2.laterB HB.out).laterB b2⟩
          clear N2 b2 HB H0
          cases hcm : canM m with
          | false =>
            have P : Hid (pmE m = 1 ∧ pmB m = []) := by
              have e : pmE m = 1 := by rw [HP.out, hcm]; rfl
              exact ⟨e, by unfold pmB; rw [e]; exact if_neg (by decide)⟩
            clear hcm
            go_wp2
            go_ret2
            refine ⟨.slice none 0 0, ?_, ?_, H2.out.1⟩
            · (rw [P.out.1]; try rfl)
            · rw [P.out.2]; exact Own.nil _ _
          | true =>
            have P : Hid (pmE m = 0 ∧ pmB m = bodyM m ++ be 4 ((Crc.sum (bodyM m)).setWidth 64)) := by
              have e : pmE m = 0 := by rw [HP.out, hcm]; rfl
              exact ⟨e, by unfold pmB; rw [e]; exact if_pos rfl⟩
            have HC : Hid ((byB m.kd = true ∧ byB m.fr = true ∧ byB m.too = true) ∧ (numB m.tm = true ∧ numB m.at_ = true ∧ numB m.att = true ∧ numB m.cm = true ∧ numB m.rd = true) ∧ ∀ e ∈ m.es, canE e = true) := by
              unfold canM at hcm
              simp only [Bool.and_eq_true, List.all_eq_true] at hcm
              exact ⟨⟨hcm.1.1.1.1, hcm.1.1.1.2, hcm.1.1.2⟩, ⟨hcm.1.2.1.1.1.1, hcm.1.2.1.1.1.2, hcm.1.2.1.1.2, hcm.1.2.1.2, hcm.1.2.2⟩, hcm.2⟩
            have hbl := bodyM_len m HC.out.2.2 hl4 hd6
            have HE : Hid ((0 : Int) = yesN m) := (by have := HY.out; simpa using this : (0 : Int) = yesN m)
            have bN0 : Below w2.heap.size w2 (w2.alloc (.cells #[.slice none 0 0, .int .i64 0] 52)) := (Below.refl _ _).alloc (Nat.le_refl _) _
            have WN : WrAt (w2.alloc (.cells #[.slice none 0 0, .int .i64 0] 52)) w2.heap.size w2.heap.size 52 (.slice none 0 0) [] 0 := ⟨Blk.new' w2 52 [.slice none 0 0, .int .i64 0], ⟨[], Own.nil _ _, fun _ => rfl⟩, Nat.le_refl _, bN0.size, by decide⟩
            have hlt2 := H2.out.2.lt
            have hs2 := H2.out.1.size
            have HB0 : Hid (WQ w2.heap.size w2.heap.size [(w.heap.size, 25, [.int .i64 m.kd, .int .i64 m.fr, .int .i64 m.too, .int .i64 m.tm, .int .i64 m.at_, .int .i64 m.att, .int .i64 m.cm, .int .i64 m.rd, .bool false, .slice ea m.es.length ec, .slice da m.dt.length dc])] w2 (w2.alloc (.cells #[.slice none 0 0, .int .i64 0] 52)) (.slice none 0 0) (bN 1 [202, m.kd, m.fr, m.too, 0] 0)) := ⟨WN, bN0, (fun b hb => by rw [List.mem_singleton] at hb; subst hb; exact H2.out.2.laterB bN0), (fun b hb => by rw [List.mem_singleton] at hb; subst hb; exact ⟨by show w.heap.size ≠ w2.heap.size; omega, fun j hj => by simp [Value.ownBlock] at hj⟩)⟩
            obtain ⟨c0, c1, c2, c3, c4, c5, c6, c7, c8, c9, c10⟩ := eblk11 H2.out.2
            clear bN0 WN hcm HP
            go_upto_region 18 with fail
            clear c0 c1 c2 c3 c4 c5 c6 c7 c8 c9 c10
            generalize w2.alloc (.cells #[.slice none 0 0, .int .i64 0] 52) = a0 at *
            obtain ⟨v0, hv0⟩ : ∃ v0, v0 = Value.slice none 0 0 := ⟨_, rfl⟩
            rw [← hv0] at HB0
            clear hv0
            have N := rwNum_any w2.heap.size w2.heap.size v0 _ 0 1 202 a0 HB0.out.wr (by rw [bN_len 1 (by omega) _ _ (by simp)]; omega)
            rw [wr_1 (n := 202) (by omega) (by omega)] at N
            obtain ⟨c0, c1, c2, c3, c4, c5, c6, c7, c8, c9, c10⟩ := eblk11 (HB0.out.bx _ (List.mem_singleton.2 rfl))
            go_wp2_with fail
            clear c0 c1 c2 c3 c4 c5 c6 c7 c8 c9 c10
            refine N.mono ?_
            rintro r a1 ⟨rfl, v1, W', n', t'⟩
            have HB1 : Hid (WQ w2.heap.size w2.heap.size [(w.heap.size, 25, [.int .i64 m.kd, .int .i64 m.fr, .int .i64 m.too, .int .i64 m.tm, .int .i64 m.at_, .int .i64 m.att, .int .i64 m.cm, .int .i64 m.rd, .bool false, .slice ea m.es.length ec, .slice da m.dt.length dc])] w2 a1 v1 (bN 1 [202, m.kd, m.fr, m.too, 0] (0 + 1))) := HB0.out.step (by rw [bN_succ 1 [202, m.kd, m.fr, m.too, 0] 0 (by simp)]; exact W') n' t'
            clear N W' n' t' HB0
            have N := rwNum_any w2.heap.size w2.heap.size v1 _ 0 1 m.kd a1 HB1.out.wr (by rw [bN_len 1 (by omega) _ _ (by simp)]; omega)
            rw [wr_1 (n := m.kd) (of_decide_eq_true HC.out.1.1).1 (of_decide_eq_true HC.out.1.1).2] at N
            obtain ⟨c0, c1, c2, c3, c4, c5, c6, c7, c8, c9, c10⟩ := eblk11 (HB1.out.bx _ (List.mem_singleton.2 rfl))
            go_wp2_with fail
            clear c0 c1 c2 c3 c4 c5 c6 c7 c8 c9 c10
            refine N.mono ?_
            rintro r a2 ⟨rfl, v2, W', n', t'⟩
            have HB2 : Hid (WQ w2.heap.size w2.heap.size [(w.heap.size, 25, [.int .i64 m.kd, .int .i64 m.fr, .int .i64 m.too, .int .i64 m.tm, .int .i64 m.at_, .int .i64 m.att, .int .i64 m.cm, .int .i64 m.rd, .bool false, .slice ea m.es.length ec, .slice da m.dt.length dc])] w2 a2 v2 (bN 1 [202, m.kd, m.fr, m.too, 0] (1 + 1))) := HB1.out.step (by rw [bN_succ 1 [202, m.kd, m.fr, m.too, 0] 1 (by simp)]; exact W') n' t'
            clear N W' n' t' HB1
            have N := rwNum_any w2.heap.size w2.heap.size v2 _ 0 1 m.fr a2 HB2.out.wr (by rw [bN_len 1 (by omega) _ _ (by simp)]; omega)
            rw [wr_1 (n := m.fr) (of_decide_eq_true HC.out.1.2.1).1 (of_decide_eq_true HC.out.1.2.1).2] at N
            obtain ⟨c0, c1, c2, c3, c4, c5, c6, c7, c8, c9, c10⟩ := eblk11 (HB2.out.bx _ (List.mem_singleton.2 rfl))
            go_wp2_with fail
            clear c0 c1 c2 c3 c4 c5 c6 c7 c8 c9 c10
            refine N.mono ?_
            rintro r a3 ⟨rfl, v3, W', n', t'⟩
            have HB3 : Hid (WQ w2.heap.size w2.heap.size [(w.heap.size, 25, [.int .i64 m.kd, .int .i64 m.fr, .int .i64 m.too, .int .i64 m.tm, .int .i64 m.at_, .int .i64 m.att, .int .i64 m.cm, .int .i64 m.rd, .bool false, .slice ea m.es.length ec, .slice da m.dt.length dc])] w2 a3 v3 (bN 1 [202, m.kd, m.fr, m.too, 0] (2 + 1))) := HB2.out.step (by rw [bN_succ 1 [202, m.kd, m.fr, m.too, 0] 2 (by simp)]; exact W') n' t'
            clear N W' n' t' HB2
            have N := rwNum_any w2.heap.size w2.heap.size v3 _ 0 1 m.too a3 HB3.out.wr (by rw [bN_len 1 (by omega) _ _ (by simp)]; omega)
            rw [wr_1 (n := m.too) (of_decide_eq_true HC.out.1.2.2).1 (of_decide_eq_true HC.out.1.2.2).2] at N
            obtain ⟨c0, c1, c2, c3, c4, c5, c6, c7, c8, c9, c10⟩ := eblk11 (HB3.out.bx _ (List.mem_singleton.2 rfl))
            go_wp2_with fail
            clear c0 c1 c2 c3 c4 c5 c6 c7 c8 c9 c10
            refine N.mono ?_
            rintro r a4 ⟨rfl, v4, W', n', t'⟩
            have HB4 : Hid (WQ w2.heap.size w2.heap.size [(w.heap.size, 25, [.int .i64 m.kd, .int .i64 m.fr, .int .i64 m.too, .int .i64 m.tm, .int .i64 m.at_, .int .i64 m.att, .int .i64 m.cm, .int .i64 m.rd, .bool false, .slice ea m.es.length ec, .slice da m.dt.length dc])] w2 a4 v4 (bN 1 [202, m.kd, m.fr, m.too, 0] (3 + 1))) := HB3.out.step (by rw [bN_succ 1 [202, m.kd, m.fr, m.too, 0] 3 (by simp)]; exact W') n' t'
            clear N W' n' t' HB3
            have N := rwNum_any w2.heap.size w2.heap.size v4 _ 0 1 0 a4 HB4.out.wr (by rw [bN_len 1 (by omega) _ _ (by simp)]; omega)
            rw [wr_1 (n := 0) (by omega) (by omega)] at N
            obtain ⟨c0, c1, c2, c3, c4, c5, c6, c7, c8, c9, c10⟩ := eblk11 (HB4.out.bx _ (List.mem_singleton.2 rfl))
            go_wp2_with fail
            clear c0 c1 c2 c3 c4 c5 c6 c7 c8 c9 c10
            refine N.mono ?_
            rintro r a5 ⟨rfl, v5, W', n', t'⟩
            have HB5 : Hid (WQ w2.heap.size w2.heap.size [(w.heap.size, 25, [.int .i64 m.kd, .int .i64 m.fr, .int .i64 m.too, .int .i64 m.tm, .int .i64 m.at_, .int .i64 m.att, .int .i64 m.cm, .int .i64 m.rd, .bool false, .slice ea m.es.length ec, .slice da m.dt.length dc])] w2 a5 v5 (bN 1 [202, m.kd, m.fr, m.too, 0] (4 + 1))) := HB4.out.step (by rw [bN_succ 1 [202, m.kd, m.fr, m.too, 0] 4 (by simp)]; exact W') n' t'
            clear N W' n' t' HB4
            have HB50 : Hid (WQ w2.heap.size w2.heap.size [(w.heap.size, 25, [.int .i64 m.kd, .int .i64 m.fr, .int .i64 m.too, .int .i64 m.tm, .int .i64 m.at_, .int .i64 m.att, .int .i64 m.cm, .int .i64 m.rd, .bool false, .slice ea m.es.length ec, .slice da m.dt.length dc])] w2 a5 v5 (bN 1 [202, m.kd, m.fr, m.too, 0] 5 ++ bN 6 [m.tm, m.at_, m.att, m.cm, m.rd] 0)) := (show bN 1 [202, m.kd, m.fr, m.too, 0] 5 = bN 1 [202, m.kd, m.fr, m.too, 0] 5 ++ bN 6 [m.tm, m.at_, m.att, m.cm, m.rd] 0 from (List.append_nil _).symm) ▸ HB5.out
            clear HB5
            have HB5 : Hid (WQ w2.heap.size w2.heap.size [(w.heap.size, 25, [.int .i64 m.kd, .int .i64 m.fr, .int .i64 m.too, .int .i64 m.tm, .int .i64 m.at_, .int .i64 m.att, .int .i64 m.cm, .int .i64 m.rd, .bool false, .slice ea m.es.length ec, .slice da m.dt.length dc])] w2 a5 v5 (bN 1 [202, m.kd, m.fr, m.too, 0] 5 ++ bN 6 [m.tm, m.at_, m.att, m.cm, m.rd] 0)) := HB50.out
            clear HB50
            have N := rwNum_any w2.heap.size w2.heap.size v5 _ 0 6 m.tm a5 HB5.out.wr (by rw [List.length_append, bN_len 1 (by omega) _ _ (by simp), bN_len 6 (by omega) _ _ (by simp)]; omega)
            rw [wr_6 (n := m.tm) HC.out.2.1.1] at N
            obtain ⟨c0, c1, c2, c3, c4, c5, c6, c7, c8, c9, c10⟩ := eblk11 (HB5.out.bx _ (List.mem_singleton.2 rfl))
            go_wp2_with fail
            clear c0 c1 c2 c3 c4 c5 c6 c7 c8 c9 c10
            refine N.mono ?_
            rintro r a6 ⟨rfl, v6, W', n', t'⟩
            have HB6 : Hid (WQ w2.heap.size w2.heap.size [(w.heap.size, 25, [.int .i64 m.kd, .int .i64 m.fr, .int .i64 m.too, .int .i64 m.tm, .int .i64 m.at_, .int .i64 m.att, .int .i64 m.cm, .int .i64 m.rd, .bool false, .slice ea m.es.length ec, .slice da m.dt.length dc])] w2 a6 v6 (bN 1 [202, m.kd, m.fr, m.too, 0] 5 ++ bN 6 [m.tm, m.at_, m.att, m.cm, m.rd] (0 + 1))) := HB5.out.step (by rw [bN_succ 6 [m.tm, m.at_, m.att, m.cm, m.rd] 0 (by simp), ← List.append_assoc]; exact W') n' t'
            clear N W' n' t' HB5
            have N := rwNum_any w2.heap.size w2.heap.size v6 _ 0 6 m.at_ a6 HB6.out.wr (by rw [List.length_append, bN_len 1 (by omega) _ _ (by simp), bN_len 6 (by omega) _ _ (by simp)]; omega)
            rw [wr_6 (n := m.at_) HC.out.2.1.2.1] at N
            obtain ⟨c0, c1, c2, c3, c4, c5, c6, c7, c8, c9, c10⟩ := eblk11 (HB6.out.bx _ (List.mem_singleton.2 rfl))
            go_wp2_with fail
            clear c0 c1 c2 c3 c4 c5 c6 c7 c8 c9 c10
            refine N.mono ?_
            rintro r a7 ⟨rfl, v7, W', n', t'⟩
            have HB7 : Hid (WQ w2.heap.size w2.heap.size [(w.heap.size, 25, [.int .i64 m.kd, .int .i64 m.fr, .int .i64 m.too, .int .i64 m.tm, .int .i64 m.at_, .int .i64 m.att, .int .i64 m.cm, .int .i64 m.rd, .bool false, .slice ea m.es.length ec, .slice da m.dt.length dc])] w2 a7 v7 (bN 1 [202, m.kd, m.fr, m.too, 0] 5 ++ bN 6 [m.tm, m.at_, m.att, m.cm, m.rd] (1 + 1))) := HB6.out.step (by rw [bN_succ 6 [m.tm, m.at_, m.att, m.cm, m.rd] 1 (by simp), ← List.append_assoc]; exact W') n' t'
            clear N W' n' t' HB6
            have N := rwNum_any w2.heap.size w2.heap.size v7 _ 0 6 m.att a7 HB7.out.wr (by rw [List.length_append, bN_len 1 (by omega) _ _ (by simp), bN_len 6 (by omega) _ _ (by simp)]; omega)
            rw [wr_6 (n := m.att) HC.out.2.1.2.2.1] at N
            obtain ⟨c0, c1, c2, c3, c4, c5, c6, c7, c8, c9, c10⟩ := eblk11 (HB7.out.bx _ (List.mem_singleton.2 rfl))
            go_wp2_with fail
            clear c0 c1 c2 c3 c4 c5 c6 c7 c8 c9 c10
            refine N.mono ?_
            rintro r a8 ⟨rfl, v8, W', n', t'⟩
            have HB8 : Hid (WQ w2.heap.size w2.heap.size [(w.heap.size, 25, [.int .i64 m.kd, .int .i64 m.fr, .int .i64 m.too, .int .i64 m.tm, .int .i64 m.at_, .int .i64 m.att, .int .i64 m.cm, .int .i64 m.rd, .bool false, .slice ea m.es.length ec, .slice da m.dt.length dc])] w2 a8 v8 (bN 1 [202, m.kd, m.fr, m.too, 0] 5 ++ bN 6 [m.tm, m.at_, m.att, m.cm, m.rd] (2 + 1))) := HB7.out.step (by rw [bN_succ 6 [m.tm, m.at_, m.att, m.cm, m.rd] 2 (by simp), ← List.append_assoc]; exact W') n' t'
            clear N W' n' t' HB7
            have N := rwNum_any w2.heap.size w2.heap.size v8 _ 0 6 m.cm a8 HB8.out.wr (by rw [List.length_append, bN_len 1 (by omega) _ _ (by simp), bN_len 6 (by omega) _ _ (by simp)]; omega)
            rw [wr_6 (n := m.cm) HC.out.2.1.2.2.2.1] at N
            obtain ⟨c0, c1, c2, c3, c4, c5, c6, c7, c8, c9, c10⟩ := eblk11 (HB8.out.bx _ (List.mem_singleton.2 rfl))
            go_wp2_with fail
            clear c0 c1 c2 c3 c4 c5 c6 c7 c8 c9 c10
            refine N.mono ?_
            rintro r a9 ⟨rfl, v9, W', n', t'⟩
            have HB9 : Hid (WQ w2.heap.size w2.heap.size [(w.heap.size, 25, [.int .i64 m.kd, .int .i64 m.fr, .int .i64 m.too, .int .i64 m.tm, .int .i64 m.at_, .int .i64 m.att, .int .i64 m.cm, .int .i64 m.rd, .bool false, .slice ea m.es.length ec, .slice da m.dt.length dc])] w2 a9 v9 (bN 1 [202, m.kd, m.fr, m.too, 0] 5 ++ bN 6 [m.tm, m.at_, m.att, m.cm, m.rd] (3 + 1))) := HB8.out.step (by rw [bN_succ 6 [m.tm, m.at_, m.att, m.cm, m.rd] 3 (by simp), ← List.append_assoc]; exact W') n' t'
            clear N W' n' t' HB8
            have N := rwNum_any w2.heap.size w2.heap.size v9 _ 0 6 m.rd a9 HB9.out.wr (by rw [List.length_append, bN_len 1 (by omega) _ _ (by simp), bN_len 6 (by omega) _ _ (by simp)]; omega)
            rw [wr_6 (n := m.rd) HC.out.2.1.2.2.2.2] at N
            obtain ⟨c0, c1, c2, c3, c4, c5, c6, c7, c8, c9, c10⟩ := eblk11 (HB9.out.bx _ (List.mem_singleton.2 rfl))
            go_wp2_with fail
            clear c0 c1 c2 c3 c4 c5 c6 c7 c8 c9 c10
            refine N.mono ?_
            rintro r a10 ⟨rfl, v10, W', n', t'⟩
            have HB10 : Hid (WQ w2.heap.size w2.heap.size [(w.heap.size, 25, [.int .i64 m.kd, .int .i64 m.fr, .int .i64 m.too, .int .i64 m.tm, .int .i64 m.at_, .int .i64 m.att, .int .i64 m.cm, .int .i64 m.rd, .bool false, .slice ea m.es.length ec, .slice da m.dt.length dc])] w2 a10 v10 (bN 1 [202, m.kd, m.fr, m.too, 0] 5 ++ bN 6 [m.tm, m.at_, m.att, m.cm, m.rd] (4 + 1))) := HB9.out.step (by rw [bN_succ 6 [m.tm, m.at_, m.att, m.cm, m.rd] 4 (by simp), ← List.append_assoc]; exact W') n' t'
            clear N W' n' t' HB9
            obtain ⟨Q, hQ⟩ : ∃ Q, Q = bN 1 [202, m.kd, m.fr, m.too, 0] 5 ++ bN 6 [m.tm, m.at_, m.att, m.cm, m.rd] 5 := ⟨_, rfl⟩
            have hQl : Q.length = 35 := by rw [hQ, List.length_append, bN_len 1 (by omega) _ _ (by simp), bN_len 6 (by omega) _ _ (by simp)]
            have HQ : Hid (Q = bN 1 [202, m.kd, m.fr, m.too, 0] 5 ++ bN 6 [m.tm, m.at_, m.att, m.cm, m.rd] 5) := hQ
            have HBq : Hid (WQ w2.heap.size w2.heap.size [(w.heap.size, 25, [.int .i64 m.kd, .int .i64 m.fr, .int .i64 m.too, .int .i64 m.tm, .int .i64 m.at_, .int .i64 m.att, .int .i64 m.cm, .int .i64 m.rd, .bool false, .slice ea m.es.length ec, .slice da m.dt.length dc])] w2 a10 v10 Q) := hQ ▸ HB10.out
            have N := rwNum_any w2.heap.size w2.heap.size v10 Q 0 2 m.es.length a10 HBq.out.wr (by omega)
            rw [wr_2 (by omega) (by omega)] at N
            obtain ⟨c0, c1, c2, c3, c4, c5, c6, c7, c8, c9, c10⟩ := eblk11 (HBq.out.bx _ (List.mem_singleton.2 rfl))
            clear hQ HB10
            go_wp2_with fail
            clear c0 c1 c2 c3 c4 c5 c6 c7 c8 c9 c10
            refine N.mono ?_
            rintro r a11 ⟨rfl, v11, W', n', t'⟩
            obtain ⟨Q2, hQ2⟩ : ∃ Q2, Q2 = Q ++ be 2 (BitVec.ofInt 64 m.es.length) := ⟨_, rfl⟩
            have hQ2l : Q2.length = 37 := by rw [hQ2, List.length_append, hQl, be_length _ _ (by omega)]
            have HQ2 : Hid (Q2 = Q ++ be 2 (BitVec.ofInt 64 m.es.length)) := hQ2
            rw [← hQ2] at W'
            have HB11 : Hid (WQ w2.heap.size w2.heap.size [(w.heap.size, 25, [.int .i64 m.kd, .int .i64 m.fr, .int .i64 m.too, .int .i64 m.tm, .int .i64 m.at_, .int .i64 m.att, .int .i64 m.cm, .int .i64 m.rd, .bool false, .slice ea m.es.length ec, .slice da m.dt.length dc])] w2 a11 v11 (Q2 ++ pks m.es 0)) := (show Q2 = Q2 ++ pks m.es 0 from (List.append_nil _).symm) ▸ HBq.out.step W' n' t'
            clear N W' n' t' HBq hQ2
            go_wp2_with fail
            go_loopw [8] (fun iv wr => ∃ (i : Nat) (v' : Value), iv = .int .i64 i ∧ i ≤ m.es.length ∧ WQ w2.heap.size w2.heap.size [(w.heap.size, 25, [.int .i64 m.kd, .int .i64 m.fr, .int .i64 m.too, .int .i64 m.tm, .int .i64 m.at_, .int .i64 m.att, .int .i64 m.cm, .int .i64 m.rd, .bool false, .slice ea m.es.length ec, .slice da m.dt.length dc])] w2 wr v' (Q2 ++ pks m.es i)) (fun iv _ => m.es.length - (intOf iv).toNat)
            case atStart => exact ⟨0, v11, rfl, by omega, HB11.out⟩
            case round =>
              obtain ⟨i, v', rfl, hi, hb⟩ := hrel
              have HB : Hid (WQ w2.heap.size w2.heap.size [(w.heap.size, 25, [.int .i64 m.kd, .int .i64 m.fr, .int .i64 m.too, .int .i64 m.tm, .int .i64 m.at_, .int .i64 m.att, .int .i64 m.cm, .int .i64 m.rd, .bool false, .slice ea m.es.length ec, .slice da m.dt.length dc])] w2 wr v' (Q2 ++ pks m.es i)) := hb
              have hpl := pks_len m.es HC.out.2.2 i hi
              clear hb
              obtain ⟨c0, c1, c2, c3, c4, c5, c6, c7, c8, c9, c10⟩ := eblk11 (HB.out.bx _ (List.mem_singleton.2 rfl))
              by_cases hlt : i < m.es.length
              · have hlt' : (i : Int) < (m.es.length : Int) := by omega
                obtain ⟨p, off, rfl, hAt0⟩ := EArgs.at HA.out.1 i hlt
                have bW := H2.out.1.trans (HB.out.bl.mono hs2)
                obtain ⟨g1, g2, ⟨x, cx, g3, g4, h5, h6⟩, h7, h7', h8⟩ := hAt0
                have h1 := cell_later bW g1
                have h2 := cell_later bW g2
                have h3 := cell_later bW g3
                have hrow : Hid (∀ W, Below w2.heap.size w2 W → Row W x (m.es[i]).2.2) := fun W hW => g4.later (H2.out.1.trans (hW.mono hs2))
                have hce : Hid (canE (m.es[i].1, m.es[i].2.1, m.es[i].2.2) = true) := HC.out.2.2 m.es[i] (List.getElem_mem _)
                have hps : Hid (pks m.es (i + 1) = pks m.es i ++ packE (m.es[i].1, m.es[i].2.1, m.es[i].2.2)) := pks_succ m.es i hlt
                clear bW g1 g2 g3 g4
                generalize (m.es[i]).1 = ek at *
                generalize (m.es[i]).2.1 = et at *
                generalize (m.es[i]).2.2 = el at *
                have N := rwEntry_turn w2.heap.size w2.heap.size v' (Q2 ++ pks m.es i) ek et el x cx wr hce.out HB.out.wr (by rw [List.length_append]; omega) h5 h6 (fun W hW => hrow.out W (HB.out.bl.trans hW))
                go_wp2_with fail
                clear h1 h2 h3 c0 c1 c2 c3 c4 c5 c6 c7 c8 c9 c10
                refine N.mono ?_
                rintro r w6 ⟨rfl, v6, W6, n6, t6⟩
                have F : Hid _ := HB.out.step (L' := Q2 ++ pks m.es (i + 1)) (by rw [hps.out, ← List.append_assoc]; exact W6) n6 t6
                clear N W6 n6 t6 HB
                go_wp2
                go_roundw
                case rel => exact ⟨i + 1, v6, by go_num, by omega, F.out⟩
                case measure => simp [intOf]; omega
              · have he : i = m.es.length := by omega
                have HB4 : Hid (WQ w2.heap.size w2.heap.size [(w.heap.size, 25, [.int .i64 m.kd, .int .i64 m.fr, .int .i64 m.too, .int .i64 m.tm, .int .i64 m.at_, .int .i64 m.att, .int .i64 m.cm, .int .i64 m.rd, .bool false, .slice ea m.es.length ec, .slice da m.dt.length dc])] w2 wr v' (Q2 ++ pks m.es m.es.length)) := he ▸ HB.out
                have hlen : (Q2 ++ pks m.es m.es.length).length + 65544 ≤ 140737488351232 := by rw [← he, List.length_append]; omega
                have N := rwBytes_any w2.heap.size w2.heap.size v' _ 0 4 da m.dt.length dc m.dt wr HB4.out.wr hlen rfl hdc (HA.out.2.later (H2.out.1.trans (HB.out.bl.mono hs2))) hdn (by omega)
                rw [wr_c4 m.dt hd6] at N
                have hnl : ¬ (i : Int) < (m.es.length : Int) := by omega
                clear he hlen
                go_wp2_with fail
                clear c0 c1 c2 c3 c4 c5 c6 c7 c8 c9 c10
                refine N.mono ?_
                rintro r w5 ⟨rfl, v5', W5, n5, t5⟩
                have eL : Q2 ++ pks m.es m.es.length ++ (be 4 (BitVec.ofNat 64 m.dt.length) ++ m.dt) = bodyM m := by unfold bodyM; rw [HQ2.out, HQ.out, ← HE.out]
                obtain ⟨B, hB⟩ : ∃ B, B = bodyM m := ⟨_, rfl⟩
                rw [eL, ← hB] at W5
                rw [← hB] at hbl
                have H5 : Hid (WQ w2.heap.size w2.heap.size [(w.heap.size, 25, [.int .i64 m.kd, .int .i64 m.fr, .int .i64 m.too, .int .i64 m.tm, .int .i64 m.at_, .int .i64 m.att, .int .i64 m.cm, .int .i64 m.rd, .bool false, .slice ea m.es.length ec, .slice da m.dt.length dc])] w2 w5 v5' B) := HB4.out.step W5 n5 t5
                have HBm : Hid (B = bodyM m) := hB
                obtain ⟨lo, oo, hlo⟩ := W5.own
                obtain rfl := hlo rfl
                obtain ⟨a5', k5, rfl, -, hm5, r5, -, -⟩ := oo.open
                have d0 := W5.blk.cell (by simp [maxLen]) 0 (by simp)
                simp only [List.getElem?_cons_zero] at d0
                have N6 := rsum_any a5' lo.length k5 lo w5 rfl (by unfold maxLen; omega) r5
                have hsl := (Crc.sum lo).isLt
                have N7 := rwNum_any w2.heap.size w2.heap.size _ lo 0 4 ((Crc.sum lo).toNat : Int) w5 W5 (by omega)
                rw [wr_4s] at N7
                obtain ⟨S, hS⟩ : ∃ S, S = Crc.sum lo := ⟨_, rfl⟩
                have HS : Hid (S = Crc.sum lo) := hS
                rw [← hS] at N6 N7 hsl
                clear hS N W5 n5 t5 HB HB4 eL hB oo hlo r5
                go_wp2_with fail
                clear d0
                refine N6.mono ?_
                rintro r w6 ⟨rfl, rfl⟩
                clear N6
                generalize hsm : (S.toNat : Int) = sm at *
                have hsm2 : 0 ≤ sm ∧ sm < 4294967296 := by rw [← hsm]; omega
                clear hsm hsl
                go_wp2_with fail
                refine N7.mono ?_
                rintro r w7 ⟨rfl, v7, W7, -, t7⟩
                have N8 := rwEnd_any w2.heap.size w2.heap.size v7 _ 0 w7 W7 (by rw [List.length_append, be_length _ _ (by omega)]; omega)
                have H7 : Hid (Below w.heap.size w w7) := H2.out.1.trans ((H5.out.bl.trans (H5.out.wr.below t7)).mono hs2)
                have e8 : wrEnd (lo ++ be 4 (S.setWidth 64)) 0 = lo ++ be 4 (S.setWidth 64) := by unfold wrEnd; rw [if_pos rfl]
                rw [e8] at N8
                clear N7 W7 t7 H5 e8
                go_wp2_with fail
                refine N8.mono ?_
                rintro r w8 ⟨z8, rfl, o8, b8⟩
                have F : Hid _ := And.intro (o8.lower H7.out.size) (below_then H7.out b8)
                clear o8 b8 H7 N8
                go_wp2
                go_ret2
                refine ⟨z8, ?_, ?_, F.out.2⟩
                · (rw [P.out.1]; try rfl)
                · rw [P.out.2, ← HBm.out, ← HS.out]; exact F.out.1
  | true =>
    have b0 := box11_below w #[.int .i64 m.kd, .int .i64 m.fr, .int .i64 m.too, .int .i64 m.tm, .int .i64 m.at_, .int .i64 m.att, .int .i64 m.cm, .int .i64 m.rd, .bool true, .slice ea m.es.length ec, .slice da m.dt.length dc] 25
    have M0 : Blk (w.alloc (.cells #[.int .i64 m.kd, .int .i64 m.fr, .int .i64 m.too, .int .i64 m.tm, .int .i64 m.at_, .int .i64 m.att, .int .i64 m.cm, .int .i64 m.rd, .bool true, .slice ea m.es.length ec, .slice da m.dt.length dc] 25)) w.heap.size 25 [.int .i64 m.kd, .int .i64 m.fr, .int .i64 m.too, .int .i64 m.tm, .int .i64 m.at_, .int .i64 m.att, .int .i64 m.cm, .int .i64 m.rd, .bool true, .slice ea m.es.length ec, .slice da m.dt.length dc] := Blk.new' w _ _
    obtain ⟨c0, c1, c2, c3, c4, c5, c6, c7, c8, c9, c10⟩ := eblk11 M0
    have H0 : Hid (Below w.heap.size w (w.alloc (.cells #[.int .i64 m.kd, .int .i64 m.fr, .int .i64 m.too, .int .i64 m.tm, .int .i64 m.at_, .int .i64 m.att, .int .i64 m.cm, .int .i64 m.rd, .bool true, .slice ea m.es.length ec, .slice da m.dt.length dc] 25)) ∧ Blk (w.alloc (.cells #[.int .i64 m.kd, .int .i64 m.fr, .int .i64 m.too, .int .i64 m.tm, .int .i64 m.at_, .int .i64 m.att, .int .i64 m.cm, .int .i64 m.rd, .bool true, .slice ea m.es.length ec, .slice da m.dt.length dc] 25)) w.heap.size 25 [.int .i64 m.kd, .int .i64 m.fr, .int .i64 m.too, .int .i64 m.tm, .int .i64 m.at_, .int .i64 m.att, .int .i64 m.cm, .int .i64 m.rd, .bool true, .slice ea m.es.length ec, .slice da m.dt.length dc]) := ⟨b0, M0⟩
    have hdi : (m.dt.length : Int) ≤ 140737488351232 := by omega
    clear b0 M0
    by_cases h1 : 4096 < m.es.length
    · have P : Hid (pmE m = 3 ∧ pmB m = []) := by unfold pmB pmE; rw [if_pos h1]; exact ⟨rfl, if_neg (by decide)⟩
      have q1 : (4096 : Int) < (m.es.length : Int) := by omega
      clear h1
      go_enter Try.func7, Try.ntmps7
      go_wp2
      go_ret2
      refine ⟨.slice none 0 0, ?_, ?_, H0.out.1⟩
      · (rw [P.out.1]; try rfl)
      · rw [P.out.2]; exact Own.nil _ _
    have q1 : ¬ (4096 : Int) < (m.es.length : Int) := by omega
    by_cases h2 : 65536 < m.dt.length
    · have P : Hid (pmE m = 3 ∧ pmB m = []) := pmE_big (by have := lenK_ge m m.es.length; omega)
      have q2 : (65536 : Int) < (m.dt.length : Int) := by omega
      clear h2 h1
      go_enter Try.func7, Try.ntmps7
      go_wp2
      go_ret2
      refine ⟨.slice none 0 0, ?_, ?_, H0.out.1⟩
      · (rw [P.out.1]; try rfl)
      · rw [P.out.2]; exact Own.nil _ _
    have q2 : ¬ (65536 : Int) < (m.dt.length : Int) := by omega
    go_enter Try.func7, Try.ntmps7
    go_wp2_with fail
    generalize w.alloc (.cells #[.int .i64 m.kd, .int .i64 m.fr, .int .i64 m.too, .int .i64 m.tm, .int .i64 m.at_, .int .i64 m.att, .int .i64 m.cm, .int .i64 m.rd, .bool true, .slice ea m.es.length ec, .slice da m.dt.length dc] 25) = wb at *
    clear c0 c1 c2 c3 c4 c5 c6 c7 c8 c9 c10
    go_loopw [4, 5] (fun sv iv wr => ∃ i : Nat, iv = .int .i64 i ∧ sv = .int .i64 (m.lenK i) ∧ i ≤ m.es.length ∧ m.lenK i ≤ 65600 ∧ Below wb.heap.size wb wr) (fun _ iv _ => m.es.length - (intOf iv).toNat)
    case atStart => exact ⟨0, rfl, by unfold Mg.lenK; go_num, by omega, by unfold Mg.lenK; omega, Below.refl _ _⟩
    case round =>
      obtain ⟨i, rfl, rfl, hi, hbi, hb⟩ := hrel
      have HB : Hid (Below wb.heap.size wb wr) := hb
      clear hb
      obtain ⟨c0, c1, c2, c3, c4, c5, c6, c7, c8, c9, c10⟩ := eblk11 (H0.out.2.laterB HB.out)
      by_cases hlt : i < m.es.length
      · have hlt' : (i : Int) < (m.es.length : Int) := by omega
        obtain ⟨p, off, rfl, hAt⟩ := EArgs.at (HA.out.1.later (below_then H0.out.1 HB.out)) i hlt
        obtain ⟨h1', h2', ⟨x, cx, h3, -, -, -⟩, -, -, h8⟩ := hAt
        have HN : Hid (m.lenK (i + 1) = m.lenK i + (9 + (m.es[i]).2.2.length)) := (by rw [Mg.lenK, List.getElem?_eq_getElem hlt, Option.getD_some] : m.lenK (i + 1) = m.lenK i + (9 + (m.es[i]).2.2.length))
        have HM : Hid (m.lenK (i + 1) ≤ m.lenK m.es.length) := lenK_mono m (by omega)
        clear h1' h2'
        generalize (m.es[i]).2.2.length = en at *
        generalize m.lenK i = L at *
        by_cases hbig : 65536 < L + (9 + en)
        · have P : Hid (pmE m = 3 ∧ pmB m = []) := pmE_big (by have := HN.out; have := HM.out; omega)
          have qb : (65536 : Int) < (L : Int) + 9 + (en : Int) := by omega
          have F : Hid _ := below_then H0.out.1 HB.out
          clear HB
          go_wp2
          go_ret2
          refine ⟨.slice none 0 0, ?_, ?_, F.out⟩
          · (rw [P.out.1]; try rfl)
          · rw [P.out.2]; exact Own.nil _ _
        · have qb : ¬ (65536 : Int) < (L : Int) + 9 + (en : Int) := by omega
          go_wp2
          go_roundw
          case rel => exact ⟨i + 1, by go_num, by rw [HN.out]; go_num, by omega, by rw [HN.out]; omega, HB.out⟩
          case measure => simp [intOf]; omega
      · have he : i = m.es.length := by omega
        subst he
        have hnl : ¬ (m.es.length : Int) < (m.es.length : Int) := by omega
        by_cases hbig : 65536 < m.lenK m.es.length
        · have P : Hid (pmE m = 3 ∧ pmB m = []) := pmE_big hbig
          have F : Hid _ := below_then H0.out.1 HB.out
          have qb : (65536 : Int) < (m.lenK m.es.length : Int) := by omega
          clear HB
          generalize (m.lenK m.es.length : Int) = LL at *
          go_wp2
          go_ret2
          refine ⟨.slice none 0 0, ?_, ?_, F.out⟩
          · (rw [P.out.1]; try rfl)
          · rw [P.out.2]; exact Own.nil _ _
        · have HP : Hid (pmE m = if canM m = true then 0 else 1) := (by unfold pmE; rw [if_neg h1, if_neg hbig] : pmE m = if canM m = true then 0 else 1)
          have qb : ¬ (65536 : Int) < (m.lenK m.es.length : Int) := by omega
          have N2 : Calls Try.prog 21 #[.agg #[.int .i64 m.kd, .int .i64 m.fr, .int .i64 m.too, .int .i64 m.tm, .int .i64 m.at_, .int .i64 m.att, .int .i64 m.cm, .int .i64 m.rd, .bool true, .slice ea m.es.length ec, .slice da m.dt.length dc]] wr fun r w' => r = .returned (.bool (canM m)) ∧ Below wr.heap.size wr w' := rightMsg_any { m with yes := true } ea ec da dc wr (HA.out.1.later (below_then H0.out.1 HB.out)) hl
          have hl4 : m.es.length ≤ 4096 := by omega
          have hd6 : m.dt.length ≤ 65536 := by omega
          clear hbig hbi
          generalize (m.lenK m.es.length : Int) = LL at *
          go_wp2_with fail
          clear c0 c1 c2 c3 c4 c5 c6 c7 c8 c9 c10
          refine N2.mono ?_
          rintro r w2 ⟨rfl, b2⟩
          have H2 : Hid (Below w.heap.size w w2 ∧ Blk w2 w.heap.size 25 [.int .i64 m.kd, .int .i64 m.fr, .int .i64 m.too, .int .i64 m.tm, .int .i64 m.at_, .int .i64 m.att, .int .i64 m.cm, .int .i64 m.rd, .bool true, .slice ea m.es.length ec, .slice da m.dt.length dc]) := ⟨below_then (below_then H0.out.1 HB.out) b2, (H0.out.2.laterB HB.out).laterB b2⟩
          clear N2 b2 HB H0
          cases hcm : canM m with
          | false =>
            have P : Hid (pmE m = 1 ∧ pmB m = []) := by
              have e : pmE m = 1 := by rw [HP.out, hcm]; rfl
              exact ⟨e, by unfold pmB; rw [e]; exact if_neg (by decide)⟩
            clear hcm
            go_wp2
            go_ret2
            refine ⟨.slice none 0 0, ?_, ?_, H2.out.1⟩
            · (rw [P.out.1]; try rfl)
            · rw [P.out.2]; exact Own.nil _ _
          | true =>
            have P : Hid (pmE m = 0 ∧ pmB m = bodyM m ++ be 4 ((Crc.sum (bodyM m)).setWidth 64)) := by
              have e : pmE m = 0 := by rw [HP.out, hcm]; rfl
              exact ⟨e, by unfold pmB; rw [e]; exact if_pos rfl⟩
            have HC : Hid ((byB m.kd = true ∧ byB m.fr = true ∧ byB m.too = true) ∧ (numB m.tm = true ∧ numB m.at_ = true ∧ numB m.att = true ∧ numB m.cm = true ∧ numB m.rd = true) ∧ ∀ e ∈ m.es, canE e = true) := by
              unfold canM at hcm
              simp only [Bool.and_eq_true, List.all_eq_true] at hcm
              exact ⟨⟨hcm.1.1.1.1, hcm.1.1.1.2, hcm.1.1.2⟩, ⟨hcm.1.2.1.1.1.1, hcm.1.2.1.1.1.2, hcm.1.2.1.1.2, hcm.1.2.1.2, hcm.1.2.2⟩, hcm.2⟩
            have hbl := bodyM_len m HC.out.2.2 hl4 hd6
            have HE : Hid ((1 : Int) = yesN m) := (by have := HY.out; simpa using this : (1 : Int) = yesN m)
            have bN0 : Below w2.heap.size w2 (w2.alloc (.cells #[.slice none 0 0, .int .i64 0] 52)) := (Below.refl _ _).alloc (Nat.le_refl _) _
            have WN : WrAt (w2.alloc (.cells #[.slice none 0 0, .int .i64 0] 52)) w2.heap.size w2.heap.size 52 (.slice none 0 0) [] 0 := ⟨Blk.new' w2 52 [.slice none 0 0, .int .i64 0], ⟨[], Own.nil _ _, fun _ => rfl⟩, Nat.le_refl _, bN0.size, by decide⟩
            have hlt2 := H2.out.2.lt
            have hs2 := H2.out.1.size
            have HB0 : Hid (WQ w2.heap.size w2.heap.size [(w.heap.size, 25, [.int .i64 m.kd, .int .i64 m.fr, .int .i64 m.too, .int .i64 m.tm, .int .i64 m.at_, .int .i64 m.att, .int .i64 m.cm, .int .i64 m.rd, .bool true, .slice ea m.es.length ec, .slice da m.dt.length dc])] w2 (w2.alloc (.cells #[.slice none 0 0, .int .i64 0] 52)) (.slice none 0 0) (bN 1 [202, m.kd, m.fr, m.too, 1] 0)) := ⟨WN, bN0, (fun b hb => by rw [List.mem_singleton] at hb; subst hb; exact H2.out.2.laterB bN0), (fun b hb => by rw [List.mem_singleton] at hb; subst hb; exact ⟨by show w.heap.size ≠ w2.heap.size; omega, fun j hj => by simp [Value.ownBlock] at hj⟩)⟩
            obtain ⟨c0, c1, c2, c3, c4, c5, c6, c7, c8, c9, c10⟩ := eblk11 H2.out.2
            clear bN0 WN hcm HP
            go_upto_region 18 with fail
            clear c0 c1 c2 c3 c4 c5 c6 c7 c8 c9 c10
            generalize w2.alloc (.cells #[.slice none 0 0, .int .i64 0] 52) = a0 at *
            obtain ⟨v0, hv0⟩ : ∃ v0, v0 = Value.slice none 0 0 := ⟨_, rfl⟩
            rw [← hv0] at HB0
            clear hv0
            have N := rwNum_any w2.heap.size w2.heap.size v0 _ 0 1 202 a0 HB0.out.wr (by rw [bN_len 1 (by omega) _ _ (by simp)]; omega)
            rw [wr_1 (n := 202) (by omega) (by omega)] at N
            obtain ⟨c0, c1, c2, c3, c4, c5, c6, c7, c8, c9, c10⟩ := eblk11 (HB0.out.bx _ (List.mem_singleton.2 rfl))
            go_wp2_with fail
            clear c0 c1 c2 c3 c4 c5 c6 c7 c8 c9 c10
            refine N.mono ?_
            rintro r a1 ⟨rfl, v1, W', n', t'⟩
            have HB1 : Hid (WQ w2.heap.size w2.heap.size [(w.heap.size, 25, [.int .i64 m.kd, .int .i64 m.fr, .int .i64 m.too, .int .i64 m.tm, .int .i64 m.at_, .int .i64 m.att, .int .i64 m.cm, .int .i64 m.rd, .bool true, .slice ea m.es.length ec, .slice da m.dt.length dc])] w2 a1 v1 (bN 1 [202, m.kd, m.fr, m.too, 1] (0 + 1))) := HB0.out.step (by rw [bN_succ 1 [202, m.kd, m.fr, m.too, 1] 0 (by simp)]; exact W') n' t'
            clear N W' n' t' HB0
            have N := rwNum_any w2.heap.size w2.heap.size v1 _ 0 1 m.kd a1 HB1.out.wr (by rw [bN_len 1 (by omega) _ _ (by simp)]; omega)
            rw [wr_1 (n := m.kd) (of_decide_eq_true HC.out.1.1).1 (of_decide_eq_true HC.out.1.1).2] at N
            obtain ⟨c0, c1, c2, c3, c4, c5, c6, c7, c8, c9, c10⟩ := eblk11 (HB1.out.bx _ (List.mem_singleton.2 rfl))
            go_wp2_with fail
            clear c0 c1 c2 c3 c4 c5 c6 c7 c8 c9 c10
            refine N.mono ?_
            rintro r a2 ⟨rfl, v2, W', n', t'⟩
            have HB2 : Hid (WQ w2.heap.size w2.heap.size [(w.heap.size, 25, [.int .i64 m.kd, .int .i64 m.fr, .int .i64 m.too, .int .i64 m.tm, .int .i64 m.at_, .int .i64 m.att, .int .i64 m.cm, .int .i64 m.rd, .bool true, .slice ea m.es.length ec, .slice da m.dt.length dc])] w2 a2 v2 (bN 1 [202, m.kd, m.fr, m.too, 1] (1 + 1))) := HB1.out.step (by rw [bN_succ 1 [202, m.kd, m.fr, m.too, 1] 1 (by simp)]; exact W') n' t'
            clear N W' n' t' HB1
            have N := rwNum_any w2.heap.size w2.heap.size v2 _ 0 1 m.fr a2 HB2.out.wr (by rw [bN_len 1 (by omega) _ _ (by simp)]; omega)
            rw [wr_1 (n := m.fr) (of_decide_eq_true HC.out.1.2.1).1 (of_decide_eq_true HC.out.1.2.1).2] at N
            obtain ⟨c0, c1, c2, c3, c4, c5, c6, c7, c8, c9, c10⟩ := eblk11 (HB2.out.bx _ (List.mem_singleton.2 rfl))
            go_wp2_with fail
            clear c0 c1 c2 c3 c4 c5 c6 c7 c8 c9 c10
            refine N.mono ?_
            rintro r a3 ⟨rfl, v3, W', n', t'⟩
            have HB3 : Hid (WQ w2.heap.size w2.heap.size [(w.heap.size, 25, [.int .i64 m.kd, .int .i64 m.fr, .int .i64 m.too, .int .i64 m.tm, .int .i64 m.at_, .int .i64 m.att, .int .i64 m.cm, .int .i64 m.rd, .bool true, .slice ea m.es.length ec, .slice da m.dt.length dc])] w2 a3 v3 (bN 1 [202, m.kd, m.fr, m.too, 1] (2 + 1))) := HB2.out.step (by rw [bN_succ 1 [202, m.kd, m.fr, m.too, 1] 2 (by simp)]; exact W') n' t'
            clear N W' n' t' HB2
            have N := rwNum_any w2.heap.size w2.heap.size v3 _ 0 1 m.too a3 HB3.out.wr (by rw [bN_len 1 (by omega) _ _ (by simp)]; omega)
            rw [wr_1 (n := m.too) (of_decide_eq_true HC.out.1.2.2).1 (of_decide_eq_true HC.out.1.2.2).2] at N
            obtain ⟨c0, c1, c2, c3, c4, c5, c6, c7, c8, c9, c10⟩ := eblk11 (HB3.out.bx _ (List.mem_singleton.2 rfl))
            go_wp2_with fail
            clear c0 c1 c2 c3 c4 c5 c6 c7 c8 c9 c10
            refine N.mono ?_
            rintro r a4 ⟨rfl, v4, W', n', t'⟩
            have HB4 : Hid (WQ w2.heap.size w2.heap.size [(w.heap.size, 25, [.int .i64 m.kd, .int .i64 m.fr, .int .i64 m.too, .int .i64 m.tm, .int .i64 m.at_, .int .i64 m.att, .int .i64 m.cm, .int .i64 m.rd, .bool true, .slice ea m.es.length ec, .slice da m.dt.length dc])] w2 a4 v4 (bN 1 [202, m.kd, m.fr, m.too, 1] (3 + 1))) := HB3.out.step (by rw [bN_succ 1 [202, m.kd, m.fr, m.too, 1] 3 (by simp)]; exact W') n' t'
            clear N W' n' t' HB3
            have N := rwNum_any w2.heap.size w2.heap.size v4 _ 0 1 1 a4 HB4.out.wr (by rw [bN_len 1 (by omega) _ _ (by simp)]; omega)
            rw [wr_1 (n := 1) (by omega) (by omega)] at N
            obtain ⟨c0, c1, c2, c3, c4, c5, c6, c7, c8, c9, c10⟩ := eblk11 (HB4.out.bx _ (List.mem_singleton.2 rfl))
            go_wp2_with fail
            clear c0 c1 c2 c3 c4 c5 c6 c7 c8 c9 c10
            refine N.mono ?_
            rintro r a5 ⟨rfl, v5, W', n', t'⟩
            have HB5 : Hid (WQ w2.heap.size w2.heap.size [(w.heap.size, 25, [.int .i64 m.kd, .int .i64 m.fr, .int .i64 m.too, .int .i64 m.tm, .int .i64 m.at_, .int .i64 m.att, .int .i64 m.cm, .int .i64 m.rd, .bool true, .slice ea m.es.length ec, .slice da m.dt.length dc])] w2 a5 v5 (bN 1 [202, m.kd, m.fr, m.too, 1] (4 + 1))) := HB4.out.step (by rw [bN_succ 1 [202, m.kd, m.fr, m.too, 1] 4 (by simp)]; exact W') n' t'
            clear N W' n' t' HB4
            have HB50 : Hid (WQ w2.heap.size w2.heap.size [(w.heap.size, 25, [.int .i64 m.kd, .int .i64 m.fr, .int .i64 m.too, .int .i64 m.tm, .int .i64 m.at_, .int .i64 m.att, .int .i64 m.cm, .int .i64 m.rd, .bool true, .slice ea m.es.length ec, .slice da m.dt.length dc])] w2 a5 v5 (bN 1 [202, m.kd, m.fr, m.too, 1] 5 ++ bN 6 [m.tm, m.at_, m.att, m.cm, m.rd] 0)) := (show bN 1 [202, m.kd, m.fr, m.too, 1] 5 = bN 1 [202, m.kd, m.fr, m.too, 1] 5 ++ bN 6 [m.tm, m.at_, m.att, m.cm, m.rd] 0 from (List.append_nil _).symm) ▸ HB5.out
            clear HB5
            have HB5 : Hid (WQ w2.heap.size w2.heap.size [(w.heap.size, 25, [.int .i64 m.kd, .int .i64 m.fr, .int .i64 m.too, .int .i64 m.tm, .int .i64 m.at_, .int .i64 m.att, .int .i64 m.cm, .int .i64 m.rd, .bool true, .slice ea m.es.length ec, .slice da m.dt.length dc])] w2 a5 v5 (bN 1 [202, m.kd, m.fr, m.too, 1] 5 ++ bN 6 [m.tm, m.at_, m.att, m.cm, m.rd] 0)) := HB50.out
            clear HB50
            have N := rwNum_any w2.heap.size w2.heap.size v5 _ 0 6 m.tm a5 HB5.out.wr (by rw [List.length_append, bN_len 1 (by omega) _ _ (by simp), bN_len 6 (by omega) _ _ (by simp)]; omega)
            rw [wr_6 (n := m.tm) HC.out.2.1.1] at N
            obtain ⟨c0, c1, c2, c3, c4, c5, c6, c7, c8, c9, c10⟩ := eblk11 (HB5.out.bx _ (List.mem_singleton.2 rfl))
            go_wp2_with fail
            clear c0 c1 c2 c3 c4 c5 c6 c7 c8 c9 c10
            refine N.mono ?_
            rintro r a6 ⟨rfl, v6, W', n', t'⟩
            have HB6 : Hid (WQ w2.heap.size w2.heap.size [(w.heap.size, 25, [.int .i64 m.kd, .int .i64 m.fr, .int .i64 m.too, .int .i64 m.tm, .int .i64 m.at_, .int .i64 m.att, .int .i64 m.cm, .int .i64 m.rd, .bool true, .slice ea m.es.length ec, .slice da m.dt.length dc])] w2 a6 v6 (bN 1 [202, m.kd, m.fr, m.too, 1] 5 ++ bN 6 [m.tm, m.at_, m.att, m.cm, m.rd] (0 + 1))) := HB5.out.step (by rw [bN_succ 6 [m.tm, m.at_, m.att, m.cm, m.rd] 0 (by simp), ← List.append_assoc]; exact W') n' t'
            clear N W' n' t' HB5
            have N := rwNum_any w2.heap.size w2.heap.size v6 _ 0 6 m.at_ a6 HB6.out.wr (by rw [List.length_append, bN_len 1 (by omega) _ _ (by simp), bN_len 6 (by omega) _ _ (by simp)]; omega)
            rw [wr_6 (n := m.at_) HC.out.2.1.2.1] at N
            obtain ⟨c0, c1, c2, c3, c4, c5, c6, c7, c8, c9, c10⟩ := eblk11 (HB6.out.bx _ (List.mem_singleton.2 rfl))
            go_wp2_with fail
            clear c0 c1 c2 c3 c4 c5 c6 c7 c8 c9 c10
            refine N.mono ?_
            rintro r a7 ⟨rfl, v7, W', n', t'⟩
            have HB7 : Hid (WQ w2.heap.size w2.heap.size [(w.heap.size, 25, [.int .i64 m.kd, .int .i64 m.fr, .int .i64 m.too, .int .i64 m.tm, .int .i64 m.at_, .int .i64 m.att, .int .i64 m.cm, .int .i64 m.rd, .bool true, .slice ea m.es.length ec, .slice da m.dt.length dc])] w2 a7 v7 (bN 1 [202, m.kd, m.fr, m.too, 1] 5 ++ bN 6 [m.tm, m.at_, m.att, m.cm, m.rd] (1 + 1))) := HB6.out.step (by rw [bN_succ 6 [m.tm, m.at_, m.att, m.cm, m.rd] 1 (by simp), ← List.append_assoc]; exact W') n' t'
            clear N W' n' t' HB6
            have N := rwNum_any w2.heap.size w2.heap.size v7 _ 0 6 m.att a7 HB7.out.wr (by rw [List.length_append, bN_len 1 (by omega) _ _ (by simp), bN_len 6 (by omega) _ _ (by simp)]; omega)
            rw [wr_6 (n := m.att) HC.out.2.1.2.2.1] at N
            obtain ⟨c0, c1, c2, c3, c4, c5, c6, c7, c8, c9, c10⟩ := eblk11 (HB7.out.bx _ (List.mem_singleton.2 rfl))
            go_wp2_with fail
            clear c0 c1 c2 c3 c4 c5 c6 c7 c8 c9 c10
            refine N.mono ?_
            rintro r a8 ⟨rfl, v8, W', n', t'⟩
            have HB8 : Hid (WQ w2.heap.size w2.heap.size [(w.heap.size, 25, [.int .i64 m.kd, .int .i64 m.fr, .int .i64 m.too, .int .i64 m.tm, .int .i64 m.at_, .int .i64 m.att, .int .i64 m.cm, .int .i64 m.rd, .bool true, .slice ea m.es.length ec, .slice da m.dt.length dc])] w2 a8 v8 (bN 1 [202, m.kd, m.fr, m.too, 1] 5 ++ bN 6 [m.tm, m.at_, m.att, m.cm, m.rd] (2 + 1))) := HB7.out.step (by rw [bN_succ 6 [m.tm, m.at_, m.att, m.cm, m.rd] 2 (by simp), ← List.append_assoc]; exact W') n' t'
            clear N W' n' t' HB7
            have N := rwNum_any w2.heap.size w2.heap.size v8 _ 0 6 m.cm a8 HB8.out.wr (by rw [List.length_append, bN_len 1 (by omega) _ _ (by simp), bN_len 6 (by omega) _ _ (by simp)]; omega)
            rw [wr_6 (n := m.cm) HC.out.2.1.2.2.2.1] at N
            obtain ⟨c0, c1, c2, c3, c4, c5, c6, c7, c8, c9, c10⟩ := eblk11 (HB8.out.bx _ (List.mem_singleton.2 rfl))
            go_wp2_with fail
            clear c0 c1 c2 c3 c4 c5 c6 c7 c8 c9 c10
            refine N.mono ?_
            rintro r a9 ⟨rfl, v9, W', n', t'⟩
            have HB9 : Hid (WQ w2.heap.size w2.heap.size [(w.heap.size, 25, [.int .i64 m.kd, .int .i64 m.fr, .int .i64 m.too, .int .i64 m.tm, .int .i64 m.at_, .int .i64 m.att, .int .i64 m.cm, .int .i64 m.rd, .bool true, .slice ea m.es.length ec, .slice da m.dt.length dc])] w2 a9 v9 (bN 1 [202, m.kd, m.fr, m.too, 1] 5 ++ bN 6 [m.tm, m.at_, m.att, m.cm, m.rd] (3 + 1))) := HB8.out.step (by rw [bN_succ 6 [m.tm, m.at_, m.att, m.cm, m.rd] 3 (by simp), ← List.append_assoc]; exact W') n' t'
            clear N W' n' t' HB8
            have N := rwNum_any w2.heap.size w2.heap.size v9 _ 0 6 m.rd a9 HB9.out.wr (by rw [List.length_append, bN_len 1 (by omega) _ _ (by simp), bN_len 6 (by omega) _ _ (by simp)]; omega)
            rw [wr_6 (n := m.rd) HC.out.2.1.2.2.2.2] at N
            obtain ⟨c0, c1, c2, c3, c4, c5, c6, c7, c8, c9, c10⟩ := eblk11 (HB9.out.bx _ (List.mem_singleton.2 rfl))
            go_wp2_with fail
            clear c0 c1 c2 c3 c4 c5 c6 c7 c8 c9 c10
            refine N.mono ?_
            rintro r a10 ⟨rfl, v10, W', n', t'⟩
            have HB10 : Hid (WQ w2.heap.size w2.heap.size [(w.heap.size, 25, [.int .i64 m.kd, .int .i64 m.fr, .int .i64 m.too, .int .i64 m.tm, .int .i64 m.at_, .int .i64 m.att, .int .i64 m.cm, .int .i64 m.rd, .bool true, .slice ea m.es.length ec, .slice da m.dt.length dc])] w2 a10 v10 (bN 1 [202, m.kd, m.fr, m.too, 1] 5 ++ bN 6 [m.tm, m.at_, m.att, m.cm, m.rd] (4 + 1))) := HB9.out.step (by rw [bN_succ 6 [m.tm, m.at_, m.att, m.cm, m.rd] 4 (by simp), ← List.append_assoc]; exact W') n' t'
            clear N W' n' t' HB9
            obtain ⟨Q, hQ⟩ : ∃ Q, Q = bN 1 [202, m.kd, m.fr, m.too, 1] 5 ++ bN 6 [m.tm, m.at_, m.att, m.cm, m.rd] 5 := ⟨_, rfl⟩
            have hQl : Q.length = 35 := by rw [hQ, List.length_append, bN_len 1 (by omega) _ _ (by simp), bN_len 6 (by omega) _ _ (by simp)]
            have HQ : Hid (Q = bN 1 [202, m.kd, m.fr, m.too, 1] 5 ++ bN 6 [m.tm, m.at_, m.att, m.cm, m.rd] 5) := hQ
            have HBq : Hid (WQ w2.heap.size w2.heap.size [(w.heap.size, 25, [.int .i64 m.kd, .int .i64 m.fr, .int .i64 m.too, .int .i64 m.tm, .int .i64 m.at_, .int .i64 m.att, .int .i64 m.cm, .int .i64 m.rd, .bool true, .slice ea m.es.length ec, .slice da m.dt.length dc])] w2 a10 v10 Q) := hQ ▸ HB10.out
            have N := rwNum_any w2.heap.size w2.heap.size v10 Q 0 2 m.es.length a10 HBq.out.wr (by omega)
            rw [wr_2 (by omega) (by omega)] at N
            obtain ⟨c0, c1, c2, c3, c4, c5, c6, c7, c8, c9, c10⟩ := eblk11 (HBq.out.bx _ (List.mem_singleton.2 rfl))
            clear hQ HB10
            go_wp2_with fail
            clear c0 c1 c2 c3 c4 c5 c6 c7 c8 c9 c10
            refine N.mono ?_
            rintro r a11 ⟨rfl, v11, W', n', t'⟩
            obtain ⟨Q2, hQ2⟩ : ∃ Q2, Q2 = Q ++ be 2 (BitVec.ofInt 64 m.es.length) := ⟨_, rfl⟩
            have hQ2l : Q2.length = 37 := by rw [hQ2, List.length_append, hQl, be_length _ _ (by omega)]
            have HQ2 : Hid (Q2 = Q ++ be 2 (BitVec.ofInt 64 m.es.length)) := hQ2
            rw [← hQ2] at W'
            have HB11 : Hid (WQ w2.heap.size w2.heap.size [(w.heap.size, 25, [.int .i64 m.kd, .int .i64 m.fr, .int .i64 m.too, .int .i64 m.tm, .int .i64 m.at_, .int .i64 m.att, .int .i64 m.cm, .int .i64 m.rd, .bool true, .slice ea m.es.length ec, .slice da m.dt.length dc])] w2 a11 v11 (Q2 ++ pks m.es 0)) := (show Q2 = Q2 ++ pks m.es 0 from (List.append_nil _).symm) ▸ HBq.out.step W' n' t'
            clear N W' n' t' HBq hQ2
            go_wp2_with fail
            go_loopw [8] (fun iv wr => ∃ (i : Nat) (v' : Value), iv = .int .i64 i ∧ i ≤ m.es.length ∧ WQ w2.heap.size w2.heap.size [(w.heap.size, 25, [.int .i64 m.kd, .int .i64 m.fr, .int .i64 m.too, .int .i64 m.tm, .int .i64 m.at_, .int .i64 m.att, .int .i64 m.cm, .int .i64 m.rd, .bool true, .slice ea m.es.length ec, .slice da m.dt.length dc])] w2 wr v' (Q2 ++ pks m.es i)) (fun iv _ => m.es.length - (intOf iv).toNat)
            case atStart => exact ⟨0, v11, rfl, by omega, HB11.out⟩
            case round =>
              obtain ⟨i, v', rfl, hi, hb⟩ := hrel
              have HB : Hid (WQ w2.heap.size w2.heap.size [(w.heap.size, 25, [.int .i64 m.kd, .int .i64 m.fr, .int .i64 m.too, .int .i64 m.tm, .int .i64 m.at_, .int .i64 m.att, .int .i64 m.cm, .int .i64 m.rd, .bool true, .slice ea m.es.length ec, .slice da m.dt.length dc])] w2 wr v' (Q2 ++ pks m.es i)) := hb
              have hpl := pks_len m.es HC.out.2.2 i hi
              clear hb
              obtain ⟨c0, c1, c2, c3, c4, c5, c6, c7, c8, c9, c10⟩ := eblk11 (HB.out.bx _ (List.mem_singleton.2 rfl))
              by_cases hlt : i < m.es.length
              · have hlt' : (i : Int) < (m.es.length : Int) := by omega
                obtain ⟨p, off, rfl, hAt0⟩ := EArgs.at HA.out.1 i hlt
                have bW := H2.out.1.trans (HB.out.bl.mono hs2)
                obtain ⟨g1, g2, ⟨x, cx, g3, g4, h5, h6⟩, h7, h7', h8⟩ := hAt0
                have h1 := cell_later bW g1
                have h2 := cell_later bW g2
                have h3 := cell_later bW g3
                have hrow : Hid (∀ W, Below w2.heap.size w2 W → Row W x (m.es[i]).2.2) := fun W hW => g4.later (H2.out.1.trans (hW.mono hs2))
                have hce : Hid (canE (m.es[i].1, m.es[i].2.1, m.es[i].2.2) = true) := HC.out.2.2 m.es[i] (List.getElem_mem _)
                have hps : Hid (pks m.es (i + 1) = pks m.es i ++ packE (m.es[i].1, m.es[i].2.1, m.es[i].2.2)) := pks_succ m.es i hlt
                clear bW g1 g2 g3 g4
                generalize (m.es[i]).1 = ek at *
                generalize (m.es[i]).2.1 = et at *
                generalize (m.es[i]).2.2 = el at *
                have N := rwEntry_turn w2.heap.size w2.heap.size v' (Q2 ++ pks m.es i) ek et el x cx wr hce.out HB.out.wr (by rw [List.length_append]; omega) h5 h6 (fun W hW => hrow.out W (HB.out.bl.trans hW))
                go_wp2_with fail
                clear h1 h2 h3 c0 c1 c2 c3 c4 c5 c6 c7 c8 c9 c10
                refine N.mono ?_
                rintro r w6 ⟨rfl, v6, W6, n6, t6⟩
                have F : Hid _ := HB.out.step (L' := Q2 ++ pks m.es (i + 1)) (by rw [hps.out, ← List.append_assoc]; exact W6) n6 t6
                clear N W6 n6 t6 HB
                go_wp2
                go_roundw
                case rel => exact ⟨i + 1, v6, by go_num, by omega, F.out⟩
                case measure => simp [intOf]; omega
              · have he : i = m.es.length := by omega
                have HB4 : Hid (WQ w2.heap.size w2.heap.size [(w.heap.size, 25, [.int .i64 m.kd, .int .i64 m.fr, .int .i64 m.too, .int .i64 m.tm, .int .i64 m.at_, .int .i64 m.att, .int .i64 m.cm, .int .i64 m.rd, .bool true, .slice ea m.es.length ec, .slice da m.dt.length dc])] w2 wr v' (Q2 ++ pks m.es m.es.length)) := he ▸ HB.out
                have hlen : (Q2 ++ pks m.es m.es.length).length + 65544 ≤ 140737488351232 := by rw [← he, List.length_append]; omega
                have N := rwBytes_any w2.heap.size w2.heap.size v' _ 0 4 da m.dt.length dc m.dt wr HB4.out.wr hlen rfl hdc (HA.out.2.later (H2.out.1.trans (HB.out.bl.mono hs2))) hdn (by omega)
                rw [wr_c4 m.dt hd6] at N
                have hnl : ¬ (i : Int) < (m.es.length : Int) := by omega
                clear he hlen
                go_wp2_with fail
                clear c0 c1 c2 c3 c4 c5 c6 c7 c8 c9 c10
                refine N.mono ?_
                rintro r w5 ⟨rfl, v5', W5, n5, t5⟩
                have eL : Q2 ++ pks m.es m.es.length ++ (be 4 (BitVec.ofNat 64 m.dt.length) ++ m.dt) = bodyM m := by unfold bodyM; rw [HQ2.out, HQ.out, ← HE.out]
                obtain ⟨B, hB⟩ : ∃ B, B = bodyM m := ⟨_, rfl⟩
                rw [eL, ← hB] at W5
                rw [← hB] at hbl
                have H5 : Hid (WQ w2.heap.size w2.heap.size [(w.heap.size, 25, [.int .i64 m.kd, .int .i64 m.fr, .int .i64 m.too, .int .i64 m.tm, .int .i64 m.at_, .int .i64 m.att, .int .i64 m.cm, .int .i64 m.rd, .bool true, .slice ea m.es.length ec, .slice da m.dt.length dc])] w2 w5 v5' B) := HB4.out.step W5 n5 t5
                have HBm : Hid (B = bodyM m) := hB
                obtain ⟨lo, oo, hlo⟩ := W5.own
                obtain rfl := hlo rfl
                obtain ⟨a5', k5, rfl, -, hm5, r5, -, -⟩ := oo.open
                have d0 := W5.blk.cell (by simp [maxLen]) 0 (by simp)
                simp only [List.getElem?_cons_zero] at d0
                have N6 := rsum_any a5' lo.length k5 lo w5 rfl (by unfold maxLen; omega) r5
                have hsl := (Crc.sum lo).isLt
                have N7 := rwNum_any w2.heap.size w2.heap.size _ lo 0 4 ((Crc.sum lo).toNat : Int) w5 W5 (by omega)
                rw [wr_4s] at N7
                obtain ⟨S, hS⟩ : ∃ S, S = Crc.sum lo := ⟨_, rfl⟩
                have HS : Hid (S = Crc.sum lo) := hS
                rw [← hS] at N6 N7 hsl
                clear hS N W5 n5 t5 HB HB4 eL hB oo hlo r5
                go_wp2_with fail
                clear d0
                refine N6.mono ?_
                rintro r w6 ⟨rfl, rfl⟩
                clear N6
                generalize hsm : (S.toNat : Int) = sm at *
                have hsm2 : 0 ≤ sm ∧ sm < 4294967296 := by rw [← hsm]; omega
                clear hsm hsl
                go_wp2_with fail
                refine N7.mono ?_
                rintro r w7 ⟨rfl, v7, W7, -, t7⟩
                have N8 := rwEnd_any w2.heap.size w2.heap.size v7 _ 0 w7 W7 (by rw [List.length_append, be_length _ _ (by omega)]; omega)
                have H7 : Hid (Below w.heap.size w w7) := H2.out.1.trans ((H5.out.bl.trans (H5.out.wr.below t7)).mono hs2)
                have e8 : wrEnd (lo ++ be 4 (S.setWidth 64)) 0 = lo ++ be 4 (S.setWidth 64) := by unfold wrEnd; rw [if_pos rfl]
                rw [e8] at N8
                clear N7 W7 t7 H5 e8
                go_wp2_with fail
                refine N8.mono ?_
                rintro r w8 ⟨z8, rfl, o8, b8⟩
                have F : Hid _ := And.intro (o8.lower H7.out.size) (below_then H7.out b8)
                clear o8 b8 H7 N8
                go_wp2
                go_ret2
                refine ⟨z8, ?_, ?_, F.out.2⟩
                · (rw [P.out.1]; try rfl)
                · rw [P.out.2, ← HBm.out, ← HS.out]; exact F.out.1
end Go.Proofs.Ytgjcgnmomdanaaa

/- Messages that are the same. -/
namespace Go.Proofs.Ytgjcgnmomdanaaa
open Go.RowKit Go.Shelf
set_option linter.unusedVariables false
set_option maxRecDepth 20000

set_option maxHeartbeats 4000000 in
theorem sameMsg_yes (m : Mg) (ea ea2 : Option Addr) (ec ec2 : Nat) (da da2 : Option Addr) (dc dc2 : Nat) (w : World) (hl : m.es.length ≤ 140737488355328) (hA : EArgs w ea m.es) (hB : EArgs w ea2 m.es) (h1 : m.es.length ≤ ec) (h2 : m.es.length ≤ ec2) (hD : Row w da m.dt) (hD2 : Row w da2 m.dt) :
    Calls Try.prog 10 #[.agg #[.int .i64 m.kd, .int .i64 m.fr, .int .i64 m.too, .int .i64 m.tm, .int .i64 m.at_, .int .i64 m.att, .int .i64 m.cm, .int .i64 m.rd, .bool m.yes, .slice ea m.es.length ec, .slice da m.dt.length dc], .agg #[.int .i64 m.kd, .int .i64 m.fr, .int .i64 m.too, .int .i64 m.tm, .int .i64 m.at_, .int .i64 m.att, .int .i64 m.cm, .int .i64 m.rd, .bool m.yes, .slice ea2 m.es.length ec2, .slice da2 m.dt.length dc2]] w fun e w' => e = .returned (.bool true) ∧ Below w.heap.size w w' := by
  have b0 := box11_below w #[.int .i64 m.kd, .int .i64 m.fr, .int .i64 m.too, .int .i64 m.tm, .int .i64 m.at_, .int .i64 m.att, .int .i64 m.cm, .int .i64 m.rd, .bool m.yes, .slice ea m.es.length ec, .slice da m.dt.length dc] 25
  have M0 : Blk (w.alloc (.cells #[.int .i64 m.kd, .int .i64 m.fr, .int .i64 m.too, .int .i64 m.tm, .int .i64 m.at_, .int .i64 m.att, .int .i64 m.cm, .int .i64 m.rd, .bool m.yes, .slice ea m.es.length ec, .slice da m.dt.length dc] 25)) w.heap.size 25 [.int .i64 m.kd, .int .i64 m.fr, .int .i64 m.too, .int .i64 m.tm, .int .i64 m.at_, .int .i64 m.att, .int .i64 m.cm, .int .i64 m.rd, .bool m.yes, .slice ea m.es.length ec, .slice da m.dt.length dc] := Blk.new' w _ _
  have b1 := box11_below (w.alloc (.cells #[.int .i64 m.kd, .int .i64 m.fr, .int .i64 m.too, .int .i64 m.tm, .int .i64 m.at_, .int .i64 m.att, .int .i64 m.cm, .int .i64 m.rd, .bool m.yes, .slice ea m.es.length ec, .slice da m.dt.length dc] 25)) #[.int .i64 m.kd, .int .i64 m.fr, .int .i64 m.too, .int .i64 m.tm, .int .i64 m.at_, .int .i64 m.att, .int .i64 m.cm, .int .i64 m.rd, .bool m.yes, .slice ea2 m.es.length ec2, .slice da2 m.dt.length dc2] 25
  have M1 : Blk ((w.alloc (.cells #[.int .i64 m.kd, .int .i64 m.fr, .int .i64 m.too, .int .i64 m.tm, .int .i64 m.at_, .int .i64 m.att, .int .i64 m.cm, .int .i64 m.rd, .bool m.yes, .slice ea m.es.length ec, .slice da m.dt.length dc] 25)).alloc (.cells #[.int .i64 m.kd, .int .i64 m.fr, .int .i64 m.too, .int .i64 m.tm, .int .i64 m.at_, .int .i64 m.att, .int .i64 m.cm, .int .i64 m.rd, .bool m.yes, .slice ea2 m.es.length ec2, .slice da2 m.dt.length dc2] 25)) (w.alloc (.cells #[.int .i64 m.kd, .int .i64 m.fr, .int .i64 m.too, .int .i64 m.tm, .int .i64 m.at_, .int .i64 m.att, .int .i64 m.cm, .int .i64 m.rd, .bool m.yes, .slice ea m.es.length ec, .slice da m.dt.length dc] 25)).heap.size 25 [.int .i64 m.kd, .int .i64 m.fr, .int .i64 m.too, .int .i64 m.tm, .int .i64 m.at_, .int .i64 m.att, .int .i64 m.cm, .int .i64 m.rd, .bool m.yes, .slice ea2 m.es.length ec2, .slice da2 m.dt.length dc2] := Blk.new' _ _ _
  have hs : (w.alloc (.cells #[.int .i64 m.kd, .int .i64 m.fr, .int .i64 m.too, .int .i64 m.tm, .int .i64 m.at_, .int .i64 m.att, .int .i64 m.cm, .int .i64 m.rd, .bool m.yes, .slice ea m.es.length ec, .slice da m.dt.length dc] 25)).heap.size = w.heap.size + 1 := by first | simp | rfl
  rw [hs] at M1
  have H0 : Hid (Below w.heap.size w ((w.alloc (.cells #[.int .i64 m.kd, .int .i64 m.fr, .int .i64 m.too, .int .i64 m.tm, .int .i64 m.at_, .int .i64 m.att, .int .i64 m.cm, .int .i64 m.rd, .bool m.yes, .slice ea m.es.length ec, .slice da m.dt.length dc] 25)).alloc (.cells #[.int .i64 m.kd, .int .i64 m.fr, .int .i64 m.too, .int .i64 m.tm, .int .i64 m.at_, .int .i64 m.att, .int .i64 m.cm, .int .i64 m.rd, .bool m.yes, .slice ea2 m.es.length ec2, .slice da2 m.dt.length dc2] 25)) ∧ Blk ((w.alloc (.cells #[.int .i64 m.kd, .int .i64 m.fr, .int .i64 m.too, .int .i64 m.tm, .int .i64 m.at_, .int .i64 m.att, .int .i64 m.cm, .int .i64 m.rd, .bool m.yes, .slice ea m.es.length ec, .slice da m.dt.length dc] 25)).alloc (.cells #[.int .i64 m.kd, .int .i64 m.fr, .int .i64 m.too, .int .i64 m.tm, .int .i64 m.at_, .int .i64 m.att, .int .i64 m.cm, .int .i64 m.rd, .bool m.yes, .slice ea2 m.es.length ec2, .slice da2 m.dt.length dc2] 25)) w.heap.size 25 [.int .i64 m.kd, .int .i64 m.fr, .int .i64 m.too, .int .i64 m.tm, .int .i64 m.at_, .int .i64 m.att, .int .i64 m.cm, .int .i64 m.rd, .bool m.yes, .slice ea m.es.length ec, .slice da m.dt.length dc] ∧ Blk ((w.alloc (.cells #[.int .i64 m.kd, .int .i64 m.fr, .int .i64 m.too, .int .i64 m.tm, .int .i64 m.at_, .int .i64 m.att, .int .i64 m.cm, .int .i64 m.rd, .bool m.yes, .slice ea m.es.length ec, .slice da m.dt.length dc] 25)).alloc (.cells #[.int .i64 m.kd, .int .i64 m.fr, .int .i64 m.too, .int .i64 m.tm, .int .i64 m.at_, .int .i64 m.att, .int .i64 m.cm, .int .i64 m.rd, .bool m.yes, .slice ea2 m.es.length ec2, .slice da2 m.dt.length dc2] 25)) (w.heap.size + 1) 25 [.int .i64 m.kd, .int .i64 m.fr, .int .i64 m.too, .int .i64 m.tm, .int .i64 m.at_, .int .i64 m.att, .int .i64 m.cm, .int .i64 m.rd, .bool m.yes, .slice ea2 m.es.length ec2, .slice da2 m.dt.length dc2]) := ⟨below_then b0 b1, M0.laterB b1, M1⟩
  have HA : Hid (EArgs w ea m.es ∧ EArgs w ea2 m.es ∧ Row w da m.dt ∧ Row w da2 m.dt) := ⟨hA, hB, hD, hD2⟩
  obtain ⟨c0, c1, c2, c3, c4, c5, c6, c7, c8, c9, c10⟩ := eblk11 H0.out.2.1
  obtain ⟨k0, k1, k2, k3, k4, k5, k6, k7, k8, k9, k10⟩ := eblk11 H0.out.2.2
  clear b0 M0 b1 M1 hs hA hB hD hD2
  go_enter Try.func10, Try.ntmps10
  go_wp2_with fail
  generalize (w.alloc (.cells #[.int .i64 m.kd, .int .i64 m.fr, .int .i64 m.too, .int .i64 m.tm, .int .i64 m.at_, .int .i64 m.att, .int .i64 m.cm, .int .i64 m.rd, .bool m.yes, .slice ea m.es.length ec, .slice da m.dt.length dc] 25)).alloc (.cells #[.int .i64 m.kd, .int .i64 m.fr, .int .i64 m.too, .int .i64 m.tm, .int .i64 m.at_, .int .i64 m.att, .int .i64 m.cm, .int .i64 m.rd, .bool m.yes, .slice ea2 m.es.length ec2, .slice da2 m.dt.length dc2] 25) = wb at *
  clear c0 c1 c2 c3 c4 c5 c6 c7 c8 c9 c10 k0 k1 k2 k3 k4 k5 k6 k7 k8 k9 k10
  refine (same9_yes ea ea2 ec ec2 m.es wb hl h1 h2 (HA.out.1.later H0.out.1) (HA.out.2.1.later H0.out.1)).mono ?_
  rintro r w1 ⟨rfl, b1⟩
  obtain ⟨c0, c1, c2, c3, c4, c5, c6, c7, c8, c9, c10⟩ := eblk11 (H0.out.2.1.laterB b1)
  obtain ⟨k0, k1, k2, k3, k4, k5, k6, k7, k8, k9, k10⟩ := eblk11 (H0.out.2.2.laterB b1)
  have F : Hid _ := below_then H0.out.1 b1
  have s1 := (HA.out.2.2.1.later F.out).str m.dt.length dc rfl
  have s2 := (HA.out.2.2.2.later F.out).str m.dt.length dc2 rfl
  clear b1
  go_wp2
  go_ret
  exact ⟨rfl, F.out⟩
end Go.Proofs.Ytgjcgnmomdanaaa

/- A message that is read into a block of its own: what stands while it is. -/
namespace Go.Proofs.Ytgjcgnmomdanaaa
open Go.RowKit Go.Shelf
set_option linter.unusedVariables false
set_option maxRecDepth 20000

/-- entries of a call's own stay where other blocks turn -/
theorem EsOwn.turned {w w' : World} {base : Nat} {v : Value} {l : List Ent} {V : List Nat} {vs : List Value} {R : Nat → Prop} (h : EsOwn w base v l V vs) (ht : Turned R w w') (hv : ∀ k, v.ownBlock = some k → ¬ R k) (hV : ∀ k ∈ V, ¬ R k) : EsOwn w' base v l V vs := by
  refine ⟨?_, h.each.same (fun k hk => ht.block k (h.lt k hk) (hV k hk)) (fun k hk => hk), fun k hk => Nat.lt_of_lt_of_le (h.lt k hk) ht.size, h.apart⟩
  have ho := h.own
  obtain ⟨h1, h2 | ⟨g, cap, cur, rfl, hb, hh, r⟩⟩ := ho
  · exact ⟨h1, .inl h2⟩
  · refine ⟨h1, .inr ⟨g, cap, cur, rfl, hb, ?_, r⟩⟩
    have hlt : g < w.heap.size := by
      rcases Nat.lt_or_ge g w.heap.size with e | e
      · exact e
      · rw [Array.getElem?_eq_none e] at hh; cases hh
    rw [ht.block g hlt (hv g rfl)]; exact hh
/-- a reader at block g, an answer's block q2, and the message's block q4 -/
structure RM (g q2 q4 : Nat) (w W : World) (s : Rs) (z cur : List Value) : Prop where
  t : Turned (fun k => k = g) w W
  rd : Rd W [q4, q2] g 98 s.1 s.2
  m2 : Blk W q2 25 z
  m4 : Blk W q4 25 cur
  far : g < w.heap.size ∧ w.heap.size ≤ q2 ∧ w.heap.size ≤ q4 ∧ q2 ≠ q4
/-- a call of the reader -/
theorem RM.read {g q2 q4 : Nat} {w W W' : World} {s s' : Rs} {z cur : List Value} (h : RM g q2 q4 w W s z cur) (hr : Rd W' [q4, q2] g 98 s'.1 s'.2) (hg : W.grownBy W' (some g)) : RM g q2 q4 w W' s' z cur := by
  obtain ⟨f1, f2, f3, f4⟩ := h.far
  exact ⟨h.t.trans (turned_grown hg (fun k e => .inl (by injection e with e; exact e.symm))), hr, h.m2.grown hg (fun e => by injection e with e; omega), h.m4.grown hg (fun e => by injection e with e; omega), h.far⟩
/-- a field is laid -/
theorem RM.put {g q2 q4 : Nat} {w W : World} {s : Rs} {z cur : List Value} (h : RM g q2 q4 w W s z cur) (j : Nat) (v : Value) : RM g q2 q4 w (W.setCell ⟨q4, j, none⟩ v) s z (cur.set j v) := by
  obtain ⟨f1, f2, f3, f4⟩ := h.far
  have hG := grown_set W q4 j v
  exact ⟨h.t.trans (turned_grown hG (fun k e => .inr (by injection e with e; omega))), h.rd.keep hG (fun k hk => by injection hk with hk; subst hk; exact ⟨by omega, .inl (by simp)⟩), h.m2.grown hG (fun e => by injection e with e; omega), h.m4.set j v, h.far⟩
/-- new memory -/
theorem RM.later {g q2 q4 : Nat} {w W W' : World} {s : Rs} {z cur : List Value} (h : RM g q2 q4 w W s z cur) (hb : Below W.heap.size W W') : RM g q2 q4 w W' s z cur :=
  ⟨h.t.trans ((turned_below hb).mono (fun _ e => absurd e id)), h.rd.later hb, h.m2.laterB hb, h.m4.laterB hb, h.far⟩
/-- an entry is read -/
theorem RM.entry {g q2 q4 : Nat} {w W W' : World} {s s' : Rs} {z cur : List Value} (h : RM g q2 q4 w W s z cur) (hr : Rd W' [q4, q2] g 98 s'.1 s'.2) (ht : Turned (fun k => k = g) W W') : RM g q2 q4 w W' s' z cur := by
  obtain ⟨f1, f2, f3, f4⟩ := h.far
  exact ⟨h.t.trans (ht.mono (fun _ e => .inl e)), hr, h.m2.turned ht (by omega), h.m4.turned ht (by omega), h.far⟩
/-- the numbers of a message, one behind another: what is left, the error, and the numbers (kind, from, to, yes; term .. round) -/
def rn (s : Rs) (size : Int) : Rs := ((rdNum s.1 s.2 size).1, (rdNum s.1 s.2 size).2.1)
def rnV (s : Rs) (size : Int) : Int := (rdNum s.1 s.2 size).2.2
def rn4 (s : Rs) : Nat → Rs
  | 0 => s
  | k + 1 => rn (rn4 s k) 1
def rn9 (s : Rs) : Nat → Rs
  | 0 => rn4 s 4
  | k + 1 => rn (rn9 s k) 6
/-- how many entries, and the state behind it -/
def rcnt (s : Rs) : Rs := ((rdCount (rn9 s 5).1 (rn9 s 5).2 2 4096).1, (rdCount (rn9 s 5).1 (rn9 s 5).2 2 4096).2.1)
def rcntV (s : Rs) : Int := (rdCount (rn9 s 5).1 (rn9 s 5).2 2 4096).2.2
/-- the state behind k entries, and the entries -/
def rents (s : Rs) : Nat → Rs
  | 0 => s
  | k + 1 => rNext (rents s k)
def rentsV (s : Rs) : Nat → List Ent
  | 0 => []
  | k + 1 => rentsV s k ++ [rEntE (rents s k)]
end Go.Proofs.Ytgjcgnmomdanaaa

/- An append of an entry by its run; a reader that may keep its bytes while it turns. -/
namespace Go.Proofs.Ytgjcgnmomdanaaa
open Go.RowKit Go.Shelf
set_option linter.unusedVariables false
set_option maxRecDepth 20000

theorem st_app9 {ops : Array Oper} {o : Oper} {a : Act} {w w' : World} {v' : Value} {K : Act → World → Prop} {Q : Exit → Act → World → Prop} {E : Prop} (hg : o.guard = none) (s x : Operand) (t1 t2 : TypeId)
    (ho : o.op = .call { callee := .builtin .append, args := #[s, x], argTypes := #[t1, t2] }) (vs vx : Value) (hs : a.eval s = vs) (hx : a.eval x = vx) (hr : (Builtin.append_ #[t1, t2] o.type #[vs, vx]).run Try.prog w = .ok v' w') (next : K (a.put o.dst v') w') :
    if Region.wanted o (yielded ops a.tmps) = true then Oper.wp Try.prog o a w K Q else E := by
  have hw : Region.wanted o (yielded ops a.tmps) = true := by simp [Region.wanted, hg]
  rw [if_pos hw]
  unfold Oper.wp
  simp only [execOp, ho, resolve, invoke, builtin, Sem.run_bind, Sem.run_pure, Result.andThen_ok, List.map_toArray, List.map_cons, List.map_nil, hs, hx, hr]
  exact next
theorem run_append_ent (w : World) (ty : TypeId) (base : Nat) (v : Value) (l : List Ent) (V : List Nat) (vs : List Value) (hown : EsOwn w base v l V vs)
    (k : Nat) (e : Ent) (y : Option Addr) (cap : Nat) (hc : Blk w k 49 [.int .i64 e.1, .int .i64 e.2.1, .slice y e.2.2.length cap]) (h1 : e.2.2.length ≤ cap) (h2 : Row w y e.2.2) (hn : y = none → cap = 0)
    (hfar : ∀ z, y = some z → v.ownBlock ≠ some z.block ∧ z.block < w.heap.size) (hmax : l.length ≤ 1000000) (hbase : base ≤ w.heap.size) :
    ∃ v' w', (Builtin.append_ #[22, 22] ty #[v, .slice (some ⟨k, 0, none⟩) 1 1]).run Try.prog w = .ok v' w' ∧ (∃ V' vs', EsOwn w' base v' (l ++ [e]) V' vs' ∧ ∀ q ∈ V', q ∈ V ∨ ∃ z, y = some z ∧ q = z.block) ∧ w.grownBy w' v.ownBlock ∧ (v'.ownBlock = v.ownBlock ∨ v'.ownBlock = some w.heap.size) := by
  obtain ⟨i0, hi, hz0, hz1, hz2⟩ := info_parts info_ent
  obtain ⟨v', w', hr, k2, k3, -, k5⟩ := run_append_own_at (P := Try.prog) (w := w) base 22 ty 49 i0 (.agg #[.int .i64 0, .int .i64 0, .slice none 0 0]) 3 40 Try.underlying22 hi hz0 hz1 hz2 rfl (by decide) v l.length vs hown.own ⟨k, 0, none⟩ 1 1 [.int .i64 e.1, .int .i64 e.2.1, .slice y e.2.2.length cap] rfl (by
    intro j u hj
    have hjl : j < 3 := by
      rcases Nat.lt_or_ge j 3 with h | h
      · exact h
      · rw [List.getElem?_eq_none (by simpa using h)] at hj; cases hj
    have e1 : (⟨k, 0, none⟩ : Addr).add j = ⟨k, j, none⟩ := by unfold Addr.add; split <;> simp_all
    rw [e1, hc.cell (by simp [maxLen]) j (by simpa using hjl)]; exact hj) (by
    intro u hu
    simp only [List.mem_cons, List.not_mem_nil, or_false] at hu
    rcases hu with rfl | rfl | rfl <;> rfl) (by unfold maxLen; omega) (by omega) hbase
  have hlt := World.ownsRow.lt hown.own
  refine ⟨v', w', hr, ⟨V ++ (y.map (·.block)).toList, vs ++ [.int .i64 e.1, .int .i64 e.2.1, .slice y e.2.2.length cap], ⟨?_, ?_, ?_, ?_⟩, fun q hq => (List.mem_append.1 hq).imp id (fun hq => by cases y with | none => simp at hq | some z => exact ⟨z, rfl, by simpa using hq⟩)⟩, k3, k5⟩
  · rw [List.length_append]; exact k2
  · refine (hown.each.same (V' := V ++ (y.map (·.block)).toList) (w' := w') (fun q hq => k3.block q (hown.lt q hq) (fun e => hown.apart q e.symm hq)) (fun q hq => List.mem_append_left _ hq)).snoc e y cap h1 ?_ hn ?_
    · exact h2.stay (fun z hz => k3.block _ (hfar z hz).2 (fun e => (hfar z hz).1 e.symm))
    · intro z hz; rw [hz]; simp
  · intro q hq
    have := k3.size
    rcases List.mem_append.1 hq with hq | hq
    · have := hown.lt q hq; omega
    · cases y with
      | none => simp at hq
      | some z => simp at hq; subst hq; have := (hfar z rfl).2; omega
  · intro q hq hm
    rcases k5 with k5 | k5
    · rw [k5] at hq
      rcases List.mem_append.1 hm with hm | hm
      · exact hown.apart q hq hm
      · cases y with
        | none => simp at hm
        | some z => simp at hm; subst hm; exact (hfar z rfl).1 hq
    · rw [k5] at hq
      cases hq
      rcases List.mem_append.1 hm with hm | hm
      · have := hown.lt _ hm; omega
      · cases y with
        | none => simp at hm
        | some z => simp at hm; have := (hfar z rfl).2; omega
end Go.Proofs.Ytgjcgnmomdanaaa

/- What is read of a message, and what stands while its entries are read. -/
namespace Go.Proofs.Ytgjcgnmomdanaaa
open Go.RowKit Go.Shelf
set_option linter.unusedVariables false
set_option maxRecDepth 20000

theorem rcntV_bd (s : Rs) : 0 ≤ rcntV s ∧ rcntV s ≤ 4096 := by
  have z : (0 : Int) ≤ 0 ∧ (0 : Int) ≤ 4096 := by omega
  unfold rcntV rdCount
  split
  · split
    · exact z
    · split
      · exact z
      · exact ⟨by omega, by omega⟩
  · exact z
/-- behind the entries; the bytes; the reader's end -/
def rme (s : Rs) : Rs := rents (rcnt s) (rcntV s).toNat
def rmb (s : Rs) : List (BitVec 8) × Int × List (BitVec 8) := rdBytes (rme s).1 (rme s).2 4
def rmS (s : Rs) : Rs := ((rmb s).1, (rmb s).2.1)
def rmY (s : Rs) : Int := rnV (rn4 s 3) 1
def rmM (s : Rs) : Mg := ⟨rnV s 1, rnV (rn4 s 1) 1, rnV (rn4 s 2) 1, rnV (rn9 s 0) 6, rnV (rn9 s 1) 6, rnV (rn9 s 2) 6, rnV (rn9 s 3) 6, rnV (rn9 s 4) 6, rmY s == 1, rentsV (rcnt s) (rcntV s).toNat, (rmb s).2.2⟩
theorem rentsV_len (s : Rs) (k : Nat) : (rentsV s k).length = k := by
  induction k with
  | zero => rfl
  | succ k ih => unfold rentsV; rw [List.length_append, ih]; rfl
structure RL (B g q2 q4 : Nat) (w W : World) (s : Rs) (z cur : List Value) (v : Value) (es : List Ent) : Prop where
  rm : RM g q2 q4 w W s z cur
  rd : Rd W (v.ownBlock.toList ++ [q4, q2]) g 98 s.1 s.2
  own : ∃ V vs, EsOwn W B v es V vs ∧ ∀ k ∈ V, B ≤ k
  lo : g < B ∧ q2 < B ∧ q4 < B ∧ B ≤ W.heap.size
theorem mem_toList {o : Option Nat} {k : Nat} : k ∈ o.toList ↔ o = some k := by cases o <;> simp [eq_comm]
theorem blk_grownM {w w' : World} {k T : Nat} {xs : List Value} {row : Option Nat} (h : Blk w k T xs) (hg : w.grownBy w' row) (hne : row ≠ some k) : Blk w' k T xs :=
  h.turned (turned_grown (R := fun j => row = some j) hg (fun j e => e)) hne
theorem RM.grown {g q2 q4 : Nat} {w W W' : World} {s : Rs} {z cur : List Value} {row : Option Nat} (h : RM g q2 q4 w W s z cur) (hr : Rd W' [q4, q2] g 98 s.1 s.2) (hg : W.grownBy W' row) (hn : ∀ k, row = some k → w.heap.size ≤ k ∧ k ≠ q2 ∧ k ≠ q4) : RM g q2 q4 w W' s z cur :=
  ⟨h.t.trans (turned_grown hg (fun k e => .inr (hn k e).1)), hr, blk_grownM h.m2 hg (fun e => (hn _ e).2.1 rfl), blk_grownM h.m4 hg (fun e => (hn _ e).2.2 rfl), h.far⟩
theorem RL.app {B g q2 q4 : Nat} {w W W' : World} {s : Rs} {z cur : List Value} {v v' : Value} {es es' : List Ent} (h : RL B g q2 q4 w W s z cur v es) (hg : W.grownBy W' v.ownBlock) (hown : ∃ V vs, EsOwn W' B v' es' V vs ∧ ∀ k ∈ V, B ≤ k) (hat : v'.ownBlock = v.ownBlock ∨ v'.ownBlock = some W.heap.size) : RL B g q2 q4 w W' s z cur v' es' := by
  obtain ⟨V, vs, ho, -⟩ := h.own
  have hlt := World.ownsRow.lt ho.own
  obtain ⟨l1, l2, l3, l4⟩ := h.lo
  obtain ⟨f1, f2, f3, f4⟩ := h.rm.far
  have hrow : ∀ k, v.ownBlock = some k → k ≠ g ∧ (k ∈ v.ownBlock.toList ++ [q4, q2] ∨ W.heap.size ≤ k) := fun k hk => ⟨by have := (hlt k hk).1; omega, .inl (List.mem_append_left _ (mem_toList.2 hk))⟩
  have hr : Rd W' (v'.ownBlock.toList ++ [q4, q2]) g 98 s.1 s.2 := by
    rcases hat with e | e
    · rw [e]; exact h.rd.keep hg hrow
    · rw [e]
      have h1 := (h.rd.more W.heap.size (Nat.le_refl _)).keep hg (fun k hk => ⟨(hrow k hk).1, .inl (List.mem_cons_of_mem _ ((hrow k hk).2.resolve_right (fun h2 => by have := (hlt k hk).2; omega)))⟩)
      exact h1.less (fun k hk => by
        rcases List.mem_append.1 hk with hk | hk
        · rw [List.mem_singleton.1 hk]; simp
        · exact List.mem_cons_of_mem _ (List.mem_append_right _ hk))
  exact ⟨h.rm.grown (hr.less (fun k hk => List.mem_append_right _ hk)) hg (fun k hk => ⟨by have := (hlt k hk).1; omega, by have := (hlt k hk).1; omega, by have := (hlt k hk).1; omega⟩), hr, hown, ⟨l1, l2, l3, Nat.le_trans l4 hg.size⟩⟩
theorem RL.put {B g q2 q4 : Nat} {w W : World} {s : Rs} {z cur : List Value} {v : Value} {es : List Ent} (h : RL B g q2 q4 w W s z cur v es) (j : Nat) (u : Value) : RL B g q2 q4 w (W.setCell ⟨q4, j, none⟩ u) s z (cur.set j u) v es := by
  obtain ⟨V, vs, ho, hV⟩ := h.own
  have hlt := World.ownsRow.lt ho.own
  obtain ⟨l1, l2, l3, l4⟩ := h.lo
  obtain ⟨f1, f2, f3, f4⟩ := h.rm.far
  have hG := grown_set W q4 j u
  refine ⟨h.rm.put j u, h.rd.keep hG (fun k hk => ⟨by injection hk with hk; omega, .inl (by injection hk with hk; subst hk; simp)⟩), ⟨V, vs, ho.turned (turned_grown (R := fun k => k = q4) hG (fun k e => by injection e with e; exact e.symm)) (fun k hk e => by have := (hlt k hk).1; omega) (fun k hk e => by have := hV k hk; omega), hV⟩, ⟨l1, l2, l3, Nat.le_trans l4 hG.size⟩⟩
theorem RL.entry {B g q2 q4 : Nat} {w W W' : World} {s s' : Rs} {z cur : List Value} {v : Value} {es : List Ent} (h : RL B g q2 q4 w W s z cur v es) (hr : Rd W' (v.ownBlock.toList ++ [q4, q2]) g 98 s'.1 s'.2) (ht : Turned (fun k => k = g) W W') : RL B g q2 q4 w W' s' z cur v es := by
  obtain ⟨V, vs, ho, hV⟩ := h.own
  have hlt := World.ownsRow.lt ho.own
  obtain ⟨l1, l2, l3, l4⟩ := h.lo
  exact ⟨h.rm.entry (hr.less (fun k hk => List.mem_append_right _ hk)) ht, hr, ⟨V, vs, ho.turned ht (fun k hk e => by have := (hlt k hk).1; omega) (fun k hk e => by have := hV k hk; omega), hV⟩, ⟨l1, l2, l3, Nat.le_trans l4 ht.size⟩⟩
theorem RL.later {B g q2 q4 : Nat} {w W W' : World} {s : Rs} {z cur : List Value} {v : Value} {es : List Ent} (h : RL B g q2 q4 w W s z cur v es) (hb : Below W.heap.size W W') : RL B g q2 q4 w W' s z cur v es := by
  obtain ⟨V, vs, ho, hV⟩ := h.own
  exact ⟨h.rm.later hb, h.rd.later hb, ⟨V, vs, ho.later hb, hV⟩, ⟨h.lo.1, h.lo.2.1, h.lo.2.2.1, Nat.le_trans h.lo.2.2.2 hb.size⟩⟩
/-- what readMsg answers -/
def msgV (m : Mg) (ea : Option Addr) (ec : Nat) (da : Option Addr) (dc : Nat) : Value := .agg #[.int .i64 m.kd, .int .i64 m.fr, .int .i64 m.too, .int .i64 m.tm, .int .i64 m.at_, .int .i64 m.att, .int .i64 m.cm, .int .i64 m.rd, .bool m.yes, .slice ea m.es.length ec, .slice da m.dt.length dc]
def RmR (g : Nat) (s : Rs) (w : World) (e : Ending) (w' : World) : Prop :=
  ∃ ea ec da dc, e = .returned (.tuple #[msgV (rmM s) ea ec da dc, .int .i64 (rmY s)]) ∧ (∃ V vs, EsOwn w' w.heap.size (.slice ea (rmM s).es.length ec) (rmM s).es V vs ∧ ∀ k ∈ V, w.heap.size ≤ k) ∧ Own w' w.heap.size (.slice da (rmM s).dt.length dc) (rmM s).dt ∧ Rd w' [] g 98 (rmS s).1 (rmS s).2 ∧ Turned (fun k => k = g) w w'
end Go.Proofs.Ytgjcgnmomdanaaa

/- A message as one value: loaded, stored, returned. -/
namespace Go.Proofs.Ytgjcgnmomdanaaa
open Go.RowKit Go.Shelf
set_option linter.unusedVariables false
set_option linter.unusedSimpArgs false
set_option maxRecDepth 20000

theorem info_msg : (Try.prog.info? 25).map (·.size) = some 11 := by kernel_rfl
theorem agg_msg (w : World) : (isAgg 25).run Try.prog w = .ok true w := by kernel_rfl
theorem loadC_msg {w : World} {q : Nat} {xs : List Value} (hB : Blk w q 25 xs) (hx : xs.length = 11) : (loadCells ⟨q, 0, none⟩ 11).run Try.prog w = .ok xs.toArray w := by
  have h2 := run_loadCells_list (P := Try.prog) w ⟨q, 0, none⟩ xs (fun j v hj => by
    have hadd : (⟨q, 0, none⟩ : Addr).add j = ⟨q, 0 + j, none⟩ := by unfold Addr.add; split <;> simp_all
    have hjl : j < xs.length := by
      rcases Nat.lt_or_ge j xs.length with h | h
      · exact h
      · rw [List.getElem?_eq_none h] at hj; cases hj
    rw [hadd, Nat.zero_add, hB.cell (by rw [hx]; simp [maxLen]) j hjl, hj])
  rwa [hx] at h2
theorem load_msg {w : World} {q : Nat} {xs : List Value} (hB : Blk w q 25 xs) (hx : xs.length = 11) : (Instr.loadAt 25 (.pointer (some ⟨q, 0, none⟩))).run Try.prog w = .ok (.agg xs.toArray) w := by
  obtain ⟨i, hi, hz⟩ := Option.map_eq_some_iff.1 info_msg
  simp [Instr.loadAt, Instr.sureAddr, loadVar, Sem.run_bind, agg_msg w, sizeOf, typeInfo, hi, hz, loadC_msg hB hx]
theorem load_msgV {w : World} {q : Nat} {xs : List Value} (hB : Blk w q 25 xs) (hx : xs.length = 11) : (loadVar 25 ⟨q, 0, none⟩).run Try.prog w = .ok (.agg xs.toArray) w := by
  obtain ⟨i, hi, hz⟩ := Option.map_eq_some_iff.1 info_msg
  simp [loadVar, Sem.run_bind, agg_msg w, sizeOf, typeInfo, hi, hz, loadC_msg hB hx]
theorem splice_consM {α : Type} (xs : List α) (o : Nat) (v : α) (r : List α) (h : o + 1 + r.length ≤ xs.length) : splice (xs.set o v) (o + 1) r = splice xs o (v :: r) := by
  unfold splice
  have e1 : (xs.set o v).take (o + 1) = xs.take o ++ [v] := by
    rw [List.take_succ_eq_append_getElem (by simp; omega), List.take_set_of_le (Nat.le_refl _)]
    simp
  have e2 : (xs.set o v).drop (o + 1 + r.length) = xs.drop (o + (v :: r).length) := by
    rw [List.drop_set, if_pos (by omega)]
    congr 1
    simp; omega
  rw [e1, e2]
  simp
theorem Blk.setCellsM {g : Nat} {t : TypeId} : ∀ (vs : List Value) (o : Nat) (w : World) (xs : List Value), Blk w g t xs → o + vs.length ≤ xs.length → Blk (w.setCells g o vs) g t (splice xs o vs) ∧ w.grownBy (w.setCells g o vs) (some g)
  | [], o, w, xs, h, hl => ⟨by simpa [World.setCells, splice] using h, ⟨rfl, rfl, rfl, Nat.le_refl _, fun _ _ _ => rfl⟩⟩
  | v :: r, o, w, xs, h, hl => by
    have hl' : o + 1 + r.length ≤ xs.length := by simp at hl; omega
    obtain ⟨h1, h2⟩ := Blk.setCellsM r (o + 1) (w.setCell ⟨g, o, none⟩ v) (xs.set o v) (h.set o v) (by rw [List.length_set]; exact hl')
    rw [splice_consM xs o v r hl'] at h1
    exact ⟨h1, grown_trans (grown_set w g o v) h2⟩
theorem store_msg {w : World} {q : Nat} {xs vs : List Value} (hB : Blk w q 25 xs) (hx : xs.length = 11) (hv : vs.length = 11) (h1 : ∀ u ∈ vs, u.oneCell' = true) :
    ∃ w', (Instr.storeAt 25 (.pointer (some ⟨q, 0, none⟩)) (.agg vs.toArray)).run Try.prog w = .ok () w' ∧ Blk w' q 25 vs ∧ w.grownBy w' (some q) := by
  have h := run_storeCells_cells (P := Try.prog) q 0 vs 0 w (fun j hj => by
    rw [Nat.zero_add, hB.cell (by rw [hx]; simp [maxLen]) j (by omega), List.getElem?_eq_getElem (by omega)]; rfl) (fun j hj => hB.frozen (by rw [hx]; simp [maxLen]) _) h1
  obtain ⟨i, hi, hz⟩ := Option.map_eq_some_iff.1 info_msg
  obtain ⟨h2, h3⟩ := Blk.setCellsM vs 0 w xs hB (by omega)
  have e : splice xs 0 vs = vs := by unfold splice; simp [hx, hv]
  rw [e] at h2
  exact ⟨w.setCells q 0 vs, by simp [Instr.storeAt, Instr.sureAddr, storeVar, Sem.run_bind, sizeOf, typeInfo, hi, hz, Value.cells, h, hv], h2, h3⟩
theorem exec_loadM {P : Program} {w : World} {a : Act} {o : Oper} {t : TypeId} {x : Operand} (ho : o.op = .load t x) {p u : Value} (hx : a.eval x = p) (h : (Instr.loadAt t p).run P w = .ok u w) : (execOp a.eval o).run P w = .ok (.value u) w := by
  simp [execOp, ho, hx, h, Result.andThen]
theorem exec_storeM {P : Program} {w w' : World} {a : Act} {o : Oper} {t : TypeId} {x y : Operand} (ho : o.op = .store t x y) {p u : Value} (hx : a.eval x = p) (hy : a.eval y = u) (h : (Instr.storeAt t p u).run P w = .ok () w') : (execOp a.eval o).run P w = .ok .skip w' := by
  simp [execOp, ho, hx, hy, h, Result.andThen]
theorem res_msg {fn : Func} {tmps : Array Value} {q : Nat} {xs : List Value} {v : Value} {w : World} (h1 : tmps.getD 2 undef = .pointer (some ⟨q, 0, none⟩)) (hB : Blk w q 25 xs) (hx : xs.length = 11) (h2 : tmps.getD 3 undef = v) (hf : fn.results = #[.cell 2 25, .tmp 3]) : (results fn tmps).run Try.prog w = .ok (.tuple #[.agg xs.toArray, v]) w := by
  have k1 : tmps[2]?.getD undef = .pointer (some ⟨q, 0, none⟩) := by simpa using h1
  have k2 : tmps[3]?.getD undef = v := by simpa using h2
  simp [results, hf, k1, k2, load_msgV hB hx, asAddr, Sem.run_bind]
theorem own_keptM {w w' : World} {base : Nat} {v : Value} {l : List (BitVec 8)} {row : Option Nat} (h : Own w base v l) (hg : w.grownBy w' row) (hne : ∀ q, v.ownBlock = some q → row ≠ some q) : Own w' base v l :=
  World.ownsRow.kept h hg (by
    cases e : v.ownBlock with
    | none => exact .inl rfl
    | some q => exact .inr (fun e2 => hne q e e2.symm))
theorem own_baseM {w : World} {b b' : Nat} {v : Value} {l : List (BitVec 8)} (h : Own w b v l) (hle : b' ≤ b) : Own w b' v l :=
  ⟨h.1, h.2.imp id (fun ⟨g, cap, cur, e, hb, r⟩ => ⟨g, cap, cur, e, Nat.le_trans hle hb, r⟩)⟩
theorem es_baseM {w : World} {b b' : Nat} {v : Value} {l : List Ent} {V : List Nat} {vs : List Value} (h : EsOwn w b v l V vs) (hle : b' ≤ b) : EsOwn w b' v l V vs :=
  ⟨⟨h.own.1, h.own.2.imp id (fun ⟨g, cap, cur, e, hb, r⟩ => ⟨g, cap, cur, e, Nat.le_trans hle hb, r⟩)⟩, h.each, h.lt, h.apart⟩
/-- an operation that yields a value -/
theorem wpList_valueM {P : Program} {w w' : World} {ops : Array Oper} {rest : List Oper} {o : Oper} {a : Act} {Q : Exit → Act → World → Prop} {v : Value} (hg : o.guard = none) (h : (execOp a.eval o).run P w = .ok (.value v) w') (k : wpList P ops Q rest (a.put o.dst v) w') : wpList P ops Q (o :: rest) a w := by
  refine wpList_plain hg fun K' hK' => ?_
  unfold Oper.wp
  rw [h]
  exact hK' _ _ k
/-- an operation that yields nothing -/
theorem wpList_skipM {P : Program} {w w' : World} {ops : Array Oper} {rest : List Oper} {o : Oper} {a : Act} {Q : Exit → Act → World → Prop} (hg : o.guard = none) (h : (execOp a.eval o).run P w = .ok .skip w') (k : wpList P ops Q rest (a.put o.dst undef) w') : wpList P ops Q (o :: rest) a w := by
  refine wpList_plain hg fun K' hK' => ?_
  unfold Oper.wp
  rw [h]
  exact hK' _ _ k
end Go.Proofs.Ytgjcgnmomdanaaa
