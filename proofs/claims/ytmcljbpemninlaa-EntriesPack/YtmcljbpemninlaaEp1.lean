/- An entry written and packed: the program's. -/
import Derived.Test.YtmcljbpemninlaaEp0
namespace Go.Proofs.Ytmcljbpemninlaa
open Go.RowKit
set_option linter.unusedVariables false
set_option maxRecDepth 4000

theorem wr_kL {k t : Int} {l : List (BitVec 8)} (h : canE (k, t, l) = true) (L : List (BitVec 8)) : wrNum L 0 1 (k + 64) = (L ++ be 1 (BitVec.ofInt 64 (k + 64)), 0) := by
  have := canE_k h
  have hk : 0 ≤ k ∧ k ≤ 2 := this
  unfold wrNum
  have e1 : wnE 1 (k + 64) = 0 := by
    unfold wnE; rw [if_neg (by decide), if_neg (by decide)]
    have e2 : ((1 : Int)).toNat = 1 := rfl
    rw [e2, if_neg]
    simp only [Nat.reduceMul, Nat.reduceSub, Int.reducePow]
    omega
  rw [if_pos rfl, if_pos e1]; rfl
theorem WrAt.below {w w' : World} {base g T : Nat} {v : Value} {L : List (BitVec 8)} {E : Int} (h : WrAt w base g T v L E) (ht : Turned (Mine g v) w w') : Below base w w' :=
  ht.below base h.base_w (fun k hk => by
    rcases hk with rfl | hk
    · exact h.base_g
    · obtain ⟨l, ho, -⟩ := h.own; exact (World.ownsRow.lt ho k hk).1)
theorem ebl3 {w : World} {g : Nat} {T : TypeId} {a b c : Value} (M : Blk w g T [a, b, c]) : (w.cell? ⟨g, 0, none⟩ = some a ∧ w.cell? ⟨g, 1, none⟩ = some b ∧ w.cell? ⟨g, 2, none⟩ = some c) ∧ w.frozen? ⟨g, 0, none⟩ = false ∧ w.frozen? ⟨g, 1, none⟩ = false ∧ w.frozen? ⟨g, 2, none⟩ = false :=
  ⟨⟨M.cell (by simp [maxLen]) 0 (by simp), M.cell (by simp [maxLen]) 1 (by simp), M.cell (by simp [maxLen]) 2 (by simp)⟩, M.frozen (by simp [maxLen]) 0, M.frozen (by simp [maxLen]) 1, M.frozen (by simp [maxLen]) 2⟩
/-- what Pack answers: the error, the bytes -/
def pkE (e : Ent) : Int := if canE e = true then 0 else 1
def pkB (e : Ent) : List (BitVec 8) := if canE e = true then packE e else []
set_option maxHeartbeats 400000 in
theorem wBytes_ok2 (base g : Nat) (v : Value) (L : List (BitVec 8)) (ap : Option Addr) (plen pcap : Nat) (lp : List (BitVec 8)) (w : World) (hW : WrAt w base g 92 v L 0) (hL : L.length + 65544 ≤ 140737488351232)
    (hpl : lp.length = plen) (hple : plen ≤ pcap) (hpn : ap = none → pcap = 0) (hp4 : plen ≤ 4080) (hrow : ∀ w', w.grownBy w' v.ownBlock → Row w' ap lp) :
    Calls Try.prog 54 #[.pointer (some ⟨g, 0, none⟩), .int .i64 2, .slice ap plen pcap] w fun e w' => e = .returned (.tuple #[]) ∧ ∃ v', WrAt w' base g 92 v' (L ++ (be 2 (BitVec.ofNat 64 plen) ++ lp)) 0 ∧ Newer w v v' ∧ Turned (Mine g v) w w' := by
  have hB := hW.blk
  have c0 := hB.cell (by simp [maxLen]) 0 (by simp)
  have c1 := hB.cell (by simp [maxLen]) 1 (by simp)
  simp only [List.getElem?_cons_zero, List.getElem?_cons_succ] at c0 c1
  have hn := addE9 plen hp4
  obtain ⟨l, ho, hl⟩ := hW.own
  have hl' := hl rfl
  subst hl'
  obtain ⟨av, nv, cv, rfl⟩ := own_slice ho
  have hN := addTo_at _ base l 2 ap plen pcap lp w ho hW.base_w (by omega) (by omega) hpl hple hpn (by omega) hrow
  have K : Hid _ := And.intro hW (And.intro hB ho)
  clear hW hB ho hl hrow
  go_enter Try.func54, Try.ntmps54
  go_wp2_with fail
  refine (addError_any 2 ap plen pcap w (by omega)).mono ?_
  rw [hn]
  rintro e w' ⟨rfl, rfl⟩
  go_wp2_with fail
  refine Calls.mono hN ?_
  rintro e w1 ⟨v1, rfl, ho1, hg1, hn1⟩
  obtain ⟨a1, n1, cap1, rfl⟩ := own_slice ho1
  have hB1 := K.out.2.1.grown hg1 (fun e => own_apart K.out.2.2 K.out.2.1 K.out.1.other g e.symm rfl)
  have d0 := hB1.cell (by simp [maxLen]) 0 (by simp)
  have f0 := hB1.frozen (by simp [maxLen]) 0
  simp only [List.getElem?_cons_zero] at d0
  have P : Hid _ := WrAt.put K.out.1 ho1 hg1 hn1
  clear ho1 hg1 hn1 hB1 hN
  go_wp2
  go_end0
  exact ⟨rfl, _, P.out.1, P.out.2.1, P.out.2.2⟩

set_option maxHeartbeats 2000000 in
theorem wrEntry_any (base g : Nat) (v : Value) (L : List (BitVec 8)) (k t : Int) (l : List (BitVec 8)) (x : Option Addr) (c : Nat) (w : World) (he : canE (k, t, l) = true) (hW : WrAt w base g 92 v L 0) (hL : L.length + 70000 ≤ 140737488351232) (hc : l.length ≤ c) (hn : x = none → c = 0) (hr : ∀ W, Below base w W → Row W x l) :
    Calls Try.prog 23 #[.pointer (some ⟨g, 0, none⟩), .agg #[.int .i64 k, .int .i64 t, .slice x l.length c]] w fun r w' => r = .returned (.tuple #[]) ∧ ∃ v', WrAt w' base g 92 v' (L ++ packE (k, t, l)) 0 ∧ Below base w w' := by
  have hk0 : 0 ≤ k := (canE_k he).1
  have hk2 : k ≤ 2 := (canE_k he).2
  have hcl : l.length ≤ 4080 := canE_len he
  have b0 := box3_below w (.int .i64 k) (.int .i64 t) (.slice x l.length c) 24
  have B0 : Blk (w.alloc (.cells #[.int .i64 k, .int .i64 t, .slice x l.length c] 24)) w.heap.size 24 [.int .i64 k, .int .i64 t, .slice x l.length c] := Blk.new' w _ _
  have hgl := hW.blk.lt
  have hvl : ∀ j, v.ownBlock = some j → j < w.heap.size := fun j hj => by obtain ⟨_, ho, -⟩ := hW.own; exact (World.ownsRow.lt ho j hj).2
  have hbw := hW.base_w
  have W0 := hW.stays (turned_below b0) (fun h => h) (fun _ _ h => h)
  have hsz : w.heap.size < (w.alloc (.cells #[.int .i64 k, .int .i64 t, .slice x l.length c] 24)).heap.size := B0.lt
  have HW : Hid (canE (k, t, l) = true ∧ (∀ W, Below base w W → Row W x l) ∧ base ≤ w.heap.size ∧ g < w.heap.size ∧ ∀ j, v.ownBlock = some j → j < w.heap.size) := ⟨he, hr, hbw, hgl, hvl⟩
  go_enter Try.func23, Try.ntmps23
  obtain ⟨⟨c0, c1, c2⟩, -⟩ := ebl3 B0
  clear hW he hr hgl hvl
  go_wp2_with fail
  generalize w.alloc (.cells #[.int .i64 k, .int .i64 t, .slice x l.length c] 24) = wb at *
  have N1 := wNum_any base g v L 0 1 (k + 64) wb W0 (by omega)
  rw [wr_kL HW.out.1 L] at N1
  have H0 : Hid (Below w.heap.size w wb ∧ WrAt wb base g 92 v L 0 ∧ Blk wb w.heap.size 24 [.int .i64 k, .int .i64 t, .slice x l.length c]) := ⟨b0, W0, B0⟩
  clear b0 W0 B0 c0 c1 c2
  refine N1.mono ?_
  rintro r w2 ⟨rfl, v2, W2, n2, t2⟩
  have hm : ¬ Mine g v w.heap.size := by
    rintro (h | h)
    · have := HW.out.2.2.2.1; omega
    · have := HW.out.2.2.2.2 _ h; omega
  have B2 := H0.out.2.2.turned t2 hm
  have hm2 : ¬ Mine g v2 w.heap.size := by
    rintro (h | h)
    · have := HW.out.2.2.2.1; omega
    · rcases n2 _ h with h' | h'
      · have := HW.out.2.2.2.2 _ h'; omega
      · omega
  have hv2 : ∀ j, v2.ownBlock = some j → j < w.heap.size ∨ w.heap.size < j := fun j hj => by
    rcases n2 _ hj with h' | h'
    · exact .inl (HW.out.2.2.2.2 _ h')
    · exact .inr (by omega)
  have hs2 := t2.size
  have b2 : Below base w w2 := (H0.out.1.mono HW.out.2.2.1).trans (H0.out.2.1.below t2)
  obtain ⟨⟨c0, c1, c2⟩, -⟩ := ebl3 B2
  have N2 := wNum_any base g v2 _ 0 6 t w2 W2 (by rw [List.length_append, be_length _ _ (by omega)]; omega)
  rw [wr_t (e := (k, t, l)) HW.out.1] at N2
  have H2 : Hid (Below base w w2 ∧ WrAt w2 base g 92 v2 (L ++ be 1 (BitVec.ofInt 64 (k + 64))) 0 ∧ Blk w2 w.heap.size 24 [.int .i64 k, .int .i64 t, .slice x l.length c]) := ⟨b2, W2, B2⟩
  clear H0 t2 hm W2 B2 b2 n2
  go_wp2_with fail
  clear c0 c1 c2
  refine N2.mono ?_
  rintro r w3 ⟨rfl, v3, W3, n3, t3⟩
  have B3 := H2.out.2.2.turned t3 hm2
  have b3 : Below base w w3 := H2.out.1.trans (H2.out.2.1.below t3)
  obtain ⟨⟨c0, c1, c2⟩, -⟩ := ebl3 B3
  have hv3 : ∀ j, v3.ownBlock = some j → base ≤ j := fun j hj => by obtain ⟨_, ho, -⟩ := W3.own; exact (World.ownsRow.lt ho j hj).1
  have N3 := wBytes_ok2 base g v3 _ x l.length c l w3 W3 (by rw [List.length_append, List.length_append, be_length _ _ (by omega), be_length _ _ (by omega)]; omega) rfl hc hn hcl (fun w' hg => HW.out.2.1 w' (b3.grown hg (Nat.le_trans HW.out.2.2.1 b3.size) (fun j hj => hv3 j hj)))
  have H3 : Hid (Below base w w3 ∧ WrAt w3 base g 92 v3 (L ++ be 1 (BitVec.ofInt 64 (k + 64)) ++ be 6 (BitVec.ofInt 64 t)) 0) := ⟨b3, W3⟩
  clear H2 t3 hm2 W3 B3 b3 n3 hv2 hv3
  go_wp2_with fail
  clear c0 c1 c2
  refine N3.mono ?_
  rintro r w4 ⟨rfl, v4, W4, -, t4⟩
  have b4 : Below base w w4 := H3.out.1.trans (H3.out.2.below t4)
  have eL : L ++ be 1 (BitVec.ofInt 64 (k + 64)) ++ be 6 (BitVec.ofInt 64 t) ++ (be 2 (BitVec.ofNat 64 l.length) ++ l) = L ++ packE (k, t, l) := by unfold packE; simp only [List.append_assoc]
  have W4' : WrAt w4 base g 92 v4 (L ++ packE (k, t, l)) 0 := eL ▸ W4
  have F : Hid _ := And.intro W4' b4
  clear W4 W4' b4 t4 H3 eL N3
  go_wp2
  go_end0
  exact ⟨rfl, v4, F.out.1, F.out.2⟩

set_option maxHeartbeats 2000000 in
theorem wrPack_any (k t : Int) (l : List (BitVec 8)) (x : Option Addr) (c : Nat) (w : World) (hr : Row w x l) (hlen : l.length ≤ 140737488351232) (hc : l.length ≤ c) (hn : x = none → c = 0) :
    Calls Try.prog 7 #[.agg #[.int .i64 k, .int .i64 t, .slice x l.length c]] w fun r w' => ∃ z, r = .returned (.tuple #[z, .int .i64 (pkE (k, t, l))]) ∧ Own w' w.heap.size z (pkB (k, t, l)) ∧ Below w.heap.size w w' := by
  have b0 := box3_below w (.int .i64 k) (.int .i64 t) (.slice x l.length c) 24
  have B0 : Blk (w.alloc (.cells #[.int .i64 k, .int .i64 t, .slice x l.length c] 24)) w.heap.size 24 [.int .i64 k, .int .i64 t, .slice x l.length c] := Blk.new' w _ _
  have HR : Hid (Row w x l) := hr
  go_enter Try.func7, Try.ntmps7
  obtain ⟨⟨c0, c1, c2⟩, -⟩ := ebl3 B0
  clear hr
  go_wp2_with fail
  generalize w.alloc (.cells #[.int .i64 k, .int .i64 t, .slice x l.length c] 24) = wb at *
  have H0 : Hid (Below w.heap.size w wb ∧ Blk wb w.heap.size 24 [.int .i64 k, .int .i64 t, .slice x l.length c]) := ⟨b0, B0⟩
  refine (canBe9_any k t l x c wb (Row.later HR.out b0) (by omega)).mono ?_
  rintro r w1 ⟨rfl, b1⟩
  have H1 : Hid (Below w.heap.size w w1 ∧ Blk w1 w.heap.size 24 [.int .i64 k, .int .i64 t, .slice x l.length c]) := ⟨below_then H0.out.1 b1, H0.out.2.laterB b1⟩
  clear b0 B0 b1 H0 c0 c1 c2
  cases he : canE (k, t, l) with
  | false =>
    have F : Hid _ := H1.out.1
    have P : Hid (pkE (k, t, l) = 1 ∧ pkB (k, t, l) = []) := by unfold pkE pkB; rw [he]; exact ⟨rfl, rfl⟩
    clear he
    go_wp2
    go_ret2
    refine ⟨.slice none 0 0, ?_, ?_, F.out⟩
    · (rw [P.out.1]; try rfl)
    · rw [P.out.2]; exact Own.nil _ _
  | true =>
    have HE : Hid (canE (k, t, l) = true) := he
    clear he
    go_wp2_with fail
    refine (NewWriter_any w1.heap.size w1 (Nat.le_refl _)).mono ?_
    rintro r w2 ⟨g, rfl, hg, W2, b2⟩
    have H2 : Hid (Below w1.heap.size w1 w2 ∧ WrAt w2 w1.heap.size g 92 (.slice none 0 0) [] 0 ∧ Blk w2 w.heap.size 24 [.int .i64 k, .int .i64 t, .slice x l.length c]) := ⟨b2, W2, H1.out.2.laterB b2⟩
    clear b2 W2 hg
    obtain ⟨⟨c0, c1, c2⟩, -⟩ := ebl3 H2.out.2.2
    have N3 := wrEntry_any w1.heap.size g (.slice none 0 0) [] k t l x c w2 HE.out H2.out.2.1 (by simp) hc hn (fun W hW => Row.later HR.out (below_then H1.out.1 (H2.out.1.trans hW)))
    go_wp2_with fail
    clear c0 c1 c2
    refine N3.mono ?_
    rintro r w3 ⟨rfl, v3, W3, b3⟩
    rw [List.nil_append] at W3
    have N4 := wEnd_any w1.heap.size g v3 _ 0 w3 W3 (by have h9 : l.length ≤ 4080 := canE_len HE.out; rw [packE_len]; show 9 + l.length ≤ _; omega)
    have H3 : Hid (Below w.heap.size w w3) := below_then H1.out.1 (H2.out.1.trans b3)
    clear W3 b3 H2 H1 N3
    go_wp2_with fail
    refine N4.mono ?_
    rintro r w4 ⟨z, rfl, o4, b4⟩
    have e4 : wrEnd (packE (k, t, l)) 0 = packE (k, t, l) := by unfold wrEnd; rw [if_pos rfl]
    rw [e4] at o4
    have F : Hid _ := And.intro (o4.lower H3.out.size) (below_then H3.out b4)
    have P : Hid (pkE (k, t, l) = 0 ∧ pkB (k, t, l) = packE (k, t, l)) := by unfold pkE pkB; rw [HE.out]; exact ⟨rfl, rfl⟩
    clear o4 b4 H3 e4 N4
    go_wp2
    go_ret2
    refine ⟨z, ?_, ?_, F.out.2⟩
    · (rw [P.out.1]; try rfl)
    · rw [P.out.2]; exact F.out.1
end Go.Proofs.Ytmcljbpemninlaa
