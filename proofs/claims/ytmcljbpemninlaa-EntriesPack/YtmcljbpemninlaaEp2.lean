/- An entry written and packed: the document's. -/
import Derived.Test.YtmcljbpemninlaaEpR
import Derived.Deep.CutRange
namespace Go.Proofs.Ytmcljbpemninlaa
open Go.RowKit
set_option linter.unusedVariables false
set_option maxRecDepth 4000

set_option maxHeartbeats 2000000 in
theorem rwEntry_any (base g : Nat) (v : Value) (L : List (BitVec 8)) (k t : Int) (l : List (BitVec 8)) (x : Option Addr) (c : Nat) (w : World) (he : canE (k, t, l) = true) (hW : WrAt w base g 55 v L 0) (hL : L.length + 70000 ≤ 140737488351232) (hc : l.length ≤ c) (hn : x = none → c = 0) (hr : ∀ W, Below base w W → Row W x l) :
    Calls Try.prog 26 #[.pointer (some ⟨g, 0, none⟩), .agg #[.int .i64 k, .int .i64 t, .slice x l.length c]] w fun r w' => r = .returned (.tuple #[]) ∧ ∃ v', WrAt w' base g 55 v' (L ++ packE (k, t, l)) 0 ∧ Below base w w' := by
  have hk0 : 0 ≤ k := (canE_k he).1
  have hk2 : k ≤ 2 := (canE_k he).2
  have hcl : l.length ≤ 4080 := canE_len he
  have b0 := box3_below w (.int .i64 k) (.int .i64 t) (.slice x l.length c) 24
  have B0 : Blk (w.alloc (.cells #[.int .i64 k, .int .i64 t, .slice x l.length c] 24)) w.heap.size 24 [.int .i64 k, .int .i64 t, .slice x l.length c] := Blk.new' w _ _
  have hgl := hW.blk.lt
  have hvl : ∀ j, v.ownBlock = some j → j < w.heap.size := fun j hj => by obtain ⟨_, ho, -⟩ := hW.own; exact (World.ownsRow.lt ho j hj).2
  have hbw := hW.base_w
  have W0 := hW.stays (turned_below b0) (fun h => h) (fun _ _ h => h)
  have hsz : w.heap.size < (w.alloc (.cells #[.int .i64 k, .int .i64 t, .slice x l.length c] 24)).heap.size := B0.lt
  have HW : Hid (canE (k, t, l) = true ∧ (∀ W, Below base w W → Row W x l) ∧ base ≤ w.heap.size ∧ g < w.heap.size ∧ ∀ j, v.ownBlock = some j → j < w.heap.size) := ⟨he, hr, hbw, hgl, hvl⟩
  go_enter Try.func26, Try.ntmps26
  obtain ⟨⟨c0, c1, c2⟩, -⟩ := ebl3 B0
  clear hW he hr hgl hvl
  go_wp2_with fail
  generalize w.alloc (.cells #[.int .i64 k, .int .i64 t, .slice x l.length c] 24) = wb at *
  have N1 := rwNum_any base g v L 0 1 (k + 64) wb W0 (by omega)
  rw [wr_kL HW.out.1 L] at N1
  have H0 : Hid (Below w.heap.size w wb ∧ WrAt wb base g 55 v L 0 ∧ Blk wb w.heap.size 24 [.int .i64 k, .int .i64 t, .slice x l.length c]) := ⟨b0, W0, B0⟩
  clear b0 W0 B0 c0 c1 c2
  refine N1.mono ?_
  rintro r w2 ⟨rfl, v2, W2, n2, t2⟩
  have hm : ¬ Mine g v w.heap.size := by
    rintro (h | h)
    · have := HW.out.2.2.2.1; omega
    · have := HW.out.2.2.2.2 _ h; omega
  have B2 := H0.out.2.2.turned t2 hm
  have hm2 : ¬ Mine g v2 w.heap.size := by
    rintro (h | h)
    · have := HW.out.2.2.2.1; omega
    · rcases n2 _ h with h' | h'
      · have := HW.out.2.2.2.2 _ h'; omega
      · omega
  have hv2 : ∀ j, v2.ownBlock = some j → j < w.heap.size ∨ w.heap.size < j := fun j hj => by
    rcases n2 _ hj with h' | h'
    · exact .inl (HW.out.2.2.2.2 _ h')
    · exact .inr (by omega)
  have hs2 := t2.size
  have b2 : Below base w w2 := (H0.out.1.mono HW.out.2.2.1).trans (H0.out.2.1.below t2)
  obtain ⟨⟨c0, c1, c2⟩, -⟩ := ebl3 B2
  have N2 := rwNum_any base g v2 _ 0 6 t w2 W2 (by rw [List.length_append, be_length _ _ (by omega)]; omega)
  rw [wr_t (e := (k, t, l)) HW.out.1] at N2
  have H2 : Hid (Below base w w2 ∧ WrAt w2 base g 55 v2 (L ++ be 1 (BitVec.ofInt 64 (k + 64))) 0 ∧ Blk w2 w.heap.size 24 [.int .i64 k, .int .i64 t, .slice x l.length c]) := ⟨b2, W2, B2⟩
  clear H0 t2 hm W2 B2 b2 n2
  go_wp2_with fail
  clear c0 c1 c2
  refine N2.mono ?_
  rintro r w3 ⟨rfl, v3, W3, n3, t3⟩
  have B3 := H2.out.2.2.turned t3 hm2
  have b3 : Below base w w3 := H2.out.1.trans (H2.out.2.1.below t3)
  obtain ⟨⟨c0, c1, c2⟩, -⟩ := ebl3 B3
  have hv3 : ∀ j, v3.ownBlock = some j → base ≤ j := fun j hj => by obtain ⟨_, ho, -⟩ := W3.own; exact (World.ownsRow.lt ho j hj).1
  have N3 := rwBytes_any base g v3 _ 0 2 x l.length c l w3 W3 (by rw [List.length_append, List.length_append, be_length _ _ (by omega), be_length _ _ (by omega)]; omega) rfl hc (HW.out.2.1 w3 b3) hn (by omega)
  rw [wr_c (e := (k, t, l)) HW.out.1] at N3
  have H3 : Hid (Below base w w3 ∧ WrAt w3 base g 55 v3 (L ++ be 1 (BitVec.ofInt 64 (k + 64)) ++ be 6 (BitVec.ofInt 64 t)) 0) := ⟨b3, W3⟩
  clear H2 t3 hm2 W3 B3 b3 n3 hv2 hv3
  go_wp2_with fail
  clear c0 c1 c2
  refine N3.mono ?_
  rintro r w4 ⟨rfl, v4, W4, -, t4⟩
  have b4 : Below base w w4 := H3.out.1.trans (H3.out.2.below t4)
  have eL : L ++ be 1 (BitVec.ofInt 64 (k + 64)) ++ be 6 (BitVec.ofInt 64 t) ++ (be 2 (BitVec.ofNat 64 l.length) ++ l) = L ++ packE (k, t, l) := by unfold packE; simp only [List.append_assoc]
  have W4' : WrAt w4 base g 55 v4 (L ++ packE (k, t, l)) 0 := eL ▸ W4
  have F : Hid _ := And.intro W4' b4
  clear W4 W4' b4 t4 H3 eL N3
  go_wp2
  go_end0
  exact ⟨rfl, v4, F.out.1, F.out.2⟩

set_option maxHeartbeats 2000000 in
theorem rwPack_any (k t : Int) (l : List (BitVec 8)) (x : Option Addr) (c : Nat) (w : World) (hr : Row w x l) (hlen : l.length ≤ 140737488351232) (hc : l.length ≤ c) (hn : x = none → c = 0) :
    Calls Try.prog 8 #[.agg #[.int .i64 k, .int .i64 t, .slice x l.length c]] w fun r w' => ∃ z, r = .returned (.tuple #[z, .int .i64 (pkE (k, t, l))]) ∧ Own w' w.heap.size z (pkB (k, t, l)) ∧ Below w.heap.size w w' := by
  have b0 := box3_below w (.int .i64 k) (.int .i64 t) (.slice x l.length c) 24
  have B0 : Blk (w.alloc (.cells #[.int .i64 k, .int .i64 t, .slice x l.length c] 24)) w.heap.size 24 [.int .i64 k, .int .i64 t, .slice x l.length c] := Blk.new' w _ _
  have HR : Hid (Row w x l) := hr
  go_enter Try.func8, Try.ntmps8
  obtain ⟨⟨c0, c1, c2⟩, -⟩ := ebl3 B0
  clear hr
  go_wp2_with fail
  generalize w.alloc (.cells #[.int .i64 k, .int .i64 t, .slice x l.length c] 24) = wb at *
  have H0 : Hid (Below w.heap.size w wb ∧ Blk wb w.heap.size 24 [.int .i64 k, .int .i64 t, .slice x l.length c]) := ⟨b0, B0⟩
  refine (right9_any k t l x c wb (Row.later HR.out b0) (by omega)).mono ?_
  rintro r w1 ⟨rfl, b1⟩
  have H1 : Hid (Below w.heap.size w w1 ∧ Blk w1 w.heap.size 24 [.int .i64 k, .int .i64 t, .slice x l.length c]) := ⟨below_then H0.out.1 b1, H0.out.2.laterB b1⟩
  clear b0 B0 b1 H0 c0 c1 c2
  cases he : canE (k, t, l) with
  | false =>
    have F : Hid _ := H1.out.1
    have P : Hid (pkE (k, t, l) = 1 ∧ pkB (k, t, l) = []) := by unfold pkE pkB; rw [he]; exact ⟨rfl, rfl⟩
    clear he
    go_wp2
    go_ret2
    refine ⟨.slice none 0 0, ?_, ?_, F.out⟩
    · (rw [P.out.1]; try rfl)
    · rw [P.out.2]; exact Own.nil _ _
  | true =>
    have HE : Hid (canE (k, t, l) = true) := he
    clear he
    have bN : Below w1.heap.size w1 (w1.alloc (.cells #[.slice none 0 0, .int .i64 0] 55)) := (Below.refl _ _).alloc (Nat.le_refl _) _
    have WN : WrAt (w1.alloc (.cells #[.slice none 0 0, .int .i64 0] 55)) w1.heap.size w1.heap.size 55 (.slice none 0 0) [] 0 := ⟨Blk.new' w1 55 [.slice none 0 0, .int .i64 0], ⟨[], Own.nil _ _, fun _ => rfl⟩, Nat.le_refl _, bN.size, by decide⟩
    have H2 : Hid (Below w1.heap.size w1 (w1.alloc (.cells #[.slice none 0 0, .int .i64 0] 55)) ∧ WrAt (w1.alloc (.cells #[.slice none 0 0, .int .i64 0] 55)) w1.heap.size w1.heap.size 55 (.slice none 0 0) [] 0 ∧ Blk (w1.alloc (.cells #[.slice none 0 0, .int .i64 0] 55)) w.heap.size 24 [.int .i64 k, .int .i64 t, .slice x l.length c]) := ⟨bN, WN, H1.out.2.laterB bN⟩
    obtain ⟨⟨c0, c1, c2⟩, -⟩ := ebl3 H2.out.2.2
    clear bN WN
    go_upto_region 4 with fail
    clear c0 c1 c2
    obtain ⟨g, hg⟩ : ∃ g, g = w1.heap.size := ⟨_, rfl⟩
    generalize w1.alloc (.cells #[.slice none 0 0, .int .i64 0] 55) = w2 at *
    obtain ⟨⟨c0, c1, c2⟩, -⟩ := ebl3 H2.out.2.2
    have N3 := rwEntry_any w1.heap.size w1.heap.size (.slice none 0 0) [] k t l x c w2 HE.out H2.out.2.1 (by simp) hc hn (fun W hW => Row.later HR.out (below_then H1.out.1 (H2.out.1.trans hW)))
    go_wp2_with fail
    clear c0 c1 c2
    refine N3.mono ?_
    rintro r w3 ⟨rfl, v3, W3, b3⟩
    rw [List.nil_append] at W3
    have N4 := rwEnd_any w1.heap.size w1.heap.size v3 _ 0 w3 W3 (by have h9 : l.length ≤ 4080 := canE_len HE.out; rw [packE_len]; show 9 + l.length ≤ _; omega)
    have H3 : Hid (Below w.heap.size w w3) := below_then H1.out.1 (H2.out.1.trans b3)
    clear W3 b3 H2 H1 N3
    go_wp2_with fail
    refine N4.mono ?_
    rintro r w4 ⟨z, rfl, o4, b4⟩
    have e4 : wrEnd (packE (k, t, l)) 0 = packE (k, t, l) := by unfold wrEnd; rw [if_pos rfl]
    rw [e4] at o4
    have F : Hid _ := And.intro (o4.lower H3.out.size) (below_then H3.out b4)
    have P : Hid (pkE (k, t, l) = 0 ∧ pkB (k, t, l) = packE (k, t, l)) := by unfold pkE pkB; rw [HE.out]; exact ⟨rfl, rfl⟩
    clear o4 b4 H3 e4 N4
    go_wp2
    go_ret2
    refine ⟨z, ?_, ?_, F.out.2⟩
    · (rw [P.out.1]; try rfl)
    · rw [P.out.2]; exact F.out.1
end Go.Proofs.Ytmcljbpemninlaa
