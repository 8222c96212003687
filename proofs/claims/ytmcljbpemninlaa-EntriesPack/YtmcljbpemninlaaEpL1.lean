/- An entry as bytes and back: EntriesPack's walk. -/
import Derived.Test.YtmcljbpemninlaaEp4
import Derived.Test.YtmcljbpemninlaaEn21
import Derived.Test.YtmcljbpemninlaaAid
namespace Go.Proofs.Ytmcljbpemninlaa
open Go.RowKit Go.Shelf
set_option linter.unusedVariables false
set_option maxRecDepth 4000

theorem Row.front9 {W : World} {a : Option Addr} {l y : List (BitVec 8)} (h : Row W a (l ++ y)) : Row W a l := by
  rcases h with h | ⟨b, off, rfl, hc⟩
  · exact .inl (List.append_eq_nil_iff.1 h).1
  · refine .inr ⟨b, off, rfl, fun i hi => ?_⟩
    rw [hc i (by rw [List.length_append]; omega)]
    simp [bt, List.getElem?_append_left hi]
theorem earg1 {W : World} {p : Nat} {k t : Int} {l : List (BitVec 8)} {x : Option Addr} {c : Nat} (m : Blk W p 24 [.int .i64 k, .int .i64 t, .slice x l.length c]) (hr : Row W x l) (hc : l.length ≤ c) (hn : x = none → c = 0) (hk : I64 k) (ht : I64 t) (hl : l.length ≤ 140737488351232) : EArgs W (some ⟨p, 0, none⟩) [(k, t, l)] := by
  obtain ⟨⟨c0, c1, c2⟩, -⟩ := eblk3 m
  refine .inr ⟨p, 0, rfl, fun i hi => ?_⟩
  have e : i = 0 := by simp at hi; exact hi
  subst e
  exact ⟨by simpa using c0, by simpa using c1, ⟨x, c, by simpa using c2, hr, hc, hn⟩, hk, ht, hl⟩
theorem unp_bd (b : List (BitVec 8)) : I64 (unp b).1.1 ∧ I64 (unp b).1.2.1 ∧ (unp b).1.2.2.length ≤ b.length := by
  have h1 := rk_bd b
  have h2 := rt_bd b
  have h3 := rc_len b
  unfold unp
  split
  · split
    · exact ⟨by show I64 ((rk b).2.2 - 64); unfold I64; omega, by show I64 (rt b).2.2; unfold I64; omega, h3⟩
    · exact ⟨by unfold I64; show -9223372036854775808 ≤ (0 : Int) ∧ (0 : Int) ≤ _; omega, by unfold I64; show -9223372036854775808 ≤ (0 : Int) ∧ (0 : Int) ≤ _; omega, Nat.zero_le _⟩
  · exact ⟨by unfold I64; show -9223372036854775808 ≤ (0 : Int) ∧ (0 : Int) ≤ _; omega, by unfold I64; show -9223372036854775808 ≤ (0 : Int) ∧ (0 : Int) ≤ _; omega, Nat.zero_le _⟩
/-- what stands from when both have packed -/
structure PW (w W : World) (k t : Int) (l : List (BitVec 8)) (x : Option Addr) (c : Nat) (a1 : Option Addr) (l1 : List (BitVec 8)) (go : Nat) (z1 z2 : Option Addr) (P : List (BitVec 8)) : Prop where
  be : Below w.heap.size w W
  me : Blk W w.heap.size 24 [.int .i64 k, .int .i64 t, .slice x l.length c]
  rx : Row W x l
  rb : Row W a1 l1
  ro : Row W (some ⟨go, 0, none⟩) (l1 ++ [167#8])
  r1 : Row W z1 P
  r2 : Row W z2 P
theorem PW.later {w W W' : World} {k t : Int} {l : List (BitVec 8)} {x : Option Addr} {c : Nat} {a1 : Option Addr} {l1 : List (BitVec 8)} {go : Nat} {z1 z2 : Option Addr} {P : List (BitVec 8)} (h : PW w W k t l x c a1 l1 go z1 z2 P) (hb : Below W.heap.size W W') : PW w W' k t l x c a1 l1 go z1 z2 P :=
  ⟨below_then h.be hb, h.me.laterB hb, h.rx.later hb, h.rb.later hb, h.ro.later hb, h.r1.later hb, h.r2.later hb⟩
set_option maxHeartbeats 4000000 in
theorem entriesPack_walk (k t : Int) (l : List (BitVec 8)) (x : Option Addr) (c : Nat) (a1 : Option Addr) (len1 cap1 : Nat) (l1 : List (BitVec 8)) (w : World) (B0 : I64 k ∧ I64 t ∧ Row w x l ∧ l.length ≤ c ∧ (x = none → c = 0) ∧ l.length ≤ 140737488351232) (B1 : Arg 140737488351232 w a1 len1 cap1 l1) :
    Calls Try.prog 3 #[.agg #[.int .i64 k, .int .i64 t, .slice x l.length c], .slice a1 len1 cap1] w fun e w' => e = .returned (.bool true) ∧ Below w.heap.size w w' := by
  obtain ⟨hk, ht, hrx, hc, hn, hll⟩ := B0
  obtain ⟨hl1, hle1, hbd1, hrb, hn1⟩ := B1
  subst hl1
  have b0 := box3_below w (.int .i64 k) (.int .i64 t) (.slice x l.length c) 24
  have M0 : Blk (w.alloc (.cells #[.int .i64 k, .int .i64 t, .slice x l.length c] 24)) w.heap.size 24 [.int .i64 k, .int .i64 t, .slice x l.length c] := Blk.new' w _ _
  have HP : Hid (I64 k ∧ I64 t ∧ Row w x l ∧ (x = none → c = 0) ∧ Row w a1 l1 ∧ (a1 = none → cap1 = 0)) := ⟨hk, ht, hrx, hn, hrb, hn1⟩
  clear hk ht hrx hn hrb hn1
  have hl1i : (l1.length : Int) ≤ 140737488351232 := by omega
  go_enter Try.func3, Try.ntmps3
  obtain ⟨⟨c0, c1, c2⟩, -⟩ := eblk3 M0
  go_wp2_with fail
  generalize w.alloc (.cells #[.int .i64 k, .int .i64 t, .slice x l.length c] 24) = wb at *
  clear c0 c1 c2
  have H0 : Hid (Below w.heap.size w wb ∧ Blk wb w.heap.size 24 [.int .i64 k, .int .i64 t, .slice x l.length c]) := ⟨b0, M0⟩
  refine (Lent_any a1 l1.length cap1 l1 wb ⟨rfl, hle1, hbd1, Row.later HP.out.2.2.2.2.1 b0, HP.out.2.2.2.2.2⟩).mono ?_
  rintro r w1 ⟨go, co, rfl, oo, hgo, hco, hcm, b1⟩
  obtain ⟨ao, cao, hvo, -, -, ro, -, -⟩ := oo.open
  simp only [Value.slice.injEq] at hvo
  obtain ⟨rfl, -, -⟩ := hvo
  have H1 : Hid (Below w.heap.size w w1 ∧ Blk w1 w.heap.size 24 [.int .i64 k, .int .i64 t, .slice x l.length c] ∧ Row w1 (some ⟨go, 0, none⟩) (l1 ++ [167#8])) := ⟨below_then H0.out.1 b1, H0.out.2.laterB b1, ro⟩
  clear H0 b0 M0 b1 ro oo
  obtain ⟨⟨c0, c1, c2⟩, -⟩ := eblk3 H1.out.2.1
  go_wp2_with fail
  clear c0 c1 c2
  refine (wrPack_any k t l x c w1 (Row.later HP.out.2.2.1 H1.out.1) hll hc HP.out.2.2.2.1).mono ?_
  rintro r w2 ⟨z, rfl, o2, b2⟩
  obtain ⟨f, hf⟩ : ∃ f, f = pkE (k, t, l) := ⟨_, rfl⟩
  obtain ⟨P, hP⟩ : ∃ P, P = pkB (k, t, l) := ⟨_, rfl⟩
  rw [← hf]
  rw [← hP] at o2
  obtain ⟨z1, k1, rfl, hk1, hm1, r1, hz1, -⟩ := o2.open
  have HF : Hid (f = pkE (k, t, l) ∧ P = pkB (k, t, l) ∧ (z1 = none → k1 = 0) ∧ P.length ≤ k1) := ⟨hf, hP, hz1, hk1⟩
  have H2 : Hid (Below w.heap.size w w2 ∧ Blk w2 w.heap.size 24 [.int .i64 k, .int .i64 t, .slice x l.length c] ∧ Row w2 (some ⟨go, 0, none⟩) (l1 ++ [167#8]) ∧ Row w2 z1 P) := ⟨below_then H1.out.1 b2, H1.out.2.1.laterB b2, H1.out.2.2.later b2, r1⟩
  clear H1 b2 r1 o2 hf hP hz1 hm1 hk1
  obtain ⟨⟨c0, c1, c2⟩, -⟩ := eblk3 H2.out.2.1
  go_wp2_with fail
  clear c0 c1 c2
  refine (rwPack_any k t l x c w2 (Row.later HP.out.2.2.1 H2.out.1) hll hc HP.out.2.2.2.1).mono ?_
  rintro r w3 ⟨z, rfl, o3, b3⟩
  rw [← HF.out.1]
  rw [← HF.out.2.1] at o3
  obtain ⟨z2, k2, rfl, -, -, r2, -, -⟩ := o3.open
  have H3 : Hid (PW w w3 k t l x c a1 l1 go z1 z2 P) := ⟨below_then H2.out.1 b3, H2.out.2.1.laterB b3, Row.later HP.out.2.2.1 (below_then H2.out.1 b3), Row.later HP.out.2.2.2.2.1 (below_then H2.out.1 b3), H2.out.2.2.1.later b3, H2.out.2.2.2.later b3, r2⟩
  clear H2 b3 r2 o3
  go_wp2_with fail
  refine (enUnpack_any (some ⟨go, 0, none⟩) l1.length co l1 w3 rfl (by omega) H3.out.ro.front9 (fun e => by cases e) (by omega)).mono ?_
  rintro r w4 ⟨x4, c4, rfl, o4, b4⟩
  obtain ⟨k', hk'⟩ : ∃ v, v = (unp l1).1.1 := ⟨_, rfl⟩
  obtain ⟨t', ht'⟩ : ∃ v, v = (unp l1).1.2.1 := ⟨_, rfl⟩
  obtain ⟨l', hl'⟩ : ∃ v, v = (unp l1).1.2.2 := ⟨_, rfl⟩
  obtain ⟨g, hg⟩ : ∃ v, v = (unp l1).2 := ⟨_, rfl⟩
  have hub := unp_bd l1
  rw [← hk', ← ht', ← hl', ← hg]
  rw [← hl'] at o4
  rw [← hk', ← ht', ← hl'] at hub
  have hl'b : l'.length ≤ 140737488351232 := by omega
  have HU : Hid (k' = (unp l1).1.1 ∧ t' = (unp l1).1.2.1 ∧ l' = (unp l1).1.2.2 ∧ g = (unp l1).2 ∧ I64 k' ∧ I64 t') := ⟨hk', ht', hl', hg, hub.1, hub.2.1⟩
  clear hk' ht' hl' hg hub
  have b5 := box3_below w4 (.int .i64 k') (.int .i64 t') (.slice x4 l'.length c4) 24
  have M5 : Blk (w4.alloc (.cells #[.int .i64 k', .int .i64 t', .slice x4 l'.length c4] 24)) w4.heap.size 24 [.int .i64 k', .int .i64 t', .slice x4 l'.length c4] := Blk.new' w4 _ _
  have hb4 := b4.size
  have hb5 : w4.heap.size < (w4.alloc (.cells #[.int .i64 k', .int .i64 t', .slice x4 l'.length c4] 24)).heap.size := M5.lt
  have hv4 : ∀ j, (Value.slice x4 l'.length c4).ownBlock = some j → w3.heap.size ≤ j ∧ j < w4.heap.size := fun j hj => World.ownsRow.lt o4 j hj
  have H5 : Hid (Below w3.heap.size w3 (w4.alloc (.cells #[.int .i64 k', .int .i64 t', .slice x4 l'.length c4] 24)) ∧ Blk (w4.alloc (.cells #[.int .i64 k', .int .i64 t', .slice x4 l'.length c4] 24)) w4.heap.size 24 [.int .i64 k', .int .i64 t', .slice x4 l'.length c4] ∧ Own (w4.alloc (.cells #[.int .i64 k', .int .i64 t', .slice x4 l'.length c4] 24)) w3.heap.size (.slice x4 l'.length c4) l') := ⟨below_then b4 b5, M5, o4.later b5⟩
  have HV4 : Hid _ := hv4
  clear b4 b5 M5 o4 hv4
  go_wp2_with fail
  generalize w4.alloc (.cells #[.int .i64 k', .int .i64 t', .slice x4 l'.length c4] 24) = w5 at *
  refine (rfUnpack_any a1 l1.length cap1 l1 w5 rfl hle1 (H3.out.later H5.out.1).rb HP.out.2.2.2.2.2 (by omega)).mono ?_
  rintro r w6 ⟨x6, c6, rfl, o6, b6⟩
  rw [← HU.out.1, ← HU.out.2.1, ← HU.out.2.2.1, ← HU.out.2.2.2.1]
  rw [← HU.out.2.2.1] at o6
  have b7 := box3_below w6 (.int .i64 k') (.int .i64 t') (.slice x6 l'.length c6) 24
  have M7 : Blk (w6.alloc (.cells #[.int .i64 k', .int .i64 t', .slice x6 l'.length c6] 24)) w6.heap.size 24 [.int .i64 k', .int .i64 t', .slice x6 l'.length c6] := Blk.new' w6 _ _
  have hb6 := b6.size
  obtain ⟨x6', c6', hv6, hle6, -, r6, hn6, hg6⟩ := o6.open
  simp only [Value.slice.injEq] at hv6
  obtain ⟨rfl, -, rfl⟩ := hv6
  have H7 : Hid (Below w5.heap.size w5 (w6.alloc (.cells #[.int .i64 k', .int .i64 t', .slice x6 l'.length c6] 24)) ∧ Blk (w6.alloc (.cells #[.int .i64 k', .int .i64 t', .slice x6 l'.length c6] 24)) w6.heap.size 24 [.int .i64 k', .int .i64 t', .slice x6 l'.length c6] ∧ Row (w6.alloc (.cells #[.int .i64 k', .int .i64 t', .slice x6 l'.length c6] 24)) x6 l' ∧ (x6 = none → c6 = 0) ∧ ∀ y, x6 = some y → w5.heap.size ≤ y.block) := ⟨below_then b6 b7, M7, r6.later b7, hn6, fun y hy => by obtain ⟨g', e1, e2⟩ := hg6 y hy; rw [e1]; exact e2⟩
  clear b6 b7 M7 o6 r6 hn6 hg6
  go_upto_region 6 with fail
  generalize w6.alloc (.cells #[.int .i64 k', .int .i64 t', .slice x6 l'.length c6] 24) = w7 at *
  have p7 := H3.out.later (below_then H5.out.1 H7.out.1)
  have s1 := p7.r1.str P.length k1 rfl
  have s2 := p7.r2.str P.length k2 rfl
  obtain ⟨⟨d0, d1, d2⟩, -⟩ := eblk3 (H5.out.2.1.laterB H7.out.1)
  have b8 := box3_below w7 (.int .i64 k') (.int .i64 t') (.slice x4 l'.length c4) 24
  have N8 : Blk (w7.alloc (.cells #[.int .i64 k', .int .i64 t', .slice x4 l'.length c4] 24)) w7.heap.size 24 [.int .i64 k', .int .i64 t', .slice x4 l'.length c4] := Blk.new' w7 _ _
  obtain ⟨⟨j0, j1, j2⟩, -⟩ := eblk3 (H7.out.2.1.laterB b8)
  have b9 := box3_below (w7.alloc (.cells #[.int .i64 k', .int .i64 t', .slice x4 l'.length c4] 24)) (.int .i64 k') (.int .i64 t') (.slice x6 l'.length c6) 24
  have N9 : Blk ((w7.alloc (.cells #[.int .i64 k', .int .i64 t', .slice x4 l'.length c4] 24)).alloc (.cells #[.int .i64 k', .int .i64 t', .slice x6 l'.length c6] 24)) (w7.alloc (.cells #[.int .i64 k', .int .i64 t', .slice x4 l'.length c4] 24)).heap.size 24 [.int .i64 k', .int .i64 t', .slice x6 l'.length c6] := Blk.new' _ _ _
  obtain ⟨x4', c4', hv4, hle4, -, r4, hn4, -⟩ := H5.out.2.2.open
  simp only [Value.slice.injEq] at hv4
  obtain ⟨rfl, -, rfl⟩ := hv4
  have hs8 : (w7.alloc (.cells #[.int .i64 k', .int .i64 t', .slice x4 l'.length c4] 24)).heap.size = w7.heap.size + 1 := by first | simp | rfl
  rw [hs8] at N9
  have H9 : Hid (Below w7.heap.size w7 ((w7.alloc (.cells #[.int .i64 k', .int .i64 t', .slice x4 l'.length c4] 24)).alloc (.cells #[.int .i64 k', .int .i64 t', .slice x6 l'.length c6] 24)) ∧ Blk ((w7.alloc (.cells #[.int .i64 k', .int .i64 t', .slice x4 l'.length c4] 24)).alloc (.cells #[.int .i64 k', .int .i64 t', .slice x6 l'.length c6] 24)) w7.heap.size 24 [.int .i64 k', .int .i64 t', .slice x4 l'.length c4] ∧ Blk ((w7.alloc (.cells #[.int .i64 k', .int .i64 t', .slice x4 l'.length c4] 24)).alloc (.cells #[.int .i64 k', .int .i64 t', .slice x6 l'.length c6] 24)) (w7.heap.size + 1) 24 [.int .i64 k', .int .i64 t', .slice x6 l'.length c6] ∧ Row w5 x4 l' ∧ (x4 = none → c4 = 0)) := ⟨below_then b8 b9, N8.laterB b9, N9, r4, hn4⟩
  clear b8 b9 N8 N9 r4 hn4 p7 hs8
  go_wp2_with fail
  clear d0 d1 d2 j0 j1 j2 s1 s2
  generalize (w7.alloc (.cells #[.int .i64 k', .int .i64 t', .slice x4 l'.length c4] 24)).alloc (.cells #[.int .i64 k', .int .i64 t', .slice x6 l'.length c6] 24) = w9 at *
  have HSm : Calls Try.prog 11 #[.slice (some ⟨w7.heap.size, 0, none⟩) 1 1, .slice (some ⟨w7.heap.size + 1, 0, none⟩) 1 1] w9 fun e w' => e = .returned (.bool true) ∧ Below w9.heap.size w9 w' := same9_yes (some ⟨w7.heap.size, 0, none⟩) (some ⟨w7.heap.size + 1, 0, none⟩) 1 1 [(k', t', l')] w9 (by simp) (by simp) (by simp) (earg1 H9.out.2.1 (H9.out.2.2.2.1.later (below_then H7.out.1 H9.out.1)) hle4 H9.out.2.2.2.2 HU.out.2.2.2.2.1 HU.out.2.2.2.2.2 hl'b) (earg1 H9.out.2.2.1 (H7.out.2.2.1.later H9.out.1) hle6 H7.out.2.2.2.1 HU.out.2.2.2.2.1 HU.out.2.2.2.2.2 hl'b)
  refine HSm.mono ?_
  rintro r w10 ⟨rfl, b10⟩
  have H10 : Hid (Below w7.heap.size w7 w10) := below_then H9.out.1 b10
  clear H9 b10 HSm
  have HKp := Kept_yes go l1.length co a1 cap1 l1 w10 rfl (by omega) (by omega) (H3.out.later (below_then (below_then H5.out.1 H7.out.1) H10.out)).ro (H3.out.later (below_then (below_then H5.out.1 H7.out.1) H10.out)).rb
  go_wp2_with fail
  refine HKp.mono ?_
  rintro r w' ⟨rfl, rfl⟩
  clear HKp
  obtain ⟨⟨d0, d1, d2⟩, -⟩ := eblk3 (H5.out.2.1.laterB (below_then H7.out.1 H10.out))
  have NSp := Spoil_own _ _ l' _ (H5.out.2.2.later (below_then H7.out.1 H10.out)) hl'b
  go_wp2_with fail
  clear d0 d1 d2
  refine NSp.mono ?_
  rintro r w11 ⟨rfl, g11⟩
  have hs10 := H10.out.size
  have hs7 := H7.out.1.size
  have hs5 := H5.out.1.size
  have hl6 := H7.out.2.1.lt
  have H11 : Hid (Below w3.heap.size w3 w11 ∧ Blk w11 w6.heap.size 24 [.int .i64 k', .int .i64 t', .slice x6 l'.length c6] ∧ Row w11 x6 l') := ⟨(below_then (below_then H5.out.1 H7.out.1) H10.out).grown g11 (by omega) (fun j hj => (HV4.out j hj).1), (H7.out.2.1.laterB H10.out).grown g11 (fun e => by have := HV4.out _ e.symm; omega), (H7.out.2.2.1.later H10.out).keep g11 (fun y hy e => by have h1 := H7.out.2.2.2.2 y hy; have h2 := HV4.out _ e.symm; omega)⟩
  clear g11 NSp H10 HV4
  have HKp := Kept_yes go l1.length co a1 cap1 l1 w11 rfl (by omega) (by omega) (H3.out.later H11.out.1).ro (H3.out.later H11.out.1).rb
  go_wp2_with fail
  refine HKp.mono ?_
  rintro r w' ⟨rfl, rfl⟩
  clear HKp
  by_cases hg0 : g = 0
  · have hpu := pack_unp (b := l1) (by rw [← HU.out.2.2.2.1]; exact hg0)
    have he1 : (k', t', l') = rEnt l1 := by rw [← hpu.1, HU.out.1, HU.out.2.1, HU.out.2.2.1]
    have hpE : pkE (k', t', l') = 0 := by unfold pkE; rw [he1, if_pos hpu.2.1]
    have hpB : pkB (k', t', l') = l1 := by unfold pkB; rw [he1, if_pos hpu.2.1]; exact hpu.2.2
    have N12 := wrPack_any k' t' l' x6 c6 _ H11.out.2.2 hl'b hle6 H7.out.2.2.2.1
    rw [hpE, hpB] at N12
    have q0 : (g == 0) = true := by rw [beq_iff_eq]; exact hg0
    obtain ⟨⟨j0, j1, j2⟩, -⟩ := eblk3 H11.out.2.1
    clear hpu he1 hpE hpB hg0
    go_wp2_with fail
    clear j0 j1 j2
    refine N12.mono ?_
    rintro r w12 ⟨z3v, rfl, o12, b12⟩
    obtain ⟨z3, k3, rfl, -, -, r3, -, -⟩ := o12.open
    have HB : Hid (Below w3.heap.size w3 w12) := below_then H11.out.1 b12
    have s3 := r3.str l1.length k3 rfl
    have s4 := (H3.out.later HB.out).rb.str l1.length cap1 rfl
    clear N12 o12 b12 r3 H11
    by_cases hf0 : f = 0
    · have hce : canE (k, t, l) = true := by
        cases h : canE (k, t, l) with
        | true => rfl
        | false =>
          have := HF.out.1
          unfold pkE at this
          rw [h] at this
          rw [hf0] at this
          simp at this
      have hPe : P = packE (k, t, l) := by rw [HF.out.2.1]; unfold pkB; rw [if_pos hce]
      have hup : unp P = ((k, t, l), 0) := by rw [hPe]; exact unp_pack hce
      have hpl : P.length ≤ 5000 := by
        have h9 : l.length ≤ 4080 := canE_len hce
        rw [hPe, packE_len]; show 9 + l.length ≤ _; omega
      have N13 := enUnpack_any z1 P.length k1 P w12 rfl HF.out.2.2.2 (H3.out.later HB.out).r1 HF.out.2.2.1 (by omega)
      rw [hup] at N13
      simp only at N13
      have q1 : (f == 0) = true := by rw [beq_iff_eq]; exact hf0
      clear hPe hup hf0
      go_wp2_with fail
      refine N13.mono ?_
      rintro r w13 ⟨x13, c13, rfl, o13, b13⟩
      have b14 := box3_below w13 (.int .i64 k) (.int .i64 t) (.slice x13 l.length c13) 24
      have M14 : Blk (w13.alloc (.cells #[.int .i64 k, .int .i64 t, .slice x13 l.length c13] 24)) w13.heap.size 24 [.int .i64 k, .int .i64 t, .slice x13 l.length c13] := Blk.new' w13 _ _
      obtain ⟨x13', c13', hv13, hle13, -, r13, hn13, -⟩ := o13.open
      simp only [Value.slice.injEq] at hv13
      obtain ⟨rfl, -, rfl⟩ := hv13
      have H14 : Hid (Below w3.heap.size w3 (w13.alloc (.cells #[.int .i64 k, .int .i64 t, .slice x13 l.length c13] 24)) ∧ Blk (w13.alloc (.cells #[.int .i64 k, .int .i64 t, .slice x13 l.length c13] 24)) w13.heap.size 24 [.int .i64 k, .int .i64 t, .slice x13 l.length c13] ∧ Row (w13.alloc (.cells #[.int .i64 k, .int .i64 t, .slice x13 l.length c13] 24)) x13 l ∧ (x13 = none → c13 = 0)) := ⟨below_then (below_then HB.out b13) b14, M14, r13.later b14, hn13⟩
      clear N13 o13 b13 b14 M14 r13 hn13 HB q1
      go_upto_region 18 with fail
      generalize w13.alloc (.cells #[.int .i64 k, .int .i64 t, .slice x13 l.length c13] 24) = w14 at *
      obtain ⟨⟨d0, d1, d2⟩, -⟩ := eblk3 H14.out.2.1
      have b15 := box3_below w14 (.int .i64 k) (.int .i64 t) (.slice x13 l.length c13) 24
      have N15 : Blk (w14.alloc (.cells #[.int .i64 k, .int .i64 t, .slice x13 l.length c13] 24)) w14.heap.size 24 [.int .i64 k, .int .i64 t, .slice x13 l.length c13] := Blk.new' w14 _ _
      obtain ⟨⟨j0, j1, j2⟩, -⟩ := eblk3 (H3.out.later (below_then H14.out.1 b15)).me
      have b16 := box3_below (w14.alloc (.cells #[.int .i64 k, .int .i64 t, .slice x13 l.length c13] 24)) (.int .i64 k) (.int .i64 t) (.slice x l.length c) 24
      have N16 : Blk ((w14.alloc (.cells #[.int .i64 k, .int .i64 t, .slice x13 l.length c13] 24)).alloc (.cells #[.int .i64 k, .int .i64 t, .slice x l.length c] 24)) (w14.alloc (.cells #[.int .i64 k, .int .i64 t, .slice x13 l.length c13] 24)).heap.size 24 [.int .i64 k, .int .i64 t, .slice x l.length c] := Blk.new' _ _ _
      have hs15 : (w14.alloc (.cells #[.int .i64 k, .int .i64 t, .slice x13 l.length c13] 24)).heap.size = w14.heap.size + 1 := by first | simp | rfl
      rw [hs15] at N16
      have H16 : Hid (Below w14.heap.size w14 ((w14.alloc (.cells #[.int .i64 k, .int .i64 t, .slice x13 l.length c13] 24)).alloc (.cells #[.int .i64 k, .int .i64 t, .slice x l.length c] 24)) ∧ Blk ((w14.alloc (.cells #[.int .i64 k, .int .i64 t, .slice x13 l.length c13] 24)).alloc (.cells #[.int .i64 k, .int .i64 t, .slice x l.length c] 24)) w14.heap.size 24 [.int .i64 k, .int .i64 t, .slice x13 l.length c13] ∧ Blk ((w14.alloc (.cells #[.int .i64 k, .int .i64 t, .slice x13 l.length c13] 24)).alloc (.cells #[.int .i64 k, .int .i64 t, .slice x l.length c] 24)) (w14.heap.size + 1) 24 [.int .i64 k, .int .i64 t, .slice x l.length c]) := ⟨below_then b15 b16, N15.laterB b16, N16⟩
      clear b15 b16 N15 N16 hs15
      go_wp2_with fail
      clear d0 d1 d2 j0 j1 j2
      generalize (w14.alloc (.cells #[.int .i64 k, .int .i64 t, .slice x13 l.length c13] 24)).alloc (.cells #[.int .i64 k, .int .i64 t, .slice x l.length c] 24) = w16 at *
      have HSm : Calls Try.prog 11 #[.slice (some ⟨w14.heap.size, 0, none⟩) 1 1, .slice (some ⟨w14.heap.size + 1, 0, none⟩) 1 1] w16 fun e w' => e = .returned (.bool true) ∧ Below w16.heap.size w16 w' := same9_yes (some ⟨w14.heap.size, 0, none⟩) (some ⟨w14.heap.size + 1, 0, none⟩) 1 1 [(k, t, l)] w16 (by simp) (by simp) (by simp) (earg1 H16.out.2.1 (H14.out.2.2.1.later H16.out.1) hle13 H14.out.2.2.2 HP.out.1 HP.out.2.1 hll) (earg1 H16.out.2.2 ((H3.out.later H14.out.1).rx.later H16.out.1) hc HP.out.2.2.2.1 HP.out.1 HP.out.2.1 hll)
      refine HSm.mono ?_
      rintro r w17 ⟨rfl, b17⟩
      have F : Hid (Below w.heap.size w w17) := below_then (below_then (H3.out.later H14.out.1).be H16.out.1) b17
      clear H16 b17 HSm H14
      go_wp2_with fail
      refine (known9_any w17).mono ?_
      rintro e wz ⟨rfl, bz⟩
      have G : Hid _ := below_then F.out bz
      clear bz
      go_wp2
      go_ret
      exact ⟨rfl, G.out⟩
    · have q1 : (f == 0) = false := by rw [beq_eq_false_iff_ne]; exact hf0
      have F : Hid (Below w.heap.size w w12) := (H3.out.later HB.out).be
      clear hf0
      go_wp2_with fail
      refine (known9_any w12).mono ?_
      rintro e wz ⟨rfl, bz⟩
      have G : Hid _ := below_then F.out bz
      clear bz
      go_wp2
      go_ret
      exact ⟨rfl, G.out⟩
  · have q0 : (g == 0) = false := by rw [beq_eq_false_iff_ne]; exact hg0
    clear hg0
    obtain ⟨w12, hw12⟩ : ∃ x, x = w' := ⟨_, rfl⟩
    subst hw12
    have HB : Hid (Below w3.heap.size w3 w12) := H11.out.1
    clear H11
    by_cases hf0 : f = 0
    · have hce : canE (k, t, l) = true := by
        cases h : canE (k, t, l) with
        | true => rfl
        | false =>
          have := HF.out.1
          unfold pkE at this
          rw [h] at this
          rw [hf0] at this
          simp at this
      have hPe : P = packE (k, t, l) := by rw [HF.out.2.1]; unfold pkB; rw [if_pos hce]
      have hup : unp P = ((k, t, l), 0) := by rw [hPe]; exact unp_pack hce
      have hpl : P.length ≤ 5000 := by
        have h9 : l.length ≤ 4080 := canE_len hce
        rw [hPe, packE_len]; show 9 + l.length ≤ _; omega
      have N13 := enUnpack_any z1 P.length k1 P w12 rfl HF.out.2.2.2 (H3.out.later HB.out).r1 HF.out.2.2.1 (by omega)
      rw [hup] at N13
      simp only at N13
      have q1 : (f == 0) = true := by rw [beq_iff_eq]; exact hf0
      clear hPe hup hf0
      go_wp2_with fail
      refine N13.mono ?_
      rintro r w13 ⟨x13, c13, rfl, o13, b13⟩
      have b14 := box3_below w13 (.int .i64 k) (.int .i64 t) (.slice x13 l.length c13) 24
      have M14 : Blk (w13.alloc (.cells #[.int .i64 k, .int .i64 t, .slice x13 l.length c13] 24)) w13.heap.size 24 [.int .i64 k, .int .i64 t, .slice x13 l.length c13] := Blk.new' w13 _ _
      obtain ⟨x13', c13', hv13, hle13, -, r13, hn13, -⟩ := o13.open
      simp only [Value.slice.injEq] at hv13
      obtain ⟨rfl, -, rfl⟩ := hv13
      have H14 : Hid (Below w3.heap.size w3 (w13.alloc (.cells #[.int .i64 k, .int .i64 t, .slice x13 l.length c13] 24)) ∧ Blk (w13.alloc (.cells #[.int .i64 k, .int .i64 t, .slice x13 l.length c13] 24)) w13.heap.size 24 [.int .i64 k, .int .i64 t, .slice x13 l.length c13] ∧ Row (w13.alloc (.cells #[.int .i64 k, .int .i64 t, .slice x13 l.length c13] 24)) x13 l ∧ (x13 = none → c13 = 0)) := ⟨below_then (below_then HB.out b13) b14, M14, r13.later b14, hn13⟩
      clear N13 o13 b13 b14 M14 r13 hn13 HB q1
      go_upto_region 18 with fail
      generalize w13.alloc (.cells #[.int .i64 k, .int .i64 t, .slice x13 l.length c13] 24) = w14 at *
      obtain ⟨⟨d0, d1, d2⟩, -⟩ := eblk3 H14.out.2.1
      have b15 := box3_below w14 (.int .i64 k) (.int .i64 t) (.slice x13 l.length c13) 24
      have N15 : Blk (w14.alloc (.cells #[.int .i64 k, .int .i64 t, .slice x13 l.length c13] 24)) w14.heap.size 24 [.int .i64 k, .int .i64 t, .slice x13 l.length c13] := Blk.new' w14 _ _
      obtain ⟨⟨j0, j1, j2⟩, -⟩ := eblk3 (H3.out.later (below_then H14.out.1 b15)).me
      have b16 := box3_below (w14.alloc (.cells #[.int .i64 k, .int .i64 t, .slice x13 l.length c13] 24)) (.int .i64 k) (.int .i64 t) (.slice x l.length c) 24
      have N16 : Blk ((w14.alloc (.cells #[.int .i64 k, .int .i64 t, .slice x13 l.length c13] 24)).alloc (.cells #[.int .i64 k, .int .i64 t, .slice x l.length c] 24)) (w14.alloc (.cells #[.int .i64 k, .int .i64 t, .slice x13 l.length c13] 24)).heap.size 24 [.int .i64 k, .int .i64 t, .slice x l.length c] := Blk.new' _ _ _
      have hs15 : (w14.alloc (.cells #[.int .i64 k, .int .i64 t, .slice x13 l.length c13] 24)).heap.size = w14.heap.size + 1 := by first | simp | rfl
      rw [hs15] at N16
      have H16 : Hid (Below w14.heap.size w14 ((w14.alloc (.cells #[.int .i64 k, .int .i64 t, .slice x13 l.length c13] 24)).alloc (.cells #[.int .i64 k, .int .i64 t, .slice x l.length c] 24)) ∧ Blk ((w14.alloc (.cells #[.int .i64 k, .int .i64 t, .slice x13 l.length c13] 24)).alloc (.cells #[.int .i64 k, .int .i64 t, .slice x l.length c] 24)) w14.heap.size 24 [.int .i64 k, .int .i64 t, .slice x13 l.length c13] ∧ Blk ((w14.alloc (.cells #[.int .i64 k, .int .i64 t, .slice x13 l.length c13] 24)).alloc (.cells #[.int .i64 k, .int .i64 t, .slice x l.length c] 24)) (w14.heap.size + 1) 24 [.int .i64 k, .int .i64 t, .slice x l.length c]) := ⟨below_then b15 b16, N15.laterB b16, N16⟩
      clear b15 b16 N15 N16 hs15
      go_wp2_with fail
      clear d0 d1 d2 j0 j1 j2
      generalize (w14.alloc (.cells #[.int .i64 k, .int .i64 t, .slice x13 l.length c13] 24)).alloc (.cells #[.int .i64 k, .int .i64 t, .slice x l.length c] 24) = w16 at *
      have HSm : Calls Try.prog 11 #[.slice (some ⟨w14.heap.size, 0, none⟩) 1 1, .slice (some ⟨w14.heap.size + 1, 0, none⟩) 1 1] w16 fun e w' => e = .returned (.bool true) ∧ Below w16.heap.size w16 w' := same9_yes (some ⟨w14.heap.size, 0, none⟩) (some ⟨w14.heap.size + 1, 0, none⟩) 1 1 [(k, t, l)] w16 (by simp) (by simp) (by simp) (earg1 H16.out.2.1 (H14.out.2.2.1.later H16.out.1) hle13 H14.out.2.2.2 HP.out.1 HP.out.2.1 hll) (earg1 H16.out.2.2 ((H3.out.later H14.out.1).rx.later H16.out.1) hc HP.out.2.2.2.1 HP.out.1 HP.out.2.1 hll)
      refine HSm.mono ?_
      rintro r w17 ⟨rfl, b17⟩
      have F : Hid (Below w.heap.size w w17) := below_then (below_then (H3.out.later H14.out.1).be H16.out.1) b17
      clear H16 b17 HSm H14
      go_wp2_with fail
      refine (known9_any w17).mono ?_
      rintro e wz ⟨rfl, bz⟩
      have G : Hid _ := below_then F.out bz
      clear bz
      go_wp2
      go_ret
      exact ⟨rfl, G.out⟩
    · have q1 : (f == 0) = false := by rw [beq_eq_false_iff_ne]; exact hf0
      have F : Hid (Below w.heap.size w w12) := (H3.out.later HB.out).be
      clear hf0
      go_wp2_with fail
      refine (known9_any w12).mono ?_
      rintro e wz ⟨rfl, bz⟩
      have G : Hid _ := below_then F.out bz
      clear bz
      go_wp2
      go_ret
      exact ⟨rfl, G.out⟩
end Go.Proofs.Ytmcljbpemninlaa
