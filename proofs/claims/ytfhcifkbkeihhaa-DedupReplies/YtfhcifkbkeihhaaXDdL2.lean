/- DedupReplies. -/
import Derived.Test.YtfhcifkbkeihhaaXDd18
import Derived.Test.YtfhcifkbkeihhaaXOpA
import Derived.Deep.CutRange
namespace Go.Proofs.Ytfhcifkbkeihhaa
open Go.RowKit
set_option linter.unusedVariables false
set_option linter.unusedSimpArgs false
set_option maxRecDepth 8000

theorem Row.front12 {W : World} {a : Option Addr} {l y : List (BitVec 8)} (h : Row W a (l ++ y)) : Row W a l := by
  rcases h with h | ⟨b, off, rfl, hc⟩
  · exact .inl (List.append_eq_nil_iff.1 h).1
  · refine .inr ⟨b, off, rfl, fun i hi => ?_⟩
    rw [hc i (by rw [List.length_append]; omega)]
    simp [bt, List.getElem?_append_left hi]
theorem grR_len (l : List (BitVec 8)) : (grR l).2.2.2.2.length ≤ l.length := by
  unfold grR
  split
  · exact gr5_len l
  · exact Nat.zero_le _
theorem prB_len (a b c d : Int) (l : List (BitVec 8)) (h : prE a b c d l.length = 0) : (prB a b c d l).length ≤ 5000 := by
  have hl : l.length ≤ 4096 := by
    unfold prE at h
    by_cases k : fourOk a b c d
    · rw [if_pos k] at h
      by_cases k : l.length ≤ 4096
      · exact k
      · rw [if_neg k] at h; cases h
    · rw [if_neg k] at h; cases h
  unfold prB
  rw [if_pos h]
  have := fourB_len a b c d 4
  simp only [List.length_append, be_length _ _ (show 2 ≤ 8 by omega)]
  omega
theorem own_row12 {w : World} {base len c : Nat} {a : Option Addr} {l : List (BitVec 8)} (h : Own w base (.slice a len c) l) : Row w a l ∧ l.length ≤ c ∧ (a = none → c = 0) := by
  obtain ⟨a', cap, hv, h1, _, hr, hn, _⟩ := h.open
  injection hv with e1 e2 e3
  subst e1 e3
  exact ⟨hr, h1, hn⟩
/-- what stands from when both have put -/
structure RW (w W : World) (a b c d : Int) (l : List (BitVec 8)) (x : Option Addr) (cp : Nat) (a1 : Option Addr) (l1 : List (BitVec 8)) (go : Nat) (z1 : Option Addr) (P : List (BitVec 8)) : Prop where
  be : Below w.heap.size w W
  me : Blk W w.heap.size 24 [.int .i64 a, .int .i64 b, .int .i64 c, .int .i64 d, .slice x l.length cp]
  rx : Row W x l
  rb : Row W a1 l1
  ro : Row W (some ⟨go, 0, none⟩) (l1 ++ [167#8])
  r1 : Row W z1 P
theorem RW.later {w W W' : World} {a b c d : Int} {l : List (BitVec 8)} {x : Option Addr} {cp : Nat} {a1 : Option Addr} {l1 : List (BitVec 8)} {go : Nat} {z1 : Option Addr} {P : List (BitVec 8)} (h : RW w W a b c d l x cp a1 l1 go z1 P) (hb : Below W.heap.size W W') : RW w W' a b c d l x cp a1 l1 go z1 P :=
  ⟨below_then h.be hb, h.me.laterB hb, h.rx.later hb, h.rb.later hb, h.ro.later hb, h.r1.later hb⟩
set_option maxHeartbeats 8000000 in
theorem dedupReplies_walk (a b c d : Int) (l : List (BitVec 8)) (x : Option Addr) (cp : Nat) (a1 : Option Addr) (len1 cap1 : Nat) (l1 : List (BitVec 8)) (w : World) (B0 : I64 a ∧ I64 b ∧ I64 c ∧ I64 d ∧ DatOk w x l cp) (B1 : Arg 140737488351232 w a1 len1 cap1 l1) :
    Calls Try.prog 3 #[.agg #[.int .i64 a, .int .i64 b, .int .i64 c, .int .i64 d, .slice x l.length cp], .slice a1 len1 cap1] w fun e w' => e = .returned (.bool true) ∧ Below w.heap.size w w' := by
  obtain ⟨-, -, -, -, hD⟩ := B0
  obtain ⟨hl1, hle1, hbd1, hrb, hn1⟩ := B1
  subst hl1
  have b0 : Below w.heap.size w (w.alloc (.cells #[.int .i64 a, .int .i64 b, .int .i64 c, .int .i64 d, .slice x l.length cp] 24)) := (Below.refl _ _).alloc (Nat.le_refl _) _
  have M0 := Blk.new' w 24 [.int .i64 a, .int .i64 b, .int .i64 c, .int .i64 d, .slice x l.length cp]
  have HP : Hid (DatOk w x l cp ∧ Row w a1 l1 ∧ (a1 = none → cap1 = 0)) := ⟨hD, hrb, hn1⟩
  have hll := hD.most
  have hlc := hD.le
  have NL : Hid _ := Lent_any a1 l1.length cap1 l1 (w.alloc (.cells #[.int .i64 a, .int .i64 b, .int .i64 c, .int .i64 d, .slice x l.length cp] 24)) ⟨rfl, hle1, hbd1, hrb.later b0, hn1⟩
  clear hD hrb hn1
  have H0 : Hid _ := And.intro b0 M0
  clear b0 M0
  go_enter Try.func3, Try.ntmps3
  go_wp2_with fail
  generalize w.alloc (.cells #[.int .i64 a, .int .i64 b, .int .i64 c, .int .i64 d, .slice x l.length cp] 24) = wb at *
  refine (Calls.mono NL.out) ?_
  rintro r w1 ⟨go, co, rfl, oo, hgo, hco, hcm, b1⟩
  have ro := (own_row12 oo).1
  have H1 : Hid (Below w.heap.size w w1 ∧ Blk w1 w.heap.size 24 [.int .i64 a, .int .i64 b, .int .i64 c, .int .i64 d, .slice x l.length cp] ∧ Row w1 (some ⟨go, 0, none⟩) (l1 ++ [167#8])) := ⟨below_then H0.out.1 b1, H0.out.2.laterB b1, ro⟩
  clear H0 b1 ro oo NL
  have y0 := blk_at H1.out.2.1 0
  have y1 := blk_at H1.out.2.1 1
  have y2 := blk_at H1.out.2.1 2
  have y3 := blk_at H1.out.2.1 3
  have y4 := blk_at H1.out.2.1 4
  simp only [List.getElem?_cons_zero, List.getElem?_cons_succ] at y0 y1 y2 y3 y4
  have N1 : Hid _ := putReply_any a b c d x cp l w1 hll hlc HP.out.1.nil (HP.out.1.row.later H1.out.1)
  go_wp2_with fail
  clear y0 y1 y2 y3 y4
  refine (Calls.mono N1.out) ?_
  rintro r w2 ⟨z, rfl, o2, b2⟩
  obtain ⟨f, hf⟩ : ∃ f, f = prE a b c d l.length := ⟨_, rfl⟩
  obtain ⟨P, hP⟩ : ∃ P, P = prB a b c d l := ⟨_, rfl⟩
  rw [← hf]
  rw [← hP] at o2
  obtain ⟨z1, k1, rfl, hk1, hm1, r1, hz1, -⟩ := o2.open
  have HF : Hid (f = prE a b c d l.length ∧ P = prB a b c d l ∧ (z1 = none → k1 = 0) ∧ P.length ≤ k1) := ⟨hf, hP, hz1, hk1⟩
  have H2 : Hid (RW w w2 a b c d l x cp a1 l1 go z1 P) := ⟨below_then H1.out.1 b2, H1.out.2.1.laterB b2, HP.out.1.row.later (below_then H1.out.1 b2), HP.out.2.1.later (below_then H1.out.1 b2), H1.out.2.2.later b2, r1⟩
  clear H1 b2 r1 o2 hf hP hz1 hm1 hk1 N1
  have y0 := blk_at H2.out.me 0
  have y1 := blk_at H2.out.me 1
  have y2 := blk_at H2.out.me 2
  have y3 := blk_at H2.out.me 3
  have y4 := blk_at H2.out.me 4
  simp only [List.getElem?_cons_zero, List.getElem?_cons_succ] at y0 y1 y2 y3 y4
  have N2 : Hid _ := qputReply_any a b c d x cp l w2 hll hlc HP.out.1.nil H2.out.rx
  go_wp2_with fail
  clear y0 y1 y2 y3 y4
  refine (Calls.mono N2.out) ?_
  rintro r w3 ⟨z, rfl, o3, b3⟩
  rw [← HF.out.1]
  rw [← HF.out.2.1] at o3
  obtain ⟨z2, k2, rfl, -, -, r2, -, -⟩ := o3.open
  have H3 : Hid (RW w w3 a b c d l x cp a1 l1 go z1 P ∧ Row w3 z2 P) := ⟨H2.out.later b3, r2⟩
  clear H2 b3 r2 o3 N2
  have N3 : Hid _ := getReply_any (some ⟨go, 0, none⟩) l1.length co l1 w3 rfl (by omega) H3.out.1.ro.front12 (fun e => by cases e) (by omega)
  have N4 : Hid (∀ W, Below w3.heap.size w3 W → _) := fun W hW => qgetReply_any a1 l1.length cap1 l1 W rfl hle1 (H3.out.1.later hW).rb HP.out.2.2 (by omega)
  have hCl := grR_len l1
  obtain ⟨rr, hrr⟩ : ∃ r, r = grR l1 := ⟨_, rfl⟩
  obtain ⟨g, hg⟩ : ∃ v, v = grE l1 := ⟨_, rfl⟩
  rw [← hrr] at hCl
  simp only [← hrr, ← hg] at N3 N4
  clear hrr hg
  obtain ⟨K1, K2, K3, K4, C⟩ := rr
  simp only at N3 N4 hCl
  have hCb : C.length ≤ 140737488351232 := by omega
  go_wp2_with fail
  refine (Calls.mono N3.out) ?_
  rintro r w4 ⟨x4, c4, rfl, o4, b4⟩
  have b5 : Below w4.heap.size w4 (w4.alloc (.cells #[.int .i64 K1, .int .i64 K2, .int .i64 K3, .int .i64 K4, .slice x4 C.length c4] 24)) := (Below.refl _ _).alloc (Nat.le_refl _) _
  have M5 := Blk.new' w4 24 [.int .i64 K1, .int .i64 K2, .int .i64 K3, .int .i64 K4, .slice x4 C.length c4]
  have b35 := below_then b4 b5
  have hs4 := b4.size
  have hv4 : ∀ j, (Value.slice x4 C.length c4).ownBlock = some j → w3.heap.size ≤ j ∧ j < w4.heap.size := fun j hj => World.ownsRow.lt o4 j hj
  have H5 : Hid (Below w3.heap.size w3 (w4.alloc (.cells #[.int .i64 K1, .int .i64 K2, .int .i64 K3, .int .i64 K4, .slice x4 C.length c4] 24)) ∧ Blk (w4.alloc (.cells #[.int .i64 K1, .int .i64 K2, .int .i64 K3, .int .i64 K4, .slice x4 C.length c4] 24)) w4.heap.size 24 [.int .i64 K1, .int .i64 K2, .int .i64 K3, .int .i64 K4, .slice x4 C.length c4] ∧ Own (w4.alloc (.cells #[.int .i64 K1, .int .i64 K2, .int .i64 K3, .int .i64 K4, .slice x4 C.length c4] 24)) w3.heap.size (.slice x4 C.length c4) C) := ⟨b35, M5, o4.later b5⟩
  have HV4 : Hid _ := And.intro hv4 hs4
  have N5 : Hid _ := N4.out _ b35
  clear b4 b5 M5 o4 hv4 N3 N4 b35 hs4
  go_wp2_with fail
  generalize w4.alloc (.cells #[.int .i64 K1, .int .i64 K2, .int .i64 K3, .int .i64 K4, .slice x4 C.length c4] 24) = w5 at *
  refine (Calls.mono N5.out) ?_
  rintro r w6 ⟨x6, c6, rfl, o6, b6⟩
  have b7 : Below w6.heap.size w6 (w6.alloc (.cells #[.int .i64 K1, .int .i64 K2, .int .i64 K3, .int .i64 K4, .slice x6 C.length c6] 24)) := (Below.refl _ _).alloc (Nat.le_refl _) _
  have M7 := Blk.new' w6 24 [.int .i64 K1, .int .i64 K2, .int .i64 K3, .int .i64 K4, .slice x6 C.length c6]
  have b57 := below_then b6 b7
  have H7 : Hid (Below w3.heap.size w3 (w6.alloc (.cells #[.int .i64 K1, .int .i64 K2, .int .i64 K3, .int .i64 K4, .slice x6 C.length c6] 24)) ∧ Blk (w6.alloc (.cells #[.int .i64 K1, .int .i64 K2, .int .i64 K3, .int .i64 K4, .slice x6 C.length c6] 24)) w4.heap.size 24 [.int .i64 K1, .int .i64 K2, .int .i64 K3, .int .i64 K4, .slice x4 C.length c4] ∧ Own (w6.alloc (.cells #[.int .i64 K1, .int .i64 K2, .int .i64 K3, .int .i64 K4, .slice x6 C.length c6] 24)) w3.heap.size (.slice x4 C.length c4) C ∧ Blk (w6.alloc (.cells #[.int .i64 K1, .int .i64 K2, .int .i64 K3, .int .i64 K4, .slice x6 C.length c6] 24)) w6.heap.size 24 [.int .i64 K1, .int .i64 K2, .int .i64 K3, .int .i64 K4, .slice x6 C.length c6] ∧ Row (w6.alloc (.cells #[.int .i64 K1, .int .i64 K2, .int .i64 K3, .int .i64 K4, .slice x6 C.length c6] 24)) x6 C) := ⟨below_then H5.out.1 b57, H5.out.2.1.laterB b57, H5.out.2.2.later b57, M7, (own_row12 o6).1.later b7⟩
  clear H5 b6 b7 M7 b57 o6 N5
  go_upto_region 6 with fail
  generalize w6.alloc (.cells #[.int .i64 K1, .int .i64 K2, .int .i64 K3, .int .i64 K4, .slice x6 C.length c6] 24) = w7 at *
  have s1 := (H3.out.1.later H7.out.1).r1.str P.length k1 rfl
  have s2 := (H3.out.2.later H7.out.1).str P.length k2 rfl
  have y0 := blk_at H7.out.2.1 0
  have y1 := blk_at H7.out.2.1 1
  have y2 := blk_at H7.out.2.1 2
  have y3 := blk_at H7.out.2.1 3
  have y4 := blk_at H7.out.2.1 4
  simp only [List.getElem?_cons_zero, List.getElem?_cons_succ] at y0 y1 y2 y3 y4
  have u0 := blk_at H7.out.2.2.2.1 0
  have u1 := blk_at H7.out.2.2.2.1 1
  have u2 := blk_at H7.out.2.2.2.1 2
  have u3 := blk_at H7.out.2.2.2.1 3
  have u4 := blk_at H7.out.2.2.2.1 4
  simp only [List.getElem?_cons_zero, List.getElem?_cons_succ] at u0 u1 u2 u3 u4
  have N8 : Hid _ := same_yes K1 K2 K3 K4 x4 x6 c4 c6 C w7 hCb (own_row12 H7.out.2.2.1).1 H7.out.2.2.2.2
  go_wp2_with fail
  clear y0 y1 y2 y3 y4 u0 u1 u2 u3 u4
  clear s1 s2
  refine (Calls.mono N8.out) ?_
  rintro r w8 ⟨rfl, b8⟩
  have H8 : Hid (Below w3.heap.size w3 w8 ∧ Blk w8 w4.heap.size 24 [.int .i64 K1, .int .i64 K2, .int .i64 K3, .int .i64 K4, .slice x4 C.length c4] ∧ Own w8 w3.heap.size (.slice x4 C.length c4) C) := ⟨below_then H7.out.1 b8, H7.out.2.1.laterB b8, H7.out.2.2.1.later b8⟩
  clear H7 b8 N8
  have HK1 : Hid _ := Kept_yes go l1.length co a1 cap1 l1 w8 rfl (by omega) (by omega) (H3.out.1.later H8.out.1).ro (H3.out.1.later H8.out.1).rb
  go_wp2_with fail
  refine (Calls.mono HK1.out) ?_
  rintro r w' ⟨rfl, rfl⟩
  clear HK1
  have y4 := blk_at H8.out.2.1 4
  simp only [List.getElem?_cons_zero, List.getElem?_cons_succ] at y4
  have NSp : Hid _ := Spoil_own _ _ C w' H8.out.2.2 hCb
  go_wp2_with fail
  clear y4
  refine (Calls.mono NSp.out) ?_
  rintro r w9 ⟨rfl, g9⟩
  have H9 : Hid (Below w3.heap.size w3 w9) := H8.out.1.grown g9 (by have := H8.out.1.size; omega) (fun j hj => (HV4.out.1 j hj).1)
  clear g9 NSp H8 HV4
  have HK1 : Hid _ := Kept_yes go l1.length co a1 cap1 l1 w9 rfl (by omega) (by omega) (H3.out.1.later H9.out).ro (H3.out.1.later H9.out).rb
  go_wp2_with fail
  refine (Calls.mono HK1.out) ?_
  rintro r w' ⟨rfl, rfl⟩
  by_cases hf0 : f = 0
  · have q1 : (f == 0) = true := by rw [beq_iff_eq]; exact hf0
    have hE : prE a b c d l.length = 0 := by rw [← HF.out.1]; exact hf0
    have hpl : P.length ≤ 5000 := by rw [HF.out.2.1]; exact prB_len a b c d l hE
    have htb := there_back hE
    rw [← HF.out.2.1] at htb
    have N13 : Hid _ := getReply_any z1 P.length k1 P w' rfl HF.out.2.2.2 (H3.out.1.later H9.out).r1 HF.out.2.2.1 (by omega)
    rw [htb.1, htb.2] at N13
    simp only at N13
    clear htb hE hpl HK1 hf0
    go_wp2_with fail
    refine (Calls.mono N13.out) ?_
    rintro r w13 ⟨x13, c13, rfl, o13, b13⟩
    have b14 : Below w13.heap.size w13 (w13.alloc (.cells #[.int .i64 a, .int .i64 b, .int .i64 c, .int .i64 d, .slice x13 l.length c13] 24)) := (Below.refl _ _).alloc (Nat.le_refl _) _
    have M14 := Blk.new' w13 24 [.int .i64 a, .int .i64 b, .int .i64 c, .int .i64 d, .slice x13 l.length c13]
    have H14 : Hid (Below w3.heap.size w3 (w13.alloc (.cells #[.int .i64 a, .int .i64 b, .int .i64 c, .int .i64 d, .slice x13 l.length c13] 24)) ∧ Blk (w13.alloc (.cells #[.int .i64 a, .int .i64 b, .int .i64 c, .int .i64 d, .slice x13 l.length c13] 24)) w13.heap.size 24 [.int .i64 a, .int .i64 b, .int .i64 c, .int .i64 d, .slice x13 l.length c13] ∧ Row (w13.alloc (.cells #[.int .i64 a, .int .i64 b, .int .i64 c, .int .i64 d, .slice x13 l.length c13] 24)) x13 l) := ⟨below_then (below_then H9.out b13) b14, M14, (own_row12 o13).1.later b14⟩
    clear H9 b13 b14 M14 o13 N13 q1
    go_upto_region 12 with fail
    generalize w13.alloc (.cells #[.int .i64 a, .int .i64 b, .int .i64 c, .int .i64 d, .slice x13 l.length c13] 24) = w14 at *
    have y0 := blk_at H14.out.2.1 0
    have y1 := blk_at H14.out.2.1 1
    have y2 := blk_at H14.out.2.1 2
    have y3 := blk_at H14.out.2.1 3
    have y4 := blk_at H14.out.2.1 4
    simp only [List.getElem?_cons_zero, List.getElem?_cons_succ] at y0 y1 y2 y3 y4
    have u0 := blk_at (H3.out.1.later H14.out.1).me 0
    have u1 := blk_at (H3.out.1.later H14.out.1).me 1
    have u2 := blk_at (H3.out.1.later H14.out.1).me 2
    have u3 := blk_at (H3.out.1.later H14.out.1).me 3
    have u4 := blk_at (H3.out.1.later H14.out.1).me 4
    simp only [List.getElem?_cons_zero, List.getElem?_cons_succ] at u0 u1 u2 u3 u4
    have N15 : Hid _ := same_yes a b c d x13 x c13 cp l w14 hll H14.out.2.2 (H3.out.1.later H14.out.1).rx
    go_wp2_with fail
    clear y0 y1 y2 y3 y4 u0 u1 u2 u3 u4
    refine (Calls.mono N15.out) ?_
    rintro r w15 ⟨rfl, b15⟩
    have F : Hid (Below w.heap.size w w15) := below_then (H3.out.1.later H14.out.1).be b15
    clear H14 b15 N15
    go_wp2_with fail
    refine (known12_any w15).mono ?_
    rintro e wz ⟨rfl, bz⟩
    have G : Hid _ := below_then F.out bz
    clear bz
    go_wp2
    go_ret
    exact ⟨rfl, G.out⟩
  · have q1 : (f == 0) = false := by rw [beq_eq_false_iff_ne]; exact hf0
    clear hf0
    go_wp2_with fail
    refine (Calls.mono HK1.out) ?_
    rintro r W ⟨rfl, rfl⟩
    have F : Hid (Below w.heap.size w W) := (H3.out.1.later H9.out).be
    clear HK1
    go_wp2_with fail
    refine (known12_any W).mono ?_
    rintro e wz ⟨rfl, bz⟩
    have G : Hid _ := below_then F.out bz
    clear bz
    go_wp2
    go_ret
    exact ⟨rfl, G.out⟩
end Go.Proofs.Ytfhcifkbkeihhaa

