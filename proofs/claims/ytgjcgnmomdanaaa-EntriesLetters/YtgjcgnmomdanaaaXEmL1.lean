/- Messages as bytes and back: EntriesLetters's walk. -/
import Derived.Test.YtgjcgnmomdanaaaXEmM
import Derived.Test.YtgjcgnmomdanaaaXEpL1
namespace Go.Proofs.Ytgjcgnmomdanaaa
open Go.RowKit Go.Shelf
set_option linter.unusedVariables false
set_option maxRecDepth 8000

/-- what stands -/
structure LW (w W : World) (m : Mg) (ea : Option Addr) (ec : Nat) (da : Option Addr) (dc : Nat) (a1 : Option Addr) (l1 : List (BitVec 8)) (go : Nat) : Prop where
  be : Below w.heap.size w W
  me : Blk W w.heap.size 25 [.int .i64 m.kd, .int .i64 m.fr, .int .i64 m.too, .int .i64 m.tm, .int .i64 m.at_, .int .i64 m.att, .int .i64 m.cm, .int .i64 m.rd, .bool m.yes, .slice ea m.es.length ec, .slice da m.dt.length dc]
  mo : MOk W m ea ec da dc
  rb : Row W a1 l1
  ro : Row W (some ⟨go, 0, none⟩) (l1 ++ [167#8])
theorem LW.later {w W W' : World} {m : Mg} {ea : Option Addr} {ec : Nat} {da : Option Addr} {dc : Nat} {a1 : Option Addr} {l1 : List (BitVec 8)} {go : Nat} (h : LW w W m ea ec da dc a1 l1 go) (hb : Below W.heap.size W W') : LW w W' m ea ec da dc a1 l1 go :=
  ⟨below_then h.be hb, h.me.laterB hb, h.mo.later hb, h.rb.later hb, h.ro.later hb⟩
set_option maxHeartbeats 4000000 in
theorem entriesLetters_walk (m : Mg) (ea : Option Addr) (ec : Nat) (da : Option Addr) (dc : Nat) (a1 : Option Addr) (len1 cap1 : Nat) (l1 : List (BitVec 8)) (w : World) (B0 : EArgs w ea m.es ∧ m.es.length ≤ ec ∧ m.es.length ≤ 140737488355328 ∧ Row w da m.dt ∧ m.dt.length ≤ dc ∧ m.dt.length ≤ 140737488351232 ∧ (da = none → dc = 0)) (B1 : Arg 140737488351232 w a1 len1 cap1 l1) :
    Calls Try.prog 3 #[.agg #[.int .i64 m.kd, .int .i64 m.fr, .int .i64 m.too, .int .i64 m.tm, .int .i64 m.at_, .int .i64 m.att, .int .i64 m.cm, .int .i64 m.rd, .bool m.yes, .slice ea m.es.length ec, .slice da m.dt.length dc], .slice a1 len1 cap1] w fun e w' => e = .returned (.bool true) ∧ Below w.heap.size w w' := by
  obtain ⟨h1, h2, h3, h4, h5, h6, h7⟩ := B0
  obtain ⟨hl1, hle1, hbd1, hrb, hn1⟩ := B1
  subst hl1
  have b0 := box11_below w #[.int .i64 m.kd, .int .i64 m.fr, .int .i64 m.too, .int .i64 m.tm, .int .i64 m.at_, .int .i64 m.att, .int .i64 m.cm, .int .i64 m.rd, .bool m.yes, .slice ea m.es.length ec, .slice da m.dt.length dc] 25
  have M0 : Blk (w.alloc (.cells #[.int .i64 m.kd, .int .i64 m.fr, .int .i64 m.too, .int .i64 m.tm, .int .i64 m.at_, .int .i64 m.att, .int .i64 m.cm, .int .i64 m.rd, .bool m.yes, .slice ea m.es.length ec, .slice da m.dt.length dc] 25)) w.heap.size 25 [.int .i64 m.kd, .int .i64 m.fr, .int .i64 m.too, .int .i64 m.tm, .int .i64 m.at_, .int .i64 m.att, .int .i64 m.cm, .int .i64 m.rd, .bool m.yes, .slice ea m.es.length ec, .slice da m.dt.length dc] := Blk.new' w _ _
  have HP : Hid (MOk w m ea ec da dc ∧ Row w a1 l1 ∧ (a1 = none → cap1 = 0) ∧ l1.length ≤ cap1 ∧ l1.length ≤ 140737488351232) := ⟨⟨h1, h2, h3, h4, h5, h6, h7⟩, hrb, hn1, hle1, by omega⟩
  have HB9 : Hid _ := hbd1
  clear h1 h2 h3 h4 h5 h6 h7 hrb hn1 hle1 hbd1
  have H0 : Hid (Below w.heap.size w (w.alloc (.cells #[.int .i64 m.kd, .int .i64 m.fr, .int .i64 m.too, .int .i64 m.tm, .int .i64 m.at_, .int .i64 m.att, .int .i64 m.cm, .int .i64 m.rd, .bool m.yes, .slice ea m.es.length ec, .slice da m.dt.length dc] 25)) ∧ Blk (w.alloc (.cells #[.int .i64 m.kd, .int .i64 m.fr, .int .i64 m.too, .int .i64 m.tm, .int .i64 m.at_, .int .i64 m.att, .int .i64 m.cm, .int .i64 m.rd, .bool m.yes, .slice ea m.es.length ec, .slice da m.dt.length dc] 25)) w.heap.size 25 [.int .i64 m.kd, .int .i64 m.fr, .int .i64 m.too, .int .i64 m.tm, .int .i64 m.at_, .int .i64 m.att, .int .i64 m.cm, .int .i64 m.rd, .bool m.yes, .slice ea m.es.length ec, .slice da m.dt.length dc]) := ⟨b0, M0⟩
  clear b0 M0
  go_enter Try.func3, Try.ntmps3
  go_wp2_with fail
  generalize w.alloc (.cells #[.int .i64 m.kd, .int .i64 m.fr, .int .i64 m.too, .int .i64 m.tm, .int .i64 m.at_, .int .i64 m.att, .int .i64 m.cm, .int .i64 m.rd, .bool m.yes, .slice ea m.es.length ec, .slice da m.dt.length dc] 25) = wb at *
  refine (Lent_any a1 l1.length cap1 l1 wb ⟨rfl, HP.out.2.2.2.1, HB9.out, Row.later HP.out.2.1 H0.out.1, HP.out.2.2.1⟩).mono ?_
  rintro r w1 ⟨go, co, rfl, oo, hgo, hco, hcm, b1⟩
  obtain ⟨ao, cao, hvo, -, -, ro, -, -⟩ := oo.open
  simp only [Value.slice.injEq] at hvo
  obtain ⟨rfl, -, rfl⟩ := hvo
  have H1 : Hid (LW w w1 m ea ec da dc a1 l1 go) := ⟨below_then H0.out.1 b1, H0.out.2.laterB b1, (HP.out.1.later H0.out.1).later b1, (HP.out.2.1.later H0.out.1).later b1, ro⟩
  have HC : Hid (l1.length + 1 ≤ co) := hco
  clear H0 b1 ro oo hgo hco hcm
  have ld := load_msg H1.out.me rfl
  have N := packMsg_any m ea ec da dc w1 H1.out.mo.es H1.out.mo.el H1.out.mo.row H1.out.mo.dl H1.out.mo.dk H1.out.mo.dn
  obtain ⟨f, hf⟩ : ∃ f, f = pmE m := ⟨_, rfl⟩
  obtain ⟨P, hP⟩ : ∃ P, P = pmB m := ⟨_, rfl⟩
  rw [← hf, ← hP] at N
  have HF : Hid (f = pmE m ∧ P = pmB m) := ⟨hf, hP⟩
  clear hf hP
  go_wp2_with (refine wpList_valueM rfl (exec_loadM rfl rfl ld) ?_)
  clear ld
  refine N.mono ?_
  rintro r w2 ⟨z, rfl, o2, b2⟩
  clear N
  obtain ⟨z1, k1, rfl, hk1, -, r1, hz1, -⟩ := o2.open
  have H2 : Hid (LW w w2 m ea ec da dc a1 l1 go ∧ Row w2 z1 P ∧ (z1 = none → k1 = 0) ∧ P.length ≤ k1) := ⟨H1.out.later b2, r1, hz1, hk1⟩
  clear H1 b2 r1 o2 hz1 hk1
  have ld := load_msg H2.out.1.me rfl
  have N := rfPackMsg_any m m.yes rfl ea ec da dc w2 H2.out.1.mo.es H2.out.1.mo.el H2.out.1.mo.row H2.out.1.mo.dl H2.out.1.mo.dk H2.out.1.mo.dn
  rw [← HF.out.1, ← HF.out.2] at N
  go_wp2_with (refine wpList_valueM rfl (exec_loadM rfl rfl ld) ?_)
  clear ld
  refine N.mono ?_
  rintro r w3 ⟨z, rfl, o3, b3⟩
  clear N
  obtain ⟨z2, k2, rfl, -, -, r2, -, -⟩ := o3.open
  have H3 : Hid (LW w w3 m ea ec da dc a1 l1 go ∧ Row w3 z1 P ∧ Row w3 z2 P ∧ (z1 = none → k1 = 0) ∧ P.length ≤ k1) := ⟨H2.out.1.later b3, H2.out.2.1.later b3, r2, H2.out.2.2⟩
  clear H2 b3 r2 o3
  obtain ⟨m', hm'⟩ : ∃ v, v = umM l1 := ⟨_, rfl⟩
  obtain ⟨g, hg⟩ : ∃ v, v = umE l1 := ⟨_, rfl⟩
  have HU : Hid (m' = umM l1 ∧ g = umE l1) := ⟨hm', hg⟩
  clear hm' hg
  have N := unpackMsg_any (some ⟨go, 0, none⟩) l1.length co l1 w3 rfl (by have := HC.out; omega) H3.out.1.ro.front9 (fun e => by cases e) HP.out.2.2.2.2
  go_wp2_with fail
  refine N.mono ?_
  rintro r w4 h4
  clear N
  obtain ⟨e4, c4, d4, k4, rfl, o4, b4⟩ := um_open HP.out.2.2.2.2 h4
  clear h4
  rw [← HU.out.1, ← HU.out.2]
  rw [← HU.out.1] at o4
  obtain ⟨w5, st, B5, b5⟩ := new_msg w4 m' e4 c4 d4 k4
  have hs4 : w4.heap.size < w5.heap.size := B5.lt
  have H5 : Hid (LW w w5 m ea ec da dc a1 l1 go ∧ Row w5 z1 P ∧ Row w5 z2 P ∧ MOk w5 m' e4 c4 d4 k4 ∧ Blk w5 w4.heap.size 25 [.int .i64 m'.kd, .int .i64 m'.fr, .int .i64 m'.too, .int .i64 m'.tm, .int .i64 m'.at_, .int .i64 m'.att, .int .i64 m'.cm, .int .i64 m'.rd, .bool m'.yes, .slice e4 m'.es.length c4, .slice d4 m'.dt.length k4] ∧ (z1 = none → k1 = 0) ∧ P.length ≤ k1) := ⟨H3.out.1.later (below_then b4 b5), H3.out.2.1.later (below_then b4 b5), H3.out.2.2.1.later (below_then b4 b5), o4.later b5, B5, H3.out.2.2.2⟩
  clear H3 o4 b4 B5 b5 hs4
  go_wp2_with (refine wpList_skipM rfl (exec_storeM rfl rfl rfl st) ?_)
  clear st
  have N := rUnpackMsg_any a1 l1.length cap1 l1 w5 rfl HP.out.2.2.2.1 H5.out.1.rb HP.out.2.2.1 HP.out.2.2.2.2
  refine N.mono ?_
  rintro r w6 h6
  clear N
  obtain ⟨e6, c6, d6, k6, rfl, o6, b6⟩ := um_open HP.out.2.2.2.2 h6
  clear h6
  rw [← HU.out.1, ← HU.out.2]
  rw [← HU.out.1] at o6
  obtain ⟨w7, st, B7, b7⟩ := new_msg w6 m' e6 c6 d6 k6
  have H7 : Hid (LW w w7 m ea ec da dc a1 l1 go ∧ Row w7 z1 P ∧ Row w7 z2 P ∧ MOk w7 m' e4 c4 d4 k4 ∧ Blk w7 w4.heap.size 25 [.int .i64 m'.kd, .int .i64 m'.fr, .int .i64 m'.too, .int .i64 m'.tm, .int .i64 m'.at_, .int .i64 m'.att, .int .i64 m'.cm, .int .i64 m'.rd, .bool m'.yes, .slice e4 m'.es.length c4, .slice d4 m'.dt.length k4] ∧ MOk w7 m' e6 c6 d6 k6 ∧ Blk w7 w6.heap.size 25 [.int .i64 m'.kd, .int .i64 m'.fr, .int .i64 m'.too, .int .i64 m'.tm, .int .i64 m'.at_, .int .i64 m'.att, .int .i64 m'.cm, .int .i64 m'.rd, .bool m'.yes, .slice e6 m'.es.length c6, .slice d6 m'.dt.length k6] ∧ (z1 = none → k1 = 0) ∧ P.length ≤ k1) := ⟨H5.out.1.later (below_then b6 b7), H5.out.2.1.later (below_then b6 b7), H5.out.2.2.1.later (below_then b6 b7), H5.out.2.2.2.1.later (below_then b6 b7), H5.out.2.2.2.2.1.laterB (below_then b6 b7), o6.later b7, B7, H5.out.2.2.2.2.2⟩
  clear H5 o6 b6 B7 b7
  go_upto_region 6 with (refine wpList_skipM rfl (exec_storeM rfl rfl rfl st) ?_)
  clear st
  generalize w4.heap.size = q4 at *
  generalize w6.heap.size = q6 at *

  have s1 := H7.out.2.1.str P.length k1 rfl
  have s2 := H7.out.2.2.1.str P.length k2 rfl
  have ldA := load_msg H7.out.2.2.2.2.1 rfl
  have ldB := load_msg H7.out.2.2.2.2.2.2.1 rfl
  have N := sameMsg_yes m' e4 e6 c4 c6 d4 d6 k4 k6 w7 H7.out.2.2.2.1.el H7.out.2.2.2.1.es H7.out.2.2.2.2.2.1.es H7.out.2.2.2.1.ek H7.out.2.2.2.2.2.1.ek H7.out.2.2.2.1.row H7.out.2.2.2.2.2.1.row
  go_wp2_with (first | (refine wpList_wantedM (by rfl) (exec_loadM rfl rfl ldA) ?_) | (refine wpList_wantedM (by rfl) (exec_loadM rfl rfl ldB) ?_))
  clear ldA ldB s1 s2
  refine N.mono ?_
  rintro r w8 ⟨rfl, b8⟩
  clear N
  have H8 : Hid (LW w w8 m ea ec da dc a1 l1 go ∧ Row w8 z1 P ∧ MOk w8 m' e6 c6 d6 k6 ∧ Blk w8 q6 25 [.int .i64 m'.kd, .int .i64 m'.fr, .int .i64 m'.too, .int .i64 m'.tm, .int .i64 m'.at_, .int .i64 m'.att, .int .i64 m'.cm, .int .i64 m'.rd, .bool m'.yes, .slice e6 m'.es.length c6, .slice d6 m'.dt.length k6] ∧ (z1 = none → k1 = 0) ∧ P.length ≤ k1) := ⟨H7.out.1.later b8, H7.out.2.1.later b8, H7.out.2.2.2.2.2.1.later b8, H7.out.2.2.2.2.2.2.1.laterB b8, H7.out.2.2.2.2.2.2.2⟩
  clear H7 b8
  have HKp := Kept_yes go l1.length co a1 cap1 l1 w8 rfl HC.out HP.out.2.2.2.2 H8.out.1.ro H8.out.1.rb
  go_wp2_with fail
  refine HKp.mono ?_
  rintro r w' ⟨rfl, hw⟩
  have hw2 := hw.symm
  clear hw HKp
  subst hw2
  by_cases hg0 : g = 0
  · have hpu := pm_um (b := l1) (by rw [← HU.out.2]; exact hg0)
    rw [← HU.out.1] at hpu
    have N := packMsg_any m' e6 c6 d6 k6 w8 H8.out.2.2.1.es H8.out.2.2.1.el H8.out.2.2.1.row H8.out.2.2.1.dl H8.out.2.2.1.dk H8.out.2.2.1.dn
    rw [hpu.1, hpu.2] at N
    have q0 : (g == 0) = true := by rw [beq_iff_eq]; exact hg0
    have ld := load_msg H8.out.2.2.2.1 rfl
    clear hpu hg0
    go_wp2_with (refine wpList_valueM rfl (exec_loadM rfl rfl ld) ?_)
    clear ld
    refine N.mono ?_
    rintro r w12 ⟨z, rfl, o12, b12⟩
    obtain ⟨z3, k3, rfl, -, -, r3, -, -⟩ := o12.open
    have HB : Hid (LW w w12 m ea ec da dc a1 l1 go ∧ Row w12 z1 P ∧ (z1 = none → k1 = 0) ∧ P.length ≤ k1) := ⟨H8.out.1.later b12, H8.out.2.1.later b12, H8.out.2.2.2.2⟩
    have s3 := r3.str l1.length k3 rfl
    have s4 := HB.out.1.rb.str l1.length cap1 rfl
    clear N o12 b12 r3 H8
    by_cases hf0 : f = 0
    · have hpu := um_pm (m := m) (by rw [← HF.out.1]; exact hf0)
      have hbl : P.length ≤ 140737488351232 := by
        have h1 := pm_ok (m := m) (by rw [← HF.out.1]; exact hf0)
        have h2 := bodyM_lenK m
        have h3 : P.length = (bodyM m).length + 4 := by rw [HF.out.2]; unfold pmB; rw [if_pos (by rw [← HF.out.1]; exact hf0), List.length_append, be_length _ _ (by omega)]
        omega
      rw [← HF.out.2] at hpu
      have N := unpackMsg_any z1 P.length k1 P w12 rfl HB.out.2.2.2 HB.out.2.1 HB.out.2.2.1 hbl
      have HQ : Hid _ := And.intro hpu hbl
      have q1 : (f == 0) = true := by rw [beq_iff_eq]; exact hf0
      clear hpu hbl hf0
      go_wp2_with fail
      refine N.mono ?_
      rintro r w13 h13
      clear N
      obtain ⟨e13, c13, d13, k13, rfl, o13, b13⟩ := um_open HQ.out.2 h13
      clear h13
      rw [HQ.out.1.1, HQ.out.1.2]
      rw [HQ.out.1.2] at o13
      obtain ⟨w14, st, B14, b14⟩ := new_msg w13 m e13 c13 d13 k13
      have H14 : Hid (LW w w14 m ea ec da dc a1 l1 go ∧ MOk w14 m e13 c13 d13 k13 ∧ Blk w14 w13.heap.size 25 [.int .i64 m.kd, .int .i64 m.fr, .int .i64 m.too, .int .i64 m.tm, .int .i64 m.at_, .int .i64 m.att, .int .i64 m.cm, .int .i64 m.rd, .bool m.yes, .slice e13 m.es.length c13, .slice d13 m.dt.length k13]) := ⟨HB.out.1.later (below_then b13 b14), o13.later b14, B14⟩
      clear o13 b13 b14 B14 HB q1
      go_upto_region 15 with (refine wpList_skipM rfl (exec_storeM rfl rfl rfl st) ?_)
      clear st
      have ldA := load_msg H14.out.1.me rfl
      have ldB := load_msg H14.out.2.2 rfl
      have N := sameMsg_yes m e13 ea c13 ec d13 da k13 dc w14 H14.out.2.1.el H14.out.2.1.es H14.out.1.mo.es H14.out.2.1.ek H14.out.1.mo.ek H14.out.2.1.row H14.out.1.mo.row
      go_wp2_with (first | (refine wpList_wantedM (by rfl) (exec_loadM rfl rfl ldA) ?_) | (refine wpList_wantedM (by rfl) (exec_loadM rfl rfl ldB) ?_))
      clear ldA ldB
      refine N.mono ?_
      rintro r w17 ⟨rfl, b17⟩
      have F : Hid (Below w.heap.size w w17) := below_then H14.out.1.be b17
      clear H14 b17 N
      go_wp2_with fail
      refine (known9_any w17).mono ?_
      rintro e wz ⟨rfl, bz⟩
      have G : Hid _ := below_then F.out bz
      clear bz
      go_wp2
      go_ret
      exact ⟨rfl, G.out⟩
    · have q1 : (f == 0) = false := by rw [beq_eq_false_iff_ne]; exact hf0
      have F : Hid (Below w.heap.size w w12) := HB.out.1.be
      clear hf0
      go_wp2_with fail
      refine (known9_any w12).mono ?_
      rintro e wz ⟨rfl, bz⟩
      have G : Hid _ := below_then F.out bz
      clear bz
      go_wp2
      go_ret
      exact ⟨rfl, G.out⟩
  · have q0 : (g == 0) = false := by rw [beq_eq_false_iff_ne]; exact hg0
    clear hg0
    have HB : Hid (LW w w8 m ea ec da dc a1 l1 go ∧ Row w8 z1 P ∧ (z1 = none → k1 = 0) ∧ P.length ≤ k1) := ⟨H8.out.1, H8.out.2.1, H8.out.2.2.2.2⟩
    clear H8
    by_cases hf0 : f = 0
    · have hpu := um_pm (m := m) (by rw [← HF.out.1]; exact hf0)
      have hbl : P.length ≤ 140737488351232 := by
        have h1 := pm_ok (m := m) (by rw [← HF.out.1]; exact hf0)
        have h2 := bodyM_lenK m
        have h3 : P.length = (bodyM m).length + 4 := by rw [HF.out.2]; unfold pmB; rw [if_pos (by rw [← HF.out.1]; exact hf0), List.length_append, be_length _ _ (by omega)]
        omega
      rw [← HF.out.2] at hpu
      have N := unpackMsg_any z1 P.length k1 P w8 rfl HB.out.2.2.2 HB.out.2.1 HB.out.2.2.1 hbl
      have HQ : Hid _ := And.intro hpu hbl
      have q1 : (f == 0) = true := by rw [beq_iff_eq]; exact hf0
      clear hpu hbl hf0
      go_wp2_with fail
      refine N.mono ?_
      rintro r w13 h13
      clear N
      obtain ⟨e13, c13, d13, k13, rfl, o13, b13⟩ := um_open HQ.out.2 h13
      clear h13
      rw [HQ.out.1.1, HQ.out.1.2]
      rw [HQ.out.1.2] at o13
      obtain ⟨w14, st, B14, b14⟩ := new_msg w13 m e13 c13 d13 k13
      have H14 : Hid (LW w w14 m ea ec da dc a1 l1 go ∧ MOk w14 m e13 c13 d13 k13 ∧ Blk w14 w13.heap.size 25 [.int .i64 m.kd, .int .i64 m.fr, .int .i64 m.too, .int .i64 m.tm, .int .i64 m.at_, .int .i64 m.att, .int .i64 m.cm, .int .i64 m.rd, .bool m.yes, .slice e13 m.es.length c13, .slice d13 m.dt.length k13]) := ⟨HB.out.1.later (below_then b13 b14), o13.later b14, B14⟩
      clear o13 b13 b14 B14 HB q1
      go_upto_region 15 with (refine wpList_skipM rfl (exec_storeM rfl rfl rfl st) ?_)
      clear st
      have ldA := load_msg H14.out.1.me rfl
      have ldB := load_msg H14.out.2.2 rfl
      have N := sameMsg_yes m e13 ea c13 ec d13 da k13 dc w14 H14.out.2.1.el H14.out.2.1.es H14.out.1.mo.es H14.out.2.1.ek H14.out.1.mo.ek H14.out.2.1.row H14.out.1.mo.row
      go_wp2_with (first | (refine wpList_wantedM (by rfl) (exec_loadM rfl rfl ldA) ?_) | (refine wpList_wantedM (by rfl) (exec_loadM rfl rfl ldB) ?_))
      clear ldA ldB
      refine N.mono ?_
      rintro r w17 ⟨rfl, b17⟩
      have F : Hid (Below w.heap.size w w17) := below_then H14.out.1.be b17
      clear H14 b17 N
      go_wp2_with fail
      refine (known9_any w17).mono ?_
      rintro e wz ⟨rfl, bz⟩
      have G : Hid _ := below_then F.out bz
      clear bz
      go_wp2
      go_ret
      exact ⟨rfl, G.out⟩
    · have q1 : (f == 0) = false := by rw [beq_eq_false_iff_ne]; exact hf0
      have F : Hid (Below w.heap.size w w8) := HB.out.1.be
      clear hf0
      go_wp2_with fail
      refine (known9_any w8).mono ?_
      rintro e wz ⟨rfl, bz⟩
      have G : Hid _ := below_then F.out bz
      clear bz
      go_wp2
      go_ret
      exact ⟨rfl, G.out⟩
end Go.Proofs.Ytgjcgnmomdanaaa

