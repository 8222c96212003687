/- The document's piece. -/
import Derived.Test.YtgonglbgejaffaaXCpJ
import Derived.Test.YtgonglbgejaffaaXFieldX3
namespace Go.Proofs.Ytgonglbgejaffaa
open Go.RowKit Go.Shelf
set_option linter.unusedVariables false
set_option linter.unusedSimpArgs false
set_option maxRecDepth 8000

theorem wr_below7 {w w' : World} {base g T : Nat} {v : Value} {L : List (BitVec 8)} {E : Int} (h : WrAt w base g T v L E) (t : Turned (Mine g v) w w') : Below base w w' := by
  obtain ⟨l, ho, -⟩ := h.own
  refine t.below base h.base_w (fun k hk => ?_)
  rcases hk with rfl | hk
  · exact h.base_g
  · exact (World.ownsRow.lt ho k hk).1
theorem wrB7 (L d : List (BitVec 8)) (h : d.length ≤ 4096) : wrBytes L 0 2 d = (L ++ (be 2 (BitVec.ofNat 64 d.length) ++ d), 0) := by
  have hE : addE 2 d.length = 0 := by
    unfold addE
    rw [if_neg (by decide), if_neg]
    rintro (h1 | h1)
    · omega
    · have h2 : fitsB 2 (BitVec.ofNat 64 d.length) = true := by
        unfold fitsB
        rw [decide_eq_true_eq, BitVec.toNat_ofNat, Nat.mod_eq_of_lt (by omega)]
        exact Nat.div_eq_of_lt (by omega)
      have e : ((2 : Int)).toNat = 2 := rfl
      rw [e, h2] at h1; cases h1
  unfold wrBytes
  rw [if_pos rfl, if_pos hE]; rfl
set_option maxHeartbeats 8000000 in
theorem rpiece_any (id : Int) (num cnt : Int) (s : BitVec 32) (x : Option Addr) (cp : Nat) (d : List (BitVec 8)) (w : World) (hnum : 0 ≤ num ∧ num ≤ 65535) (hcnt : 0 ≤ cnt ∧ cnt ≤ 65535) (hd : d.length ≤ 4096) (hdc : d.length ≤ cp) (hdn : x = none → cp = 0) (hdr : Row w x d) :
    Calls Try.prog 31 #[.int .i64 id, .int .i64 num, .int .i64 cnt, .int .u32 (s.toNat : Int), .slice x d.length cp] w fun e w' => ∃ z, e = .returned z ∧ Own w' w.heap.size z (pcB id num cnt s d) ∧ Below w.heap.size w w' := by
  have HR : Hid (Row w x d ∧ (x = none → cp = 0)) := ⟨hdr, hdn⟩
  have hs := s.isLt
  obtain ⟨S, hS⟩ : ∃ S : Int, S = (s.toNat : Int) := ⟨_, rfl⟩
  have hSb : 0 ≤ S ∧ S ≤ 4294967295 := by omega
  have HSS : Hid _ := hS
  rw [← hS]
  clear hS hs hdr hdn
  have bN : Below w.heap.size w (w.alloc (.cells #[.slice none 0 0, .int .i64 0] 97)) := (Below.refl _ _).alloc (Nat.le_refl _) _
  have H0 : Hid (WrAt (w.alloc (.cells #[.slice none 0 0, .int .i64 0] 97)) w.heap.size w.heap.size 97 (.slice none 0 0) [] 0 ∧ Below w.heap.size w (w.alloc (.cells #[.slice none 0 0, .int .i64 0] 97))) := ⟨⟨Blk.new' w 97 [.slice none 0 0, .int .i64 0], ⟨[], Own.nil _ _, fun _ => rfl⟩, Nat.le_refl _, bN.size, by decide⟩, bN⟩
  clear bN
  go_enter Try.func31, Try.ntmps31
  go_upto_region 2 with fail
  obtain ⟨g, hg⟩ : ∃ g, g = w.heap.size := ⟨_, rfl⟩
  generalize hw0 : (w.alloc (.cells #[.slice none 0 0, .int .i64 0] 97)) = w0 at *
  clear hw0
  have H0 : Hid (WrAt w0 w.heap.size g 97 (.slice none 0 0) [] 0 ∧ Below w.heap.size w w0) := by rw [hg]; exact H0.out
  rw [← hg]
  clear hg
  have N := rwNum_8 w.heap.size g _ _ id w0 H0.out.1 (by simp)
  rw [List.nil_append] at N
  go_wp2_with fail
  refine N.mono ?_
  rintro r w1 ⟨rfl, v1, W1, -, t1⟩
  have H1 : Hid (WrAt w1 w.heap.size g 97 v1 (be 8 (BitVec.ofInt 64 id)) 0 ∧ Below w.heap.size w w1) := ⟨W1, H0.out.2.trans (wr_below7 H0.out.1 t1)⟩
  clear N W1 t1 H0
  have N := rwNum_2 w.heap.size g _ _ num w1 H1.out.1 (by rw [be_length _ _ (by omega)]; omega) (by omega) (by omega)
  go_wp2_with fail
  refine N.mono ?_
  rintro r w2 ⟨rfl, v2, W2, -, t2⟩
  have H2 : Hid (WrAt w2 w.heap.size g 97 v2 (be 8 (BitVec.ofInt 64 id) ++ be 2 (BitVec.ofInt 64 num)) 0 ∧ Below w.heap.size w w2) := ⟨W2, H1.out.2.trans (wr_below7 H1.out.1 t2)⟩
  clear N W2 t2 H1
  have N := rwNum_2 w.heap.size g _ _ cnt w2 H2.out.1 (by simp only [List.length_append, be_length _ _ (show 8 ≤ 8 by omega), be_length _ _ (show 2 ≤ 8 by omega)]; omega) (by omega) (by omega)
  go_wp2_with fail
  refine N.mono ?_
  rintro r w3 ⟨rfl, v3, W3, -, t3⟩
  have H3 : Hid (WrAt w3 w.heap.size g 97 v3 (be 8 (BitVec.ofInt 64 id) ++ be 2 (BitVec.ofInt 64 num) ++ be 2 (BitVec.ofInt 64 cnt)) 0 ∧ Below w.heap.size w w3) := ⟨W3, H2.out.2.trans (wr_below7 H2.out.1 t3)⟩
  clear N W3 t3 H2
  have N := rwNum_4 w.heap.size g _ _ S w3 H3.out.1 (by simp only [List.length_append, be_length _ _ (show 8 ≤ 8 by omega), be_length _ _ (show 2 ≤ 8 by omega)]; omega) (by omega) (by omega)
  go_wp2_with fail
  refine N.mono ?_
  rintro r w4 ⟨rfl, v4, W4, -, t4⟩
  have H4 : Hid (WrAt w4 w.heap.size g 97 v4 (be 8 (BitVec.ofInt 64 id) ++ be 2 (BitVec.ofInt 64 num) ++ be 2 (BitVec.ofInt 64 cnt) ++ be 4 (BitVec.ofInt 64 S)) 0 ∧ Below w.heap.size w w4) := ⟨W4, H3.out.2.trans (wr_below7 H3.out.1 t4)⟩
  clear N W4 t4 H3
  have hL : ((be 8 (BitVec.ofInt 64 id) ++ be 2 (BitVec.ofInt 64 num) ++ be 2 (BitVec.ofInt 64 cnt) ++ be 4 (BitVec.ofInt 64 S))).length = 16 := by simp only [List.length_append, be_length _ _ (show 8 ≤ 8 by omega), be_length _ _ (show 2 ≤ 8 by omega), be_length _ _ (show 4 ≤ 8 by omega)]
  have N := rwBytes_any w.heap.size g _ _ 0 2 x d.length cp d w4 H4.out.1 (by rw [hL]; omega) rfl hdc (HR.out.1.later H4.out.2) HR.out.2 (by omega)
  rw [wrB7 _ d hd] at N
  go_wp2_with fail
  refine N.mono ?_
  rintro r w5 ⟨rfl, v5, W5, -, t5⟩
  have H5 : Hid (WrAt w5 w.heap.size g 97 v5 (pcH id num cnt s d) 0 ∧ Below w.heap.size w w5) := by
    refine ⟨?_, H4.out.2.trans (wr_below7 H4.out.1 t5)⟩
    unfold pcH
    rw [← HSS.out]
    exact W5
  clear N W5 t5 H4 hL
  have hPH := pcH_len id num cnt s d
  have N := rwEnd_any w.heap.size g v5 _ 0 w5 H5.out.1 (by omega)
  have e4 : wrEnd (pcH id num cnt s d) 0 = pcH id num cnt s d := by unfold wrEnd; rw [if_pos rfl]
  rw [e4] at N
  clear e4
  obtain ⟨PH, hPe⟩ : ∃ PH, PH = pcH id num cnt s d := ⟨_, rfl⟩
  rw [← hPe] at N hPH
  have hPHb : PH.length ≤ 4114 := by omega
  clear hPH
  have HPE : Hid _ := hPe
  clear hPe
  go_wp2_with fail
  refine N.mono ?_
  rintro r w6 ⟨z, rfl, o6, b6⟩
  clear N
  obtain ⟨za, zc, rfl, hzc, -, rz, hzn, -⟩ := o6.open
  have H6 : Hid (Own w6 w.heap.size (.slice za PH.length zc) PH ∧ Below w.heap.size w w6) := ⟨o6.lower H5.out.2.size, below_then H5.out.2 b6⟩
  clear o6 b6 H5 rz hzn
  have bN : Below w6.heap.size w6 (w6.alloc (.cells #[.slice none 0 0, .int .i64 0] 97)) := (Below.refl _ _).alloc (Nat.le_refl _) _
  have H7 : Hid (WrAt (w6.alloc (.cells #[.slice none 0 0, .int .i64 0] 97)) w6.heap.size w6.heap.size 97 (.slice none 0 0) [] 0 ∧ Below w6.heap.size w6 (w6.alloc (.cells #[.slice none 0 0, .int .i64 0] 97))) := ⟨⟨Blk.new' w6 97 [.slice none 0 0, .int .i64 0], ⟨[], Own.nil _ _, fun _ => rfl⟩, Nat.le_refl _, bN.size, by decide⟩, bN⟩
  clear bN
  go_upto_region 9 with fail
  obtain ⟨g2, hg2⟩ : ∃ g2, g2 = w6.heap.size := ⟨_, rfl⟩
  generalize hw7 : (w6.alloc (.cells #[.slice none 0 0, .int .i64 0] 97)) = w7 at *
  clear hw7
  have H7 : Hid (WrAt w7 w6.heap.size g2 97 (.slice none 0 0) [] 0 ∧ Below w6.heap.size w6 w7) := by rw [hg2]; exact H7.out
  rw [← hg2]
  clear hg2
  have o7 := H6.out.1.later H7.out.2
  have N := rsum_any za PH.length zc PH w7 rfl (by unfold maxLen; omega) (by obtain ⟨a', c', e, -, -, hr, -⟩ := o7.open; simp only [Value.slice.injEq] at e; rw [e.1]; exact hr)
  clear o7
  have hq := (Crc.sum PH).isLt
  obtain ⟨Q, hQ⟩ : ∃ Q : Int, Q = ((Crc.sum PH).toNat : Int) := ⟨_, rfl⟩
  rw [← hQ] at N
  have hQb : 0 ≤ Q ∧ Q ≤ 4294967295 := by omega
  have HQ : Hid _ := hQ
  clear hQ hq
  go_wp2_with fail
  refine N.mono ?_
  rintro r _ ⟨rfl, rfl⟩
  clear N
  have N := rwNum_4 w6.heap.size g2 _ _ Q w7 H7.out.1 (by simp) (by omega) (by omega)
  rw [List.nil_append] at N
  go_wp2_with fail
  refine N.mono ?_
  rintro r w8 ⟨rfl, v8, W8, -, t8⟩
  have H8 : Hid (WrAt w8 w6.heap.size g2 97 v8 (be 4 (BitVec.ofInt 64 Q)) 0 ∧ Below w6.heap.size w6 w8) := ⟨W8, H7.out.2.trans (wr_below7 H7.out.1 t8)⟩
  clear N W8 t8 H7
  have N := rwEnd_any w6.heap.size g2 v8 _ 0 w8 H8.out.1 (by rw [be_length _ _ (by omega)]; omega)
  have e4 : wrEnd (be 4 (BitVec.ofInt 64 Q)) 0 = be 4 (BitVec.ofInt 64 Q) := by unfold wrEnd; rw [if_pos rfl]
  rw [e4] at N
  clear e4
  have hb4 : (be 4 (BitVec.ofInt 64 Q)).length = 4 := be_length _ _ (by omega)
  obtain ⟨SB, hSB⟩ : ∃ SB, SB = be 4 (BitVec.ofInt 64 Q) := ⟨_, rfl⟩
  rw [← hSB] at N hb4
  have HSB : Hid _ := hSB
  have hb5 : SB.length ≤ 4 := by omega
  clear hSB hb4
  go_wp2_with fail
  refine N.mono ?_
  rintro r w9 ⟨y, rfl, o9, b9⟩
  clear N
  obtain ⟨ya, yc, rfl, hyc, -, ry, hyn, -⟩ := o9.open
  have bb := below_then H8.out.2 b9
  have oz := H6.out.1.later bb
  have HZ : Hid (Own w9 w.heap.size (.slice za PH.length zc) PH ∧ Below w.heap.size w w9 ∧ Row w9 ya SB) := ⟨oz, below_then H6.out.2 bb, ry⟩
  clear o9 b9 bb oz ry H8 H6
  go_wp2_with (at_builtin; refine wpList_append_bytes _ rfl _ _ rfl w.heap.size _ PH rfl HZ.out.1 ya SB.length yc SB rfl rfl HZ.out.2.2 hyn hyc (by omega) HZ.out.2.1.size ?_)
  intro v wa ho hg
  have hlo := World.ownsRow.lt HZ.out.1
  have F : Hid (Own wa w.heap.size v (pcB id num cnt s d) ∧ Below w.heap.size w wa) := by
    refine ⟨?_, HZ.out.2.1.grown hg HZ.out.2.1.size (fun k' hk' => (hlo k' hk').1)⟩
    unfold pcB
    rw [← HPE.out, ← HQ.out, ← HSB.out]
    exact ho
  clear ho hg hlo HZ
  go_wp2
  go_ret
  exact ⟨_, rfl, F.out⟩
end Go.Proofs.Ytgonglbgejaffaa

