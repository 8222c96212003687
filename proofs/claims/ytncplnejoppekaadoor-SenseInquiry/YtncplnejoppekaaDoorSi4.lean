/- sense, the document's: serial, Inquiry. -/
import Derived.Test.YtncplnejoppekaaDoorSi3
import Derived.Lib.SlBytesConst
import Derived.ArgAppend
namespace Go.Proofs.YtncplnejoppekaaDoor
open Go.RowKit
set_option linter.unusedVariables false
set_option linter.unusedSimpArgs false
set_option maxRecDepth 8000

theorem own_new16 {w : World} {g : Nat} {l : List (BitVec 8)} {cs : List Value} (base : Nat) (hb : base ≤ g) (hB : Blk w g 5 cs) (hl : vals l = cs) (hm : l.length ≤ 1000) : Own w base (.slice (some ⟨g, 0, none⟩) l.length l.length) l := by
  subst hl
  exact Own.ofBlock hb hB (Nat.le_refl _) (by unfold maxLen; omega) (by simp [vals]) (List.take_of_length_le (by simp [vals]))
theorem u8_nat (k : Nat) (h : k < 256) : ((BitVec.ofNat 8 (UInt8.ofNat k).toNat).toNat : Int) = (k : Int) := by
  simp; omega
theorem ser_vals (n : Nat) (h : n ≤ 255) : vals (bvs16 [UInt8.ofNat (48 + n / 100), UInt8.ofNat (48 + n / 10 % 10), UInt8.ofNat (48 + n % 10)]) = [.int .u8 (48 + (n : Int) / 100), .int .u8 (48 + (n : Int) / 10 % 10), .int .u8 (48 + (n : Int) % 10)] := by
  simp only [bvs16, vals, List.map_cons, List.map_nil]
  rw [u8_nat _ (by omega), u8_nat _ (by omega), u8_nat _ (by omega), show ((48 + n / 100 : Nat) : Int) = 48 + (n : Int) / 100 by omega, show ((48 + n / 10 % 10 : Nat) : Int) = 48 + (n : Int) / 10 % 10 by omega, show ((48 + n % 10 : Nat) : Int) = 48 + (n : Int) % 10 by omega]
def caiL : List (BitVec 8) := [99#8, 97#8, 105#8, 115#8, 115#8, 111#8, 110#8, 45#8]
theorem ser_split (n : Nat) : bvs16 (serL n) = caiL ++ bvs16 [UInt8.ofNat (48 + n / 100), UInt8.ofNat (48 + n / 10 % 10), UInt8.ofNat (48 + n % 10)] := rfl
theorem pgB_C (n : Nat) : pgB 0 pgh1 false n = [0#8, 0#8, 0#8, 3#8] ++ pgh1 := by
  have hl : (hasB pgh1 [] false n).length = 3 := rfl
  unfold pgB
  rw [hl, show be 2 (BitVec.ofNat 64 3) = [0#8, 3#8] by decide]
  rfl
theorem pgB_D (n : Nat) : pgB 128 [] true n = [0#8, 128#8, 0#8, 11#8] ++ bvs16 (serL n) := by
  have hl : (hasB [] [] true n).length = 11 := rfl
  unfold pgB
  rw [hl, show be 2 (BitVec.ofNat 64 11) = [0#8, 11#8] by decide]
  rfl
theorem pgB_E (n : Nat) : pgB 131 pgh3 true n = [0#8, 131#8, 0#8, 15#8] ++ (pgh3 ++ bvs16 (serL n)) := by
  have hl : (hasB pgh3 [] true n).length = 15 := rfl
  unfold pgB
  rw [hl, show be 2 (BitVec.ofNat 64 15) = [0#8, 15#8] by decide]
  rfl
theorem hasB_A (n : Nat) : hasB pgh0 namesS.data.toList false n = pgh0 ++ bvs16 namesS.data.toList := rfl
set_option maxHeartbeats 8000000 in
theorem rSerial_any (n : Nat) (hn : n ≤ 255) (w : World) : Calls Tryd.prog 10 #[.int .i64 (n : Int)] w fun e w' => ∃ v, e = .returned v ∧ Own w' w.heap.size v (bvs16 (serL n)) ∧ Below w.heap.size w w' := by
  have HSp : Hid _ := ser_split n
  have hsv := ser_vals n hn
  rw [HSp.out]
  generalize bvs16 [UInt8.ofNat (48 + n / 100), UInt8.ofNat (48 + n / 10 % 10), UInt8.ofNat (48 + n % 10)] = L at *
  clear HSp
  have hll : L.length = 3 := by have := congrArg List.length hsv; simpa [vals] using this
  have hcv : (convert 22 22 (.slice (some ⟨w.heap.size, 0, none⟩) 8 8)).run Tryd.prog (w.alloc (.cells #[.int .u8 99, .int .u8 97, .int .u8 105, .int .u8 115, .int .u8 115, .int .u8 111, .int .u8 110, .int .u8 45] 5)) = .ok (.slice (some ⟨w.heap.size, 0, none⟩) 8 8) (w.alloc (.cells #[.int .u8 99, .int .u8 97, .int .u8 105, .int .u8 115, .int .u8 115, .int .u8 111, .int .u8 110, .int .u8 45] 5 (8, 9))) := Lib.run_convert_bytes_const w 22 5 #[.int .u8 99, .int .u8 97, .int .u8 105, .int .u8 115, .int .u8 115, .int .u8 111, .int .u8 110, .int .u8 45] 8 8 Tryd.underlying22 Tryd.underlying5
  have hk1 : ∀ j v, (vals caiL)[j]? = some v → (w.alloc (.cells #[.int .u8 99, .int .u8 97, .int .u8 105, .int .u8 115, .int .u8 115, .int .u8 111, .int .u8 110, .int .u8 45] 5 (8, 9))).cell? ((⟨w.heap.size, 0, none⟩ : Addr).add j) = some v := fun j v hj => by rw [opn_add]; simp only [World.cell?, Nat.zero_add]; rw [show (w.alloc (.cells #[.int .u8 99, .int .u8 97, .int .u8 105, .int .u8 115, .int .u8 115, .int .u8 111, .int .u8 110, .int .u8 45] 5 (8, 9))).heap[w.heap.size]? = some (.cells (vals caiL).toArray 5 (8, 9)) by show (w.heap.push (.cells #[.int .u8 99, .int .u8 97, .int .u8 105, .int .u8 115, .int .u8 115, .int .u8 111, .int .u8 110, .int .u8 45] 5 (8, 9)))[w.heap.size]? = _; rw [Array.getElem?_push_size]; rfl]; simpa using hj
  have bn1 : Below w.heap.size w (w.alloc (.cells #[.int .u8 99, .int .u8 97, .int .u8 105, .int .u8 115, .int .u8 115, .int .u8 111, .int .u8 110, .int .u8 45] 5 (8, 9))) := (Below.refl _ _).alloc (Nat.le_refl _) _
  obtain ⟨w1, hw1⟩ : ∃ y, y = w.alloc (.cells #[.int .u8 99, .int .u8 97, .int .u8 105, .int .u8 115, .int .u8 115, .int .u8 111, .int .u8 110, .int .u8 45] 5 (8, 9)) := ⟨_, rfl⟩
  obtain ⟨g1, hg1⟩ : ∃ y, y = w.heap.size := ⟨_, rfl⟩
  rw [← hw1] at hk1 bn1
  rw [← hg1] at hk1
  have N2 := Blk.new' w1 5 [.int .u8 (48 + (n : Int) / 100), .int .u8 (48 + (n : Int) / 10 % 10), .int .u8 (48 + (n : Int) % 10)]
  have bn2 : Below w1.heap.size w1 (w1.alloc (.cells #[.int .u8 (48 + (n : Int) / 100), .int .u8 (48 + (n : Int) / 10 % 10), .int .u8 (48 + (n : Int) % 10)] 5)) := (Below.refl _ _).alloc (Nat.le_refl _) _
  obtain ⟨w2, hw2⟩ : ∃ y, y = w1.alloc (.cells #[.int .u8 (48 + (n : Int) / 100), .int .u8 (48 + (n : Int) / 10 % 10), .int .u8 (48 + (n : Int) % 10)] 5) := ⟨_, rfl⟩
  obtain ⟨g2, hg2⟩ : ∃ y, y = w1.heap.size := ⟨_, rfl⟩
  rw [← hw2] at N2 bn2
  rw [← hg2] at N2
  obtain ⟨i0, hi, hz0, hz1, hz2⟩ := info_parts info_u8
  have hlt1 : g1 < w1.heap.size := by rw [hw1, hg1]; simp
  have hk2 : ∀ j v, (vals caiL)[j]? = some v → w2.cell? ((⟨g1, 0, none⟩ : Addr).add j) = some v := fun j v hj => by have h := hk1 j v hj; rw [opn_add] at h ⊢; exact cell_later bn2 h
  have hk3 : ∀ j v, (vals L)[j]? = some v → w2.cell? ((⟨g2, 0, none⟩ : Addr).add j) = some v := fun j v hj => by rw [opn_add, Nat.zero_add, bk_at N2 j, ← hsv]; exact hj
  obtain ⟨v8, u8, hr, O8, g8⟩ := run_append_arg_grows (P := Tryd.prog) w2 22 22 5 i0 (.int .u8 0) 1 1 Tryd.underlying22 hi hz0 hz1 hz2 rfl (by decide) ⟨g1, 0, none⟩ 8 8 (vals caiL) rfl hk2 ⟨g2, 0, none⟩ 3 3 (vals L) (by rw [vals_length, hll]) hk3 (by omega) (by unfold maxLen; omega) (by omega)
  have OO : Own u8 w.heap.size v8 (caiL ++ L) := Own.lower (base := w2.heap.size) (by unfold Own; rw [vals_append, List.length_append, hll]; exact O8) (Nat.le_trans bn1.size bn2.size)
  have BB : Below w.heap.size w u8 := (below_then bn1 bn2).grown g8 (below_then bn1 bn2).size (fun k hk => by cases hk)
  have F : Hid _ := And.intro OO BB
  clear OO BB O8 g8 hk1 hk2 hk3 N2 hlt1 bn1 bn2 hsv
  have HW2 : Hid _ := hw2
  have HG2 : Hid _ := hg2
  clear hw2 hg2
  go_enter Tryd.func10, Tryd.ntmps10
  go_upto_region 2 with fail
  rw [← hw1, ← hg1]
  clear hw1 hg1 hcv
  go_wp2_with (at_builtin; rw [← HW2.out]; rw [← HG2.out]; refine wpList_value16 rfl (exec_app16 _ _ _ _ rfl _ _ rfl rfl hr) ?_)
  clear hr
  go_wp2
  go_ret
  exact ⟨_, rfl, F.out.1, F.out.2⟩
set_option maxHeartbeats 8000000 in
theorem rInq_A (lun : Int) (w : World) (hl : fromB 0 lun 255 = true) :
    Calls Tryd.prog 5 #[.bool false, .int .i64 0, .int .i64 lun] w fun e w' => ∃ v, e = .returned (.tuple #[v, .int .i64 (inqR false 0 lun).2]) ∧ Own w' w.heap.size v (inqR false 0 lun).1 ∧ Below w.heap.size w w' := by
  obtain ⟨n, hn, rfl⟩ : ∃ n : Nat, n ≤ 255 ∧ lun = (n : Int) := ⟨lun.toNat, by have h := hl; unfold fromB at h; simp at h; omega, by have h := hl; unfold fromB at h; simp at h; omega⟩
  have HR : Hid (inqR false 0 (n : Int) = (pgh0 ++ bvs16 namesS.data.toList, 0)) := (by unfold inqR; rw [if_pos hl]; simp; exact hasB_A n : inqR false 0 (n : Int) = (pgh0 ++ bvs16 namesS.data.toList, 0))
  rw [HR.out]
  clear HR hl
  simp only
  have t1 : ¬ ((n : Int) < 0) := by omega
  have t2 : ¬ ((255 : Int) < (n : Int)) := by omega
  have N1 := Blk.new' w 5 [.int .u8 0, .int .u8 0, .int .u8 6, .int .u8 2, .int .u8 31, .int .u8 16, .int .u8 0, .int .u8 2]
  have bn1 : Below w.heap.size w (w.alloc (.cells #[.int .u8 0, .int .u8 0, .int .u8 6, .int .u8 2, .int .u8 31, .int .u8 16, .int .u8 0, .int .u8 2] 5)) := (Below.refl _ _).alloc (Nat.le_refl _) _
  obtain ⟨w1, hw1⟩ : ∃ y, y = w.alloc (.cells #[.int .u8 0, .int .u8 0, .int .u8 6, .int .u8 2, .int .u8 31, .int .u8 16, .int .u8 0, .int .u8 2] 5) := ⟨_, rfl⟩
  obtain ⟨g1, hg1⟩ : ∃ y, y = w.heap.size := ⟨_, rfl⟩
  rw [← hw1] at N1 bn1
  rw [← hg1] at N1
  have O1 := own_new16 (l := pgh0) w.heap.size (by rw [hg1]; exact Nat.le_refl _) N1 rfl (by decide)
  obtain ⟨v8, u8, hr, O8, g8⟩ := run_app_str16 w1 w.heap.size _ pgh0 O1 namesS (by decide) bn1.size 22
  have F : Hid _ := And.intro O8 (own_blw16b O1 bn1 (Nat.le_refl _) g8)
  clear O1 O8 g8 bn1 N1
  go_enter Tryd.func5, Tryd.ntmps5
  go_upto_region 7 with fail
  rw [← hw1, ← hg1]
  clear hw1 hg1
  go_wp2_with (refine wpList_value16 rfl (exec_app16 _ _ _ _ rfl _ _ rfl rfl hr) ?_)
  refine bodyPost_ret (v := .tuple #[v8, .int .i64 0]) (by first | rfl | simp [results, Tryd.results5, go_sem]) rfl ?_
  exact ⟨_, rfl, F.out.1, F.out.2⟩
set_option maxHeartbeats 8000000 in
theorem rInq_B (pg lun : Int) (w : World) (h0 : ¬ pg = 0) (hl : fromB 0 lun 255 = true) :
    Calls Tryd.prog 5 #[.bool false, .int .i64 pg, .int .i64 lun] w fun e w' => ∃ v, e = .returned (.tuple #[v, .int .i64 (inqR false pg lun).2]) ∧ Own w' w.heap.size v (inqR false pg lun).1 ∧ Below w.heap.size w w' := by
  obtain ⟨n, hn, rfl⟩ : ∃ n : Nat, n ≤ 255 ∧ lun = (n : Int) := ⟨lun.toNat, by have h := hl; unfold fromB at h; simp at h; omega, by have h := hl; unfold fromB at h; simp at h; omega⟩
  have HR : Hid (inqR false pg (n : Int) = ([], 11)) := (by unfold inqR; rw [if_pos hl]; simp [h0] : inqR false pg (n : Int) = ([], 11))
  rw [HR.out]
  clear HR hl
  simp only
  have t1 : ¬ ((n : Int) < 0) := by omega
  have t2 : ¬ ((255 : Int) < (n : Int)) := by omega
  have d0 : (pg != 0) = true := by simpa using h0
  go_enter Tryd.func5, Tryd.ntmps5
  go_wp2
  refine bodyPost_ret (v := .tuple #[.slice none 0 0, .int .i64 11]) (by first | rfl | simp [results, Tryd.results5, go_sem]) rfl ?_
  exact ⟨_, rfl, Own.nil _ _, Below.refl _ _⟩
set_option maxHeartbeats 8000000 in
theorem rInq_C (lun : Int) (w : World) (hl : fromB 0 lun 255 = true) :
    Calls Tryd.prog 5 #[.bool true, .int .i64 0, .int .i64 lun] w fun e w' => ∃ v, e = .returned (.tuple #[v, .int .i64 (inqR true 0 lun).2]) ∧ Own w' w.heap.size v (inqR true 0 lun).1 ∧ Below w.heap.size w w' := by
  obtain ⟨n, hn, rfl⟩ : ∃ n : Nat, n ≤ 255 ∧ lun = (n : Int) := ⟨lun.toNat, by have h := hl; unfold fromB at h; simp at h; omega, by have h := hl; unfold fromB at h; simp at h; omega⟩
  have HR : Hid (inqR true 0 (n : Int) = ([0#8, 0#8, 0#8, 3#8] ++ pgh1, 0)) := (by unfold inqR; rw [if_pos hl]; simp; exact pgB_C n : inqR true 0 (n : Int) = ([0#8, 0#8, 0#8, 3#8] ++ pgh1, 0))
  rw [HR.out]
  clear HR hl
  simp only
  have t1 : ¬ ((n : Int) < 0) := by omega
  have t2 : ¬ ((255 : Int) < (n : Int)) := by omega
  have N1 := Blk.new' w 5 [.int .u8 0, .int .u8 128, .int .u8 131]
  have bn1 : Below w.heap.size w (w.alloc (.cells #[.int .u8 0, .int .u8 128, .int .u8 131] 5)) := (Below.refl _ _).alloc (Nat.le_refl _) _
  obtain ⟨w1, hw1⟩ : ∃ y, y = w.alloc (.cells #[.int .u8 0, .int .u8 128, .int .u8 131] 5) := ⟨_, rfl⟩
  obtain ⟨g1, hg1⟩ : ∃ y, y = w.heap.size := ⟨_, rfl⟩
  rw [← hw1] at N1 bn1
  rw [← hg1] at N1
  have O1 := own_new16 (l := pgh1) w.heap.size (by rw [hg1]; exact Nat.le_refl _) N1 rfl (by decide)
  obtain ⟨a, c, e, hle, -, hrow, hnil, -⟩ := O1.open
  simp only [Value.slice.injEq] at e
  obtain ⟨rfl, -, rfl⟩ := e
  have HB : Hid (Below w.heap.size w w1 ∧ Row w1 (some ⟨g1, 0, none⟩) pgh1 ∧ ((some ⟨g1, 0, none⟩ : Option Addr) = none → pgh1.length = 0) ∧ 3 ≤ pgh1.length) := ⟨bn1, hrow, hnil, by decide⟩
  clear O1 bn1 N1 hrow hnil hle
  go_enter Tryd.func5, Tryd.ntmps5
  go_upto_region 20 with fail
  rw [← hw1, ← hg1]
  clear hw1 hg1
  have N9 := Blk.new' w1 5 [.int .u8 0, .int .u8 0, .int .u8 0, .int .u8 3]
  have bn9 : Below w1.heap.size w1 (w1.alloc (.cells #[.int .u8 0, .int .u8 0, .int .u8 0, .int .u8 3] 5)) := (Below.refl _ _).alloc (Nat.le_refl _) _
  obtain ⟨u9, hu9⟩ : ∃ y, y = w1.alloc (.cells #[.int .u8 0, .int .u8 0, .int .u8 0, .int .u8 3] 5) := ⟨_, rfl⟩
  obtain ⟨g9, hg9⟩ : ∃ y, y = w1.heap.size := ⟨_, rfl⟩
  rw [← hu9] at N9 bn9
  rw [← hg9] at N9
  have O9 := own_new16 (l := [0#8, 0#8, 0#8, 3#8]) w.heap.size (by rw [hg9]; exact HB.out.1.size) N9 rfl (by decide)
  have H9 : Hid _ := And.intro (below_then HB.out.1 bn9) (And.intro O9 (HB.out.2.1.later bn9))
  clear bn9 O9 N9
  go_upto_region 21 with fail
  rw [← hu9, ← hg9]
  clear hu9 hg9
  go_wp2_with (at_builtin; refine wpList_append_bytes _ rfl _ _ rfl w.heap.size _ [0#8, 0#8, 0#8, 3#8] rfl H9.out.2.1 (some ⟨g1, 0, none⟩) 3 (3) (pgh1) rfl rfl H9.out.2.2 HB.out.2.2.1 HB.out.2.2.2 (by simp [bvs16, serL, pgh1, pgh3]) H9.out.1.size ?_)
  intro v8 u8 O8 g8
  have F : Hid _ := And.intro O8 (own_blw16b H9.out.2.1 H9.out.1 (Nat.le_refl _) g8)
  clear O8 g8 H9 HB
  go_wp2
  refine bodyPost_ret (v := .tuple #[v8, .int .i64 0]) (by first | rfl | simp [results, Tryd.results5, go_sem]) rfl ?_
  exact ⟨_, rfl, F.out.1, F.out.2⟩
set_option maxHeartbeats 8000000 in
theorem rInq_D (lun : Int) (w : World) (hl : fromB 0 lun 255 = true) :
    Calls Tryd.prog 5 #[.bool true, .int .i64 128, .int .i64 lun] w fun e w' => ∃ v, e = .returned (.tuple #[v, .int .i64 (inqR true 128 lun).2]) ∧ Own w' w.heap.size v (inqR true 128 lun).1 ∧ Below w.heap.size w w' := by
  obtain ⟨n, hn, rfl⟩ : ∃ n : Nat, n ≤ 255 ∧ lun = (n : Int) := ⟨lun.toNat, by have h := hl; unfold fromB at h; simp at h; omega, by have h := hl; unfold fromB at h; simp at h; omega⟩
  have HR : Hid (inqR true 128 (n : Int) = ([0#8, 128#8, 0#8, 11#8] ++ bvs16 (serL n), 0)) := (by unfold inqR; rw [if_pos hl]; simp; exact pgB_D n : inqR true 128 (n : Int) = ([0#8, 128#8, 0#8, 11#8] ++ bvs16 (serL n), 0))
  rw [HR.out]
  clear HR hl
  simp only
  have t1 : ¬ ((n : Int) < 0) := by omega
  have t2 : ¬ ((255 : Int) < (n : Int)) := by omega
  have HC : Hid _ := rSerial_any n hn w
  go_enter Tryd.func5, Tryd.ntmps5
  go_wp2_with fail
  refine (Calls.mono HC.out) ?_
  rintro e w1 ⟨v, rfl, O1, b1⟩
  clear HC
  obtain ⟨a, c, e, hle, -, hrow, hnil, -⟩ := O1.open
  have hl : (bvs16 (serL n)).length = 11 := rfl
  rw [hl] at e hle
  subst e
  have HB : Hid (Below w.heap.size w w1 ∧ Row w1 a (bvs16 (serL n)) ∧ (a = none → c = 0) ∧ 11 ≤ c) := ⟨b1, hrow, hnil, hle⟩
  clear O1 b1 hrow hnil hle hl
  go_upto_region 20 with fail
  have N9 := Blk.new' w1 5 [.int .u8 0, .int .u8 128, .int .u8 0, .int .u8 11]
  have bn9 : Below w1.heap.size w1 (w1.alloc (.cells #[.int .u8 0, .int .u8 128, .int .u8 0, .int .u8 11] 5)) := (Below.refl _ _).alloc (Nat.le_refl _) _
  obtain ⟨u9, hu9⟩ : ∃ y, y = w1.alloc (.cells #[.int .u8 0, .int .u8 128, .int .u8 0, .int .u8 11] 5) := ⟨_, rfl⟩
  obtain ⟨g9, hg9⟩ : ∃ y, y = w1.heap.size := ⟨_, rfl⟩
  rw [← hu9] at N9 bn9
  rw [← hg9] at N9
  have O9 := own_new16 (l := [0#8, 128#8, 0#8, 11#8]) w.heap.size (by rw [hg9]; exact HB.out.1.size) N9 rfl (by decide)
  have H9 : Hid _ := And.intro (below_then HB.out.1 bn9) (And.intro O9 (HB.out.2.1.later bn9))
  clear bn9 O9 N9
  go_upto_region 21 with fail
  rw [← hu9, ← hg9]
  clear hu9 hg9
  go_wp2_with (at_builtin; refine wpList_append_bytes _ rfl _ _ rfl w.heap.size _ [0#8, 128#8, 0#8, 11#8] rfl H9.out.2.1 (a) 11 (c) (bvs16 (serL n)) rfl rfl H9.out.2.2 HB.out.2.2.1 HB.out.2.2.2 (by simp [bvs16, serL, pgh1, pgh3]) H9.out.1.size ?_)
  intro v8 u8 O8 g8
  have F : Hid _ := And.intro O8 (own_blw16b H9.out.2.1 H9.out.1 (Nat.le_refl _) g8)
  clear O8 g8 H9 HB
  go_wp2
  refine bodyPost_ret (v := .tuple #[v8, .int .i64 0]) (by first | rfl | simp [results, Tryd.results5, go_sem]) rfl ?_
  exact ⟨_, rfl, F.out.1, F.out.2⟩
set_option maxHeartbeats 8000000 in
theorem rInq_E (lun : Int) (w : World) (hl : fromB 0 lun 255 = true) :
    Calls Tryd.prog 5 #[.bool true, .int .i64 131, .int .i64 lun] w fun e w' => ∃ v, e = .returned (.tuple #[v, .int .i64 (inqR true 131 lun).2]) ∧ Own w' w.heap.size v (inqR true 131 lun).1 ∧ Below w.heap.size w w' := by
  obtain ⟨n, hn, rfl⟩ : ∃ n : Nat, n ≤ 255 ∧ lun = (n : Int) := ⟨lun.toNat, by have h := hl; unfold fromB at h; simp at h; omega, by have h := hl; unfold fromB at h; simp at h; omega⟩
  have HR : Hid (inqR true 131 (n : Int) = ([0#8, 131#8, 0#8, 15#8] ++ (pgh3 ++ bvs16 (serL n)), 0)) := (by unfold inqR; rw [if_pos hl]; simp; exact pgB_E n : inqR true 131 (n : Int) = ([0#8, 131#8, 0#8, 15#8] ++ (pgh3 ++ bvs16 (serL n)), 0))
  rw [HR.out]
  clear HR hl
  simp only
  have t1 : ¬ ((n : Int) < 0) := by omega
  have t2 : ¬ ((255 : Int) < (n : Int)) := by omega
  have HC : Hid _ := rSerial_any n hn w
  go_enter Tryd.func5, Tryd.ntmps5
  go_wp2_with fail
  refine (Calls.mono HC.out) ?_
  rintro e w0 ⟨v, rfl, O0, b0⟩
  clear HC
  obtain ⟨a0, c0, e, hle0, -, hrow0, hnil0, -⟩ := O0.open
  have hl : (bvs16 (serL n)).length = 11 := rfl
  rw [hl] at e hle0
  subst e
  have N1 := Blk.new' w0 5 [.int .u8 2, .int .u8 1, .int .u8 0, .int .u8 11]
  have bn1 : Below w0.heap.size w0 (w0.alloc (.cells #[.int .u8 2, .int .u8 1, .int .u8 0, .int .u8 11] 5)) := (Below.refl _ _).alloc (Nat.le_refl _) _
  obtain ⟨w1, hw1⟩ : ∃ y, y = w0.alloc (.cells #[.int .u8 2, .int .u8 1, .int .u8 0, .int .u8 11] 5) := ⟨_, rfl⟩
  obtain ⟨g1, hg1⟩ : ∃ y, y = w0.heap.size := ⟨_, rfl⟩
  rw [← hw1] at N1 bn1
  rw [← hg1] at N1
  have O1 := own_new16 (l := pgh3) w.heap.size (by rw [hg1]; exact b0.size) N1 rfl (by decide)
  have HA : Hid (Below w.heap.size w w1 ∧ Own w1 w.heap.size (.slice (some ⟨g1, 0, none⟩) 4 4) pgh3 ∧ Row w1 a0 (bvs16 (serL n)) ∧ (a0 = none → c0 = 0) ∧ 11 ≤ c0) := ⟨below_then b0 bn1, O1, hrow0.later bn1, hnil0, hle0⟩
  clear O1 bn1 N1 b0 hrow0 hnil0 hle0 O0 hl
  go_upto_region 19 with fail
  rw [← hw1, ← hg1]
  clear hw1 hg1
  go_upto_region 20 with (at_builtin; refine wpList_append_bytes _ rfl _ _ rfl w.heap.size _ pgh3 rfl HA.out.2.1 a0 11 c0 (bvs16 (serL n)) rfl rfl HA.out.2.2.1 HA.out.2.2.2.1 HA.out.2.2.2.2 (by simp [pgh3]) HA.out.1.size ?_; intro v2 w2 O2 g2; obtain ⟨a, c, e, hle, -, hrow, hnil, -⟩ := O2.open; have hl2 : (pgh3 ++ bvs16 (serL n)).length = 15 := rfl; rw [hl2] at e hle; subst e; have HB : Hid (Below w.heap.size w w2 ∧ Row w2 a (pgh3 ++ bvs16 (serL n)) ∧ (a = none → c = 0) ∧ 15 ≤ c) := ⟨own_blw16b HA.out.2.1 HA.out.1 (Nat.le_refl _) g2, hrow, hnil, hle⟩; clear O2 g2 hrow hnil hle HA hl2)
  have N9 := Blk.new' w2 5 [.int .u8 0, .int .u8 131, .int .u8 0, .int .u8 15]
  have bn9 : Below w2.heap.size w2 (w2.alloc (.cells #[.int .u8 0, .int .u8 131, .int .u8 0, .int .u8 15] 5)) := (Below.refl _ _).alloc (Nat.le_refl _) _
  obtain ⟨u9, hu9⟩ : ∃ y, y = w2.alloc (.cells #[.int .u8 0, .int .u8 131, .int .u8 0, .int .u8 15] 5) := ⟨_, rfl⟩
  obtain ⟨g9, hg9⟩ : ∃ y, y = w2.heap.size := ⟨_, rfl⟩
  rw [← hu9] at N9 bn9
  rw [← hg9] at N9
  have O9 := own_new16 (l := [0#8, 131#8, 0#8, 15#8]) w.heap.size (by rw [hg9]; exact HB.out.1.size) N9 rfl (by decide)
  have H9 : Hid _ := And.intro (below_then HB.out.1 bn9) (And.intro O9 (HB.out.2.1.later bn9))
  clear bn9 O9 N9
  go_upto_region 21 with fail
  rw [← hu9, ← hg9]
  clear hu9 hg9
  go_wp2_with (at_builtin; refine wpList_append_bytes _ rfl _ _ rfl w.heap.size _ [0#8, 131#8, 0#8, 15#8] rfl H9.out.2.1 (a) 15 (c) (pgh3 ++ bvs16 (serL n)) rfl rfl H9.out.2.2 HB.out.2.2.1 HB.out.2.2.2 (by simp [bvs16, serL, pgh1, pgh3]) H9.out.1.size ?_)
  intro v8 u8 O8 g8
  have F : Hid _ := And.intro O8 (own_blw16b H9.out.2.1 H9.out.1 (Nat.le_refl _) g8)
  clear O8 g8 H9 HB
  go_wp2
  refine bodyPost_ret (v := .tuple #[v8, .int .i64 0]) (by first | rfl | simp [results, Tryd.results5, go_sem]) rfl ?_
  exact ⟨_, rfl, F.out.1, F.out.2⟩
set_option maxHeartbeats 8000000 in
theorem rInq_F (pg lun : Int) (w : World) (h0 : ¬ pg = 0) (h1 : ¬ pg = 128) (h2 : ¬ pg = 131) (hl : fromB 0 lun 255 = true) :
    Calls Tryd.prog 5 #[.bool true, .int .i64 pg, .int .i64 lun] w fun e w' => ∃ v, e = .returned (.tuple #[v, .int .i64 (inqR true pg lun).2]) ∧ Own w' w.heap.size v (inqR true pg lun).1 ∧ Below w.heap.size w w' := by
  obtain ⟨n, hn, rfl⟩ : ∃ n : Nat, n ≤ 255 ∧ lun = (n : Int) := ⟨lun.toNat, by have h := hl; unfold fromB at h; simp at h; omega, by have h := hl; unfold fromB at h; simp at h; omega⟩
  have HR : Hid (inqR true pg (n : Int) = ([], 11)) := (by unfold inqR; rw [if_pos hl]; simp [h0, h1, h2] : inqR true pg (n : Int) = ([], 11))
  rw [HR.out]
  clear HR hl
  simp only
  have t1 : ¬ ((n : Int) < 0) := by omega
  have t2 : ¬ ((255 : Int) < (n : Int)) := by omega
  have d0 : (pg == 0) = false := by simpa using h0
  have d1 : (pg == 128) = false := by simpa using h1
  have d2 : (pg == 131) = false := by simpa using h2
  go_enter Tryd.func5, Tryd.ntmps5
  go_wp2
  refine bodyPost_ret (v := .tuple #[.slice none 0 0, .int .i64 11]) (by first | rfl | simp [results, Tryd.results5, go_sem]) rfl ?_
  exact ⟨_, rfl, Own.nil _ _, Below.refl _ _⟩
set_option maxHeartbeats 2000000 in
theorem rInq_no (vit : Bool) (pg lun : Int) (w : World) (hl : fromB 0 lun 255 = false) :
    Calls Tryd.prog 5 #[.bool vit, .int .i64 pg, .int .i64 lun] w fun e w' => ∃ v, e = .returned (.tuple #[v, .int .i64 (inqR vit pg lun).2]) ∧ Own w' w.heap.size v (inqR vit pg lun).1 ∧ Below w.heap.size w w' := by
  have HR : Hid (inqR vit pg lun = ([], 1)) := (by unfold inqR; rw [if_neg (by rw [hl]; decide)] : inqR vit pg lun = ([], 1))
  rw [HR.out]
  clear HR
  have hc : lun < 0 ∨ (¬ lun < 0 ∧ 255 < lun) := by unfold fromB at hl; simp at hl; omega
  clear hl
  rcases hc with h | ⟨h, h2⟩
  · go_enter Tryd.func5, Tryd.ntmps5
    go_wp2
    refine bodyPost_ret (v := .tuple #[.slice none 0 0, .int .i64 1]) (by first | rfl | simp [results, Tryd.results5, go_sem]) rfl ?_
    exact ⟨_, rfl, Own.nil _ _, Below.refl _ _⟩
  · go_enter Tryd.func5, Tryd.ntmps5
    go_wp2
    refine bodyPost_ret (v := .tuple #[.slice none 0 0, .int .i64 1]) (by first | rfl | simp [results, Tryd.results5, go_sem]) rfl ?_
    exact ⟨_, rfl, Own.nil _ _, Below.refl _ _⟩
theorem rInq_any (vit : Bool) (pg lun : Int) (w : World) :
    Calls Tryd.prog 5 #[.bool vit, .int .i64 pg, .int .i64 lun] w fun e w' => ∃ v, e = .returned (.tuple #[v, .int .i64 (inqR vit pg lun).2]) ∧ Own w' w.heap.size v (inqR vit pg lun).1 ∧ Below w.heap.size w w' := by
  cases hl : fromB 0 lun 255 with
  | false => exact rInq_no vit pg lun w hl
  | true =>
    cases vit
    · by_cases h0 : pg = 0
      · subst h0; exact rInq_A lun w hl
      · exact rInq_B pg lun w h0 hl
    · by_cases h0 : pg = 0
      · subst h0; exact rInq_C lun w hl
      · by_cases h1 : pg = 128
        · subst h1; exact rInq_D lun w hl
        · by_cases h2 : pg = 131
          · subst h2; exact rInq_E lun w hl
          · exact rInq_F pg lun w h0 h1 h2 hl
end Go.Proofs.YtncplnejoppekaaDoor
