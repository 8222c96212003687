/- The document's UnpackMsg. -/
import Derived.Test.YtgjcgnmomdanaaaXEmI
import Derived.Test.YtgjcgnmomdanaaaXFieldRef
import Derived.Test.YtgjcgnmomdanaaaXSumRef
namespace Go.Proofs.Ytgjcgnmomdanaaa
open Go.RowKit Go.Shelf
set_option linter.unusedVariables false
set_option linter.unusedSimpArgs false
set_option maxRecDepth 20000

theorem rd_err {w : World} {FL : List Nat} {g : Nat} {L : List (BitVec 8)} {E : Int} (h : Rd w FL g 66 L E) : w.cell? ⟨g, 1, none⟩ = some (.int .i64 E) := by
  obtain ⟨a, len, cap, l, hR⟩ := h
  have c1 := hR.blk.cell (by simp [maxLen]) 1 (by simp)
  simpa using c1
theorem rGetRow (a : Option Addr) (n cap : Nat) (l : List (BitVec 8)) (w : World) (hl : l.length = n + 4) (hlen : n + 4 ≤ 140737488355328) (hr : Row w a l) :
    Calls Try.prog 31 #[.slice a (n + 4) cap, .int .i64 n, .int .i64 4] w fun e w' => e = .returned (.tuple #[.int .u64 ((numTo l n 4).toNat : Int), .int .i64 0]) ∧ w' = w := by
  rcases hr with e | ⟨b, off, rfl, hc⟩
  · rw [e] at hl; simp at hl
  · exact (rGet_yes b off (n + 4) cap l n 4 w hl hlen hc (by decide) (by decide) (by omega)).mono (fun _ _ h => ⟨h.1, h.2.symm⟩)
set_option maxHeartbeats 8000000 in
theorem rUnpackMsg_any (a : Option Addr) (len cap : Nat) (l : List (BitVec 8)) (w : World) (hl : l.length = len) (hle : len ≤ cap) (hr : Row w a l) (hn : a = none → cap = 0) (hlen : len ≤ 140737488351232) :
    Calls Try.prog 9 #[.slice a len cap] w (UmR l w) := by
  have H0 : Hid (Below w.heap.size w (w.alloc (.cells #[.int .i64 0, .int .i64 0, .int .i64 0, .int .i64 0, .int .i64 0, .int .i64 0, .int .i64 0, .int .i64 0, .bool false, .slice none 0 0, .slice none 0 0] 25)) ∧ Blk (w.alloc (.cells #[.int .i64 0, .int .i64 0, .int .i64 0, .int .i64 0, .int .i64 0, .int .i64 0, .int .i64 0, .int .i64 0, .bool false, .slice none 0 0, .slice none 0 0] 25)) w.heap.size 25 [.int .i64 0, .int .i64 0, .int .i64 0, .int .i64 0, .int .i64 0, .int .i64 0, .int .i64 0, .int .i64 0, .bool false, .slice none 0 0, .slice none 0 0]) := ⟨box11_below w _ _, Blk.new' w _ _⟩
  have HR : Hid (Row w a l ∧ (a = none → cap = 0) ∧ l.length = len) := ⟨hr, hn, hl⟩
  clear hr hn
  by_cases h1 : 65536 < len
  · have h1' : (65536 : Int) < (len : Int) := by omega
    have P : Hid (umE l = 3) := (show umE l = 3 by unfold umE; rw [if_pos (by omega)])
    obtain ⟨w9, st, B9, g9⟩ := um_exit H0.out.1 H0.out.2
    have F : Hid _ := And.intro B9 g9
    clear B9 g9
    clear h1 hl hle hlen
    go_enter Try.func9, Try.ntmps9
    go_wp2_with (refine wpList_skipM rfl (exec_storeM rfl rfl rfl st) ?_)
    refine bodyPost_ret (res_msg rfl F.out.1 rfl rfl rfl) rfl ?_
    exact UmR.no P.out (by decide) F.out.2
  by_cases h2 : len < 4
  · have h2' : (len : Int) < 4 := by omega
    have h1' : (len : Int) ≤ 65536 := by omega
    have P : Hid (umE l = 10) := (show umE l = 10 by unfold umE; rw [if_neg (by omega), if_pos (by omega)])
    obtain ⟨w9, st, B9, g9⟩ := um_exit H0.out.1 H0.out.2
    have F : Hid _ := And.intro B9 g9
    clear B9 g9
    clear h1 h2 hl hle hlen
    go_enter Try.func9, Try.ntmps9
    go_wp2_with (refine wpList_skipM rfl (exec_storeM rfl rfl rfl st) ?_)
    refine bodyPost_ret (res_msg rfl F.out.1 rfl rfl rfl) rfl ?_
    exact UmR.no P.out (by decide) F.out.2
  obtain ⟨n, rfl⟩ : ∃ n, len = n + 4 := ⟨len - 4, by omega⟩
  have hn1 : n ≤ 65532 := by omega
  have HU : Hid (umE l = if umK l = false then 12 else if umHd l = true then 11 else umR (umS l)) := (show umE l = if umK l = false then 12 else if umHd l = true then 11 else umR (umS l) by unfold umE; rw [if_neg (by omega), if_neg (by omega)])
  have hA : umA l = l.take n := by unfold umA; rw [hl]; rfl
  obtain ⟨y, sl1, ry, yn, -⟩ := slice_uptoM (Row.later HR.out.1 H0.out.1) hl hle n (by omega) HR.out.2.1
  obtain ⟨G, hG⟩ : ∃ G : Int, G = ((numTo l n 4).toNat : Int) := ⟨_, rfl⟩
  obtain ⟨S, hS⟩ : ∃ S : Int, S = ((Crc.sum (l.take n)).toNat : Int) := ⟨_, rfl⟩
  have hK : umK l = decide (G = S) := by unfold umK; rw [hA, hl, hG, hS]; rfl
  have hSb : 0 ≤ S ∧ S < 4294967296 := by have := (Crc.sum (l.take n)).isLt; omega
  have htl : (l.take n).length = n := by rw [List.length_take]; omega
  have N1 : Calls Try.prog 31 #[.slice a (n + 4) cap, .int .i64 n, .int .i64 4] (w.alloc (.cells #[.int .i64 0, .int .i64 0, .int .i64 0, .int .i64 0, .int .i64 0, .int .i64 0, .int .i64 0, .int .i64 0, .bool false, .slice none 0 0, .slice none 0 0] 25)) fun e w' => e = .returned (.tuple #[.int .u64 G, .int .i64 0]) ∧ w' = (w.alloc (.cells #[.int .i64 0, .int .i64 0, .int .i64 0, .int .i64 0, .int .i64 0, .int .i64 0, .int .i64 0, .int .i64 0, .bool false, .slice none 0 0, .slice none 0 0] 25)) := by rw [hG]; exact rGetRow a n cap l _ hl (by omega) (Row.later HR.out.1 H0.out.1)
  have N2 : Calls Try.prog 25 #[.slice y n cap] (w.alloc (.cells #[.int .i64 0, .int .i64 0, .int .i64 0, .int .i64 0, .int .i64 0, .int .i64 0, .int .i64 0, .int .i64 0, .bool false, .slice none 0 0, .slice none 0 0] 25)) fun e w' => e = .returned (.int .u32 S) ∧ w' = (w.alloc (.cells #[.int .i64 0, .int .i64 0, .int .i64 0, .int .i64 0, .int .i64 0, .int .i64 0, .int .i64 0, .int .i64 0, .bool false, .slice none 0 0, .slice none 0 0] 25)) := by rw [hS]; exact (rsum_any y n cap _ _ htl (by unfold maxLen; omega) ry).mono (fun _ _ h => ⟨h.1, h.2.symm⟩)
  have HY : Hid _ := And.intro ry (And.intro yn (And.intro htl (And.intro hA (And.intro hK (And.intro hle (And.intro hl hlen))))))
  have HSB : Hid _ := And.intro hSb hn1
  have q1 : ¬ ((65536 : Int) < (n : Int) + 4) := by omega
  have q2 : ¬ ((n : Int) + 4 < 4) := by omega
  clear hSb hn1
  clear hG hS ry yn htl hA hK h1 h2 hl hle hlen
  go_enter Try.func9, Try.ntmps9
  go_upto_region 5 with fail
  go_upto_region 6 with (refine wpList_valueM rfl (exec_sliceM rfl rfl (sl1 _)) ?_)
  generalize (w.alloc (.cells #[.int .i64 0, .int .i64 0, .int .i64 0, .int .i64 0, .int .i64 0, .int .i64 0, .int .i64 0, .int .i64 0, .bool false, .slice none 0 0, .slice none 0 0] 25)) = wb at *
  clear sl1 q1 q2
  go_wp2_with fail
  refine N1.mono ?_
  rintro r w' ⟨rfl, hw⟩
  have hw2 := hw.symm
  clear hw
  subst hw2
  clear N1
  go_wp2_with fail
  refine N2.mono ?_
  rintro r w' ⟨rfl, hw⟩
  have hw2 := hw.symm
  clear hw
  subst hw2
  clear N2
  have b1 := HSB.out.1.1
  have b2 := HSB.out.1.2
  by_cases hk : G = S
  · subst hk
    have HK : Hid (umE l = if umHd l = true then 11 else umR (umS l)) := (show umE l = if umHd l = true then 11 else umR (umS l) by rw [HU.out, HY.out.2.2.2.2.1]; simp)
    by_cases h0 : n = 0
    · subst h0
      have P : Hid (umE l = 11) := (show umE l = 11 by rw [HK.out, if_pos (by unfold umHd; rw [HY.out.2.2.2.1]; simp)])
      obtain ⟨w9, st, B9, g9⟩ := um_exit H0.out.1 H0.out.2
      have F : Hid _ := And.intro B9 g9
      clear B9 g9
      clear HU
      go_wp2_with (refine wpList_skipM rfl (exec_storeM rfl rfl rfl st) ?_)
      refine bodyPost_ret (res_msg rfl F.out.1 rfl rfl rfl) rfl ?_
      exact UmR.no P.out (by decide) F.out.2
    obtain ⟨m, rfl⟩ : ∃ m, n = m + 1 := ⟨n - 1, by omega⟩
    clear h0
    obtain ⟨b, off, rfl, hc⟩ : ∃ b off, y = some ⟨b, off, none⟩ ∧ wb.cell? ⟨b, off, none⟩ = some (.int .u8 (bt (l.take (m + 1)) 0)) := by
      rcases HY.out.1 with e | ⟨b, off, e, h⟩
      · exfalso; have := HY.out.2.2.1; rw [e] at this; simp at this
      · exact ⟨b, off, e, h 0 (by rw [HY.out.2.2.1]; omega)⟩
    obtain ⟨X, hX⟩ : ∃ X, X = bt (l.take (m + 1)) 0 := ⟨_, rfl⟩
    rw [← hX] at hc
    have HX : Hid (umHd l = decide (¬ X = 202)) := (show umHd l = decide (¬ X = 202) by unfold umHd; rw [HY.out.2.2.2.1, hX]; have : l.take (m + 1) ≠ [] := (by intro e; have := HY.out.2.2.1; rw [e] at this; simp at this); simp [this])
    clear hX
    have hle9 : (m : Int) + 1 ≤ cap := by have := HY.out.2.2.2.2.2.1; omega
    by_cases hx : X = 202
    · subst hx
      clear HU
      obtain ⟨z, sl2, rz, zn, -⟩ := slice_fromM HY.out.1 HY.out.2.2.1 (by have := HY.out.2.2.2.2.2.1; omega) HY.out.2.1 1 (by omega)
      have sl3 : ∀ W : World, (Instr.sliceAt 23 (.slice (some ⟨b, off, none⟩) (m + 1) cap) (some (.int .i64 1)) none none).run Try.prog W = .ok (.slice z m (cap - 1)) W := sl2
      have NR := Of_any z m (cap - 1) ((l.take (m + 1)).drop 1) wb (by rw [List.length_drop, HY.out.2.2.1]; rfl) (by omega) rz zn (by have := HSB.out.2; omega)
      have HUM : Hid (umS l = ((l.take (m + 1)).drop 1, 0)) := (show umS l = ((l.take (m + 1)).drop 1, 0) by unfold umS; rw [HY.out.2.2.2.1])
      clear sl2 rz zn
      go_wp2_with (refine wpList_valueM rfl (exec_sliceM rfl rfl (sl3 _)) ?_)
      clear sl3
      refine NR.mono ?_
      rintro r w1 ⟨g, rfl, hg, hrd, b1'⟩
      clear NR hc
      have R1 : Rd w1 [] g 66 (umS l).1 (umS l).2 := by rw [HUM.out]; exact hrd [] (fun k hk => by cases hk)
      have hsz : w.heap.size < wb.heap.size := H0.out.2.lt
      have HS0 : Hid ((umS l).1.length ≤ 65532) := (show (umS l).1.length ≤ 65532 by rw [HUM.out]; show ((l.take (m + 1)).drop 1).length ≤ _; rw [List.length_drop, HY.out.2.2.1]; have := HSB.out.2; omega)
      have HUE : Hid (umE l = umR (umS l)) := (show umE l = umR (umS l) by rw [HK.out, HX.out]; rfl)
      obtain ⟨s, hs9⟩ : ∃ s, s = umS l := ⟨_, rfl⟩
      rw [← hs9] at R1 HS0 HUE
      have HM : Hid (umM l = if umE l = 0 then rmM s else mg0) := (show umM l = if umE l = 0 then rmM s else mg0 by rw [hs9]; rfl)
      have H1 : Hid _ := And.intro (below_then H0.out.1 b1') (And.intro (H0.out.2.laterB b1') (And.intro hg (And.intro hsz b1'.size)))
      have hgl := R1.blt
      have A4 : Blk (w1.alloc (.cells #[.int .i64 0, .int .i64 0, .int .i64 0, .int .i64 0, .int .i64 0, .int .i64 0, .int .i64 0, .int .i64 0, .bool false, .slice none 0 0, .slice none 0 0] 25)) w1.heap.size 25 [.int .i64 0, .int .i64 0, .int .i64 0, .int .i64 0, .int .i64 0, .int .i64 0, .int .i64 0, .int .i64 0, .bool false, .slice none 0 0, .slice none 0 0] := Blk.new' w1 _ _
      have HD0 : Hid (RMd g w1.heap.size w1 (w1.alloc (.cells #[.int .i64 0, .int .i64 0, .int .i64 0, .int .i64 0, .int .i64 0, .int .i64 0, .int .i64 0, .int .i64 0, .bool false, .slice none 0 0, .slice none 0 0] 25)) s [.int .i64 0, .int .i64 0, .int .i64 0, .int .i64 0, .int .i64 0, .int .i64 0, .int .i64 0, .int .i64 0, .bool false, .slice none 0 0, .slice none 0 0]) := ⟨(turned_below (box11_below w1 _ _)).mono (fun _ e => absurd e id), (R1.more w1.heap.size (Nat.le_refl _)).later (box11_below w1 _ _), A4, ⟨hgl, Nat.le_refl _⟩⟩
      clear hrd R1 b1' hg hsz A4 hs9 H0 HK HX HY HR HUM HSB b1 b2 hle9
      go_upto_region 13 with fail
      generalize w1.alloc (.cells #[.int .i64 0, .int .i64 0, .int .i64 0, .int .i64 0, .int .i64 0, .int .i64 0, .int .i64 0, .int .i64 0, .bool false, .slice none 0 0, .slice none 0 0] 25) = e0 at *
      go_wp2_with fail
      have N : Calls Try.prog 33 #[.pointer (some ⟨g, 0, none⟩), .int .i64 1] e0 fun e w' => e = .returned (.int .i64 (rnV s 1)) ∧ Rd w' [w1.heap.size] g 66 (rn s 1).1 (rn s 1).2 ∧ e0.grownBy w' (some g) := rNum_any _ g _ _ 1 e0 HD0.out.rd
      obtain ⟨X0, hX0⟩ : ∃ X, X = rnV s 1 := ⟨_, rfl⟩
      rw [← hX0] at N
      have HX0 : Hid (X0 = rnV s 1) := hX0
      clear hX0
      refine N.mono ?_
      rintro r d0 ⟨rfl, R', g'⟩
      have hD := HD0.out.read R' g'
      obtain ⟨u0, u1, u2, u3, u4, u5, u6, u7, u8, u9, u10⟩ := eblk11 hD.m4
      obtain ⟨f0, f1, f2, f3, f4, f5, f6, f7, f8, f9, f10⟩ := eblk11f hD.m4
      have HD1 : Hid (RMd g w1.heap.size w1 (d0.setCell ⟨w1.heap.size, 0, none⟩ (.int .i64 X0)) (rn s 1) [.int .i64 X0, .int .i64 0, .int .i64 0, .int .i64 0, .int .i64 0, .int .i64 0, .int .i64 0, .int .i64 0, .bool false, .slice none 0 0, .slice none 0 0]) := hD.put 0 (.int .i64 X0)
      clear N R' g' hD HD0
      go_wp2_with fail
      generalize d0.setCell ⟨w1.heap.size, 0, none⟩ (.int .i64 X0) = e1 at *
      clear u0 f0 u1 f1 u2 f2 u3 f3 u4 f4 u5 f5 u6 f6 u7 f7 u8 f8 u9 f9 u10 f10
      have N : Calls Try.prog 33 #[.pointer (some ⟨g, 0, none⟩), .int .i64 1] e1 fun e w' => e = .returned (.int .i64 (rnV (rn s 1) 1)) ∧ Rd w' [w1.heap.size] g 66 (rn (rn s 1) 1).1 (rn (rn s 1) 1).2 ∧ e1.grownBy w' (some g) := rNum_any _ g _ _ 1 e1 HD1.out.rd
      obtain ⟨X1, hX1⟩ : ∃ X, X = rnV (rn s 1) 1 := ⟨_, rfl⟩
      rw [← hX1] at N
      have HX1 : Hid (X1 = rnV (rn s 1) 1) := hX1
      clear hX1
      refine N.mono ?_
      rintro r d1 ⟨rfl, R', g'⟩
      have hD := HD1.out.read R' g'
      obtain ⟨u0, u1, u2, u3, u4, u5, u6, u7, u8, u9, u10⟩ := eblk11 hD.m4
      obtain ⟨f0, f1, f2, f3, f4, f5, f6, f7, f8, f9, f10⟩ := eblk11f hD.m4
      have HD2 : Hid (RMd g w1.heap.size w1 (d1.setCell ⟨w1.heap.size, 1, none⟩ (.int .i64 X1)) (rn (rn s 1) 1) [.int .i64 X0, .int .i64 X1, .int .i64 0, .int .i64 0, .int .i64 0, .int .i64 0, .int .i64 0, .int .i64 0, .bool false, .slice none 0 0, .slice none 0 0]) := hD.put 1 (.int .i64 X1)
      clear N R' g' hD HD1
      go_wp2_with fail
      generalize d1.setCell ⟨w1.heap.size, 1, none⟩ (.int .i64 X1) = e2 at *
      clear u0 f0 u1 f1 u2 f2 u3 f3 u4 f4 u5 f5 u6 f6 u7 f7 u8 f8 u9 f9 u10 f10
      have N : Calls Try.prog 33 #[.pointer (some ⟨g, 0, none⟩), .int .i64 1] e2 fun e w' => e = .returned (.int .i64 (rnV (rn (rn s 1) 1) 1)) ∧ Rd w' [w1.heap.size] g 66 (rn (rn (rn s 1) 1) 1).1 (rn (rn (rn s 1) 1) 1).2 ∧ e2.grownBy w' (some g) := rNum_any _ g _ _ 1 e2 HD2.out.rd
      obtain ⟨X2, hX2⟩ : ∃ X, X = rnV (rn (rn s 1) 1) 1 := ⟨_, rfl⟩
      rw [← hX2] at N
      have HX2 : Hid (X2 = rnV (rn (rn s 1) 1) 1) := hX2
      clear hX2
      refine N.mono ?_
      rintro r d2 ⟨rfl, R', g'⟩
      have hD := HD2.out.read R' g'
      obtain ⟨u0, u1, u2, u3, u4, u5, u6, u7, u8, u9, u10⟩ := eblk11 hD.m4
      obtain ⟨f0, f1, f2, f3, f4, f5, f6, f7, f8, f9, f10⟩ := eblk11f hD.m4
      have HD3 : Hid (RMd g w1.heap.size w1 (d2.setCell ⟨w1.heap.size, 2, none⟩ (.int .i64 X2)) (rn (rn (rn s 1) 1) 1) [.int .i64 X0, .int .i64 X1, .int .i64 X2, .int .i64 0, .int .i64 0, .int .i64 0, .int .i64 0, .int .i64 0, .bool false, .slice none 0 0, .slice none 0 0]) := hD.put 2 (.int .i64 X2)
      clear N R' g' hD HD2
      go_wp2_with fail
      generalize d2.setCell ⟨w1.heap.size, 2, none⟩ (.int .i64 X2) = e3 at *
      clear u0 f0 u1 f1 u2 f2 u3 f3 u4 f4 u5 f5 u6 f6 u7 f7 u8 f8 u9 f9 u10 f10
      have N : Calls Try.prog 33 #[.pointer (some ⟨g, 0, none⟩), .int .i64 1] e3 fun e w' => e = .returned (.int .i64 (rnV (rn (rn (rn s 1) 1) 1) 1)) ∧ Rd w' [w1.heap.size] g 66 (rn (rn (rn (rn s 1) 1) 1) 1).1 (rn (rn (rn (rn s 1) 1) 1) 1).2 ∧ e3.grownBy w' (some g) := rNum_any _ g _ _ 1 e3 HD3.out.rd
      obtain ⟨X3, hX3⟩ : ∃ X, X = rnV (rn (rn (rn s 1) 1) 1) 1 := ⟨_, rfl⟩
      rw [← hX3] at N
      have HX3 : Hid (X3 = rnV (rn (rn (rn s 1) 1) 1) 1) := hX3
      clear hX3
      refine N.mono ?_
      rintro r d3 ⟨rfl, R', g'⟩
      have hD := HD3.out.read R' g'
      have HD4 : Hid (RMd g w1.heap.size w1 d3 (rn (rn (rn (rn s 1) 1) 1) 1) [.int .i64 X0, .int .i64 X1, .int .i64 X2, .int .i64 0, .int .i64 0, .int .i64 0, .int .i64 0, .int .i64 0, .bool false, .slice none 0 0, .slice none 0 0]) := hD
      clear N R' g' hD HD3
      go_wp2_with fail
      have N : Calls Try.prog 33 #[.pointer (some ⟨g, 0, none⟩), .int .i64 6] d3 fun e w' => e = .returned (.int .i64 (rnV (rn (rn (rn (rn s 1) 1) 1) 1) 6)) ∧ Rd w' [w1.heap.size] g 66 (rn (rn (rn (rn (rn s 1) 1) 1) 1) 6).1 (rn (rn (rn (rn (rn s 1) 1) 1) 1) 6).2 ∧ d3.grownBy w' (some g) := rNum_any _ g _ _ 6 d3 HD4.out.rd
      obtain ⟨X4, hX4⟩ : ∃ X, X = rnV (rn (rn (rn (rn s 1) 1) 1) 1) 6 := ⟨_, rfl⟩
      rw [← hX4] at N
      have HX4 : Hid (X4 = rnV (rn (rn (rn (rn s 1) 1) 1) 1) 6) := hX4
      clear hX4
      refine N.mono ?_
      rintro r d4 ⟨rfl, R', g'⟩
      have hD := HD4.out.read R' g'
      obtain ⟨u0, u1, u2, u3, u4, u5, u6, u7, u8, u9, u10⟩ := eblk11 hD.m4
      obtain ⟨f0, f1, f2, f3, f4, f5, f6, f7, f8, f9, f10⟩ := eblk11f hD.m4
      have HD5 : Hid (RMd g w1.heap.size w1 (d4.setCell ⟨w1.heap.size, 3, none⟩ (.int .i64 X4)) (rn (rn (rn (rn (rn s 1) 1) 1) 1) 6) [.int .i64 X0, .int .i64 X1, .int .i64 X2, .int .i64 X4, .int .i64 0, .int .i64 0, .int .i64 0, .int .i64 0, .bool false, .slice none 0 0, .slice none 0 0]) := hD.put 3 (.int .i64 X4)
      clear N R' g' hD HD4
      go_wp2_with fail
      generalize d4.setCell ⟨w1.heap.size, 3, none⟩ (.int .i64 X4) = e5 at *
      clear u0 f0 u1 f1 u2 f2 u3 f3 u4 f4 u5 f5 u6 f6 u7 f7 u8 f8 u9 f9 u10 f10
      have N : Calls Try.prog 33 #[.pointer (some ⟨g, 0, none⟩), .int .i64 6] e5 fun e w' => e = .returned (.int .i64 (rnV (rn (rn (rn (rn (rn s 1) 1) 1) 1) 6) 6)) ∧ Rd w' [w1.heap.size] g 66 (rn (rn (rn (rn (rn (rn s 1) 1) 1) 1) 6) 6).1 (rn (rn (rn (rn (rn (rn s 1) 1) 1) 1) 6) 6).2 ∧ e5.grownBy w' (some g) := rNum_any _ g _ _ 6 e5 HD5.out.rd
      obtain ⟨X5, hX5⟩ : ∃ X, X = rnV (rn (rn (rn (rn (rn s 1) 1) 1) 1) 6) 6 := ⟨_, rfl⟩
      rw [← hX5] at N
      have HX5 : Hid (X5 = rnV (rn (rn (rn (rn (rn s 1) 1) 1) 1) 6) 6) := hX5
      clear hX5
      refine N.mono ?_
      rintro r d5 ⟨rfl, R', g'⟩
      have hD := HD5.out.read R' g'
      obtain ⟨u0, u1, u2, u3, u4, u5, u6, u7, u8, u9, u10⟩ := eblk11 hD.m4
      obtain ⟨f0, f1, f2, f3, f4, f5, f6, f7, f8, f9, f10⟩ := eblk11f hD.m4
      have HD6 : Hid (RMd g w1.heap.size w1 (d5.setCell ⟨w1.heap.size, 4, none⟩ (.int .i64 X5)) (rn (rn (rn (rn (rn (rn s 1) 1) 1) 1) 6) 6) [.int .i64 X0, .int .i64 X1, .int .i64 X2, .int .i64 X4, .int .i64 X5, .int .i64 0, .int .i64 0, .int .i64 0, .bool false, .slice none 0 0, .slice none 0 0]) := hD.put 4 (.int .i64 X5)
      clear N R' g' hD HD5
      go_wp2_with fail
      generalize d5.setCell ⟨w1.heap.size, 4, none⟩ (.int .i64 X5) = e6 at *
      clear u0 f0 u1 f1 u2 f2 u3 f3 u4 f4 u5 f5 u6 f6 u7 f7 u8 f8 u9 f9 u10 f10
      have N : Calls Try.prog 33 #[.pointer (some ⟨g, 0, none⟩), .int .i64 6] e6 fun e w' => e = .returned (.int .i64 (rnV (rn (rn (rn (rn (rn (rn s 1) 1) 1) 1) 6) 6) 6)) ∧ Rd w' [w1.heap.size] g 66 (rn (rn (rn (rn (rn (rn (rn s 1) 1) 1) 1) 6) 6) 6).1 (rn (rn (rn (rn (rn (rn (rn s 1) 1) 1) 1) 6) 6) 6).2 ∧ e6.grownBy w' (some g) := rNum_any _ g _ _ 6 e6 HD6.out.rd
      obtain ⟨X6, hX6⟩ : ∃ X, X = rnV (rn (rn (rn (rn (rn (rn s 1) 1) 1) 1) 6) 6) 6 := ⟨_, rfl⟩
      rw [← hX6] at N
      have HX6 : Hid (X6 = rnV (rn (rn (rn (rn (rn (rn s 1) 1) 1) 1) 6) 6) 6) := hX6
      clear hX6
      refine N.mono ?_
      rintro r d6 ⟨rfl, R', g'⟩
      have hD := HD6.out.read R' g'
      obtain ⟨u0, u1, u2, u3, u4, u5, u6, u7, u8, u9, u10⟩ := eblk11 hD.m4
      obtain ⟨f0, f1, f2, f3, f4, f5, f6, f7, f8, f9, f10⟩ := eblk11f hD.m4
      have HD7 : Hid (RMd g w1.heap.size w1 (d6.setCell ⟨w1.heap.size, 5, none⟩ (.int .i64 X6)) (rn (rn (rn (rn (rn (rn (rn s 1) 1) 1) 1) 6) 6) 6) [.int .i64 X0, .int .i64 X1, .int .i64 X2, .int .i64 X4, .int .i64 X5, .int .i64 X6, .int .i64 0, .int .i64 0, .bool false, .slice none 0 0, .slice none 0 0]) := hD.put 5 (.int .i64 X6)
      clear N R' g' hD HD6
      go_wp2_with fail
      generalize d6.setCell ⟨w1.heap.size, 5, none⟩ (.int .i64 X6) = e7 at *
      clear u0 f0 u1 f1 u2 f2 u3 f3 u4 f4 u5 f5 u6 f6 u7 f7 u8 f8 u9 f9 u10 f10
      have N : Calls Try.prog 33 #[.pointer (some ⟨g, 0, none⟩), .int .i64 6] e7 fun e w' => e = .returned (.int .i64 (rnV (rn (rn (rn (rn (rn (rn (rn s 1) 1) 1) 1) 6) 6) 6) 6)) ∧ Rd w' [w1.heap.size] g 66 (rn (rn (rn (rn (rn (rn (rn (rn s 1) 1) 1) 1) 6) 6) 6) 6).1 (rn (rn (rn (rn (rn (rn (rn (rn s 1) 1) 1) 1) 6) 6) 6) 6).2 ∧ e7.grownBy w' (some g) := rNum_any _ g _ _ 6 e7 HD7.out.rd
      obtain ⟨X7, hX7⟩ : ∃ X, X = rnV (rn (rn (rn (rn (rn (rn (rn s 1) 1) 1) 1) 6) 6) 6) 6 := ⟨_, rfl⟩
      rw [← hX7] at N
      have HX7 : Hid (X7 = rnV (rn (rn (rn (rn (rn (rn (rn s 1) 1) 1) 1) 6) 6) 6) 6) := hX7
      clear hX7
      refine N.mono ?_
      rintro r d7 ⟨rfl, R', g'⟩
      have hD := HD7.out.read R' g'
      obtain ⟨u0, u1, u2, u3, u4, u5, u6, u7, u8, u9, u10⟩ := eblk11 hD.m4
      obtain ⟨f0, f1, f2, f3, f4, f5, f6, f7, f8, f9, f10⟩ := eblk11f hD.m4
      have HD8 : Hid (RMd g w1.heap.size w1 (d7.setCell ⟨w1.heap.size, 6, none⟩ (.int .i64 X7)) (rn (rn (rn (rn (rn (rn (rn (rn s 1) 1) 1) 1) 6) 6) 6) 6) [.int .i64 X0, .int .i64 X1, .int .i64 X2, .int .i64 X4, .int .i64 X5, .int .i64 X6, .int .i64 X7, .int .i64 0, .bool false, .slice none 0 0, .slice none 0 0]) := hD.put 6 (.int .i64 X7)
      clear N R' g' hD HD7
      go_wp2_with fail
      generalize d7.setCell ⟨w1.heap.size, 6, none⟩ (.int .i64 X7) = e8 at *
      clear u0 f0 u1 f1 u2 f2 u3 f3 u4 f4 u5 f5 u6 f6 u7 f7 u8 f8 u9 f9 u10 f10
      have N : Calls Try.prog 33 #[.pointer (some ⟨g, 0, none⟩), .int .i64 6] e8 fun e w' => e = .returned (.int .i64 (rnV (rn (rn (rn (rn (rn (rn (rn (rn s 1) 1) 1) 1) 6) 6) 6) 6) 6)) ∧ Rd w' [w1.heap.size] g 66 (rn (rn (rn (rn (rn (rn (rn (rn (rn s 1) 1) 1) 1) 6) 6) 6) 6) 6).1 (rn (rn (rn (rn (rn (rn (rn (rn (rn s 1) 1) 1) 1) 6) 6) 6) 6) 6).2 ∧ e8.grownBy w' (some g) := rNum_any _ g _ _ 6 e8 HD8.out.rd
      obtain ⟨X8, hX8⟩ : ∃ X, X = rnV (rn (rn (rn (rn (rn (rn (rn (rn s 1) 1) 1) 1) 6) 6) 6) 6) 6 := ⟨_, rfl⟩
      rw [← hX8] at N
      have HX8 : Hid (X8 = rnV (rn (rn (rn (rn (rn (rn (rn (rn s 1) 1) 1) 1) 6) 6) 6) 6) 6) := hX8
      clear hX8
      refine N.mono ?_
      rintro r d8 ⟨rfl, R', g'⟩
      have hD := HD8.out.read R' g'
      obtain ⟨u0, u1, u2, u3, u4, u5, u6, u7, u8, u9, u10⟩ := eblk11 hD.m4
      obtain ⟨f0, f1, f2, f3, f4, f5, f6, f7, f8, f9, f10⟩ := eblk11f hD.m4
      have HD9 : Hid (RMd g w1.heap.size w1 (d8.setCell ⟨w1.heap.size, 7, none⟩ (.int .i64 X8)) (rn (rn (rn (rn (rn (rn (rn (rn (rn s 1) 1) 1) 1) 6) 6) 6) 6) 6) [.int .i64 X0, .int .i64 X1, .int .i64 X2, .int .i64 X4, .int .i64 X5, .int .i64 X6, .int .i64 X7, .int .i64 X8, .bool false, .slice none 0 0, .slice none 0 0]) := hD.put 7 (.int .i64 X8)
      clear N R' g' hD HD8
      go_wp2_with fail
      generalize d8.setCell ⟨w1.heap.size, 7, none⟩ (.int .i64 X8) = e9 at *
      clear u0 f0 u1 f1 u2 f2 u3 f3 u4 f4 u5 f5 u6 f6 u7 f7 u8 f8 u9 f9 u10 f10
      have N : Calls Try.prog 34 #[.pointer (some ⟨g, 0, none⟩), .int .i64 2, .int .i64 4096] e9 fun e w' => e = .returned (.int .i64 (rcntV s)) ∧ Rd w' [w1.heap.size] g 66 (rcnt s).1 (rcnt s).2 ∧ e9.grownBy w' (some g) := rCount_any _ g _ _ 2 4096 e9 HD9.out.rd
      obtain ⟨cn, hcn⟩ : ∃ cn : Nat, rcntV s = cn ∧ cn ≤ 4096 := ⟨(rcntV s).toNat, by have := rcntV_bd s; omega, by have := rcntV_bd s; omega⟩
      rw [hcn.1] at N
      have hcI : (cn : Int) ≤ 4096 := by have := hcn.2; omega
      have HCN : Hid _ := hcn
      clear hcn
      refine N.mono ?_
      rintro r d9 ⟨rfl, R', g'⟩
      have hD := HD9.out.read R' g'
      have HL : Hid (RLd (w1.heap.size + 1) g w1.heap.size w1 d9 (rents (rcnt s) 0) [.int .i64 X0, .int .i64 X1, .int .i64 X2, .int .i64 X4, .int .i64 X5, .int .i64 X6, .int .i64 X7, .int .i64 X8, .bool false, .slice none 0 0, .slice none 0 0] (.slice none 0 0) (rentsV (rcnt s) 0)) := ⟨hD, hD.rd, ⟨[], [], EsOwn.nil _ _, by simp⟩, ⟨by have := hD.far; omega, by omega, by have := hD.m4.lt; omega⟩⟩
      clear N R' g' hD HD9 hgl
      go_wp2_with fail
      go_loopw [11] (fun iv wr => ∃ (k : Nat) (v : Value), k ≤ cn ∧ iv = .int .i64 k ∧ RLd (w1.heap.size + 1) g w1.heap.size w1 wr (rents (rcnt s) k) [.int .i64 X0, .int .i64 X1, .int .i64 X2, .int .i64 X4, .int .i64 X5, .int .i64 X6, .int .i64 X7, .int .i64 X8, .bool false, v, .slice none 0 0] v (rentsV (rcnt s) k)) (fun iv _ => cn - (intOf iv).toNat)
      case atStart => exact ⟨0, _, Nat.zero_le _, rfl, HL.out⟩
      case round =>
        obtain ⟨k, v, hk, rfl, hL⟩ := hrel
        by_cases hlt : k < cn
        · by_cases e0 : (rents (rcnt s) k).2 = 0
          · have q1 : (k : Int) < (cn : Int) := by omega
            have c1 := rd_err hL.rd
            rw [e0] at c1
            have hlv := World.ownsRow.lt hL.own.choose_spec.choose_spec.1.own
            have hq4 := hL.rm.m4.lt
            have HE : Hid (Calls Try.prog 35 #[.pointer (some ⟨g, 0, none⟩)] wr fun r w' => ∃ x c, r = .returned (.tuple #[.agg #[.int .i64 (rEntE (rents (rcnt s) k)).1, .int .i64 (rEntE (rents (rcnt s) k)).2.1, .slice x (rEntE (rents (rcnt s) k)).2.2.length c], .bool (canE (rEntE (rents (rcnt s) k)))]) ∧ Own w' wr.heap.size (.slice x (rEntE (rents (rcnt s) k)).2.2.length c) (rEntE (rents (rcnt s) k)).2.2 ∧ Rd w' (v.ownBlock.toList ++ [w1.heap.size]) g 66 (rents (rcnt s) (k + 1)).1 (rents (rcnt s) (k + 1)).2 ∧ Turned (fun k => k = g) wr w') := rget_turn (v.ownBlock.toList ++ [w1.heap.size]) g (rents (rcnt s) k) wr hL.rd (fun j hj => by
          rcases List.mem_append.1 hj with hj | hj
          · exact (hlv j (mem_toList.1 hj)).2
          · rw [List.mem_singleton.1 hj]; exact hq4) (by have := rents_len (rcnt s) k; have := rcnt_len s; have := HS0.out; omega)
            have HL1 : Hid _ := And.intro hL (And.intro (rentsV_len (rcnt s) k) (And.intro e0 hL.lo))
            clear hL hlv hq4 e0
            go_wp2_with fail
            refine (Calls.mono HE.out) ?_
            rintro e x1 ⟨x, c, rfl, oE, R1, t1⟩
            clear c1 HE
            have HF1 : Hid (Blk (x1.alloc (.cells #[.int .i64 (rEntE (rents (rcnt s) k)).1, .int .i64 (rEntE (rents (rcnt s) k)).2.1, .slice x (rEntE (rents (rcnt s) k)).2.2.length c] 49)) x1.heap.size 49 [.int .i64 (rEntE (rents (rcnt s) k)).1, .int .i64 (rEntE (rents (rcnt s) k)).2.1, .slice x (rEntE (rents (rcnt s) k)).2.2.length c] ∧ Below x1.heap.size x1 (x1.alloc (.cells #[.int .i64 (rEntE (rents (rcnt s) k)).1, .int .i64 (rEntE (rents (rcnt s) k)).2.1, .slice x (rEntE (rents (rcnt s) k)).2.2.length c] 49)) ∧ _) := And.intro (Blk.new' x1 _ _) (And.intro (box3_below x1 _ _ _ _) (And.intro oE (And.intro R1 t1)))
            clear oE R1 t1
            go_upto_region 27 with fail
            generalize (x1.alloc (.cells #[.int .i64 (rEntE (rents (rcnt s) k)).1, .int .i64 (rEntE (rents (rcnt s) k)).2.1, .slice x (rEntE (rents (rcnt s) k)).2.2.length c] 49)) = x2 at *
            have hE2 := (HL1.out.1.entry (s' := rents (rcnt s) (k + 1)) HF1.out.2.2.2.1 HF1.out.2.2.2.2).later HF1.out.2.1
            have bA : Below x2.heap.size x2 (x2.alloc (.cells #[.int .i64 (rEntE (rents (rcnt s) k)).1, .int .i64 (rEntE (rents (rcnt s) k)).2.1, .slice x (rEntE (rents (rcnt s) k)).2.2.length c] 49)) := (Below.refl _ _).alloc (Nat.le_refl _) _
            have BA : Blk (x2.alloc (.cells #[.int .i64 (rEntE (rents (rcnt s) k)).1, .int .i64 (rEntE (rents (rcnt s) k)).2.1, .slice x (rEntE (rents (rcnt s) k)).2.2.length c] 49)) x2.heap.size 49 [.int .i64 (rEntE (rents (rcnt s) k)).1, .int .i64 (rEntE (rents (rcnt s) k)).2.1, .slice x (rEntE (rents (rcnt s) k)).2.2.length c] := Blk.new' x2 _ _
            have hE3 := hE2.later bA
            obtain ⟨V, vs, ho, hV⟩ := hE3.own
            have hlv := World.ownsRow.lt HL1.out.1.own.choose_spec.choose_spec.1.own
            obtain ⟨a9, c9, e9', hle, -, hrow, hnil, hadr⟩ := HF1.out.2.2.1.open
            simp only [Value.slice.injEq] at e9'
            obtain ⟨e91, -, e92⟩ := e9'
            subst e91
            subst e92
            have hoe := World.ownsRow.lt HF1.out.2.2.1
            have hfar : ∀ z, x = some z → v.ownBlock ≠ some z.block ∧ z.block < (x2.alloc (.cells #[.int .i64 (rEntE (rents (rcnt s) k)).1, .int .i64 (rEntE (rents (rcnt s) k)).2.1, .slice x (rEntE (rents (rcnt s) k)).2.2.length c] 49)).heap.size ∧ (w1.heap.size + 1) ≤ z.block := fun z hz => by
              obtain ⟨gz, rfl, hgz⟩ := hadr z hz
              subst hz
              have h1 := (hoe gz rfl).2
              have h2 := bA.size
              have h4 := HF1.out.2.1.size
              have h3 := HL1.out.2.2.2.2.2
              refine ⟨fun e => by have := (hlv gz e).2; omega, by show gz < _; omega, by show _ ≤ gz; omega⟩
            have hkl := HL1.out.2.1
            obtain ⟨v', x3, hrun, ⟨V', vs', ho3, hV3⟩, hg3, hat3⟩ := run_append_ent (x2.alloc (.cells #[.int .i64 (rEntE (rents (rcnt s) k)).1, .int .i64 (rEntE (rents (rcnt s) k)).2.1, .slice x (rEntE (rents (rcnt s) k)).2.2.length c] 49)) 22 (w1.heap.size + 1) v (rentsV (rcnt s) k) V vs ho x2.heap.size (rEntE (rents (rcnt s) k)) x c BA hle ((hrow.later HF1.out.2.1).later bA) hnil (fun z hz => ⟨(hfar z hz).1, (hfar z hz).2.1⟩) (by have := HCN.out.2; omega) hE3.lo.2.2
            have hR3 := hE3.app hg3 ⟨V', vs', ho3, fun q hq => (hV3 q hq).elim (hV q) (fun ⟨z, hz, e⟩ => by rw [e]; exact (hfar z hz).2.2)⟩ hat3
            obtain ⟨va, vn, vc, rfl⟩ : ∃ va vn vc, v' = .slice va vn vc := by
              obtain ⟨_, ⟨e, _⟩ | ⟨g', cap, cur, e, _⟩⟩ := ho3.own
              · exact ⟨_, _, _, e⟩
              · exact ⟨_, _, _, e⟩
            obtain ⟨-, -, -, -, -, -, -, -, -, s2, -⟩ := eblk11 hE2.rm.m4
            obtain ⟨-, -, -, -, -, -, -, -, -, s3, -⟩ := eblk11 hR3.rm.m4
            obtain ⟨-, -, -, -, -, -, -, -, -, f3, -⟩ := eblk11f hR3.rm.m4
            obtain ⟨⟨y0, y1, y2⟩, -⟩ := eblk3 HF1.out.1
            have HF : Hid _ := And.intro hrun (hR3.put 9 (.slice va vn vc))
            clear bA BA hE2 hE3 ho hV hlv hle hrow hnil hadr hoe hfar hkl hrun ho3 hV3 hg3 hat3 hR3 HF1
            go_wp2_with (at_builtin; refine wpList_run_appM rfl _ _ 22 22 rfl _ _ rfl rfl HF.out.1 ?_)
            clear y0 y1 y2 s2 s3 f3
            go_roundw
            case rel => exact ⟨k + 1, .slice va vn vc, by omega, by go_num, HF.out.2⟩
            case measure => simp [intOf]; omega
          · have q1 : (k : Int) < (cn : Int) := by omega
            have c1 := rd_err hL.rd
            have hkc : k ≤ (rcntV s).toNat := by rw [HCN.out.1]; omega
            obtain ⟨E, hE⟩ : ∃ E, E = (rents (rcnt s) k).2 := ⟨_, rfl⟩
            have PE : Hid (umE l = E) := (show umE l = E by rw [HUE.out, hE]; exact umR_err hkc e0)
            rw [← hE] at c1
            have hbb : rdBytes (rents (rcnt s) k).1 (rents (rcnt s) k).2 4 = ([], E, []) := by rw [hE]; exact rdBytes_errM _ _ e0
            rw [← hE] at e0
            have q0 : (E == 0) = false := by rw [beq_eq_false_iff_ne]; exact e0
            have HE0 : Hid (E ≠ 0) := e0
            clear hE hkc e0
            have hlv := World.ownsRow.lt hL.own.choose_spec.choose_spec.1.own
            have hq4 := hL.rm.m4.lt
            have hF : ∀ j ∈ v.ownBlock.toList ++ [w1.heap.size], j < wr.heap.size := fun j hj => (List.mem_append.1 hj).elim (fun h => (hlv j (mem_toList.1 h)).2) (fun h => by rw [List.mem_singleton.1 h]; exact hq4)
            have NB : Calls Try.prog 36 #[.pointer (some ⟨g, 0, none⟩), .int .i64 4] wr fun e w' => ∃ v2, e = .returned v2 ∧ Own w' wr.heap.size v2 ([] : List (BitVec 8)) ∧ Rd w' (v.ownBlock.toList ++ [w1.heap.size]) g 66 [] E ∧ wr.grownBy w' (some g) := by have h9 := rBytes_any (v.ownBlock.toList ++ [w1.heap.size]) g _ _ 4 wr hL.rd hF; rw [hbb] at h9; exact h9
            have HLL : Hid _ := hL
            clear hL hlv hq4 hF
            go_wp2_with fail
            refine NB.mono ?_
            rintro r w3 ⟨v2, rfl, oD, RB, gB⟩
            clear NB c1
            have tB : Turned (fun k => k = g) wr w3 := turned_grown gB (fun k e => (Option.some.inj e).symm)
            obtain ⟨da, dc, rfl, -, -, -, -, -⟩ := oD.open
            have hE4 := HLL.out.entry (s' := ([], E)) RB tB
            have hP := hE4.put 10 (.slice da ([] : List (BitVec 8)).length dc)
            obtain ⟨-, -, -, -, -, -, -, -, -, -, uA⟩ := eblk11 hE4.rm.m4
            obtain ⟨-, -, -, -, -, -, -, -, -, -, fA⟩ := eblk11f hE4.rm.m4
            have HPP : Hid _ := hP
            clear hP hE4 oD RB gB tB HLL hbb
            go_upto_region 29 with fail
            clear uA fA
            generalize w3.setCell ⟨w1.heap.size, 10, none⟩ (.slice da ([] : List (BitVec 8)).length dc) = w4 at *
            have c2 := rd_err HPP.out.rd
            have hbw : Below w.heap.size w w4 := H1.out.1.trans (HPP.out.rm.t.below _ H1.out.1.size (fun k e => by rw [e]; have := H1.out.2.2.1; have := H1.out.2.2.2.1; omega))
            have hMw : Blk w4 w.heap.size 25 [.int .i64 0, .int .i64 0, .int .i64 0, .int .i64 0, .int .i64 0, .int .i64 0, .int .i64 0, .int .i64 0, .bool false, .slice none 0 0, .slice none 0 0] := H1.out.2.1.turned HPP.out.rm.t (by have := H1.out.2.2.1; have := H1.out.2.2.2.1; omega)
            have H6 : Hid _ := And.intro hbw hMw
            have NE : Calls Try.prog 37 #[.pointer (some ⟨g, 0, none⟩)] w4 fun e w' => e = .returned (.int .i64 E) ∧ w' = w4 := by have h9 := rEnd_any _ g _ _ w4 HPP.out.rd; rw [show rdEnd ([] : List (BitVec 8)) E = E from if_neg HE0.out] at h9; exact h9.mono (fun _ _ h => ⟨h.1, h.2.symm⟩)
            clear hbw hMw HPP
            go_wp2_with fail
            refine NE.mono ?_
            rintro r w' ⟨rfl, hw⟩
            have hw2 := hw.symm
            clear hw
            subst hw2
            clear NE c2
            have P : Hid (umE l = E) := (show umE l = E by exact PE.out)
            obtain ⟨w9, st, B9, g9⟩ := um_exit H6.out.1 H6.out.2
            have F : Hid _ := And.intro B9 g9
            clear B9 g9
            go_wp2_with (refine wpList_skipM rfl (exec_storeM rfl rfl rfl st) ?_)
            refine bodyPost_ret (res_msg rfl F.out.1 rfl rfl rfl) rfl ?_
            exact UmR.no P.out HE0.out F.out.2
        · obtain rfl : k = cn := by omega
          have q1 : ¬ ((k : Int) < (k : Int)) := by omega
          have c1 := rd_err hL.rd
          have hkN : (rcntV s).toNat = k := by rw [HCN.out.1]; rfl
          have hme : rents (rcnt s) k = rme s := by unfold rme; rw [hkN]
          have hMM : rmM s = (⟨X0, X1, X2, X4, X5, X6, X7, X8, X3 == 1, rentsV (rcnt s) k, (rmb s).2.2⟩ : Mg) := by unfold rmM rmY; rw [hkN, HX0.out, HX1.out, HX2.out, HX3.out, HX4.out, HX5.out, HX6.out, HX7.out, HX8.out]; rfl
          have hYY : rmY s = X3 := by rw [HX3.out]; rfl
          have hbb : rdBytes (rents (rcnt s) k).1 (rents (rcnt s) k).2 4 = rmb s := by rw [hme]; rfl
          obtain ⟨va, vc, rfl⟩ : ∃ va vc, v = .slice va (rentsV (rcnt s) k).length vc := by
            obtain ⟨V, vs, ho, -⟩ := hL.own
            obtain ⟨_, ⟨e, h0⟩ | ⟨g', cap, cur, e, _⟩⟩ := ho.own
            · exact ⟨none, 0, by rw [e, h0]⟩
            · exact ⟨_, _, e⟩
          have HMM : Hid _ := And.intro hMM (And.intro hYY hkN)
          clear hMM hYY hkN hme
          have hlv := World.ownsRow.lt hL.own.choose_spec.choose_spec.1.own
          have hq4 := hL.rm.m4.lt
          have hF : ∀ j ∈ (Value.slice va (rentsV (rcnt s) k).length vc).ownBlock.toList ++ [w1.heap.size], j < wr.heap.size := fun j hj => (List.mem_append.1 hj).elim (fun h => (hlv j (mem_toList.1 h)).2) (fun h => by rw [List.mem_singleton.1 h]; exact hq4)
          have NB : Calls Try.prog 36 #[.pointer (some ⟨g, 0, none⟩), .int .i64 4] wr fun e w' => ∃ v2, e = .returned v2 ∧ Own w' wr.heap.size v2 (rmb s).2.2 ∧ Rd w' ((Value.slice va (rentsV (rcnt s) k).length vc).ownBlock.toList ++ [w1.heap.size]) g 66 (rmb s).1 (rmb s).2.1 ∧ wr.grownBy w' (some g) := by have h9 := rBytes_any ((Value.slice va (rentsV (rcnt s) k).length vc).ownBlock.toList ++ [w1.heap.size]) g _ _ 4 wr hL.rd hF; rw [hbb] at h9; exact h9
          have HLL : Hid _ := hL
          clear hL hlv hq4 hF
          go_wp2_with fail
          refine NB.mono ?_
          rintro r w3 ⟨v2, rfl, oD, RB, gB⟩
          clear NB c1
          have tB : Turned (fun k => k = g) wr w3 := turned_grown gB (fun k e => (Option.some.inj e).symm)
          obtain ⟨da, dc, rfl, -, -, -, -, -⟩ := oD.open
          have hE4 := HLL.out.entry (s' := ((rmb s).1, (rmb s).2.1)) RB tB
          have hP := hE4.put 10 (.slice da (rmb s).2.2.length dc)
          obtain ⟨-, -, -, -, -, -, -, -, -, -, uA⟩ := eblk11 hE4.rm.m4
          obtain ⟨-, -, -, -, -, -, -, -, -, -, fA⟩ := eblk11f hE4.rm.m4
          have HPP : Hid _ := And.intro hP (oD.keep (grown_set w3 w1.heap.size 10 (.slice da (rmb s).2.2.length dc)) (fun j hj e => by have := (World.ownsRow.lt oD j hj).1; have := HLL.out.rm.m4.lt; have := Option.some.inj e; omega))
          clear hP hE4 oD RB gB tB hbb
          go_upto_region 29 with fail
          clear uA fA
          generalize w3.setCell ⟨w1.heap.size, 10, none⟩ (.slice da (rmb s).2.2.length dc) = w4 at *
          have c2 := rd_err HPP.out.1.rd
          obtain ⟨E9, hE9⟩ : ∃ E9, E9 = (rmb s).2.1 := ⟨_, rfl⟩
          obtain ⟨E, hE⟩ : ∃ E, E = rdEnd (rmb s).1 (rmb s).2.1 := ⟨_, rfl⟩
          have HU9 : Hid (umE l = if E = 0 then (if 1 < X3 then 11 else if canM (⟨X0, X1, X2, X4, X5, X6, X7, X8, X3 == 1, rentsV (rcnt s) k, (rmb s).2.2⟩ : Mg) = true then 0 else 1) else E) := (show umE l = if E = 0 then (if 1 < X3 then 11 else if canM (⟨X0, X1, X2, X4, X5, X6, X7, X8, X3 == 1, rentsV (rcnt s) k, (rmb s).2.2⟩ : Mg) = true then 0 else 1) else E by rw [HUE.out]; unfold umR; rw [HMM.out.1, HMM.out.2.1, hE]; rfl)
          have HZ : Hid (E9 = 0 → E = 0 ∨ E = 11) := (show E9 = 0 → E = 0 ∨ E = 11 from fun h => by rw [hE, ← hE9, h]; exact rdEnd_zero _)
          have NE : Calls Try.prog 37 #[.pointer (some ⟨g, 0, none⟩)] w4 fun e w' => e = .returned (.int .i64 E) ∧ w' = w4 := by have h9 := rEnd_any _ g _ _ w4 HPP.out.1.rd; rw [hE]; exact h9.mono (fun _ _ h => ⟨h.1, h.2.symm⟩)
          have HZ0 : Hid (E = 0 → E9 = 0) := (show E = 0 → E9 = 0 from fun h => Decidable.byContradiction fun h2 => h2 (by rw [hE, ← hE9] at h; unfold rdEnd at h; rw [if_neg h2] at h; exact h))
          rw [← hE9] at c2
          have hbw : Below w.heap.size w w4 := H1.out.1.trans (HPP.out.1.rm.t.below _ H1.out.1.size (fun k e => by rw [e]; have := H1.out.2.2.1; have := H1.out.2.2.2.1; omega))
          have hMw : Blk w4 w.heap.size 25 [.int .i64 0, .int .i64 0, .int .i64 0, .int .i64 0, .int .i64 0, .int .i64 0, .int .i64 0, .int .i64 0, .bool false, .slice none 0 0, .slice none 0 0] := H1.out.2.1.turned HPP.out.1.rm.t (by have := H1.out.2.2.1; have := H1.out.2.2.2.1; omega)
          have H6 : Hid _ := And.intro hbw hMw
          clear hE9 hE hbw hMw
          by_cases z9 : E9 = 0 ∧ 1 < X3
          · obtain ⟨z1, z2⟩ := z9
            subst z1
            have P : Hid (umE l = 11) := (show umE l = 11 by rw [HU9.out]; rcases HZ.out rfl with h | h <;> first | (rw [if_pos h, if_pos z2]) | (rw [h]; rfl))
            obtain ⟨w9, st, B9, g9⟩ := um_exit H6.out.1 H6.out.2
            have F : Hid _ := And.intro B9 g9
            clear B9 g9
            clear NE
            go_wp2_with (refine wpList_skipM rfl (exec_storeM rfl rfl rfl st) ?_)
            refine bodyPost_ret (res_msg rfl F.out.1 rfl rfl rfl) rfl ?_
            exact UmR.no P.out (by decide) F.out.2
          · by_cases zE : E = 0
            · subst zE
              have z0 : E9 = 0 := HZ0.out rfl
              subst z0
              have y1 : ¬ (1 : Int) < X3 := fun h => z9 ⟨rfl, h⟩
              have HY1 : Hid _ := y1
              clear z9
              go_wp2_with fail
              refine NE.mono ?_
              rintro r w' ⟨rfl, hw⟩
              have hw2 := hw.symm
              clear hw
              subst hw2
              clear NE c2 H6
              have hP2 := HPP.out.1.put 8 (.bool (X3 == 1))
              have oD2 := HPP.out.2.keep (grown_set w4 w1.heap.size 8 (.bool (X3 == 1))) (fun j hj e => by have := (World.ownsRow.lt HPP.out.2 j hj).1; have := HLL.out.rm.m4.lt; have := Option.some.inj e; omega)
              obtain ⟨-, -, -, -, -, -, -, -, u8, -, -⟩ := eblk11 HPP.out.1.rm.m4
              obtain ⟨-, -, -, -, -, -, -, -, f8, -, -⟩ := eblk11f HPP.out.1.rm.m4
              have HQ : Hid _ := And.intro hP2 oD2
              clear hP2 oD2 HPP
              go_upto_region 35 with fail
              clear u8 f8
              generalize w4.setCell ⟨w1.heap.size, 8, none⟩ (.bool (X3 == 1)) = w5 at *
              have hbw : Below w.heap.size w w5 := H1.out.1.trans (HQ.out.1.rm.t.below _ H1.out.1.size (fun k e => by rw [e]; have := H1.out.2.2.1; have := H1.out.2.2.2.1; omega))
              have hMw : Blk w5 w.heap.size 25 [.int .i64 0, .int .i64 0, .int .i64 0, .int .i64 0, .int .i64 0, .int .i64 0, .int .i64 0, .int .i64 0, .bool false, .slice none 0 0, .slice none 0 0] := H1.out.2.1.turned HQ.out.1.rm.t (by have := H1.out.2.2.1; have := H1.out.2.2.2.1; omega)
              obtain ⟨V, vs, ho, hV⟩ := HQ.out.1.own
              have hlo := HQ.out.1.lo
              have hok := rentsV_ok (rcnt s) 140737488351232 (by have := rcnt_len s; have := HS0.out; omega) k
              obtain ⟨a', c', e1, -, -, hEA⟩ := ho.args hok
              simp only [Value.slice.injEq] at e1
              obtain ⟨rfl, -, rfl⟩ := e1
              obtain ⟨C, hC⟩ : ∃ C, C = canM (⟨X0, X1, X2, X4, X5, X6, X7, X8, X3 == 1, rentsV (rcnt s) k, (rmb s).2.2⟩ : Mg) := ⟨_, rfl⟩
              have N4 : Calls Try.prog 21 #[.agg #[.int .i64 X0, .int .i64 X1, .int .i64 X2, .int .i64 X4, .int .i64 X5, .int .i64 X6, .int .i64 X7, .int .i64 X8, .bool (X3 == 1), .slice va (rentsV (rcnt s) k).length vc, .slice da (rmb s).2.2.length dc]] w5 fun r w' => r = .returned (.bool C) ∧ Below w5.heap.size w5 w' := by rw [hC]; exact rightMsg_any (⟨X0, X1, X2, X4, X5, X6, X7, X8, X3 == 1, rentsV (rcnt s) k, (rmb s).2.2⟩ : Mg) va vc da dc w5 hEA (by show (rentsV (rcnt s) k).length ≤ _; rw [rentsV_len]; have := HCN.out.2; omega)
              have HC : Hid _ := hC
              clear hC
              have ld3 := load_msg HQ.out.1.rm.m4 rfl
              have H6 : Hid _ := And.intro hbw (And.intro hMw (And.intro HQ.out.1.rm.m4 (And.intro (And.intro ho hV) (And.intro HQ.out.2 (And.intro HLL.out.lo.2.2 hlo)))))
              clear hbw hMw ho hV hlo hok hEA HQ HLL y1
              go_wp2_with (refine wpList_valueM rfl (exec_loadM rfl rfl ld3) ?_)
              clear ld3
              refine N4.mono ?_
              rintro r w6 ⟨rfl, b4⟩
              clear N4
              have H5 : Hid _ := And.intro (below_then H6.out.1 b4) (And.intro (H6.out.2.1.laterB b4) (And.intro (H6.out.2.2.1.laterB b4) (And.intro (And.intro (H6.out.2.2.2.1.1.later b4) H6.out.2.2.2.1.2) (H6.out.2.2.2.2.1.later b4))))
              clear b4
              cases C with
              | false =>
                have hC : canM (⟨X0, X1, X2, X4, X5, X6, X7, X8, X3 == 1, rentsV (rcnt s) k, (rmb s).2.2⟩ : Mg) = false := HC.out.symm
                have P : Hid (umE l = 1) := (show umE l = 1 by rw [HU9.out]; first | (rw [if_pos rfl, if_neg HY1.out, hC]; rfl) | (rw [if_pos trivial, if_neg HY1.out, hC]; rfl))
                obtain ⟨w9, st, B9, g9⟩ := um_exit (And.intro H5.out.1 H5.out.2.1).1 (And.intro H5.out.1 H5.out.2.1).2
                have F : Hid _ := And.intro B9 g9
                clear B9 g9
                go_wp2_with (refine wpList_skipM rfl (exec_storeM rfl rfl rfl st) ?_)
                refine bodyPost_ret (res_msg rfl F.out.1 rfl rfl rfl) rfl ?_
                exact UmR.no P.out (by decide) F.out.2
              | true =>
                have hC : canM (⟨X0, X1, X2, X4, X5, X6, X7, X8, X3 == 1, rentsV (rcnt s) k, (rmb s).2.2⟩ : Mg) = true := HC.out.symm
                have ld4 := load_msg H5.out.2.2.1 rfl
                obtain ⟨w9, st, B9, g9⟩ := store_msg (vs := [.int .i64 X0, .int .i64 X1, .int .i64 X2, .int .i64 X4, .int .i64 X5, .int .i64 X6, .int .i64 X7, .int .i64 X8, .bool (X3 == 1), .slice va (rentsV (rcnt s) k).length vc, .slice da (rmb s).2.2.length dc]) H5.out.2.1 rfl rfl (by intro u hu; simp only [List.mem_cons, List.not_mem_nil, or_false] at hu; rcases hu with rfl | rfl | rfl | rfl | rfl | rfl | rfl | rfl | rfl | rfl | rfl <;> rfl)
                have hlt := World.ownsRow.lt H5.out.2.2.2.1.1.own
                have hld := World.ownsRow.lt H5.out.2.2.2.2
                have hw1 := H1.out.2.2.2.1
                have hw3 := H1.out.2.2.2.2
                have hw4 := H6.out.2.2.2.2.2.1
                have t9 : Turned (fun k => k = w.heap.size) w6 w9 := turned_grown g9 (fun k e => (Option.some.inj e).symm)
                have F : Hid _ := And.intro B9 (And.intro (show ∃ V vs, EsOwn w9 w.heap.size (.slice va (rentsV (rcnt s) k).length vc) (rentsV (rcnt s) k) V vs ∧ ∀ k ∈ V, w.heap.size ≤ k from ⟨V, vs, es_baseM (H5.out.2.2.2.1.1.turned t9 (fun k hk e => by have := (hlt k hk).1; omega) (fun k hk e => by have := H5.out.2.2.2.1.2 k hk; omega)) (by omega), fun k hk => by have := H5.out.2.2.2.1.2 k hk; omega⟩) (And.intro (own_baseM (own_keptM H5.out.2.2.2.2 g9 (fun q hq e => by have := (hld q hq).1; have := Option.some.inj e; omega)) (show w.heap.size ≤ wr.heap.size by omega)) (H5.out.1.trans (grown_below g9 _ (Nat.le_refl _) H5.out.1.size))))
                clear B9 g9 t9 hlt hld hw1 hw3 hw4
                go_wp2_with (first | (refine wpList_valueM rfl (exec_loadM rfl rfl ld4) ?_) | (refine wpList_skipM rfl (exec_storeM rfl rfl rfl st) ?_))
                refine bodyPost_ret (res_msg rfl F.out.1 rfl rfl rfl) rfl ?_
                have P0 : umE l = 0 := by rw [HU9.out]; first | rw [if_pos rfl, if_neg HY1.out, if_pos hC] | rw [if_pos trivial, if_neg HY1.out, if_pos hC]
                have P1 : umM l = (⟨X0, X1, X2, X4, X5, X6, X7, X8, X3 == 1, rentsV (rcnt s) k, (rmb s).2.2⟩ : Mg) := by rw [HM.out, if_pos P0]; exact HMM.out.1
                unfold UmR
                rw [P1, P0]
                exact ⟨va, vc, da, dc, rfl, F.out.2.1, F.out.2.2.1, F.out.2.2.2⟩
            · have HzE : Hid (E ≠ 0) := zE
              clear zE
              by_cases z0 : E9 = 0
              · have y1 : ¬ (1 : Int) < X3 := fun h => z9 ⟨z0, h⟩
                subst z0
                clear z9
                go_wp2_with fail
                refine NE.mono ?_
                rintro r w' ⟨rfl, hw⟩
                have hw2 := hw.symm
                clear hw
                subst hw2
                clear NE c2
                have q0 : (E == 0) = false := by rw [beq_eq_false_iff_ne]; exact HzE.out
                have P : Hid (umE l = E) := (show umE l = E by rw [HU9.out, if_neg HzE.out])
                obtain ⟨w9, st, B9, g9⟩ := um_exit H6.out.1 H6.out.2
                have F : Hid _ := And.intro B9 g9
                clear B9 g9
                go_wp2_with (refine wpList_skipM rfl (exec_storeM rfl rfl rfl st) ?_)
                refine bodyPost_ret (res_msg rfl F.out.1 rfl rfl rfl) rfl ?_
                exact UmR.no P.out HzE.out F.out.2
              · have q9 : (E9 == 0) = false := by rw [beq_eq_false_iff_ne]; exact z0
                clear z9 z0
                go_wp2_with fail
                refine NE.mono ?_
                rintro r w' ⟨rfl, hw⟩
                have hw2 := hw.symm
                clear hw
                subst hw2
                clear NE c2
                have q0 : (E == 0) = false := by rw [beq_eq_false_iff_ne]; exact HzE.out
                have P : Hid (umE l = E) := (show umE l = E by rw [HU9.out, if_neg HzE.out])
                obtain ⟨w9, st, B9, g9⟩ := um_exit H6.out.1 H6.out.2
                have F : Hid _ := And.intro B9 g9
                clear B9 g9
                go_wp2_with (refine wpList_skipM rfl (exec_storeM rfl rfl rfl st) ?_)
                refine bodyPost_ret (res_msg rfl F.out.1 rfl rfl rfl) rfl ?_
                exact UmR.no P.out HzE.out F.out.2
    · have P : Hid (umE l = 11) := (show umE l = 11 by rw [HK.out, if_pos (by rw [HX.out]; simp [hx])])
      obtain ⟨w9, st, B9, g9⟩ := um_exit H0.out.1 H0.out.2
      have F : Hid _ := And.intro B9 g9
      clear B9 g9
      clear HU
      have q0 : (X == 202) = false := by rw [beq_eq_false_iff_ne]; exact hx
      have q8 : (X != 202) = true := by rw [bne, q0]; rfl
      have q9 : ¬ ((m : Int) + 1 = 0) := by omega
      go_wp2_with (refine wpList_skipM rfl (exec_storeM rfl rfl rfl st) ?_)
      refine bodyPost_ret (res_msg rfl F.out.1 rfl rfl rfl) rfl ?_
      exact UmR.no P.out (by decide) F.out.2
  · have P : Hid (umE l = 12) := (show umE l = 12 by rw [HU.out, if_pos (by rw [HY.out.2.2.2.2.1]; simp [hk])])
    obtain ⟨w9, st, B9, g9⟩ := um_exit H0.out.1 H0.out.2
    have F : Hid _ := And.intro B9 g9
    clear B9 g9
    go_wp2_with (refine wpList_skipM rfl (exec_storeM rfl rfl rfl st) ?_)
    refine bodyPost_ret (res_msg rfl F.out.1 rfl rfl rfl) rfl ?_
    exact UmR.no P.out (by decide) F.out.2
end Go.Proofs.Ytgjcgnmomdanaaa

