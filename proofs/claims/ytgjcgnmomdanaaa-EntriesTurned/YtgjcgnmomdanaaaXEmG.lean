/- The program's UnpackMsg. -/
import Derived.Test.YtgjcgnmomdanaaaXEmE
namespace Go.Proofs.Ytgjcgnmomdanaaa
open Go.RowKit Go.Shelf
set_option linter.unusedVariables false
set_option linter.unusedSimpArgs false
set_option maxRecDepth 20000

set_option maxHeartbeats 8000000 in
theorem unpackMsg_any (a : Option Addr) (len cap : Nat) (l : List (BitVec 8)) (w : World) (hl : l.length = len) (hle : len ≤ cap) (hr : Row w a l) (hn : a = none → cap = 0) (hlen : len ≤ 140737488351232) :
    Calls Try.prog 8 #[.slice a len cap] w (UmR l w) := by
  have H0 : Hid (Below w.heap.size w (w.alloc (.cells #[.int .i64 0, .int .i64 0, .int .i64 0, .int .i64 0, .int .i64 0, .int .i64 0, .int .i64 0, .int .i64 0, .bool false, .slice none 0 0, .slice none 0 0] 25)) ∧ Blk (w.alloc (.cells #[.int .i64 0, .int .i64 0, .int .i64 0, .int .i64 0, .int .i64 0, .int .i64 0, .int .i64 0, .int .i64 0, .bool false, .slice none 0 0, .slice none 0 0] 25)) w.heap.size 25 [.int .i64 0, .int .i64 0, .int .i64 0, .int .i64 0, .int .i64 0, .int .i64 0, .int .i64 0, .int .i64 0, .bool false, .slice none 0 0, .slice none 0 0]) := ⟨box11_below w _ _, Blk.new' w _ _⟩
  have HR : Hid (Row w a l ∧ (a = none → cap = 0) ∧ l.length = len) := ⟨hr, hn, hl⟩
  clear hr hn
  by_cases h1 : 65536 < len
  · have h1' : (65536 : Int) < (len : Int) := by omega
    have P : Hid (umE l = 3) := (show umE l = 3 by unfold umE; rw [if_pos (by omega)])
    obtain ⟨w9, st, B9, g9⟩ := um_exit H0.out.1 H0.out.2
    have F : Hid _ := And.intro B9 g9
    clear B9 g9
    clear h1 hl hle hlen
    go_enter Try.func8, Try.ntmps8
    go_wp2_with (refine wpList_skipM rfl (exec_storeM rfl rfl rfl st) ?_)
    refine bodyPost_ret (res_msg rfl F.out.1 rfl rfl rfl) rfl ?_
    exact UmR.no P.out (by decide) F.out.2
  by_cases h2 : len < 4
  · have h2' : (len : Int) < 4 := by omega
    have h1' : (len : Int) ≤ 65536 := by omega
    have P : Hid (umE l = 10) := (show umE l = 10 by unfold umE; rw [if_neg (by omega), if_pos (by omega)])
    obtain ⟨w9, st, B9, g9⟩ := um_exit H0.out.1 H0.out.2
    have F : Hid _ := And.intro B9 g9
    clear B9 g9
    clear h1 h2 hl hle hlen
    go_enter Try.func8, Try.ntmps8
    go_wp2_with (refine wpList_skipM rfl (exec_storeM rfl rfl rfl st) ?_)
    refine bodyPost_ret (res_msg rfl F.out.1 rfl rfl rfl) rfl ?_
    exact UmR.no P.out (by decide) F.out.2
  obtain ⟨n, rfl⟩ : ∃ n, len = n + 4 := ⟨len - 4, by omega⟩
  have hn1 : n ≤ 65532 := by omega
  have HU : Hid (umE l = if umK l = false then 12 else if umHd l = true then 11 else umR (umS l)) := (show umE l = if umK l = false then 12 else if umHd l = true then 11 else umR (umS l) by unfold umE; rw [if_neg (by omega), if_neg (by omega)])
  have hA : umA l = l.take n := by unfold umA; rw [hl]; rfl
  obtain ⟨y, sl1, ry, yn, -⟩ := slice_uptoM (Row.later HR.out.1 H0.out.1) hl hle n (by omega) HR.out.2.1
  obtain ⟨G, hG⟩ : ∃ G : Int, G = ((numTo l n 4).toNat : Int) := ⟨_, rfl⟩
  obtain ⟨S, hS⟩ : ∃ S : Int, S = ((Crc.sum (l.take n)).toNat : Int) := ⟨_, rfl⟩
  have hK : umK l = decide (G = S) := by unfold umK; rw [hA, hl, hG, hS]; rfl
  have hSb : 0 ≤ S ∧ S < 4294967296 := by have := (Crc.sum (l.take n)).isLt; omega
  have htl : (l.take n).length = n := by rw [List.length_take]; omega
  have N1 : Calls Try.prog 27 #[.slice a (n + 4) cap, .int .i64 n, .int .i64 4] (w.alloc (.cells #[.int .i64 0, .int .i64 0, .int .i64 0, .int .i64 0, .int .i64 0, .int .i64 0, .int .i64 0, .int .i64 0, .bool false, .slice none 0 0, .slice none 0 0] 25)) fun e w' => e = .returned (.tuple #[.int .u64 G, .int .i64 0]) ∧ w' = (w.alloc (.cells #[.int .i64 0, .int .i64 0, .int .i64 0, .int .i64 0, .int .i64 0, .int .i64 0, .int .i64 0, .int .i64 0, .bool false, .slice none 0 0, .slice none 0 0] 25)) := by rw [hG]; exact (Get_yes a (n + 4) cap l n 4 _ hl (by omega) (Row.later HR.out.1 H0.out.1) (by decide) (by decide) (by omega))
  have N2 : Calls Try.prog 20 #[.slice y n cap] (w.alloc (.cells #[.int .i64 0, .int .i64 0, .int .i64 0, .int .i64 0, .int .i64 0, .int .i64 0, .int .i64 0, .int .i64 0, .bool false, .slice none 0 0, .slice none 0 0] 25)) fun e w' => e = .returned (.int .u32 S) ∧ w' = (w.alloc (.cells #[.int .i64 0, .int .i64 0, .int .i64 0, .int .i64 0, .int .i64 0, .int .i64 0, .int .i64 0, .int .i64 0, .bool false, .slice none 0 0, .slice none 0 0] 25)) := by rw [hS]; exact (sum_any y n cap _ _ htl (by unfold maxLen; omega) ry)
  have HY : Hid _ := And.intro ry (And.intro yn (And.intro htl (And.intro hA (And.intro hK (And.intro hle (And.intro hl hlen))))))
  have HSB : Hid _ := And.intro hSb hn1
  have q1 : ¬ ((65536 : Int) < (n : Int) + 4) := by omega
  have q2 : ¬ ((n : Int) + 4 < 4) := by omega
  clear hSb hn1
  clear hG hS ry yn htl hA hK h1 h2 hl hle hlen
  go_enter Try.func8, Try.ntmps8
  go_upto_region 5 with fail
  go_upto_region 6 with (refine wpList_valueM rfl (exec_sliceM rfl rfl (sl1 _)) ?_)
  generalize (w.alloc (.cells #[.int .i64 0, .int .i64 0, .int .i64 0, .int .i64 0, .int .i64 0, .int .i64 0, .int .i64 0, .int .i64 0, .bool false, .slice none 0 0, .slice none 0 0] 25)) = wb at *
  clear sl1 q1 q2
  go_wp2_with fail
  refine N1.mono ?_
  rintro r w' ⟨rfl, hw⟩
  have hw2 := hw.symm
  clear hw
  subst hw2
  clear N1
  go_wp2_with fail
  refine N2.mono ?_
  rintro r w' ⟨rfl, hw⟩
  have hw2 := hw.symm
  clear hw
  subst hw2
  clear N2
  have b1 := HSB.out.1.1
  have b2 := HSB.out.1.2
  by_cases hk : G = S
  · subst hk
    have HK : Hid (umE l = if umHd l = true then 11 else umR (umS l)) := (show umE l = if umHd l = true then 11 else umR (umS l) by rw [HU.out, HY.out.2.2.2.2.1]; simp)
    by_cases h0 : n = 0
    · subst h0
      have P : Hid (umE l = 11) := (show umE l = 11 by rw [HK.out, if_pos (by unfold umHd; rw [HY.out.2.2.2.1]; simp)])
      obtain ⟨w9, st, B9, g9⟩ := um_exit H0.out.1 H0.out.2
      have F : Hid _ := And.intro B9 g9
      clear B9 g9
      clear HU
      go_wp2_with (refine wpList_skipM rfl (exec_storeM rfl rfl rfl st) ?_)
      refine bodyPost_ret (res_msg rfl F.out.1 rfl rfl rfl) rfl ?_
      exact UmR.no P.out (by decide) F.out.2
    obtain ⟨m, rfl⟩ : ∃ m, n = m + 1 := ⟨n - 1, by omega⟩
    clear h0
    obtain ⟨b, off, rfl, hc⟩ : ∃ b off, y = some ⟨b, off, none⟩ ∧ wb.cell? ⟨b, off, none⟩ = some (.int .u8 (bt (l.take (m + 1)) 0)) := by
      rcases HY.out.1 with e | ⟨b, off, e, h⟩
      · exfalso; have := HY.out.2.2.1; rw [e] at this; simp at this
      · exact ⟨b, off, e, h 0 (by rw [HY.out.2.2.1]; omega)⟩
    obtain ⟨X, hX⟩ : ∃ X, X = bt (l.take (m + 1)) 0 := ⟨_, rfl⟩
    rw [← hX] at hc
    have HX : Hid (umHd l = decide (¬ X = 202)) := (show umHd l = decide (¬ X = 202) by unfold umHd; rw [HY.out.2.2.2.1, hX]; have : l.take (m + 1) ≠ [] := (by intro e; have := HY.out.2.2.1; rw [e] at this; simp at this); simp [this])
    clear hX
    have hle9 : (m : Int) + 1 ≤ cap := by have := HY.out.2.2.2.2.2.1; omega
    by_cases hx : X = 202
    · subst hx
      clear HU
      obtain ⟨z, sl2, rz, zn, -⟩ := slice_fromM HY.out.1 HY.out.2.2.1 (by have := HY.out.2.2.2.2.2.1; omega) HY.out.2.1 1 (by omega)
      have sl3 : ∀ W : World, (Instr.sliceAt 23 (.slice (some ⟨b, off, none⟩) (m + 1) cap) (some (.int .i64 1)) none none).run Try.prog W = .ok (.slice z m (cap - 1)) W := sl2
      have NR := NewReader_any z m (cap - 1) ((l.take (m + 1)).drop 1) wb (by rw [List.length_drop, HY.out.2.2.1]; rfl) (by omega) rz zn (by have := HSB.out.2; omega)
      have HUM : Hid (umS l = ((l.take (m + 1)).drop 1, 0)) := (show umS l = ((l.take (m + 1)).drop 1, 0) by unfold umS; rw [HY.out.2.2.2.1])
      clear sl2 rz zn
      go_wp2_with (refine wpList_valueM rfl (exec_sliceM rfl rfl (sl3 _)) ?_)
      clear sl3
      refine NR.mono ?_
      rintro r w1 ⟨g, rfl, hg, hrd, b1'⟩
      clear NR hc
      have R1 : Rd w1 [] g 98 (umS l).1 (umS l).2 := by rw [HUM.out]; exact hrd [] (fun k hk => by cases hk)
      have NM := readMsg_any g (umS l) w1 R1
      have hsz : w.heap.size < wb.heap.size := H0.out.2.lt
      have H1 : Hid _ := And.intro (below_then H0.out.1 b1') (And.intro (H0.out.2.laterB b1') (And.intro hg (And.intro hsz b1'.size)))
      clear hrd R1 b1' hg hsz
      go_wp2_with fail
      refine NM.mono ?_
      rintro r w2 ⟨ea, ec, da, dc, rfl, ⟨V, vs, ho, hV⟩, oD, R2, t2⟩
      clear NM
      have hb2 : Below wb.heap.size w1 w2 := t2.below _ H1.out.2.2.2.2 (fun k e => by rw [e]; exact H1.out.2.2.1)
      have hes := rmM_es (umS l)
      have hok := rmM_ok (umS l) 140737488351232 (by rw [HUM.out]; show ((l.take (m + 1)).drop 1).length ≤ _; rw [List.length_drop, HY.out.2.2.1]; have := HSB.out.2; omega)
      have hU : umE l = umR (umS l) := by rw [HK.out, HX.out]; rfl
      have hM : umM l = if umE l = 0 then rmM (umS l) else mg0 := rfl
      unfold umR at hU
      obtain ⟨m9, hm9⟩ : ∃ m9, m9 = rmM (umS l) := ⟨_, rfl⟩
      obtain ⟨Y, hY⟩ : ∃ Y, Y = rmY (umS l) := ⟨_, rfl⟩
      obtain ⟨E, hE⟩ : ∃ E, E = rdEnd (rmS (umS l)).1 (rmS (umS l)).2 := ⟨_, rfl⟩
      rw [← hm9] at ho oD hes hok hU hM ⊢
      rw [← hY] at hU ⊢
      rw [← hE] at hU
      unfold msgV
      have B2 : Blk (w2.alloc (.cells #[.int .i64 0, .int .i64 0, .int .i64 0, .int .i64 0, .int .i64 0, .int .i64 0, .int .i64 0, .int .i64 0, .bool false, .slice none 0 0, .slice none 0 0] 25)) w2.heap.size 25 [.int .i64 0, .int .i64 0, .int .i64 0, .int .i64 0, .int .i64 0, .int .i64 0, .int .i64 0, .int .i64 0, .bool false, .slice none 0 0, .slice none 0 0] := Blk.new' w2 _ _
      have b2' := box11_below w2 #[.int .i64 0, .int .i64 0, .int .i64 0, .int .i64 0, .int .i64 0, .int .i64 0, .int .i64 0, .int .i64 0, .bool false, .slice none 0 0, .slice none 0 0] 25
      obtain ⟨w3, st3, B3, g3⟩ := store_msg (vs := [.int .i64 m9.kd, .int .i64 m9.fr, .int .i64 m9.too, .int .i64 m9.tm, .int .i64 m9.at_, .int .i64 m9.att, .int .i64 m9.cm, .int .i64 m9.rd, .bool m9.yes, .slice ea m9.es.length ec, .slice da m9.dt.length dc]) B2 rfl rfl (by intro u hu; simp only [List.mem_cons, List.not_mem_nil, or_false] at hu; rcases hu with rfl | rfl | rfl | rfl | rfl | rfl | rfl | rfl | rfl | rfl | rfl <;> rfl)
      have b3' : Below w2.heap.size w2 w3 := b2'.trans (grown_below g3 _ (Nat.le_refl _) b2'.size)
      have R3 := R2.later b3'
      have N3 : Calls Try.prog 30 #[.pointer (some ⟨g, 0, none⟩)] w3 fun e w' => e = .returned (.int .i64 E) ∧ w' = w3 := by rw [hE]; exact (End_any [] g _ _ _ R3).mono (fun _ _ h => ⟨h.1, h.2.symm⟩)
      have hbw : Below w.heap.size w w2 := H1.out.1.trans (hb2.mono (by have := H1.out.2.2.2.1; omega))
      have hMw : Blk w2 w.heap.size 25 [.int .i64 0, .int .i64 0, .int .i64 0, .int .i64 0, .int .i64 0, .int .i64 0, .int .i64 0, .int .i64 0, .bool false, .slice none 0 0, .slice none 0 0] := H1.out.2.1.turned t2 (by have := H1.out.2.2.1; have := H1.out.2.2.2.1; omega)
      obtain ⟨a', c', e1, -, -, hEA⟩ := (ho.later b3').args hok
      simp only [Value.slice.injEq] at e1
      obtain ⟨rfl, -, rfl⟩ := e1
      have H3 : Hid _ := And.intro (below_then hbw b3') (And.intro (hMw.laterB b3') (And.intro B3 (And.intro (And.intro (ho.later b3') hV) (And.intro (oD.later b3') (And.intro hEA (And.intro hes (And.intro hU hM)))))))
      have H4 : Hid _ := H1.out.2.2.2
      clear B2 b2' B3 g3 b3' R3 hbw hMw hEA hes hok hU hM ho hV oD R2 t2 hb2 hm9 hY hE H1 HK HX HUM HY H0 HR
      go_wp2_with (refine wpList_skipM rfl (exec_storeM rfl rfl rfl st3) ?_)
      clear st3
      refine N3.mono ?_
      rintro r w' ⟨rfl, hw⟩
      have hw2 := hw.symm
      clear hw
      subst hw2
      clear N3
      by_cases e0 : E = 0
      · subst e0
        by_cases y1 : 1 < Y
        · have P : Hid (umE l = 11) := (show umE l = 11 by rw [H3.out.2.2.2.2.2.2.2.1, if_pos rfl, if_pos y1])
          obtain ⟨w9, st, B9, g9⟩ := um_exit (And.intro H3.out.1 H3.out.2.1).1 (And.intro H3.out.1 H3.out.2.1).2
          have F : Hid _ := And.intro B9 g9
          clear B9 g9
          go_wp2_with (refine wpList_skipM rfl (exec_storeM rfl rfl rfl st) ?_)
          refine bodyPost_ret (res_msg rfl F.out.1 rfl rfl rfl) rfl ?_
          exact UmR.no P.out (by decide) F.out.2
        · have y2 : ¬ ((1 : Int) < Y) := y1
          obtain ⟨C, hC⟩ : ∃ C, C = canM m9 := ⟨_, rfl⟩
          have N4 : Calls Try.prog 15 #[.agg #[.int .i64 m9.kd, .int .i64 m9.fr, .int .i64 m9.too, .int .i64 m9.tm, .int .i64 m9.at_, .int .i64 m9.att, .int .i64 m9.cm, .int .i64 m9.rd, .bool m9.yes, .slice ea m9.es.length ec, .slice da m9.dt.length dc]] w3 fun r w' => r = .returned (.bool C) ∧ Below w3.heap.size w3 w' := by rw [hC]; exact canBeSent_any m9 ea ec da dc w3 H3.out.2.2.2.2.2.1 (by have := H3.out.2.2.2.2.2.2.1; omega)
          have HC : Hid _ := hC
          clear hC
          have ld3 := load_msg H3.out.2.2.1 rfl
          go_wp2_with (refine wpList_valueM rfl (exec_loadM rfl rfl ld3) ?_)
          clear ld3
          refine N4.mono ?_
          rintro r w4 ⟨rfl, b4⟩
          clear N4
          have H5 : Hid _ := And.intro (below_then H3.out.1 b4) (And.intro (H3.out.2.1.laterB b4) (And.intro (H3.out.2.2.1.laterB b4) (And.intro (And.intro (H3.out.2.2.2.1.1.later b4) H3.out.2.2.2.1.2) (H3.out.2.2.2.2.1.later b4))))
          clear b4
          cases C with
          | false =>
            have hC : canM m9 = false := HC.out.symm
            have P : Hid (umE l = 1) := (show umE l = 1 by first | (rw [H3.out.2.2.2.2.2.2.2.1, if_pos rfl, if_neg (show ¬ (1 : Int) < Y by omega), hC]; rfl) | (rw [H3.out.2.2.2.2.2.2.2.1, if_pos trivial, if_neg (show ¬ (1 : Int) < Y by omega), hC]; rfl))
            obtain ⟨w9, st, B9, g9⟩ := um_exit (And.intro H5.out.1 H5.out.2.1).1 (And.intro H5.out.1 H5.out.2.1).2
            have F : Hid _ := And.intro B9 g9
            clear B9 g9
            go_wp2_with (refine wpList_skipM rfl (exec_storeM rfl rfl rfl st) ?_)
            refine bodyPost_ret (res_msg rfl F.out.1 rfl rfl rfl) rfl ?_
            exact UmR.no P.out (by decide) F.out.2
          | true =>
            have hC : canM m9 = true := HC.out.symm
            have ld4 := load_msg H5.out.2.2.1 rfl
            obtain ⟨w9, st, B9, g9⟩ := store_msg (vs := [.int .i64 m9.kd, .int .i64 m9.fr, .int .i64 m9.too, .int .i64 m9.tm, .int .i64 m9.at_, .int .i64 m9.att, .int .i64 m9.cm, .int .i64 m9.rd, .bool m9.yes, .slice ea m9.es.length ec, .slice da m9.dt.length dc]) H5.out.2.1 rfl rfl (by intro u hu; simp only [List.mem_cons, List.not_mem_nil, or_false] at hu; rcases hu with rfl | rfl | rfl | rfl | rfl | rfl | rfl | rfl | rfl | rfl | rfl <;> rfl)
            have hlt := World.ownsRow.lt H5.out.2.2.2.1.1.own
            have hld := World.ownsRow.lt H5.out.2.2.2.2
            have hw1 := H4.out.1
            have hw2 := H4.out.2
            have t9 : Turned (fun k => k = w.heap.size) w4 w9 := turned_grown g9 (fun k e => (Option.some.inj e).symm)
            have F : Hid _ := And.intro B9 (And.intro (show ∃ V vs, EsOwn w9 w.heap.size (.slice ea m9.es.length ec) m9.es V vs ∧ ∀ k ∈ V, w.heap.size ≤ k from ⟨V, vs, es_baseM (H5.out.2.2.2.1.1.turned t9 (fun k hk e => by have := (hlt k hk).1; omega) (fun k hk e => by have := H5.out.2.2.2.1.2 k hk; omega)) (by omega), fun k hk => by have := H5.out.2.2.2.1.2 k hk; omega⟩) (And.intro (own_baseM (own_keptM H5.out.2.2.2.2 g9 (fun q hq e => by have := (hld q hq).1; have := Option.some.inj e; omega)) (show w.heap.size ≤ w1.heap.size by omega)) (H5.out.1.trans (grown_below g9 _ (Nat.le_refl _) H5.out.1.size))))
            clear B9 g9 t9 hlt hld hw1 hw2
            go_wp2_with (first | (refine wpList_valueM rfl (exec_loadM rfl rfl ld4) ?_) | (refine wpList_skipM rfl (exec_storeM rfl rfl rfl st) ?_))
            refine bodyPost_ret (res_msg rfl F.out.1 rfl rfl rfl) rfl ?_
            have P0 : umE l = 0 := by first | rw [H3.out.2.2.2.2.2.2.2.1, if_pos rfl, if_neg (show ¬ (1 : Int) < Y by omega), if_pos hC] | rw [H3.out.2.2.2.2.2.2.2.1, if_pos trivial, if_neg (show ¬ (1 : Int) < Y by omega), if_pos hC]
            have P1 : umM l = m9 := by rw [H3.out.2.2.2.2.2.2.2.2, if_pos P0]
            unfold UmR
            rw [P1, P0]
            exact ⟨ea, ec, da, dc, rfl, F.out.2.1, F.out.2.2.1, F.out.2.2.2⟩
      · have q0 : (E == 0) = false := by rw [beq_eq_false_iff_ne]; exact e0
        have P : Hid (umE l = E) := (show umE l = E by rw [H3.out.2.2.2.2.2.2.2.1, if_neg e0])
        obtain ⟨w9, st, B9, g9⟩ := um_exit (And.intro H3.out.1 H3.out.2.1).1 (And.intro H3.out.1 H3.out.2.1).2
        have F : Hid _ := And.intro B9 g9
        clear B9 g9
        go_wp2_with (refine wpList_skipM rfl (exec_storeM rfl rfl rfl st) ?_)
        refine bodyPost_ret (res_msg rfl F.out.1 rfl rfl rfl) rfl ?_
        exact UmR.no P.out e0 F.out.2
    · have P : Hid (umE l = 11) := (show umE l = 11 by rw [HK.out, if_pos (by rw [HX.out]; simp [hx])])
      obtain ⟨w9, st, B9, g9⟩ := um_exit H0.out.1 H0.out.2
      have F : Hid _ := And.intro B9 g9
      clear B9 g9
      clear HU
      have q0 : (X == 202) = false := by rw [beq_eq_false_iff_ne]; exact hx
      have q8 : (X != 202) = true := by rw [bne, q0]; rfl
      have q9 : ¬ ((m : Int) + 1 = 0) := by omega
      go_wp2_with (refine wpList_skipM rfl (exec_storeM rfl rfl rfl st) ?_)
      refine bodyPost_ret (res_msg rfl F.out.1 rfl rfl rfl) rfl ?_
      exact UmR.no P.out (by decide) F.out.2
  · have P : Hid (umE l = 12) := (show umE l = 12 by rw [HU.out, if_pos (by rw [HY.out.2.2.2.2.1]; simp [hk])])
    obtain ⟨w9, st, B9, g9⟩ := um_exit H0.out.1 H0.out.2
    have F : Hid _ := And.intro B9 g9
    clear B9 g9
    go_wp2_with (refine wpList_skipM rfl (exec_storeM rfl rfl rfl st) ?_)
    refine bodyPost_ret (res_msg rfl F.out.1 rfl rfl rfl) rfl ?_
    exact UmR.no P.out (by decide) F.out.2
end Go.Proofs.Ytgjcgnmomdanaaa

