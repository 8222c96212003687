/- text, the document's: Put. -/
import Derived.Test.YtligmiajlbjecaaDoorXTx15
import Derived.Test.YtligmiajlbjecaaDoorXTx13
namespace Go.Proofs.YtligmiajlbjecaaDoor
open Go.RowKit
set_option linter.unusedVariables false
set_option linter.unusedSimpArgs false
set_option maxRecDepth 8000

set_option maxHeartbeats 8000000 in
theorem rPut_any (a : Option Addr) (c : Nat) (l : List (ByteArray × ByteArray)) (w : World) (hA : GAt kRp w (.slice a l.length c) l) (hl : l.length ≤ 140737488355328) (hs : ∀ x ∈ l, x.1.size ≤ maxLen ∧ x.2.size ≤ maxLen) :
    Calls Tryd.prog 12 #[.slice a l.length c] w fun e w' => ∃ z, e = .returned (.tuple #[z, .int .i64 (puR18 l).2]) ∧ Own w' w.heap.size z (puR18 l).1 ∧ Below w.heap.size w w' := by
  have HA : Hid _ := And.intro hA hs
  have hlI : (l.length : Int) ≤ 140737488355328 := by omega
  clear hA hs
  by_cases h64 : 64 < l.length
  · have F : Hid (puR18 l = ([], 3)) := (if_pos h64 : puR18 l = ([], 3))
    have q : (64 : Int) < (l.length : Int) := by omega
    clear HA h64 hl
    generalize l.length = n at *
    go_enter Tryd.func12, Tryd.ntmps12
    go_wp2
    refine bodyPost_ret (v := .tuple #[.slice none 0 0, .int .i64 3]) (by first | rfl | simp [results, Tryd.results12, go_sem]) rfl ?_
    exact ⟨_, by rw [F.out], by rw [F.out]; exact Own.nil _ _, Below.refl _ _⟩
  · have q : ¬ (64 : Int) < (l.length : Int) := by omega
    have hR : Hid (puR18 l = if l.all canP then (puB l, 0) else ([], 1)) := (if_neg h64 : puR18 l = _)
    go_enter Tryd.func12, Tryd.ntmps12
    go_wp2_with fail
    go_loopw [4, 5] (fun bv iv wr => ∃ k : Nat, iv = .int .i64 (k : Int) ∧ k ≤ l.length ∧ Own wr w.heap.size bv (puB (l.take k)) ∧ Below w.heap.size w wr ∧ (l.take k).all canP = true) (fun _ iv _ => l.length - (intOf iv).toNat)
    case atStart => exact ⟨0, rfl, Nat.zero_le _, Own.nil _ _, Below.refl _ _, rfl⟩
    case round =>
      obtain ⟨k, rfl, hk, hO, hB, hal⟩ := hrel
      by_cases hlt : k < l.length
      · have q1 : (k : Int) < (l.length : Int) := by omega
        obtain ⟨b, off, rfl, hc⟩ := (HA.out.1).each kRp_ok k hlt
        have hc0 := hc 0 (by simp [kRp])
        have hc1 := hc 1 (by simp [kRp])
        simp only [kRp, List.getElem?_cons_zero, List.getElem?_cons_succ, Nat.add_zero] at hc0 hc1
        obtain ⟨x, hx⟩ : ∃ x, x = l[k] := ⟨_, rfl⟩
        have htk : l.take (k + 1) = l.take k ++ [x] := by rw [hx]; exact List.take_succ_eq_append_getElem hlt
        have hsx0 := HA.out.2 x (by rw [hx]; exact List.getElem_mem hlt)
        rw [← hx] at hc0 hc1
        have hbad : canP x = false → l.all canP = false := fun h => bad_pair hlt (by rw [← hx]; exact h)
        obtain ⟨xk, xv⟩ := x
        simp only at hc0 hc1 hsx0
        have l0 : Hid (∀ W, Below w.heap.size w W → W.cell? ⟨b, off + k * 2, none⟩ = some (.string xk)) := fun W hW => rcell hW hc0
        have l1 : Hid (∀ W, Below w.heap.size w W → W.cell? ⟨b, off + k * 2 + 1, none⟩ = some (.string xv)) := fun W hW => rcell hW hc1
        have HK : Hid (∀ W, _) := fun W => rKey_any xk W (by have := hsx0.1; unfold maxLen at this; omega)
        have HV : Hid (∀ W, _) := fun W => rVal_any xv W (by have := hsx0.2; unfold maxLen at this; omega)
        have hln := puB_len hal
        have hlk : (l.take k).length ≤ 64 := by rw [List.length_take]; omega
        have hL : (puB (l.take k)).length ≤ 20480 := by omega
        have HX : Hid _ := And.intro htk (And.intro hal (And.intro hbad hL))
        have H2 : Hid _ := And.intro hO hB
        have hlz : Hid _ := And.intro hk h64
        clear hc hc0 hc1 hx htk hal hbad hO hB hln hlk hL hk h64 hsx0
        have hcp : canP (xk, xv) = (keyB18 xk.data.toList && valB18 xv.data.toList) := rfl
        generalize keyB18 xk.data.toList = kb at *
        generalize valB18 xv.data.toList = vb at *
        have y0 := l0.out wr H2.out.2
        have y1 := l1.out wr H2.out.2
        go_wp2_with fail
        refine (Calls.mono (HK.out wr)) ?_
        rintro e wx ⟨rfl, hx⟩
        rw [← hx]
        clear hx wx HK
        cases kb
        · have F : Hid (puR18 l = ([], 1)) := (by rw [hR.out, HX.out.2.2.1 (by rw [hcp]; rfl)]; rfl : puR18 l = ([], 1))
          have F2 : Hid _ := H2.out.2
          clear hcp HX H2 hR HA
          clear HV
          go_wp2
          refine bodyPost_ret (v := .tuple #[.slice none 0 0, .int .i64 1]) (by first | rfl | simp [results, Tryd.results12, go_sem]) rfl ?_
          exact ⟨_, by rw [F.out], by rw [F.out]; exact Own.nil _ _, F2.out⟩
        · go_wp2_with fail
          refine (Calls.mono (HV.out wr)) ?_
          rintro e wx ⟨rfl, hx⟩
          rw [← hx]
          clear hx wx HV
          cases vb
          · have F : Hid (puR18 l = ([], 1)) := (by rw [hR.out, HX.out.2.2.1 (by rw [hcp]; rfl)]; rfl : puR18 l = ([], 1))
            have F2 : Hid _ := H2.out.2
            clear hcp HX H2 hR HA
            go_wp2
            refine bodyPost_ret (v := .tuple #[.slice none 0 0, .int .i64 1]) (by first | rfl | simp [results, Tryd.results12, go_sem]) rfl ?_
            exact ⟨_, by rw [F.out], by rw [F.out]; exact Own.nil _ _, F2.out⟩
          · have hcv : canP (xk, xv) = true := by rw [hcp]; rfl
            have hsx := canP_size hcv
            simp only at hsx
            have HS : Hid _ := And.intro hcv hsx
            clear hcv hcp hsx
            go_wp2_with (at_builtin; refine wpList_append_str _ rfl _ _ rfl w.heap.size _ (puB (l.take k)) rfl H2.out.1 xk rfl (by have := HX.out.2.2.2; have := HS.out.2.1; omega) H2.out.2.size ?_)
            intro v3 w3 o_ g
            have o : Own w3 w.heap.size v3 ((puB (l.take k)) ++ bvs xk.data.toList) := by simpa using o_
            have bB : Below w.heap.size w w3 := H2.out.2.grown g H2.out.2.size (own_block H2.out.1)
            have H3 : Hid _ := And.intro o bB
            clear o o_ g bB H2 y0 y1
            go_wp2_with (at_builtin; refine wpList_append_bytes _ rfl _ _ rfl w.heap.size _ (puB (l.take k) ++ bvs xk.data.toList) rfl (Own.later H3.out.1 ((Below.refl _ _).alloc (Nat.le_refl _) _)) (some ⟨w3.heap.size, 0, none⟩) 1 1 [61#8] rfl rfl (Row.newl _ _ _ _ _ rfl) (fun h => by cases h) (Nat.le_refl _) (by have e1 := HX.out.2.2.2; have e2 := HS.out.2; have e3 := bvs_size xk; have e4 := bvs_size xv; simp only [List.length_append, List.length_singleton]; omega) (by have := H3.out.2.size; simp; omega) ?_)
            intro v4 w4 o_ g
            have o : Own w4 w.heap.size v4 ((puB (l.take k) ++ bvs xk.data.toList) ++ [61#8]) := by simpa using o_
            have bB : Below w.heap.size w w4 := (H3.out.2.alloc H3.out.2.size _).grown g (by have := H3.out.2.size; simp; omega) (own_block H3.out.1)
            have H4 : Hid _ := And.intro o bB
            clear o o_ g bB H3
            have y0 := l0.out w4 H4.out.2
            have y1 := l1.out w4 H4.out.2
            go_wp2_with (at_builtin; refine wpList_append_str _ rfl _ _ rfl w.heap.size _ ((puB (l.take k) ++ bvs xk.data.toList) ++ [61#8]) rfl H4.out.1 xv rfl (by have e1 := HX.out.2.2.2; have e2 := HS.out.2; have e3 := bvs_size xk; have e4 := bvs_size xv; simp only [List.length_append, List.length_singleton]; omega) H4.out.2.size ?_)
            intro v5 w5 o_ g
            have o : Own w5 w.heap.size v5 (((puB (l.take k) ++ bvs xk.data.toList) ++ [61#8]) ++ bvs xv.data.toList) := by simpa using o_
            have bB : Below w.heap.size w w5 := H4.out.2.grown g H4.out.2.size (own_block H4.out.1)
            have H5 : Hid _ := And.intro o bB
            clear o o_ g bB H4 y0 y1
            go_wp2_with (at_builtin; refine wpList_append_bytes _ rfl _ _ rfl w.heap.size _ (((puB (l.take k) ++ bvs xk.data.toList) ++ [61#8]) ++ bvs xv.data.toList) rfl (Own.later H5.out.1 ((Below.refl _ _).alloc (Nat.le_refl _) _)) (some ⟨w5.heap.size, 0, none⟩) 1 1 [0#8] rfl rfl (Row.newl _ _ _ _ _ rfl) (fun h => by cases h) (Nat.le_refl _) (by have e1 := HX.out.2.2.2; have e2 := HS.out.2; have e3 := bvs_size xk; have e4 := bvs_size xv; simp only [List.length_append, List.length_singleton]; omega) (by have := H5.out.2.size; simp; omega) ?_)
            intro v6 w6 o_ g
            have o : Own w6 w.heap.size v6 ((((puB (l.take k) ++ bvs xk.data.toList) ++ [61#8]) ++ bvs xv.data.toList) ++ [0#8]) := by simpa using o_
            have bB : Below w.heap.size w w6 := (H5.out.2.alloc H5.out.2.size _).grown g (by have := H5.out.2.size; simp; omega) (own_block H5.out.1)
            have H6 : Hid _ := And.intro o bB
            clear o o_ g bB H5
            have eL : puB (l.take (k + 1)) = (((puB (l.take k) ++ bvs xk.data.toList) ++ [61#8]) ++ bvs xv.data.toList) ++ [0#8] := by rw [HX.out.1, puB_snoc]; unfold prB; simp only [List.append_assoc]
            have ea : (l.take (k + 1)).all canP = true := by rw [HX.out.1, List.all_append, HX.out.2.1]; simp [HS.out.1]
            have FF : Hid _ := And.intro H6.out.1 (And.intro H6.out.2 (And.intro eL ea))
            clear eL ea H6 HX HS
            go_wp2
            go_roundw
            case rel => exact ⟨k + 1, by first | rfl | (congr 1; omega), by omega, by rw [FF.out.2.2.1]; exact FF.out.1, FF.out.2.1, FF.out.2.2.2⟩
            case measure => simp [intOf]; omega
      · have htk : l.take k = l := List.take_of_length_le (by omega)
        rw [htk] at hO hal
        have F : Hid (puR18 l = (puB l, 0)) := (by rw [hR.out, hal]; rfl : puR18 l = (puB l, 0))
        have t1 : ¬ (k : Int) < (l.length : Int) := by omega
        have F2 : Hid _ := And.intro hO hB
        clear hO hB hal htk HA hR hlt h64
        go_wp2
        refine bodyPost_ret (v := .tuple #[u4, .int .i64 0]) (by first | rfl | simp [results, Tryd.results12, go_sem]) rfl ?_
        exact ⟨_, by rw [F.out], by rw [F.out]; exact F2.out.1, F2.out.2⟩
end Go.Proofs.YtligmiajlbjecaaDoor

